/- Which box a point hits: HitBox of the program and of the reference, walked: both answer with the same. Condition: the tree can be read. -/
import Derived.Test.YtigniaebokknmaaGreatYC
namespace Go.Proofs.YtigniaebokknmaaGreat
open Go.RowKit

set_option maxRecDepth 100000 in
set_option maxHeartbeats 2000000 in
theorem HitBox_any (A : Option Addr) (n c : Nat) (zs : List Int) (W H x y : Int) (hn : n ≤ 1048576) (w : World) (hx : Sts 9 w A n zs) :
    Calls Tryz.prog 6 #[.slice A n c, .int .i64 W, .int .i64 H, .int .i64 x, .int .i64 y] w fun e w' => e = .returned (.int .i64 (hitA zs n W H x y)) ∧ New w w' := by
  have LA := Lib.hid (fun W1 (hW : New w W1) => LayoutTree_ans A n c zs W H hn W1 (hx.new hW))
  have LN := Lib.hid (layA_len (n := n) (zs := zs) (W := W) (H := H))
  have L4 := Lib.hid (flat4_len (layA n zs W H))
  have HX := Lib.hid hx
  clear hx
  go_enter Tryz.func6, Tryz.ntmps6
  go_wp2_with fail
  refine (LA.out _ (by (repeat (first | exact New.refl _ | assumption | refine New.alloc ?_ _ | refine New.drew ?_ | refine New.drewN ?_ _ | refine New.setCell ?_ (by first | omega | (simp; omega) | (simp; done)) _ | refine New.trans ?_ (by assumption))))).mono ?_
  rintro e w1 ⟨A1, n1, c1, rfl, l1, r1, N1⟩
  have e1 : (layA n zs W H).length = n1 := by have := L4.out; omega
  have R1 := Lib.hid (Sts.of_res (m := 3) r1 l1)
  have n16 : n1 ≤ 16 := by have := LN.out; omega
  have ni : (n1 : Int) ≤ 16 := by omega
  have nj : (0 : Int) ≤ (n1 : Int) := by omega
  have NW := Lib.hid (show New w w1 from New.trans (by (repeat (first | exact New.refl _ | assumption | refine New.alloc ?_ _ | refine New.drew ?_ | refine New.drewN ?_ _ | refine New.setCell ?_ (by first | omega | (simp; omega) | (simp; done)) _ | refine New.trans ?_ (by assumption)))) N1)
  have E1 := Lib.hid e1
  have HX := Lib.hid (HX.out.new NW.out)
  clear LA LN L4 l1 r1 N1 e1
  rcases Nat.eq_zero_or_pos n1 with h0 | h0
  · subst h0
    have hE : hitA zs n W H x y = -1 := by
      cases h : layOk n zs W H
      · exact hitA_no h
      · have h1 := E1.out; rw [layA_yes h] at h1; simp at h1; subst h1
        unfold hitA; rw [if_pos h]; rfl
    have HE := Lib.hid hE
    clear hE
    go_wp2
    go_loopw [11, 19] (fun v i wr => i = .int .i64 0 ∧ v = .int .i64 (-1) ∧ Hid (New w1 wr)) (fun _ _ _ => 0)
    case atStart => exact ⟨rfl, rfl, Lib.hid (New.refl _)⟩
    case round =>
      obtain ⟨rfl, rfl, HN⟩ := hrel
      go_wp2
      go_ret
      exact ⟨by rw [HE.out]; rfl, NW.out.trans HN.out⟩
  have ok : layOk n zs W H = true := by
    cases h : layOk n zs W H
    · have := E1.out; rw [layA_no h] at this; simp at this; omega
    · rfl
  obtain rfl : n1 = n := by have := E1.out; rw [layA_yes ok] at this; simpa using this.symm
  obtain ⟨b, off, rfl, hb, hc⟩ := R1.out.at_ (by omega)
  have GC := Lib.hid (fun q (hq : q < n1) V (hV : New w1 V) => (show V.cell? ⟨b, off + q * 4, none⟩ = some (.int .i64 ((layR zs n1 W H q).1)) ∧ V.cell? ⟨b, off + q * 4 + 1, none⟩ = some (.int .i64 ((layR zs n1 W H q).2.1)) ∧ V.cell? ⟨b, off + q * 4 + 2, none⟩ = some (.int .i64 ((layR zs n1 W H q).2.2.1)) ∧ V.cell? ⟨b, off + q * 4 + 3, none⟩ = some (.int .i64 ((layR zs n1 W H q).2.2.2)) by
    obtain ⟨v0, v1, v2, v3⟩ := flat4_at (layA n1 zs W H) q
    rw [lay_at ok hq] at v0 v1 v2 v3
    exact ⟨(hV.cells b _ hb).trans ((hc (q * 4) (by omega)).trans (by rw [v0])), (hV.cells b _ hb).trans ((hc (q * 4 + 1) (by omega)).trans (by rw [v1])), (hV.cells b _ hb).trans ((hc (q * 4 + 2) (by omega)).trans (by rw [v2])), (hV.cells b _ hb).trans ((hc (q * 4 + 3) (by omega)).trans (by rw [v3]))⟩))
  have hE : hitA zs n1 W H x y = hitTo zs n1 W H x y n1 := by unfold hitA; rw [if_pos ok]
  have IR := Lib.hid (fun i (hi : i < n1) => inB_iR (x := x) (y := y) ok hi)
  have HE := Lib.hid hE
  have HS := Lib.hid (fun k => show hitTo zs n1 W H x y (k + 1) = if par zs k = hitTo zs n1 W H x y k ∧ inB zs n1 W H x y k = true then (k : Int) else hitTo zs n1 W H x y k from rfl)
  obtain ⟨b', off', rfl, hb', hc'⟩ := HX.out.at_ (by omega)
  have GT := Lib.hid (fun q (hq : q < n1) V (hV : New w1 V) => (show V.cell? ⟨b', off' + q * 9, none⟩ = some (.int .i64 (par zs q)) from (hV.cells b' _ hb').trans (hc' (q * 9) (by omega))))
  clear hE ok hc hc' E1 R1 HX
  go_wp2
  go_loopw [11, 19] (fun v i wr => ∃ k : Nat, k ≤ n1 ∧ i = .int .i64 k ∧ v = .int .i64 (hitTo zs n1 W H x y k) ∧ Hid (New w1 wr)) (fun _ i _ => n1 - (intOf i).toNat)
  case atStart => exact ⟨0, Nat.zero_le _, rfl, rfl, Lib.hid (New.refl _)⟩
  case round =>
    obtain ⟨k, hk, rfl, rfl, HN⟩ := hrel
    have k0 : (0 : Int) ≤ (k : Int) := by omega
    by_cases hlt : k < n1
    · have k1 : (k : Int) < (n1 : Int) := by omega
      have hs := Lib.hid (HS.out k)
      have ir := Lib.hid (IR.out k hlt)
      have gc := Lib.hid (GC.out k hlt)
      have gt := Lib.hid (GT.out k hlt)
      have hbw : b < wr.heap.size := Nat.lt_of_lt_of_le hb HN.out.le
      have hbw' : b' < wr.heap.size := Nat.lt_of_lt_of_le hb' HN.out.le
      generalize hitTo zs n1 W H x y k = h at *
      generalize par zs k = p at *
      generalize inB zs n1 W H x y k = ib at *
      obtain ⟨⟨x0, x1, x2, x3⟩, hq⟩ : ∃ q, layR zs n1 W H k = q := ⟨_, rfl⟩
      rw [hq] at ir gc
      clear hq
      obtain ⟨g0, g1, g2, g3⟩ := gc.out wr HN.out
      have gp := gt.out wr HN.out
      dsimp only at g0 g1 g2 g3
      by_cases hp : p = h
      · subst hp
        have pb : (p == p) = true := by simp
        have IB := Lib.hid (fun V => (show Calls Tryz.prog 22 #[.agg #[.int .i64 x0, .int .i64 x1, .int .i64 x2, .int .i64 x3], .int .i64 x, .int .i64 y] V fun e V' => e = .returned (.bool ib) ∧ New V V' by have h := InRect_any x0 x1 x2 x3 x y V; rw [ir.out] at h; exact h))
        cases ib
        · have E := Lib.hid (hs.out.trans (if_neg (by simp)))
          go_wp2_with (go_at_call 22; refine (IB.out _).mono ?_; rintro e wc ⟨rfl, Nc⟩)
          go_roundw
          case rel => exact ⟨k + 1, by omega, by go_num, by rw [E.out], Lib.hid (HN.out.trans (by (repeat (first | exact New.refl _ | assumption | refine New.alloc ?_ _ | refine New.drew ?_ | refine New.drewN ?_ _ | refine New.setCell ?_ (by first | omega | (simp; omega) | (simp; done)) _ | refine New.trans ?_ (by assumption)))))⟩
          case measure => simp [intOf]; omega
        · have E := Lib.hid (hs.out.trans (if_pos (by simp)))
          go_wp2_with (go_at_call 22; refine (IB.out _).mono ?_; rintro e wc ⟨rfl, Nc⟩)
          go_roundw
          case rel => exact ⟨k + 1, by omega, by go_num, by rw [E.out], Lib.hid (HN.out.trans (by (repeat (first | exact New.refl _ | assumption | refine New.alloc ?_ _ | refine New.drew ?_ | refine New.drewN ?_ _ | refine New.setCell ?_ (by first | omega | (simp; omega) | (simp; done)) _ | refine New.trans ?_ (by assumption)))))⟩
          case measure => simp [intOf]; omega
      · have pb : (p == h) = false := by simpa using hp
        have E := Lib.hid (hs.out.trans (if_neg (fun hh => hp hh.1)))
        go_wp2
        go_roundw
        case rel => exact ⟨k + 1, by omega, by go_num, by rw [E.out], Lib.hid (HN.out.trans (by (repeat (first | exact New.refl _ | assumption | refine New.alloc ?_ _ | refine New.drew ?_ | refine New.drewN ?_ _ | refine New.setCell ?_ (by first | omega | (simp; omega) | (simp; done)) _ | refine New.trans ?_ (by assumption)))))⟩
        case measure => simp [intOf]; omega
    · obtain rfl : k = n1 := by omega
      go_wp2
      go_ret
      exact ⟨by rw [HE.out]; rfl, NW.out.trans HN.out⟩
set_option maxRecDepth 100000 in
set_option maxHeartbeats 2000000 in
theorem shit_any (A B : Option Addr) (n c d : Nat) (zs : List Int) (W H x y : Int) (ok : layOk n zs W H = true) (w : World) (hx : Sts 9 w A n zs) (hr : Sts 4 w B n (flat4 (layA n zs W H))) :
    Calls Tryz.prog 24 #[.slice A n c, .slice B n d, .int .i64 x, .int .i64 y] w fun e w' => e = .returned (.int .i64 (lastIn zs n W H x y n)) ∧ New w w' := by
  obtain ⟨hv, hW, hH⟩ := layOk_iff.1 ok
  have hL := link_vt hv
  have n16 := (vtB_iff.1 hv).1
  have h0 : 0 < n := by omega
  have nj : (n : Int) ≤ 16 := by omega
  obtain ⟨b, off, rfl, hb, hc⟩ := hr.at_ (by omega)
  obtain ⟨b', off', rfl, hb', hc'⟩ := hx.at_ (by omega)
  have GC := Lib.hid (fun q (hq : q < n) V (hV : New w V) => (show V.cell? ⟨b, off + q * 4, none⟩ = some (.int .i64 ((layR zs n W H q).1)) ∧ V.cell? ⟨b, off + q * 4 + 1, none⟩ = some (.int .i64 ((layR zs n W H q).2.1)) ∧ V.cell? ⟨b, off + q * 4 + 2, none⟩ = some (.int .i64 ((layR zs n W H q).2.2.1)) ∧ V.cell? ⟨b, off + q * 4 + 3, none⟩ = some (.int .i64 ((layR zs n W H q).2.2.2)) by
    obtain ⟨v0, v1, v2, v3⟩ := flat4_at (layA n zs W H) q
    rw [lay_at ok hq] at v0 v1 v2 v3
    exact ⟨(hV.cells b _ hb).trans ((hc (q * 4) (by omega)).trans (by rw [v0])), (hV.cells b _ hb).trans ((hc (q * 4 + 1) (by omega)).trans (by rw [v1])), (hV.cells b _ hb).trans ((hc (q * 4 + 2) (by omega)).trans (by rw [v2])), (hV.cells b _ hb).trans ((hc (q * 4 + 3) (by omega)).trans (by rw [v3]))⟩))
  have GT := Lib.hid (fun q (hq : q < n) V (hV : New w V) => (show V.cell? ⟨b', off' + q * 9, none⟩ = some (.int .i64 (par zs q)) from (hV.cells b' _ hb').trans (hc' (q * 9) (by omega))))
  have VR := Lib.hid (fun q (hq : q < n) => lay_vR hv hW hH hq)
  have UP := Lib.hid (fun q (h1 : 0 < q) (hq : q < n) => hL.up q h1 hq)
  have RT := Lib.hid (hL.root h0)
  have LI := Lib.hid (fun k (hk : k < n) (ha : inAll zs n W H x y k = true) (hr : ∀ j, k < j → j < n → inAll zs n W H x y j = false) => lastIn_of (zs := zs) (W := W) (H := H) (x := x) (y := y) hk ha hr)
  have L0 := Lib.hid (fun (hr : ∀ j, j < n → inAll zs n W H x y j = false) => lastIn_no (zs := zs) (W := W) (H := H) (x := x) (y := y) hr)
  clear hc hc' hv hL ok hx hr
  go_enter Tryz.func24, Tryz.ntmps24
  go_wp2
  go_loopw [9] (fun i wr => ∃ (k : Nat) (z : Int), k ≤ n ∧ z = (k : Int) - 1 ∧ i = .int .i64 z ∧ Hid (∀ j, k ≤ j → j < n → inAll zs n W H x y j = false) ∧ Hid (New w wr)) (fun i _ => (intOf i + 1).toNat)
  case atStart => exact ⟨n, (n : Int) - 1, Nat.le_refl _, rfl, by go_num, Lib.hid (fun j h1 h2 => by omega), Lib.hid (by (repeat (first | exact New.refl _ | assumption | refine New.alloc ?_ _ | refine New.drew ?_ | refine New.drewN ?_ _ | refine New.setCell ?_ (by first | omega | (simp; omega) | (simp; done)) _ | refine New.trans ?_ (by assumption))))⟩
  case round =>
    obtain ⟨wo, rfl⟩ : ∃ x, x = wr := ⟨wr, rfl⟩
    obtain ⟨k, z, hk, hz, rfl, HR, HN⟩ := hrel
    rcases Nat.eq_zero_or_pos k with hk0 | hk0
    · subst hk0
      have zn : ¬ ((0 : Int) ≤ z) := by omega
      have zd : decide ((0 : Int) ≤ z) = false := decide_eq_false zn
      clear hz
      have E := L0.out (fun j hj => HR.out j (Nat.zero_le _) hj)
      replace E := Lib.hid E
      go_wp2
      go_ret
      exact ⟨by rw [E.out]; rfl, HN.out⟩
    · obtain ⟨m, rfl⟩ : ∃ m, k = m + 1 := ⟨k - 1, by omega⟩
      obtain rfl : z = (m : Int) := by omega
      clear hz
      have m0 : (0 : Int) ≤ (m : Int) := by omega
      go_wp2
      go_loopw [10] (fun a wr => Hid (New w wr) ∧ ((∃ q : Nat, q ≤ m ∧ a = .int .i64 (q : Int) ∧ Hid (inAll zs n W H x y m = inAll zs n W H x y q)) ∨ (a = .int .i64 (-1) ∧ Hid (inAll zs n W H x y m = true)))) (fun a _ => (intOf a + 1).toNat)
      case atStart => exact ⟨HN, .inl ⟨m, Nat.le_refl _, rfl, Lib.hid rfl⟩⟩
      case round =>
        obtain ⟨HM, hrel⟩ := hrel
        rcases hrel with ⟨q, hq, rfl, HQ⟩ | ⟨rfl, HQ⟩
        · have q0 : (0 : Int) ≤ (q : Int) := by omega
          have qn : q < n := by omega
          have q1 : (q : Int) < (n : Int) := by omega
          have vr := Lib.hid (VR.out q qn)
          have gc := Lib.hid (GC.out q qn)
          have gt := GT.out q qn wr HM.out
          have hbw : b < wr.heap.size := Nat.lt_of_lt_of_le hb HM.out.le
          have hbw' : b' < wr.heap.size := Nat.lt_of_lt_of_le hb' HM.out.le
          have hib : hR (layR zs n W H q).1 (layR zs n W H q).2.1 (layR zs n W H q).2.2.1 (layR zs n W H q).2.2.2 x y = inB zs n W H x y q := rfl
          obtain ⟨⟨x0, x1, x2, x3⟩, hq4⟩ : ∃ q4, layR zs n W H q = q4 := ⟨_, rfl⟩
          rw [hq4] at vr gc hib
          clear hq4
          dsimp only at hib
          obtain ⟨g0, g1, g2, g3⟩ := gc.out wr HM.out
          dsimp only at g0 g1 g2 g3
          cases hb1 : inB zs n W H x y q
          · rw [hb1] at hib
            have IB := Lib.hid (fun V => (show Calls Tryz.prog 42 #[.agg #[.int .i64 x0, .int .i64 x1, .int .i64 x2, .int .i64 x3], .int .i64 x, .int .i64 y] V fun e V' => e = .returned (.bool false) ∧ New V V' by have h := sinRect_any x0 x1 x2 x3 x y V vr.out; rw [hib] at h; exact h))
            have HF : Hid (inAll zs n W H x y m = false) := Lib.hid (by
              rw [HQ.out]
              cases h : inAll zs n W H x y q
              · rfl
              · have := inAll_in h; rw [hb1] at this; cases this)
            have HR2 : Hid (∀ j, m ≤ j → j < n → inAll zs n W H x y j = false) := Lib.hid (fun j h1 h2 => by
              by_cases e : j = m
              · rw [e]; exact HF.out
              · exact HR.out j (by omega) h2)
            clear hb1 hib HR HF
            go_wp2_with (go_at_call 42; refine (IB.out _).mono ?_; rintro e wc ⟨rfl, Nc⟩)
            go_roundw
            case rel => exact ⟨m, (m : Int) - 1, by omega, rfl, by go_num, HR2, Lib.hid (HM.out.trans (by (repeat (first | exact New.refl _ | assumption | refine New.alloc ?_ _ | refine New.drew ?_ | refine New.drewN ?_ _ | refine New.setCell ?_ (by first | omega | (simp; omega) | (simp; done)) _ | refine New.trans ?_ (by assumption)))))⟩
            case measure => simp [intOf]
          · rw [hb1] at hib
            have IB := Lib.hid (fun V => (show Calls Tryz.prog 42 #[.agg #[.int .i64 x0, .int .i64 x1, .int .i64 x2, .int .i64 x3], .int .i64 x, .int .i64 y] V fun e V' => e = .returned (.bool true) ∧ New V V' by have h := sinRect_any x0 x1 x2 x3 x y V vr.out; rw [hib] at h; exact h))
            rcases Nat.eq_zero_or_pos q with hq0 | hq0
            · subst hq0
              have HT : Hid (inAll zs n W H x y m = true) := Lib.hid (by rw [HQ.out, inAll_top (by rw [RT.out]; decide)]; exact hb1)
              have gg := fun V (hV : New w V) => (show V.cell? ⟨b', off', none⟩ = some (.int .i64 (-1)) by have h := GT.out 0 qn V hV; rw [RT.out, Nat.zero_mul, Nat.add_zero] at h; exact h)
              have GG := Lib.hid gg
              rw [Nat.zero_mul, Nat.add_zero] at g0 g1 g2 g3
              clear gt gg hb1 hib
              go_wp2_with (go_at_call 42; refine (IB.out _).mono ?_; rintro e wc ⟨rfl, Nc⟩; have gt := GG.out wc (HM.out.trans Nc))
              go_roundw
              case rel => exact ⟨Lib.hid (HM.out.trans (by (repeat (first | exact New.refl _ | assumption | refine New.alloc ?_ _ | refine New.drew ?_ | refine New.drewN ?_ _ | refine New.setCell ?_ (by first | omega | (simp; omega) | (simp; done)) _ | refine New.trans ?_ (by assumption))))), .inr ⟨rfl, HT⟩⟩
              case measure => simp [intOf]
            · obtain ⟨p, ep, hp, _⟩ := UP.out q hq0 qn
              have HT : Hid (inAll zs n W H x y m = inAll zs n W H x y p) := Lib.hid (by rw [HQ.out, inAll_par ep hp, hb1, Bool.true_and])
              have gg := fun V (hV : New w V) => (show V.cell? ⟨b', off' + q * 9, none⟩ = some (.int .i64 (p : Int)) by have h := GT.out q qn V hV; rw [ep] at h; exact h)
              have GG := Lib.hid gg
              clear gt gg hb1 hib
              go_wp2_with (go_at_call 42; refine (IB.out _).mono ?_; rintro e wc ⟨rfl, Nc⟩; have gt := GG.out wc (HM.out.trans Nc))
              go_roundw
              case rel => exact ⟨Lib.hid (HM.out.trans (by (repeat (first | exact New.refl _ | assumption | refine New.alloc ?_ _ | refine New.drew ?_ | refine New.drewN ?_ _ | refine New.setCell ?_ (by first | omega | (simp; omega) | (simp; done)) _ | refine New.trans ?_ (by assumption))))), .inl ⟨p, by omega, rfl, HT⟩⟩
              case measure => simp [intOf]; omega
        · have E := LI.out m (by omega) HQ.out (fun j h1 h2 => HR.out j (by omega) h2)
          replace E := Lib.hid E
          go_wp2
          go_ret
          exact ⟨by rw [E.out]; rfl, HM.out⟩
set_option maxRecDepth 100000 in
set_option maxHeartbeats 2000000 in
theorem SHitBox_any (A : Option Addr) (n c : Nat) (zs : List Int) (W H x y : Int) (hn : n ≤ 1048576) (w : World) (hx : Sts 9 w A n zs) :
    Calls Tryz.prog 7 #[.slice A n c, .int .i64 W, .int .i64 H, .int .i64 x, .int .i64 y] w fun e w' => e = .returned (.int .i64 (hitA zs n W H x y)) ∧ New w w' := by
  have LA := Lib.hid (fun W1 (hW : New w W1) => SLayoutTree_ans A n c zs W H hn W1 (hx.new hW))
  have LN := Lib.hid (layA_len (n := n) (zs := zs) (W := W) (H := H))
  have L4 := Lib.hid (flat4_len (layA n zs W H))
  have HX := Lib.hid hx
  clear hx
  go_enter Tryz.func7, Tryz.ntmps7
  go_wp2_with fail
  refine (LA.out _ (by (repeat (first | exact New.refl _ | assumption | refine New.alloc ?_ _ | refine New.drew ?_ | refine New.drewN ?_ _ | refine New.setCell ?_ (by first | omega | (simp; omega) | (simp; done)) _ | refine New.trans ?_ (by assumption))))).mono ?_
  rintro e w1 ⟨A1, n1, c1, rfl, l1, r1, N1⟩
  have e1 : (layA n zs W H).length = n1 := by have := L4.out; omega
  have R1 := Lib.hid (Sts.of_res (m := 3) r1 l1)
  have n16 : n1 ≤ 16 := by have := LN.out; omega
  have ni : (n1 : Int) ≤ 16 := by omega
  have nj : (0 : Int) ≤ (n1 : Int) := by omega
  have NW := Lib.hid (show New w w1 from New.trans (by (repeat (first | exact New.refl _ | assumption | refine New.alloc ?_ _ | refine New.drew ?_ | refine New.drewN ?_ _ | refine New.setCell ?_ (by first | omega | (simp; omega) | (simp; done)) _ | refine New.trans ?_ (by assumption)))) N1)
  have E1 := Lib.hid e1
  have HX := Lib.hid (HX.out.new NW.out)
  clear LA LN L4 l1 r1 N1 e1
  rcases Nat.eq_zero_or_pos n1 with h0 | h0
  · subst h0
    have hE : hitA zs n W H x y = -1 := by
      cases h : layOk n zs W H
      · exact hitA_no h
      · have h1 := E1.out; rw [layA_yes h] at h1; simp at h1; subst h1
        unfold hitA; rw [if_pos h]; rfl
    have HE := Lib.hid hE
    clear hE
    go_wp2
    go_ret
    exact ⟨by rw [HE.out]; rfl, NW.out⟩
  have ok : layOk n zs W H = true := by
    cases h : layOk n zs W H
    · have := E1.out; rw [layA_no h] at this; simp at this; omega
    · rfl
  obtain rfl : n1 = n := by have := E1.out; rw [layA_yes ok] at this; simpa using this.symm
  have HE := Lib.hid (hitA_yes (x := x) (y := y) ok)
  have nb : ((n1 : Int) == 0) = false := by simp; omega
  have OK := Lib.hid ok
  clear ok
  go_wp2_with (go_at_call 24; refine (shit_any A A1 n1 c c1 zs W H x y OK.out _ HX.out R1.out).mono ?_; rintro e w2 ⟨rfl, N2⟩)
  go_ret
  exact ⟨by rw [HE.out]; rfl, NW.out.trans N2⟩
end Go.Proofs.YtigniaebokknmaaGreat
