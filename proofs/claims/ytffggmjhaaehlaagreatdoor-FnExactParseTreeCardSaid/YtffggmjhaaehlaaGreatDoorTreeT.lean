/- The reference's inOrder and validTree, walked: they answer as the plain check does. Condition: the tree can be read. -/
import Derived.Test.YtffggmjhaaehlaaGreatDoorTreeS
import Derived.Test.YtffggmjhaaehlaaGreatDoorTreeK
namespace Go.Proofs.YtffggmjhaaehlaaGreatDoor
open Go.RowKit

/-- Every box's Parent is the box before it, or one around that. -/
def ordP (zs : List Int) (n : Nat) : Prop := ∀ i, i < n → 0 < i → anc zs (par zs i).toNat (i - 1) = true
instance (zs : List Int) (n : Nat) : Decidable (ordP zs n) := by unfold ordP; infer_instance
def ordB (zs : List Int) (n : Nat) : Bool := decide (ordP zs n)
section
variable {zs : List Int} {k n i : Nat}
theorem ups_of (h : ∀ j, j < k → SokP n zs j) : Ups zs k := by
  refine ⟨fun h0 => ?_, fun j h0 hj => ?_⟩
  · have := (h 0 h0).2.1; omega
  · have := (h j hj).2.1; exact ⟨(par zs j).toNat, by omega, by omega⟩
theorem ups_more (h : Ups zs k) {p : Nat} (hp : par zs k = (p : Int)) (hpk : p < k) : Ups zs (k + 1) := by
  refine ⟨fun _ => h.1 (by omega), fun j h0 hj => ?_⟩
  by_cases e : j = k
  · subst e; exact ⟨p, hp, hpk⟩
  · exact h.2 j h0 (by omega)
theorem vt_no_sok (hi : i < n) (h : ¬ SokP n zs i) : vtB n zs = false := by
  cases hv : vtB n zs
  · rfl
  · exact absurd ((vt_spec.1 hv).1 i hi) h
end
set_option maxRecDepth 100000 in
set_option maxHeartbeats 2000000 in
theorem sinOrder_any (A : Option Addr) (n c : Nat) (zs : List Int) (hn : n ≤ 16) (h1 : 1 ≤ n) (hu : Ups zs n) (w : World) (hx : Sts 9 w A n zs) :
    Calls Tryz.prog 39 #[.slice A n c] w fun e w' => e = .returned (.bool (ordB zs n)) ∧ w = w' := by
  obtain ⟨b, off, rfl, hb, hc⟩ := hx.at_ (by omega)
  have HC := Lib.hid (fun i hi => par_cell (i := i) hc hi)
  have HU := Lib.hid hu
  have n1 : (n : Int) ≤ 16 := by omega
  have n0 : (1 : Int) ≤ (n : Int) := by omega
  clear hx hc hu hb
  go_enter Tryz.func39, Tryz.ntmps39
  go_wp2
  go_loopw [3] (fun x wr => wr = w ∧ ∃ k : Nat, 1 ≤ k ∧ k ≤ n ∧ x = .int .i64 (k : Int) ∧ Hid (ordP zs k)) (fun x _ => n - (intOf x).toNat)
  case atStart => exact ⟨rfl, 1, Nat.le_refl _, h1, rfl, Lib.hid (fun i hi h0 => absurd hi (by omega))⟩
  case round =>
    obtain ⟨rfl, k, hk1, hk, rfl, HO⟩ := hrel
    by_cases hlt : k < n
    · obtain ⟨p, hp, hpk⟩ := HU.out.2 k (by omega) hlt
      have gp : wr.cell? ⟨b, off + k * 9, none⟩ = some (.int .i64 (p : Int)) := by rw [← hp]; exact HC.out k hlt
      have k0 : (0 : Int) ≤ (k : Int) := by omega
      have k1 : (k : Int) < (n : Int) := by omega
      have k2 : (1 : Int) ≤ (k : Int) := by omega
      have HP := Lib.hid hp
      clear hp
      obtain ⟨wo, rfl⟩ : ∃ x, x = wr := ⟨wr, rfl⟩
      go_wp2
      go_loopw [4] (fun x wz => wz = wo ∧ ∃ y : Int, x = .int .i64 y ∧ ((∃ j : Nat, y = (j : Int) ∧ j < n ∧ Hid (anc zs p j = anc zs p (k - 1))) ∨ (y = -1 ∧ Hid (anc zs p (k - 1) = false)))) (fun x _ => (intOf x + 1).toNat)
      case atStart => exact ⟨rfl, (k : Int) - 1, rfl, .inl ⟨k - 1, by omega, by omega, Lib.hid rfl⟩⟩
      case round =>
        obtain ⟨rfl, y, rfl, hy⟩ := hrel
        rcases hy with ⟨j, rfl, hj, HA⟩ | ⟨rfl, HA⟩
        · have j0 : (0 : Int) ≤ (j : Int) := by omega
          have j1 : (j : Int) < (n : Int) := by omega
          have g0 : wr.cell? ⟨b, off + j * 9, none⟩ = some (.int .i64 (par zs j)) := HC.out j hj
          by_cases hjp : j = p
          · subst hjp
            have HO2 : Hid (ordP zs (k + 1)) := Lib.hid (fun i hi h0 => by
              by_cases e : i = k
              · subst e; rw [HP.out, Int.toNat_natCast, ← HA.out, anc_self]
              · exact HO.out i (by omega) h0)
            clear HA g0
            go_wp2
            go_roundw
            case rel => exact ⟨trivial, k + 1, by omega, by omega, by go_num, HO2⟩
            case measure => simp [intOf]; omega
          · have hb : ((j : Int) != (p : Int)) = true := by simp; omega
            have hb2 : (j != p) = true := by simp; omega
            have hnx : (∃ j' : Nat, par zs j = (j' : Int) ∧ j' < n ∧ anc zs p j' = anc zs p (k - 1) ∧ j' < j) ∨ (par zs j = -1 ∧ anc zs p (k - 1) = false) := by
              rcases Nat.eq_zero_or_pos j with h0 | h0
              · subst h0
                have hr := HU.out.1 (by omega)
                exact .inr ⟨hr, by rw [← HA.out, anc_top (by omega) (by omega)]⟩
              · obtain ⟨q, e, hq⟩ := HU.out.2 j h0 hj
                exact .inl ⟨q, e, by omega, by rw [← HA.out, anc_par e hq hjp], hq⟩
            clear HA hjp
            rcases hnx with ⟨j', e, e1, e2, e3⟩ | ⟨e, e2⟩
            · rw [e] at g0
              have HA2 := Lib.hid e2
              clear e e2
              go_wp2
              go_roundw
              case rel => exact ⟨trivial, _, rfl, .inl ⟨j', rfl, e1, HA2⟩⟩
              case measure => simp [intOf]; omega
            · rw [e] at g0
              have HA2 := Lib.hid e2
              clear e e2
              go_wp2
              go_roundw
              case rel => exact ⟨trivial, _, rfl, .inr ⟨rfl, HA2⟩⟩
              case measure => simp [intOf]
        · have hf : Hid (ordB zs n = false) := Lib.hid (decide_eq_false (fun h => by
            have := h k hlt (by omega)
            rw [HP.out, Int.toNat_natCast, HA.out] at this; cases this))
          go_wp2
          go_ret
          exact ⟨by rw [hf.out]; rfl, rfl⟩
    · obtain rfl : k = n := by omega
      have ht : Hid (ordB zs k = true) := Lib.hid (decide_eq_true HO.out)
      go_wp2
      go_ret
      exact ⟨by rw [ht.out]; rfl, rfl⟩
set_option maxRecDepth 100000 in
set_option maxHeartbeats 4000000 in
theorem svalidTree_any (A : Option Addr) (n c : Nat) (zs : List Int) (hn : n ≤ 1048576) (w : World) (hx : Sts 9 w A n zs) :
    Calls Tryz.prog 19 #[.slice A n c] w fun e w' => e = .returned (.bool (vtB n zs)) ∧ New w w' := by
  have HX := Lib.hid hx
  have n1 : (n : Int) ≤ 1048576 := by omega
  clear hx
  go_enter Tryz.func19, Tryz.ntmps19
  go_wp2
  go_loopw [3] (fun x wr => ∃ k : Nat, k ≤ n ∧ x = .int .i64 (k : Int) ∧ Hid (∀ j, j < k → SokP n zs j) ∧ Hid (New w wr)) (fun x _ => n - (intOf x).toNat)
  case atStart => exact ⟨0, Nat.zero_le _, rfl, Lib.hid (fun j h => absurd h (by omega)), Lib.hid (New.refl _)⟩
  case round =>
    obtain ⟨k, hk, rfl, HS, HN⟩ := hrel
    by_cases hlt : k < n
    · obtain ⟨b, off, rfl, hb, hc⟩ := HX.out.at_ (by omega)
      have HC := Lib.hid hc; have HB := Lib.hid hb
      have HBL : Hid (b < wr.heap.size) := Lib.hid (Nat.lt_of_lt_of_le hb HN.out.le)
      have k0 : (0 : Int) ≤ (k : Int) := by omega
      have k1 : (k : Int) < (n : Int) := by omega
      obtain ⟨y0, e0⟩ : ∃ y, zs.getD (k * 9) 0 = y := ⟨_, rfl⟩
      have g0 : wr.cell? ⟨b, off + k * 9, none⟩ = some (.int .i64 y0) := by rw [← e0]; exact (HN.out.cells b _ hb).trans (hc (k * 9) (by omega))
      obtain ⟨y1, e1⟩ : ∃ y, zs.getD (k * 9 + 1) 0 = y := ⟨_, rfl⟩
      have g1 : wr.cell? ⟨b, off + k * 9 + 1, none⟩ = some (.int .i64 y1) := by rw [← e1]; exact (HN.out.cells b _ hb).trans (hc (k * 9 + 1) (by omega))
      obtain ⟨y2, e2⟩ : ∃ y, zs.getD (k * 9 + 2) 0 = y := ⟨_, rfl⟩
      have g2 : wr.cell? ⟨b, off + k * 9 + 2, none⟩ = some (.int .i64 y2) := by rw [← e2]; exact (HN.out.cells b _ hb).trans (hc (k * 9 + 2) (by omega))
      obtain ⟨y3, e3⟩ : ∃ y, zs.getD (k * 9 + 3) 0 = y := ⟨_, rfl⟩
      have g3 : wr.cell? ⟨b, off + k * 9 + 3, none⟩ = some (.int .i64 y3) := by rw [← e3]; exact (HN.out.cells b _ hb).trans (hc (k * 9 + 3) (by omega))
      obtain ⟨y4, e4⟩ : ∃ y, zs.getD (k * 9 + 4) 0 = y := ⟨_, rfl⟩
      have g4 : wr.cell? ⟨b, off + k * 9 + 4, none⟩ = some (.int .i64 y4) := by rw [← e4]; exact (HN.out.cells b _ hb).trans (hc (k * 9 + 4) (by omega))
      obtain ⟨y5, e5⟩ : ∃ y, zs.getD (k * 9 + 5) 0 = y := ⟨_, rfl⟩
      have g5 : wr.cell? ⟨b, off + k * 9 + 5, none⟩ = some (.int .i64 y5) := by rw [← e5]; exact (HN.out.cells b _ hb).trans (hc (k * 9 + 5) (by omega))
      obtain ⟨y6, e6⟩ : ∃ y, zs.getD (k * 9 + 6) 0 = y := ⟨_, rfl⟩
      have g6 : wr.cell? ⟨b, off + k * 9 + 6, none⟩ = some (.int .i64 y6) := by rw [← e6]; exact (HN.out.cells b _ hb).trans (hc (k * 9 + 6) (by omega))
      obtain ⟨y7, e7⟩ : ∃ y, zs.getD (k * 9 + 7) 0 = y := ⟨_, rfl⟩
      have g7 : wr.cell? ⟨b, off + k * 9 + 7, none⟩ = some (.int .i64 y7) := by rw [← e7]; exact (HN.out.cells b _ hb).trans (hc (k * 9 + 7) (by omega))
      obtain ⟨y8, e8⟩ : ∃ y, zs.getD (k * 9 + 8) 0 = y := ⟨_, rfl⟩
      have g8 : wr.cell? ⟨b, off + k * 9 + 8, none⟩ = some (.int .i64 y8) := by rw [← e8]; exact (HN.out.cells b _ hb).trans (hc (k * 9 + 8) (by omega))
      have hbx : boxB zs k = okX y1 y2 y3 y4 y5 y6 y7 y8 := by unfold boxB; rw [e1, e2, e3, e4, e5, e6, e7, e8]
      have hy : par zs k = y0 := e0
      have HY := Lib.hid hy
      clear e0 e1 e2 e3 e4 e5 e6 e7 e8 hc hb
      cases hok : boxB zs k
      · have hv := Lib.hid (vt_no_box hlt hok)
        have HOK := Lib.hid (show okX y1 y2 y3 y4 y5 y6 y7 y8 = false by rw [← hbx]; exact hok)
        clear hok hbx hy
        go_wp2_with (go_at_call 36; refine (svalidBox_any _ _ _ _ _ _ _ _ _ _).mono ?_; rw [HOK.out]; rintro e w2 ⟨rfl, h2⟩; (have H2 := Lib.hid h2); clear h2)
        go_ret
        exact ⟨by rw [hv.out]; rfl, HN.out.trans H2.out⟩
      · have HBX := Lib.hid (boxB_iff.1 hok)
        have HOK := Lib.hid (show okX y1 y2 y3 y4 y5 y6 y7 y8 = true by rw [← hbx]; exact hok)
        have hmn := fun W ts t => run_mn Tryz.prog W ts t (k : Int) 1
        have mb : 0 ≤ mn (k : Int) 1 ∧ mn (k : Int) 1 ≤ 1 := by unfold mn; omega
        have mk : mn (k : Int) 1 = ((min k 1 : Nat) : Int) := by unfold mn; omega
        obtain ⟨mb0, mb1⟩ := mb
        have MK := Lib.hid mk
        clear hok hbx hy mk
        by_cases hr : mn (k : Int) 1 - 1 ≤ y0 ∧ y0 ≤ (k : Int) - 1
        · have hd := decide_eq_true hr
          rcases Nat.eq_zero_or_pos k with hz | hz
          · have HS' : Hid (∀ j, j < k + 1 → SokP n zs j) := Lib.hid (fun j hj => by
              by_cases e : j = k
              · rw [e]; exact ⟨HBX.out, by rw [HY.out, ← MK.out]; exact hr, fun h => absurd h (by omega)⟩
              · exact HS.out j (by omega))
            have kz : decide ((0 : Int) < (k : Int)) = false := decide_eq_false (by omega)
            have kz2 : decide (0 < k) = false := decide_eq_false (by omega)
            generalize mn (k : Int) 1 = mm at *
            clear hr hz
            go_wp2_with (first
              | (go_at_call 36; refine (svalidBox_any _ _ _ _ _ _ _ _ _ _).mono ?_; rw [HOK.out]; rintro e w2 ⟨rfl, h2⟩; (have H2 := Lib.hid h2); (have g0 := (h2.cells _ _ HBL.out).trans g0); clear h2)
              | (go_at_call 37; refine (inRange_any _ _ _ _).mono ?_; rw [hd]; rintro e w' ⟨rfl, rfl⟩))
            go_roundw
            case rel => exact ⟨k + 1, by omega, by go_num, HS', Lib.hid (HN.out.trans H2.out)⟩
            case measure => simp [intOf]; omega
          · have yp : 0 ≤ y0 := by
              have h1 : mn (k : Int) 1 = 1 := by
                unfold mn
                omega
              omega
            obtain ⟨p, rfl⟩ : ∃ p : Nat, y0 = (p : Int) := ⟨y0.toNat, by omega⟩
            have hpk : p < k := by omega
            have kz : (0 : Int) < (k : Int) := by omega
            have p0 : (0 : Int) ≤ (p : Int) := by omega
            have p1 : (p : Int) < (n : Int) := by omega
            have HU := Lib.hid (ups_more (ups_of HS.out) HY.out hpk)
            have gk : wr.cell? ⟨b, off + p * 9 + 1, none⟩ = some (.int .i64 (knd zs p)) := (HN.out.cells b _ HB.out).trans (HC.out (p * 9 + 1) (by omega))
            have RNG := Lib.hid hr
            have KB := Lib.hid (show (kidL zs n p).length ≤ n from by unfold kidL; have := List.length_filter_le (fun j => decide (par zs j = (p : Int))) (List.range n); simpa using this)
            clear hr
            generalize hmm : mn (k : Int) 1 = mm at *
            clear hmm hz
            by_cases hk0 : knd zs p = 0
            · have hv := Lib.hid (vt_no_sok (n := n) (zs := zs) hlt (fun h => by
                have := (h.2.2 (by omega)).1
                rw [HY.out, Int.toNat_natCast] at this
                exact this hk0))
              rw [hk0] at gk
              clear hk0
              go_wp2_with (first
                | (go_at_call 36; refine (svalidBox_any _ _ _ _ _ _ _ _ _ _).mono ?_; rw [HOK.out]; rintro e w2 ⟨rfl, h2⟩; (have H2 := Lib.hid h2); (have g0 := (h2.cells _ _ HBL.out).trans g0); (have gk := (h2.cells _ _ HBL.out).trans gk); clear h2)
                | (go_at_call 37; refine (inRange_any _ _ _ _).mono ?_; rw [hd]; rintro e w' ⟨rfl, rfl⟩))
              go_ret
              exact ⟨by rw [hv.out]; rfl, HN.out.trans H2.out⟩
            · have hkb : (knd zs p == 0) = false := by simpa using hk0
              have HK0 := Lib.hid hk0
              generalize knd zs p = kk at gk hkb
              clear hk0
              go_wp2_with fail
              refine (svalidBox_any _ _ _ _ _ _ _ _ _ _).mono ?_
              rw [HOK.out]
              rintro e w2 ⟨rfl, h2⟩
              have H2 := Lib.hid (HN.out.trans h2)
              have g0 := (h2.cells _ _ HBL.out).trans g0
              have gk := (h2.cells _ _ HBL.out).trans gk
              clear h2
              go_wp2_with fail
              refine (inRange_any _ _ _ _).mono ?_
              rw [hd]
              rintro e w' ⟨rfl, rfl⟩
              go_wp2_with fail
              refine (skids_any _ n c p zs hn (by omega) (fun j hj => HU.out.not_kid (by omega) hj) _ (HX.out.new H2.out)).mono ?_
              rintro e w3 ⟨v, rfl, O3, N3⟩
              obtain ⟨A3, c3, rfl, _, _⟩ := O3.res
              rw [List.length_map]
              have H3 := Lib.hid (H2.out.trans N3)
              clear O3 N3
              by_cases hl : (kidL zs n p).length ≤ 8
              · have hl8 : decide (8 < ((kidL zs n p).length : Int)) = false := decide_eq_false (by omega)
                have hl9 : decide (8 < (kidL zs n p).length) = false := decide_eq_false (by omega)
                have HL := Lib.hid hl
                generalize hq : (kidL zs n p).length = q at hl8 hl9 ⊢
                have q0 : (0 : Int) ≤ (q : Int) := by omega
                clear hl hq
                go_wp2_with fail
                refine (sdepth_any _ n c k (k + 1) zs hn (by omega) (by omega) HU.out _ (HX.out.new H3.out)).mono ?_
                rintro e w' ⟨rfl, rfl⟩
                have db := dep_le zs k
                by_cases hd5 : dep zs k ≤ 5
                · have HS' : Hid (∀ j, j < k + 1 → SokP n zs j) := Lib.hid (fun j hj => by
                    by_cases e : j = k
                    · rw [e]; exact ⟨HBX.out, by rw [HY.out, ← MK.out]; exact RNG.out, fun _ => by rw [HY.out, Int.toNat_natCast]; exact ⟨HK0.out, HL.out, hd5⟩⟩
                    · exact HS.out j (by omega))
                  have h5 : decide (5 < ((dep zs k : Nat) : Int)) = false := decide_eq_false (by omega)
                  have h6 : decide (5 < dep zs k) = false := decide_eq_false (by omega)
                  generalize dep zs k = dd at *
                  clear hd5
                  go_wp2
                  go_roundw
                  case rel => exact ⟨k + 1, by omega, by go_num, HS', H3⟩
                  case measure => simp [intOf]; omega
                · have hv := Lib.hid (vt_no_sok (n := n) (zs := zs) hlt (fun h => hd5 (h.2.2 (by omega)).2.2))
                  have h5 : (5 : Int) < ((dep zs k : Nat) : Int) := by omega
                  generalize dep zs k = dd at *
                  clear hd5
                  go_wp2
                  go_ret
                  exact ⟨by rw [hv.out]; rfl, H3.out⟩
              · have hv := Lib.hid (vt_no_sok (n := n) (zs := zs) hlt (fun h => hl (by
                  have := (h.2.2 (by omega)).2.1
                  rw [HY.out, Int.toNat_natCast] at this
                  exact this)))
                have hl8 : (8 : Int) < ((kidL zs n p).length : Int) := by omega
                generalize hq : (kidL zs n p).length = q at hl8 ⊢
                clear hl hq
                go_wp2
                go_ret
                exact ⟨by rw [hv.out]; rfl, H3.out⟩
        · have hd := decide_eq_false hr
          have hv := Lib.hid (vt_no_sok (n := n) (zs := zs) hlt (fun h => hr (by have := h.2.1; rw [HY.out, ← MK.out] at this; exact this)))
          generalize mn (k : Int) 1 = mm at *
          clear hr
          go_wp2_with (first
            | (go_at_call 36; refine (svalidBox_any _ _ _ _ _ _ _ _ _ _).mono ?_; rw [HOK.out]; rintro e w2 ⟨rfl, h2⟩; (have H2 := Lib.hid h2); (have g0 := (h2.cells _ _ HBL.out).trans g0); clear h2)
            | (go_at_call 37; refine (inRange_any _ _ _ _).mono ?_; rw [hd]; rintro e w' ⟨rfl, rfl⟩))
          go_ret
          exact ⟨by rw [hv.out]; rfl, HN.out.trans H2.out⟩
    · obtain rfl : k = n := by omega
      have n0 : (0 : Int) ≤ (k : Int) := by omega
      by_cases hr : 1 ≤ (k : Int) ∧ (k : Int) ≤ 16
      · have hd := decide_eq_true hr
        have HU := Lib.hid (ups_of HS.out)
        have CT := Lib.hid (sinOrder_any A k c zs (by omega) (by omega) HU.out wr (HX.out.new HN.out))
        have VT : Hid (vtB k zs = ordB zs k) := Lib.hid (by
          rw [Bool.eq_iff_iff, vt_spec]
          unfold ordB
          rw [decide_eq_true_eq]
          exact ⟨fun h i hi h0 => h.2.2 i h0 hi, fun h => ⟨HS.out, by omega, fun i h0 hi => h i hi h0⟩⟩)
        obtain ⟨hr1, hr2⟩ := hr
        cases ho : ordB zs k
        · have HOf := Lib.hid ho
          clear ho
          go_wp2_with (first
            | (go_at_call 37; refine (inRange_any _ _ _ _).mono ?_; rw [hd]; rintro e w' ⟨rfl, rfl⟩)
            | (go_at_call 39; refine CT.out.mono ?_; rw [HOf.out]; rintro e w' ⟨rfl, rfl⟩))
          go_ret
          exact ⟨by rw [VT.out, HOf.out]; rfl, HN.out⟩
        · have HOf := Lib.hid ho
          clear ho
          go_wp2_with (first
            | (go_at_call 37; refine (inRange_any _ _ _ _).mono ?_; rw [hd]; rintro e w' ⟨rfl, rfl⟩)
            | (go_at_call 39; refine CT.out.mono ?_; rw [HOf.out]; rintro e w' ⟨rfl, rfl⟩))
          go_ret
          exact ⟨by rw [VT.out, HOf.out]; rfl, HN.out⟩
      · have hd := decide_eq_false hr
        have VT : Hid (vtB k zs = false) := Lib.hid (by unfold vtB; rw [hd]; rfl)
        go_wp2_with (go_at_call 37; refine (inRange_any _ _ _ _).mono ?_; rw [hd]; rintro e w' ⟨rfl, rfl⟩)
        go_ret
        exact ⟨by rw [VT.out]; rfl, HN.out⟩
end Go.Proofs.YtffggmjhaaehlaaGreatDoor
