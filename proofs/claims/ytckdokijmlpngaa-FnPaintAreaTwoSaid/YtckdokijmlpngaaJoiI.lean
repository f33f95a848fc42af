/- Rectangles that are joined where they meet: JoinPaint of the program, walked. Condition: the row can be read. -/
import Derived.Test.YtckdokijmlpngaaJoiR
import Derived.Test.YtckdokijmlpngaaPntV
import Derived.Test.YtckdokijmlpngaaRFun
import Derived.Test.YtckdokijmlpngaaRectH
import Derived.Deep.RegionHeld3
namespace Go.Proofs.Ytckdokijmlpngaa
open Go.RowKit

theorem Row.four4 {w : World} {g : Nat} {a0 a1 a2 a3 : Int} (h : Row w g [a0, a1, a2, a3]) (b0 b1 b2 b3 : Int) : Row ((((w.setCell ⟨g, 0, none⟩ (.int .i64 b0)).setCell ⟨g, 1, none⟩ (.int .i64 b1)).setCell ⟨g, 2, none⟩ (.int .i64 b2)).setCell ⟨g, 3, none⟩ (.int .i64 b3)) g [b0, b1, b2, b3] := by
  have k := (((h.set_ (k := 0) (by simp) b0).set_ (k := 1) (by simp) b1).set_ (k := 2) (by simp) b2).set_ (k := 3) (by simp) b3
  simpa using k
theorem OwnRect.nil (lo : Nat) (w : World) : OwnRect lo w (.slice none 0 0) 0 [] := ⟨⟨rfl, .inl ⟨rfl, rfl⟩⟩, rfl⟩
/-- An answer that is a row of structs of its own, in its room, and a truth value. -/
def AnsTK (m : Nat) (w : World) (ok : Bool) (zs : List Int) (e : Ending) (w' : World) : Prop :=
  ∃ (A : Option Addr) (n c : Nat), e = .returned (.tuple #[.slice A n c, .bool ok]) ∧ zs.length = n * m ∧ n ≤ c ∧ Res w.heap.size w'.heap.size w' A zs ∧ New w w'
theorem AnsTK.no {m : Nat} {w w' : World} {e : Ending} (he : e = .returned (.tuple #[.slice none 0 0, .bool false])) (hN : New w w') : AnsTK m w false [] e w' := ⟨_, 0, 0, he, by simp, Nat.le_refl _, Res.nil _ _ _, hN⟩
theorem AnsTK.ansT {m : Nat} {w w' : World} {ok : Bool} {zs : List Int} {e : Ending} (h : AnsTK m w ok zs e w') : AnsT m w ok zs e w' := by
  obtain ⟨A, n, c, h1, h2, _, h3, h4⟩ := h
  exact ⟨A, n, c, h1, h2, h3, h4⟩
theorem OwnRect.ansTK {lo n : Nat} {w w1 : World} {v : Value} {zs : List Int} (h : OwnRect lo w1 v n zs) (hl : w.heap.size ≤ lo) (hN : New w w1) : AnsTK 4 w true zs (.returned (.tuple #[v, .bool true])) w1 := by
  obtain ⟨A, c, rfl, hc, Z1, Z2⟩ := h.res
  exact ⟨A, n, c, rfl, h.2, hc, ⟨Z1, fun hz => by obtain ⟨g, e, k1, k2, hR⟩ := Z2 hz; exact ⟨g, e, by omega, k2, hR⟩⟩, hN⟩
theorem OwnRect.ansT {lo n : Nat} {w w1 : World} {v : Value} {zs : List Int} (h : OwnRect lo w1 v n zs) (hl : w.heap.size ≤ lo) (hN : New w w1) : AnsT 4 w true zs (.returned (.tuple #[v, .bool true])) w1 := by
  obtain ⟨A, c, rfl, _, Z1, Z2⟩ := h.res
  exact ⟨A, n, c, rfl, h.2, ⟨Z1, fun hz => by obtain ⟨g, e, k1, k2, hR⟩ := Z2 hz; exact ⟨g, e, by omega, k2, hR⟩⟩, hN⟩
set_option maxRecDepth 100000 in
set_option maxHeartbeats 4000000 in
theorem JoinPaint_ansK (A : Option Addr) (n c : Nat) (zs : List Int) (hn : n ≤ 1048576) (w : World) (hx : Sts 4 w A n zs) :
    Calls Try.prog 30 #[.slice A n c] w (AnsTK 4 w (jB n zs) (jA n zs)) := by
  have HX := Lib.hid hx
  clear hx
  cases h1 : rsB 6 n zs
  · have E := Lib.hid (jB_no1 h1)
    have E2 := Lib.hid (jA_no E.out)
    have h1 := Lib.hid h1
    go_enter Try.func30, Try.ntmps30
    go_wp2_with fail
    refine (validRects_any A n c zs 6 hn _ HX.out).mono ?_
    rw [h1.out]
    rintro e w1 ⟨rfl, N1⟩
    go_wp2
    go_ret2
    rw [E.out, E2.out]
    exact AnsTK.no rfl N1
  obtain ⟨n6, hok⟩ := rsB_iff.1 h1
  have OK := Lib.hid hok
  have P2 := Lib.hid (fun k (hk : k < n) (h : jGood zs k = false) => (⟨jB_no2 hk h, jA_no (jB_no2 hk h)⟩ : jB n zs = false ∧ jA n zs = []))
  have P1 := Lib.hid (fun (h : ∀ k, k < n → jGood zs k = true) => (⟨jB_iff.2 ⟨n6, hok, h⟩, jA_yes (jB_iff.2 ⟨n6, hok, h⟩)⟩ : jB n zs = true ∧ jA n zs = (jTo zs n).1))
  have h1 := Lib.hid h1
  clear hok
  go_enter Try.func30, Try.ntmps30
  go_wp2_with fail
  refine (validRects_any A n c zs 6 hn _ HX.out).mono ?_
  rw [h1.out]
  rintro e w1 ⟨rfl, N1⟩
  have HX := Lib.hid (HX.out.new N1); have N1 := Lib.hid N1
  go_wp2
  go_loopw [4, 15] (fun o i wr => ∃ k : Nat, k ≤ n ∧ i = .int .i64 (k : Int) ∧ Hid (OwnRect w1.heap.size wr o (jTo zs k).2 (jTo zs k).1) ∧ Hid (∀ j, j < k → jGood zs j = true) ∧ Hid (New w1 wr)) (fun _ i _ => n - (intOf i).toNat)
  case atStart => exact ⟨0, Nat.zero_le _, rfl, Lib.hid (OwnRect.nil _ _), Lib.hid (fun j h => absurd h (by omega)), Lib.hid (New.refl _)⟩
  case round =>
    obtain ⟨k, hk, rfl, HO, HA, HN⟩ := hrel
    have k0 : (0 : Int) ≤ (k : Int) := by omega
    by_cases hlt : k < n
    rotate_left
    · obtain rfl : n = k := by omega
      have E := Lib.hid (P1.out HA.out)
      have HF := Lib.hid (OwnRect.ansTK HO.out (w := w) N1.out.le (N1.out.trans HN.out))
      obtain ⟨A2, c2, rfl, -, -⟩ := HO.out.res
      go_wp2
      go_ret2
      rw [E.out.1, E.out.2]
      exact HF.out
    have k1 : (k : Int) < (n : Int) := by omega
    have KP := kept (fun j hj => OK.out j (by omega)) HA.out
    have HS := Lib.hid (jTo_step zs k)
    have HG := Lib.hid (show jGood zs k = (decide (¬ jAt (jTo zs k).1 (jTo zs k).2 (rg zs k) < (jTo zs k).2) || v4 (hu (rg (jTo zs k).1 (jAt (jTo zs k).1 (jTo zs k).2 (rg zs k))) (rg zs k))) from rfl)
    have HV := Lib.hid (v4_rg (OK.out k hlt))
    have kl := KP.len; have km := KP.le; have KO := Lib.hid KP.ok
    clear KP
    generalize jTo zs k = s at *
    obtain ⟨out, m⟩ := s
    dsimp only at kl km KO HO HG
    obtain ⟨b, off, rfl, hb, hc⟩ := HX.out.at_ (by omega)
    have g0 : wr.cell? ⟨b, off + k * 4, none⟩ = some (.int .i64 (zs.getD (k * 4) 0)) := (HN.out.cells b _ hb).trans (hc (k * 4) (by have := idx_lt (m := 4) (j := 0) hlt (by omega); omega))
    have g1 : wr.cell? ⟨b, off + k * 4 + 1, none⟩ = some (.int .i64 (zs.getD (k * 4 + 1) 0)) := (HN.out.cells b _ hb).trans (hc (k * 4 + 1) (by have := idx_lt (m := 4) (j := 1) hlt (by omega); omega))
    have g2 : wr.cell? ⟨b, off + k * 4 + 2, none⟩ = some (.int .i64 (zs.getD (k * 4 + 2) 0)) := (HN.out.cells b _ hb).trans (hc (k * 4 + 2) (by have := idx_lt (m := 4) (j := 2) hlt (by omega); omega))
    have g3 : wr.cell? ⟨b, off + k * 4 + 3, none⟩ = some (.int .i64 (zs.getD (k * 4 + 3) 0)) := (HN.out.cells b _ hb).trans (hc (k * 4 + 3) (by have := idx_lt (m := 4) (j := 3) hlt (by omega); omega))
    clear hc
    unfold rg at HV
    rw [show rg zs k = (zs.getD (k * 4) 0, zs.getD (k * 4 + 1) 0, zs.getD (k * 4 + 2) 0, zs.getD (k * 4 + 3) 0) from rfl] at HS HG
    generalize zs.getD (k * 4) 0 = r0 at g0 HS HG HV
    generalize zs.getD (k * 4 + 1) 0 = r1 at g1 HS HG HV
    generalize zs.getD (k * 4 + 2) 0 = r2 at g2 HS HG HV
    generalize zs.getD (k * 4 + 3) 0 = r3 at g3 HS HG HV
    have m6 : m ≤ 6 := by omega
    have ST := Lib.hid (fun k (h : k < n) (hh : jGood zs k = true) => allTo_step (p := jGood zs) (k := k) (h2 := hh))
    have RV := Lib.hid (Row.oneRect wr r0 r1 r2 r3 34)
    have NV := Lib.hid ((New.refl wr).alloc (.cells #[.int .i64 r0, .int .i64 r1, .int .i64 r2, .int .i64 r3] 34))
    have LK := Lib.hid kl
    have IX := Lib.hid (fun (A2 : Option Addr) (c2 : Nat) W (h : Sts 4 W A2 m out) => IndexMet_any A2 m c2 r0 r1 r2 r3 (fun j => m4 (r0, r1, r2, r3) (rg out j)) out (by omega) W h (fun W' _ j _ => meets_any r0 r1 r2 r3 _ _ _ _ W'))
    obtain ⟨A2, c2, rfl, hc2, Z2⟩ := HO.out.res
    have S2 := Lib.hid (Sts.of_res (m := 3) (Z2.new NV.out) kl)
    clear Z2 kl
    go_wp2_with fail
    refine (IX.out A2 c2 _ S2.out).mono ?_
    rintro e w2 ⟨N2, ⟨rfl, hall⟩ | ⟨at_, hat, rfl, hbe, hyes⟩⟩
    · have EJ := jAt_no hall
      have HS2 : Hid (jTo zs (k + 1) = (out ++ [r0, r1, r2, r3], m + 1)) := Lib.hid (by rw [HS.out]; unfold jStep; dsimp only; rw [EJ, if_neg (Nat.lt_irrefl _)]; rfl)
      have HA2 : Hid (∀ j, j < k + 1 → jGood zs j = true) := Lib.hid (allTo_step HA.out (by rw [HG.out, EJ, decide_eq_true (Nat.lt_irrefl _)]; rfl))
      have RV := Lib.hid (RV.out.new N2)
      have NV := Lib.hid (NV.out.trans N2)
      have HO2 := Lib.hid (HO.out.new NV.out)
      have HN2 := Lib.hid (HN.out.trans NV.out)
      obtain ⟨x0, x1, x2, x3⟩ := Row.allRect RV.out
      have zz := HN2.out.le
      clear hall EJ N2
      go_wp2_with (at_builtin; refine wp_appRect rfl _ _ rfl w1.heap.size _ m out rfl (HO2.out.alloc _) w2.heap.size r0 r1 r2 r3 rfl (Row.oneRect _ _ _ _ _ _) (by omega) (by simp; omega) ?_; intro v' w' ho hg)
      go_roundw
      case rel => exact ⟨k + 1, by omega, by go_num, by rw [HS2.out]; exact Lib.hid ho, HA2, Lib.hid (new_ownRect (HN2.out.alloc _) hg (HO2.out.alloc _) (Nat.le_refl _))⟩
      case measure => simp [intOf]; omega
    · have EJ := jAt_yes hat hbe hyes
      have p0 : 0 < m := by omega
      obtain ⟨-, hm0, -⟩ | ⟨g, c3, hv3, hg, RO, -, -⟩ := HO.out.form
      · omega
      simp only [Value.slice.injEq, true_and] at hv3
      obtain ⟨rfl, rfl⟩ := hv3
      have va := KO.out at_ hat
      have HU := Lib.hid (fun W => HullV_any (rg out at_) (r0, r1, r2, r3) va HV.out W)
      rw [EJ, decide_eq_false (by omega : ¬ ¬ at_ < m), Bool.false_or] at HG
      have HS2 : Hid (jTo zs (k + 1) = (put4 out at_ (hu (rg out at_) (r0, r1, r2, r3)), m)) := Lib.hid (by rw [HS.out]; unfold jStep; dsimp only; rw [EJ, if_pos hat])
      have RO := Lib.hid RO
      have ROa := Lib.hid (RO.out.new (NV.out.trans N2))
      have RVa := Lib.hid (RV.out.new N2)
      have NV := Lib.hid (NV.out.trans N2)
      have zg : g < wr.heap.size := RO.out.lt
      have z2 := NV.out.le
      have KF := Lib.hid (fun W (hW : New w2 W) => (⟨by have h := (ROa.out.new hW).c (at_ * 4) (by rw [LK.out]; omega); exact h, by have h := (ROa.out.new hW).c (at_ * 4 + 1) (by rw [LK.out]; omega); exact h, by have h := (ROa.out.new hW).c (at_ * 4 + 2) (by rw [LK.out]; omega); exact h, by have h := (ROa.out.new hW).c (at_ * 4 + 3) (by rw [LK.out]; omega); exact h, Row.allRect (RVa.out.new hW)⟩ : W.cell? ⟨g, at_ * 4, none⟩ = some (.int .i64 (out.getD (at_ * 4) 0)) ∧ W.cell? ⟨g, at_ * 4 + 1, none⟩ = some (.int .i64 (out.getD (at_ * 4 + 1) 0)) ∧ W.cell? ⟨g, at_ * 4 + 2, none⟩ = some (.int .i64 (out.getD (at_ * 4 + 2) 0)) ∧ W.cell? ⟨g, at_ * 4 + 3, none⟩ = some (.int .i64 (out.getD (at_ * 4 + 3) 0)) ∧ W.cell? ⟨wr.heap.size, 0, none⟩ = some (.int .i64 r0) ∧ W.cell? ⟨wr.heap.size, 1, none⟩ = some (.int .i64 r1) ∧ W.cell? ⟨wr.heap.size, 2, none⟩ = some (.int .i64 r2) ∧ W.cell? ⟨wr.heap.size, 3, none⟩ = some (.int .i64 r3)))
      have a0 : (0 : Int) ≤ (at_ : Int) := by omega
      have a1 : (at_ : Int) < (m : Int) := by omega
      unfold rg at HU HG HS2
      clear EJ hbe hyes va HS IX N2 S2
      dsimp only at HU
      generalize hy0 : out.getD (at_ * 4) 0 = y0 at KF HU HG HS2
      generalize hy1 : out.getD (at_ * 4 + 1) 0 = y1 at KF HU HG HS2
      generalize hy2 : out.getD (at_ * 4 + 2) 0 = y2 at KF HU HG HS2
      generalize hy3 : out.getD (at_ * 4 + 3) 0 = y3 at KF HU HG HS2
      clear hy0 hy1 hy2 hy3
      obtain ⟨okb, hokb⟩ : ∃ b, v4 (hu (y0, y1, y2, y3) (r0, r1, r2, r3)) = b := ⟨_, rfl⟩
      rw [hokb] at HG HU
      have HOK := Lib.hid hokb
      clear hokb
      have NC := Lib.hid (New.refl w2).drew
      have KK := KF.out _ NC.out
      have NZ := Lib.hid ((New.refl w2).alloc (.cells #[.int .i64 0, .int .i64 0, .int .i64 0, .int .i64 0] 34)).drew
      have KZ := KF.out _ NZ.out
      have RZ := Lib.hid ((Row.oneRect w2 0 0 0 0 34).new (New.refl _).drew)
      have nn : (at_ : Int) < 0 → False := fun h => by omega
      go_wp2
      go_region_held3 (fun w' => w'.cell? ⟨g, at_ * 4, none⟩ = some (.int .i64 y0) ∧ w'.cell? ⟨g, at_ * 4 + 1, none⟩ = some (.int .i64 y1) ∧ w'.cell? ⟨g, at_ * 4 + 2, none⟩ = some (.int .i64 y2) ∧ w'.cell? ⟨g, at_ * 4 + 3, none⟩ = some (.int .i64 y3) ∧ w'.cell? ⟨wr.heap.size, 0, none⟩ = some (.int .i64 r0) ∧ w'.cell? ⟨wr.heap.size, 1, none⟩ = some (.int .i64 r1) ∧ w'.cell? ⟨wr.heap.size, 2, none⟩ = some (.int .i64 r2) ∧ w'.cell? ⟨wr.heap.size, 3, none⟩ = some (.int .i64 r3))
        (first | exact KK | exact KZ | assumption | exact KF.out _ (by (repeat (first | exact New.refl _ | assumption | refine New.alloc ?_ _ | refine New.drew ?_ | refine New.drewN ?_ _ | refine New.setCell ?_ (by first | omega | (simp; omega) | (simp; done)) _ | refine New.trans ?_ (by assumption)))))
        (first
          | (go_at_call 55; with_reducible refine (HU.out w2.drew).mono ?_; rintro e wk ⟨⟨h0, h1, h2, h3, rfl, hh⟩, Nk⟩; (have KK := KF.out wk (NC.out.trans Nk)); (have NK := Lib.hid (NC.out.trans Nk)); (have HH := Lib.hid hh); clear Nk hh)
          | (go_at_call 55; with_reducible refine (HU.out (w2.alloc (.cells #[.int .i64 0, .int .i64 0, .int .i64 0, .int .i64 0] 34)).drew).mono ?_; rintro e wk ⟨⟨h0, h1, h2, h3, rfl, hh⟩, Nk⟩; (have KK := KF.out wk (NZ.out.trans Nk)); (have NK := Lib.hid (NZ.out.trans Nk)); (have HH := Lib.hid hh); (have RK := Lib.hid (RZ.out.new Nk)); (obtain ⟨k0_, k1_, k2_, k3_⟩ := Row.allRect RK.out); (have z0_ := RK.out.f 0 (by simp)); (have z1_ := RK.out.f 1 (by simp)); (have z2_ := RK.out.f 2 (by simp)); (have z3_ := RK.out.f 3 (by simp)); clear Nk hh))
      · have RH := Lib.hid (Row.oneRect wk h0 h1 h2 h3 34)
        have N7 := Lib.hid (show New w2 (wk.alloc (.cells #[.int .i64 h0, .int .i64 h1, .int .i64 h2, .int .i64 h3] 34)) from NK.out.alloc _)
        clear KK KZ
        generalize (wk.alloc (.cells #[.int .i64 h0, .int .i64 h1, .int .i64 h2, .int .i64 h3] 34)) = W7 at RH N7 ⊢
        have RO7 := Lib.hid (RO.out.new (NV.out.trans N7.out))
        have HO7 := Lib.hid (HO.out.new (NV.out.trans N7.out))
        have HN7 := Lib.hid (HN.out.trans (NV.out.trans N7.out))
        have HNN := Lib.hid (N1.out.trans HN7.out)
        obtain ⟨x0, x1, x2, x3⟩ := Row.allRect RH.out
        have z7 := HN7.out.le
        have g7 := RO7.out.lt
        have c0 := RO7.out.c (at_ * 4) (by rw [LK.out]; omega)
        have f0 := RO7.out.f (at_ * 4) (by rw [LK.out]; omega)
        have c1 := RO7.out.c (at_ * 4 + 1) (by rw [LK.out]; omega)
        have f1 := RO7.out.f (at_ * 4 + 1) (by rw [LK.out]; omega)
        have c2 := RO7.out.c (at_ * 4 + 2) (by rw [LK.out]; omega)
        have f2 := RO7.out.f (at_ * 4 + 2) (by rw [LK.out]; omega)
        have c3 := RO7.out.c (at_ * 4 + 3) (by rw [LK.out]; omega)
        have f3 := RO7.out.f (at_ * 4 + 3) (by rw [LK.out]; omega)
        cases okb
        · have EE := Lib.hid (P2.out k hlt HG.out)
          go_wp2
          go_ret2
          rw [EE.out.1, EE.out.2]
          exact AnsTK.no rfl HNN.out
        · have eh := HH.out rfl
          have HS3 := Lib.hid (HS2.out.trans (by rw [eh] : _ = (put4 out at_ (h0, h1, h2, h3), m)))
          have HA2 : Hid (∀ j, j < k + 1 → jGood zs j = true) := Lib.hid (allTo_step HA.out HG.out)
          clear eh
          go_wp2
          go_roundw
          case rel => exact ⟨k + 1, by omega, by go_num, by rw [HS3.out]; exact Lib.hid (HO7.out.put at_ (h0, h1, h2, h3)), HA2, Lib.hid ((((HN7.out.setCell hg _).setCell hg _).setCell hg _).setCell hg _)⟩
          case measure => simp [intOf]; omega
      · have RH := Lib.hid (Row.four4 RK.out h0 h1 h2 h3)
        have N7 := Lib.hid (show New w2 ((((wk.setCell ⟨w2.heap.size, 0, none⟩ (.int .i64 h0)).setCell ⟨w2.heap.size, 1, none⟩ (.int .i64 h1)).setCell ⟨w2.heap.size, 2, none⟩ (.int .i64 h2)).setCell ⟨w2.heap.size, 3, none⟩ (.int .i64 h3)) from (((NK.out.setCell (Nat.le_refl _) _).setCell (Nat.le_refl _) _).setCell (Nat.le_refl _) _).setCell (Nat.le_refl _) _)
        clear KK KZ k0_ k1_ k2_ k3_ z0_ z1_ z2_ z3_
        generalize ((((wk.setCell ⟨w2.heap.size, 0, none⟩ (.int .i64 h0)).setCell ⟨w2.heap.size, 1, none⟩ (.int .i64 h1)).setCell ⟨w2.heap.size, 2, none⟩ (.int .i64 h2)).setCell ⟨w2.heap.size, 3, none⟩ (.int .i64 h3)) = W7 at RH N7 ⊢
        have RO7 := Lib.hid (RO.out.new (NV.out.trans N7.out))
        have HO7 := Lib.hid (HO.out.new (NV.out.trans N7.out))
        have HN7 := Lib.hid (HN.out.trans (NV.out.trans N7.out))
        have HNN := Lib.hid (N1.out.trans HN7.out)
        obtain ⟨x0, x1, x2, x3⟩ := Row.allRect RH.out
        have z7 := HN7.out.le
        have g7 := RO7.out.lt
        have c0 := RO7.out.c (at_ * 4) (by rw [LK.out]; omega)
        have f0 := RO7.out.f (at_ * 4) (by rw [LK.out]; omega)
        have c1 := RO7.out.c (at_ * 4 + 1) (by rw [LK.out]; omega)
        have f1 := RO7.out.f (at_ * 4 + 1) (by rw [LK.out]; omega)
        have c2 := RO7.out.c (at_ * 4 + 2) (by rw [LK.out]; omega)
        have f2 := RO7.out.f (at_ * 4 + 2) (by rw [LK.out]; omega)
        have c3 := RO7.out.c (at_ * 4 + 3) (by rw [LK.out]; omega)
        have f3 := RO7.out.f (at_ * 4 + 3) (by rw [LK.out]; omega)
        cases okb
        · have EE := Lib.hid (P2.out k hlt HG.out)
          go_wp2
          go_ret2
          rw [EE.out.1, EE.out.2]
          exact AnsTK.no rfl HNN.out
        · have eh := HH.out rfl
          have HS3 := Lib.hid (HS2.out.trans (by rw [eh] : _ = (put4 out at_ (h0, h1, h2, h3), m)))
          have HA2 : Hid (∀ j, j < k + 1 → jGood zs j = true) := Lib.hid (allTo_step HA.out HG.out)
          clear eh
          go_wp2
          go_roundw
          case rel => exact ⟨k + 1, by omega, by go_num, by rw [HS3.out]; exact Lib.hid (HO7.out.put at_ (h0, h1, h2, h3)), HA2, Lib.hid ((((HN7.out.setCell hg _).setCell hg _).setCell hg _).setCell hg _)⟩
          case measure => simp [intOf]; omega
theorem JoinPaint_ansT (A : Option Addr) (n c : Nat) (zs : List Int) (hn : n ≤ 1048576) (w : World) (hx : Sts 4 w A n zs) :
    Calls Try.prog 30 #[.slice A n c] w (AnsT 4 w (jB n zs) (jA n zs)) :=
  (JoinPaint_ansK A n c zs hn w hx).mono fun _ _ h => h.ansT
end Go.Proofs.Ytckdokijmlpngaa
