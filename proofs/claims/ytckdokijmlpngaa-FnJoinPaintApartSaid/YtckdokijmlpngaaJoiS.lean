/- Rectangles that are joined where they meet: JoinPaint of the reference, walked. Condition: the row can be read. -/
import Derived.Test.YtckdokijmlpngaaJoiI
namespace Go.Proofs.Ytckdokijmlpngaa
open Go.RowKit

def AnyRB (e : Ending) : Prop := ∃ (x y z h : Int) (b : Bool), e = .returned (.tuple #[rc x y z h, .bool b])
theorem AnyRB.of (x y z h : Int) (b : Bool) : AnyRB (.returned (.tuple #[rc x y z h, .bool b])) := ⟨x, y, z, h, b, rfl⟩
def AnyB (e : Ending) : Prop := ∃ b : Bool, e = .returned (.bool b)
theorem AnyB.of (b : Bool) : AnyB (.returned (.bool b)) := ⟨b, rfl⟩
set_option maxHeartbeats 800000 in
theorem smeetW_any (ax ay aw ah bx by' bw bh : Int) (w : World) :
    Calls Try.prog 71 #[rc ax ay aw ah, rc bx by' bw bh] w fun e w' => AnyRB e ∧ New w w' := by
  have hmx := run_mx Try.prog
  have hmn := run_mn Try.prog
  go_enter Try.func71, Try.ntmps71
  go_wp2
  all_goals (go_returns; exact ⟨AnyRB.of _ _ _ _ _, by (repeat (first | exact New.refl _ | assumption | refine New.alloc ?_ _ | refine New.drew ?_ | refine New.drewN ?_ _ | refine New.setCell ?_ (by first | omega | (simp; omega) | (simp; done)) _ | refine New.trans ?_ (by assumption)))⟩)
set_option maxHeartbeats 800000 in
theorem shullA_any (ax ay aw ah bx by' bw bh : Int) (w : World) :
    Calls Try.prog 44 #[rc ax ay aw ah, rc bx by' bw bh] w fun e w' => (∃ x y z h : Int, e = .returned (rc x y z h)) ∧ New w w' := by
  have hmx := run_mx Try.prog
  have hmn := run_mn Try.prog
  go_enter Try.func44, Try.ntmps44
  go_wp2
  go_returns
  exact ⟨⟨_, _, _, _, rfl⟩, by (repeat (first | exact New.refl _ | assumption | refine New.alloc ?_ _ | refine New.drew ?_ | refine New.drewN ?_ _ | refine New.setCell ?_ (by first | omega | (simp; omega) | (simp; done)) _ | refine New.trans ?_ (by assumption)))⟩
set_option maxHeartbeats 800000 in
theorem smeetsW_any (ax ay aw ah bx by' bw bh : Int) (w : World) :
    Calls Try.prog 52 #[rc ax ay aw ah, rc bx by' bw bh] w fun e w' => AnyB e ∧ New w w' := by
  go_enter Try.func52, Try.ntmps52
  go_wp2_with (go_at_call 71; refine (smeetW_any _ _ _ _ _ _ _ _ _).mono ?_; rintro e w1 ⟨⟨x, y, z, h, b, rfl⟩, N1⟩; have z1 := N1.le)
  go_ret
  exact ⟨AnyB.of _, New.trans (by (repeat (first | exact New.refl _ | assumption | refine New.alloc ?_ _ | refine New.drew ?_ | refine New.drewN ?_ _ | refine New.setCell ?_ (by first | omega | (simp; omega) | (simp; done)) _ | refine New.trans ?_ (by assumption)))) (N1.trans (by (repeat (first | exact New.refl _ | assumption | refine New.alloc ?_ _ | refine New.drew ?_ | refine New.drewN ?_ _ | refine New.setCell ?_ (by first | omega | (simp; omega) | (simp; done)) _ | refine New.trans ?_ (by assumption)))))⟩
theorem Row.put4 {w : World} {g j : Nat} {zs : List Int} (h : Row w g zs) (hj : j * 4 + 3 < zs.length) (r : R4) :
    Row ((((w.setCell ⟨g, j * 4, none⟩ (.int .i64 r.1)).setCell ⟨g, j * 4 + 1, none⟩ (.int .i64 r.2.1)).setCell ⟨g, j * 4 + 2, none⟩ (.int .i64 r.2.2.1)).setCell ⟨g, j * 4 + 3, none⟩ (.int .i64 r.2.2.2)) g (Go.Proofs.Ytckdokijmlpngaa.put4 zs j r) := by
  unfold Go.Proofs.Ytckdokijmlpngaa.put4
  exact (((h.set_ (by omega) _).set_ (by simp; omega) _).set_ (by simp; omega) _).set_ (by simp; omega) _
set_option maxHeartbeats 800000 in
theorem smeetsV_any (a r : R4) (va : v4 a = true) (vr : v4 r = true) (w : World) :
    Calls Try.prog 52 #[rc a.1 a.2.1 a.2.2.1 a.2.2.2, rc r.1 r.2.1 r.2.2.1 r.2.2.2] w fun e w' => e = .returned (.bool (m4 r a)) ∧ New w w' := by
  have e0 : m4 r a = (decide (0 < mW a.1 a.2.2.1 r.1 r.2.2.1) && decide (0 < mW a.2.1 a.2.2.2 r.2.1 r.2.2.2)) := by
    rw [m4_comm]
    unfold m4 mOk
    rw [show vR a.1 a.2.1 a.2.2.1 a.2.2.2 = true from va, show vR r.1 r.2.1 r.2.2.1 r.2.2.2 = true from vr]
    rfl
  have E0 := Lib.hid e0
  have VA : Hid (vR a.1 a.2.1 a.2.2.1 a.2.2.2 = true) := Lib.hid va
  have VR : Hid (vR r.1 r.2.1 r.2.2.1 r.2.2.2 = true) := Lib.hid vr
  clear e0 va vr
  go_enter Try.func52, Try.ntmps52
  go_wp2_with (go_at_call 71; refine (smeet_any _ _ _ _ _ _ _ _ _ VA.out VR.out).mono ?_; rintro e w1 ⟨rfl, N1⟩; have z1 := N1.le)
  go_ret
  exact ⟨ret_bool E0.out.symm, New.trans (by (repeat (first | exact New.refl _ | assumption | refine New.alloc ?_ _ | refine New.drew ?_ | refine New.drewN ?_ _ | refine New.setCell ?_ (by first | omega | (simp; omega) | (simp; done)) _ | refine New.trans ?_ (by assumption)))) (N1.trans (by (repeat (first | exact New.refl _ | assumption | refine New.alloc ?_ _ | refine New.drew ?_ | refine New.drewN ?_ _ | refine New.setCell ?_ (by first | omega | (simp; omega) | (simp; done)) _ | refine New.trans ?_ (by assumption)))))⟩
/-- Whether two rectangles meet: told where both are valid. -/
theorem smeetsC_any (a r : R4) (va : v4 a = true) (w : World) :
    Calls Try.prog 52 #[rc a.1 a.2.1 a.2.2.1 a.2.2.2, rc r.1 r.2.1 r.2.2.1 r.2.2.2] w fun e w' => (∃ b : Bool, e = .returned (.bool b) ∧ (v4 r = true → m4 r a = b)) ∧ New w w' := by
  by_cases vr : v4 r = true
  · exact (smeetsV_any a r va vr w).mono fun e w' ⟨he, hN⟩ => ⟨⟨_, he, fun _ => rfl⟩, hN⟩
  · exact (smeetsW_any _ _ _ _ _ _ _ _ w).mono fun e w' ⟨⟨b, he⟩, hN⟩ => ⟨⟨b, he, fun h => absurd h vr⟩, hN⟩
theorem shullC_any (a r : R4) (va : v4 a = true) (w : World) :
    Calls Try.prog 44 #[rc a.1 a.2.1 a.2.2.1 a.2.2.2, rc r.1 r.2.1 r.2.2.1 r.2.2.2] w fun e w' => (∃ x y z h : Int, e = .returned (rc x y z h) ∧ (v4 r = true → hu a r = (x, y, z, h))) ∧ New w w' := by
  by_cases vr : v4 r = true
  · exact (shull_any a.1 a.2.1 a.2.2.1 a.2.2.2 r.1 r.2.1 r.2.2.1 r.2.2.2 w va vr).mono fun e w' ⟨he, hN⟩ => ⟨⟨_, _, _, _, he, fun _ => rfl⟩, hN⟩
  · exact (shullA_any _ _ _ _ _ _ _ _ w).mono fun e w' ⟨⟨x, y, z, h, he⟩, hN⟩ => ⟨⟨x, y, z, h, he, fun h => absurd h vr⟩, hN⟩
set_option maxRecDepth 100000 in
set_option maxHeartbeats 4000000 in
theorem SJoinPaint_ansT (A : Option Addr) (n c : Nat) (zs : List Int) (hn : n ≤ 1048576) (w : World) (hx : Sts 4 w A n zs) :
    Calls Try.prog 29 #[.slice A n c] w (AnsT 4 w (jB n zs) (jA n zs)) := by
  have HX := Lib.hid hx
  clear hx
  by_cases h6 : (n : Int) ≤ 6
  rotate_left
  · have E := Lib.hid (jB_no1 (show rsB 6 n zs = false by unfold rsB; rw [decide_eq_false h6, Bool.false_and]))
    have E2 := Lib.hid (jA_no E.out)
    have h7 : (6 : Int) < (n : Int) := by omega
    go_enter Try.func29, Try.ntmps29
    go_wp2
    go_ret2
    rw [E.out, E2.out]
    exact AnsT.no rfl (by (repeat (first | exact New.refl _ | assumption | refine New.alloc ?_ _ | refine New.drew ?_ | refine New.drewN ?_ _ | refine New.setCell ?_ (by first | omega | (simp; omega) | (simp; done)) _ | refine New.trans ?_ (by assumption))))
  have d6 : decide ((6 : Int) < (n : Int)) = false := decide_eq_false (by omega)
  have P2 := Lib.hid (fun k (hk : k < n) (h : jGood zs k = false) => (⟨jB_no2 hk h, jA_no (jB_no2 hk h)⟩ : jB n zs = false ∧ jA n zs = []))
  have P3 := Lib.hid (fun k (hk : k < n) (h : rOk zs k = false) => (⟨jB_no3 hk h, jA_no (jB_no3 hk h)⟩ : jB n zs = false ∧ jA n zs = []))
  have P1 := Lib.hid (fun (h0 : ∀ k, k < n → rOk zs k = true) (h : ∀ k, k < n → jGood zs k = true) => (⟨jB_iff.2 ⟨h6, h0, h⟩, jA_yes (jB_iff.2 ⟨h6, h0, h⟩)⟩ : jB n zs = true ∧ jA n zs = (jTo zs n).1))
  have N1 := Lib.hid ((New.refl w).alloc (.cells #[] 34))
  have O1 := Lib.hid (OwnRect.empty (lo := w.heap.size) w (Nat.le_refl _))
  go_enter Try.func29, Try.ntmps29
  go_wp2
  go_loopw [4, 5] (fun o i wr => ∃ k : Nat, k ≤ n ∧ i = .int .i64 (k : Int) ∧ Hid (OwnRect w.heap.size wr o (jTo zs k).2 (jTo zs k).1) ∧ Hid (∀ j, j < k → rOk zs j = true) ∧ Hid (∀ j, j < k → jGood zs j = true) ∧ Hid (New w wr)) (fun _ i _ => n - (intOf i).toNat)
  case atStart => exact ⟨0, Nat.zero_le _, rfl, O1, Lib.hid (fun j h => absurd h (by omega)), Lib.hid (fun j h => absurd h (by omega)), N1⟩
  case round =>
    obtain ⟨w1, rfl⟩ : ∃ x, x = wr := ⟨wr, rfl⟩
    obtain ⟨k, hk, rfl, HO, HR, HA, HN⟩ := hrel
    clear O1 N1
    have k0 : (0 : Int) ≤ (k : Int) := by omega
    by_cases hlt : k < n
    rotate_left
    · obtain rfl : n = k := by omega
      have E := Lib.hid (P1.out HR.out HA.out)
      have HF := Lib.hid (OwnRect.ansT HO.out (w := w) (Nat.le_refl _) HN.out)
      obtain ⟨A2, c2, rfl, -, -⟩ := HO.out.res
      go_wp2
      go_ret2
      rw [E.out.1, E.out.2]
      exact HF.out
    have k1 : (k : Int) < (n : Int) := by omega
    have KP := kept HR.out HA.out
    have HS := Lib.hid (jTo_step zs k)
    have HG := Lib.hid (show jGood zs k = (decide (¬ jAt (jTo zs k).1 (jTo zs k).2 (rg zs k) < (jTo zs k).2) || v4 (hu (rg (jTo zs k).1 (jAt (jTo zs k).1 (jTo zs k).2 (rg zs k))) (rg zs k))) from rfl)
    have HV := Lib.hid (show rOk zs k = v4 (rg zs k) from rfl)
    have kl := KP.len; have km := KP.le; have KO := Lib.hid KP.ok
    clear KP
    generalize jTo zs k = s at *
    obtain ⟨out, m⟩ := s
    dsimp only at kl km KO HO HG
    obtain ⟨b, off, rfl, hb, hc⟩ := HX.out.at_ (by omega)
    have CELL := Lib.hid (fun W (hW : New w W) => (⟨(hW.cells b _ hb).trans (hc (k * 4) (by have := idx_lt (m := 4) (j := 0) hlt (by omega); omega)), (hW.cells b _ hb).trans (hc (k * 4 + 1) (by have := idx_lt (m := 4) (j := 1) hlt (by omega); omega)), (hW.cells b _ hb).trans (hc (k * 4 + 2) (by have := idx_lt (m := 4) (j := 2) hlt (by omega); omega)), (hW.cells b _ hb).trans (hc (k * 4 + 3) (by have := idx_lt (m := 4) (j := 3) hlt (by omega); omega))⟩ : W.cell? ⟨b, off + k * 4, none⟩ = some (.int .i64 (zs.getD (k * 4) 0)) ∧ W.cell? ⟨b, off + k * 4 + 1, none⟩ = some (.int .i64 (zs.getD (k * 4 + 1) 0)) ∧ W.cell? ⟨b, off + k * 4 + 2, none⟩ = some (.int .i64 (zs.getD (k * 4 + 2) 0)) ∧ W.cell? ⟨b, off + k * 4 + 3, none⟩ = some (.int .i64 (zs.getD (k * 4 + 3) 0))))
    clear hc
    rw [show rg zs k = (zs.getD (k * 4) 0, zs.getD (k * 4 + 1) 0, zs.getD (k * 4 + 2) 0, zs.getD (k * 4 + 3) 0) from rfl] at HS HG HV
    generalize zs.getD (k * 4) 0 = r0 at CELL HS HG HV
    generalize zs.getD (k * 4 + 1) 0 = r1 at CELL HS HG HV
    generalize zs.getD (k * 4 + 2) 0 = r2 at CELL HS HG HV
    generalize zs.getD (k * 4 + 3) 0 = r3 at CELL HS HG HV
    have m6 : m ≤ 6 := by omega
    have m6i : (m : Int) ≤ 6 := by omega
    have ST := Lib.hid (fun (hh : jGood zs k = true) => allTo_step HA.out hh)
    have SR := Lib.hid (fun (hh : rOk zs k = true) => allTo_step HR.out hh)
    have LK := Lib.hid kl
    have FV := Lib.hid (HO.out.form)
    clear kl
    obtain ⟨A2, c2, rfl, hc2, -⟩ := HO.out.res
    go_wp2
    go_loopw [6] (fun i wr => ∃ j : Nat, j ≤ m ∧ i = .int .i64 (j : Int) ∧ Hid (v4 (r0, r1, r2, r3) = true → ∀ i, i < j → m4 (r0, r1, r2, r3) (rg out i) = false) ∧ Hid (New w1 wr)) (fun i _ => m - (intOf i).toNat)
    case atStart => exact ⟨0, Nat.zero_le _, rfl, Lib.hid (fun _ i h => absurd h (by omega)), Lib.hid (New.refl _)⟩
    case round =>
      obtain ⟨j, hj, rfl, HB, HM⟩ := hrel
      have j0 : (0 : Int) ≤ (j : Int) := by omega
      by_cases jlt : j < m
      · have j1 : (j : Int) < (m : Int) := by omega
        obtain ⟨-, hm0, -⟩ | ⟨g, c3, hv3, hg, RO, -, -⟩ := FV.out
        · omega
        simp only [Value.slice.injEq, true_and] at hv3
        obtain ⟨rfl, rfl⟩ := hv3
        have va := KO.out j jlt
        have SM := Lib.hid (fun W => smeetsC_any (rg out j) (r0, r1, r2, r3) va W)
        have SH := Lib.hid (fun W => shullC_any (rg out j) (r0, r1, r2, r3) va W)
        have RO := Lib.hid RO
        have OE := Lib.hid (show rg out j = (out.getD (j * 4) 0, out.getD (j * 4 + 1) 0, out.getD (j * 4 + 2) 0, out.getD (j * 4 + 3) 0) from rfl)
        have KG := Lib.hid (fun W (hW : New w1 W) => (⟨by have h := (RO.out.new hW).c (j * 4) (by rw [LK.out]; omega); exact h, by have h := (RO.out.new hW).c (j * 4 + 1) (by rw [LK.out]; omega); exact h, by have h := (RO.out.new hW).c (j * 4 + 2) (by rw [LK.out]; omega); exact h, by have h := (RO.out.new hW).c (j * 4 + 3) (by rw [LK.out]; omega); exact h⟩ : W.cell? ⟨g, j * 4, none⟩ = some (.int .i64 (out.getD (j * 4) 0)) ∧ W.cell? ⟨g, j * 4 + 1, none⟩ = some (.int .i64 (out.getD (j * 4 + 1) 0)) ∧ W.cell? ⟨g, j * 4 + 2, none⟩ = some (.int .i64 (out.getD (j * 4 + 2) 0)) ∧ W.cell? ⟨g, j * 4 + 3, none⟩ = some (.int .i64 (out.getD (j * 4 + 3) 0))))
        rw [OE.out] at SM SH va
        generalize hy0 : out.getD (j * 4) 0 = y0 at KG SM SH OE va
        generalize hy1 : out.getD (j * 4 + 1) 0 = y1 at KG SM SH OE va
        generalize hy2 : out.getD (j * 4 + 2) 0 = y2 at KG SM SH OE va
        generalize hy3 : out.getD (j * 4 + 3) 0 = y3 at KG SM SH OE va
        clear hy0 hy1 hy2 hy3
        dsimp only at SM SH
        have NC := Lib.hid HM.out.drew
        have K1 := CELL.out _ (HN.out.trans NC.out)
        have K2 := KG.out _ NC.out
        go_wp2
        go_region_held3 (fun w' => (w'.cell? ⟨b, off + k * 4, none⟩ = some (.int .i64 r0) ∧ w'.cell? ⟨b, off + k * 4 + 1, none⟩ = some (.int .i64 r1) ∧ w'.cell? ⟨b, off + k * 4 + 2, none⟩ = some (.int .i64 r2) ∧ w'.cell? ⟨b, off + k * 4 + 3, none⟩ = some (.int .i64 r3)) ∧ w'.cell? ⟨g, j * 4, none⟩ = some (.int .i64 y0) ∧ w'.cell? ⟨g, j * 4 + 1, none⟩ = some (.int .i64 y1) ∧ w'.cell? ⟨g, j * 4 + 2, none⟩ = some (.int .i64 y2) ∧ w'.cell? ⟨g, j * 4 + 3, none⟩ = some (.int .i64 y3))
          (first | exact ⟨K1, K2⟩ | assumption)
          ((go_at_call 52; refine (SM.out _).mono ?_; rintro e wk ⟨⟨bo, rfl, hbo⟩, Nk⟩; (replace NC := Lib.hid (NC.out.trans Nk)); (have K1 := CELL.out wk (HN.out.trans NC.out)); (have K2 := KG.out wk NC.out); (have HBO := Lib.hid hbo); clear Nk hbo))
        clear SM K1 K2 HM
        cases bo
        · have HB2 : Hid (v4 (r0, r1, r2, r3) = true → ∀ i, i < j + 1 → m4 (r0, r1, r2, r3) (rg out i) = false) := Lib.hid (fun hv i hi => by
            by_cases e : i = j
            · subst e; rw [OE.out]; exact HBO.out hv
            · exact HB.out hv i (by omega))
          go_wp2
          go_roundw
          case rel => exact ⟨j + 1, by omega, by go_num, HB2, NC⟩
          case measure => simp [intOf]; omega
        · have HW := Lib.hid (HN.out.trans NC.out)
          have RO2 := Lib.hid (RO.out.new NC.out)
          have HO2 := Lib.hid (HO.out.new NC.out)
          have zg := RO2.out.lt
          have zw := HW.out.le
          go_wp2
          have NW := Lib.hid ((New.refl wk).drew)
          have K1 := CELL.out _ (HW.out.trans NW.out)
          have K2 := KG.out _ (NC.out.trans NW.out)
          obtain ⟨p0, p1, p2, p3⟩ := K2
          have f0 := (RO2.out.new NW.out).f (j * 4) (by rw [LK.out]; omega)
          have f1 := (RO2.out.new NW.out).f (j * 4 + 1) (by rw [LK.out]; omega)
          have f2 := (RO2.out.new NW.out).f (j * 4 + 2) (by rw [LK.out]; omega)
          have f3 := (RO2.out.new NW.out).f (j * 4 + 3) (by rw [LK.out]; omega)
          refine wp_region_noPanic ?_
          refine wp_region_held_drew (S := fun w' => w'.cell? ⟨b, off + k * 4, none⟩ = some (.int .i64 r0) ∧ w'.cell? ⟨b, off + k * 4 + 1, none⟩ = some (.int .i64 r1) ∧ w'.cell? ⟨b, off + k * 4 + 2, none⟩ = some (.int .i64 r2) ∧ w'.cell? ⟨b, off + k * 4 + 3, none⟩ = some (.int .i64 r3)) (by kernel_rfl) ?_ (fun hHeld => ?_)
          · (first | exact K1 | exact CELL.out _ (by assumption) | exact CELL.out _ (HW.out.trans NW.out) | exact CELL.out _ (by { repeat (first | exact (HW.out.trans NW.out) | refine New.setCell ?_ (by first | exact hg | first | omega | (simp; omega) | (simp; done)) _) }))
          refine wpAnyH_take (i := 0) (oi := _) (v := ?_) rfl (by kernel_rfl) (by kernel_rfl) (by kernel_rfl) (fun _ _ _ h => h) (Or.inl ⟨by rfl, ?_⟩) (by assumption) ?_
          rotate_left; (intro w' hSw; (try dsimp only at hSw); go_split_ands; go_simp; (try with_reducible rfl))
          try simp only [Act.put, List.setIfInBounds_toArray]
          refine wpAnyH_take (i := 1) (oi := _) (v := ?_) rfl (by kernel_rfl) (by kernel_rfl) (by kernel_rfl) (fun _ _ _ h => h) (Or.inl ⟨by rfl, ?_⟩) (by assumption) ?_
          rotate_left; (intro w' hSw; (try dsimp only at hSw); go_split_ands; go_simp; (try with_reducible rfl))
          try simp only [Act.put]
          refine wpAnyH_take (i := 2) (oi := _) (v := ?_) rfl (by kernel_rfl) (by kernel_rfl) (by kernel_rfl) (fun _ _ _ h => h) (Or.inl ⟨by rfl, ?_⟩) (by assumption) ?_
          rotate_left; (intro w' hSw; (try dsimp only at hSw); go_split_ands; go_simp; (try with_reducible rfl))
          try simp only [Act.put]
          refine wpAnyH_take (i := 3) (oi := _) (v := ?_) rfl (by kernel_rfl) (by kernel_rfl) (by kernel_rfl) (fun _ _ _ h => h) (Or.inl ⟨by rfl, ?_⟩) (by assumption) ?_
          rotate_left; (intro w' hSw; (try dsimp only at hSw); go_split_ands; go_simp; (try with_reducible rfl))
          try simp only [Act.put]
          refine wpAnyH_take (i := 4) (oi := _) (v := ?_) rfl (by kernel_rfl) (by kernel_rfl) (by kernel_rfl) (fun _ _ _ h => h) (Or.inl ⟨by rfl, ?_⟩) (by assumption) ?_
          rotate_left; (intro w' hSw; (try dsimp only at hSw); go_split_ands; go_simp; (try with_reducible rfl))
          try simp only [Act.put]
          refine wpAnyH_take (i := 6) (oi := _) (v := ?_) rfl (by kernel_rfl) (by kernel_rfl) (by kernel_rfl) (fun _ _ _ h => h) (Or.inl ⟨by rfl, ?_⟩) (by assumption) ?_
          rotate_left; (intro w' hSw; (try dsimp only at hSw); go_split_ands; go_simp; (try with_reducible rfl))
          try simp only [Act.put]
          refine wpAnyH_take (i := 7) (oi := _) (v := ?_) rfl (by kernel_rfl) (by kernel_rfl) (by kernel_rfl) (fun _ _ _ h => h) (Or.inl ⟨by rfl, ?_⟩) (by assumption) ?_
          rotate_left; (intro w' hSw; (try dsimp only at hSw); go_split_ands; go_simp; (try with_reducible rfl))
          try simp only [Act.put]
          refine wpAnyH_take (i := 8) (oi := _) (v := ?_) rfl (by kernel_rfl) (by kernel_rfl) (by kernel_rfl) (fun _ _ _ h => h) (Or.inl ⟨by rfl, ?_⟩) (by assumption) ?_
          rotate_left; (intro w' hSw; (try dsimp only at hSw); go_split_ands; go_simp; (try with_reducible rfl))
          try simp only [Act.put]
          refine wpAnyH_take (i := 9) (oi := _) (v := ?_) rfl (by kernel_rfl) (by kernel_rfl) (by kernel_rfl) (fun _ _ _ h => h) (Or.inl ⟨by rfl, ?_⟩) (by assumption) ?_
          rotate_left; (intro w' hSw; (try dsimp only at hSw); go_split_ands; go_simp; (try with_reducible rfl))
          try simp only [Act.put]
          refine wpAnyH_ready (rs := [5]) (by kernel_rfl) (by simp) ?_
          refine AllReadyH.cons (o := _) rfl (fun K hK => ?_) AllReadyH.nil
          go_simp
          refine hK.out _ _ ?_ (fun hH5 => ?_)
          · (first | exact K1 | exact CELL.out _ (by assumption) | exact CELL.out _ (HW.out.trans NW.out) | exact CELL.out _ (by { repeat (first | exact (HW.out.trans NW.out) | refine New.setCell ?_ (by first | exact hg | first | omega | (simp; omega) | (simp; done)) _) }))
          clear hK K
          try simp only [Act.put, List.setIfInBounds_toArray, List.set_cons_zero, List.set_cons_succ]
          refine wpAnyH_ready (rs := [10]) (by kernel_rfl) (by simp) ?_
          refine AllReadyH.cons (o := _) rfl (fun K hK => ?_) AllReadyH.nil
          go_simp
          ((go_at_call 44; refine (SH.out _).mono ?_; rintro e w5 ⟨⟨h0, h1, h2, h3, rfl, hh⟩, h5⟩; (have p0 := (h5.cells g _ zg).trans p0); (have p1 := (h5.cells g _ zg).trans p1); (have p2 := (h5.cells g _ zg).trans p2); (have p3 := (h5.cells g _ zg).trans p3); (have f0 := (h5.marks g _ zg).trans f0); (have f1 := (h5.marks g _ zg).trans f1); (have f2 := (h5.marks g _ zg).trans f2); (have f3 := (h5.marks g _ zg).trans f3); (replace NW := Lib.hid (NW.out.trans h5)); (have HH := Lib.hid hh); clear h5 hh))
          go_wp2_with fail
          refine hK.out _ _ ?_ (fun hH10 => ?_)
          · (first | exact K1 | exact CELL.out _ (by assumption) | exact CELL.out _ (HW.out.trans NW.out) | exact CELL.out _ (by { repeat (first | exact (HW.out.trans NW.out) | refine New.setCell ?_ (by first | exact hg | first | omega | (simp; omega) | (simp; done)) _) }))
          clear hK K
          try simp only [Act.put, List.setIfInBounds_toArray, List.set_cons_zero, List.set_cons_succ]
          refine wpAnyH_take (i := 11) (oi := _) (v := ?_) rfl (by kernel_rfl) (by kernel_rfl) (by kernel_rfl) (fun _ _ _ h => h) (Or.inl ⟨by rfl, ?_⟩) (by assumption) ?_
          rotate_left; (intro w' hSw; (try dsimp only at hSw); go_split_ands; go_simp; (try with_reducible rfl))
          try simp only [Act.put, List.setIfInBounds_toArray]
          refine wpAnyH_ready (rs := [12]) (by kernel_rfl) (by simp) ?_
          refine AllReadyH.cons (o := _) rfl (fun K hK => ?_) AllReadyH.nil
          go_simp
          refine hK.out _ _ ?_ (fun hH12 => ?_)
          · (first | exact K1 | exact CELL.out _ (by assumption) | exact CELL.out _ (HW.out.trans NW.out) | exact CELL.out _ (by { repeat (first | exact (HW.out.trans NW.out) | refine New.setCell ?_ (by first | exact hg | first | omega | (simp; omega) | (simp; done)) _) }))
          clear hK K
          try simp only [Act.put, List.setIfInBounds_toArray, List.set_cons_zero, List.set_cons_succ]
          refine wpAnyH_done (by kernel_rfl) ?_ _
          refine NoPanic.normal ?_
          clear p0 p1 p2 p3 f0 f1 f2 f3
          have RO7 := Lib.hid (Row.put4 (RO2.out.new NW.out) (show j * 4 + 3 < out.length by rw [LK.out]; omega) (h0, h1, h2, h3))
          have HO7 := Lib.hid ((HO2.out.new NW.out).put j (h0, h1, h2, h3))
          have N7 := Lib.hid (((((HW.out.trans NW.out).setCell hg (.int .i64 h0) (p := ⟨g, j * 4, none⟩)).setCell hg (.int .i64 h1) (p := ⟨g, j * 4 + 1, none⟩)).setCell hg (.int .i64 h2) (p := ⟨g, j * 4 + 2, none⟩)).setCell hg (.int .i64 h3) (p := ⟨g, j * 4 + 3, none⟩))
          have K7 := CELL.out _ N7.out
          dsimp only at RO7 HO7 N7
          generalize (((w5.setCell ⟨g, j * 4, none⟩ (.int .i64 h0)).setCell ⟨g, j * 4 + 1, none⟩ (.int .i64 h1)).setCell ⟨g, j * 4 + 2, none⟩ (.int .i64 h2)).setCell ⟨g, j * 4 + 3, none⟩ (.int .i64 h3) = W7 at RO7 HO7 N7 K7 ⊢
          obtain ⟨l0, l1, l2, l3⟩ := K7
          have PS := put4_same (out := out) (j := j) (h0, h1, h2, h3) (by rw [LK.out]; omega)
          unfold rg at PS
          simp only [Prod.mk.injEq] at PS
          obtain ⟨e0, e1, e2, e3⟩ := PS
          have x0 := RO7.out.c (j * 4) (by rw [put4_len, LK.out]; omega)
          have x1 := RO7.out.c (j * 4 + 1) (by rw [put4_len, LK.out]; omega)
          have x2 := RO7.out.c (j * 4 + 2) (by rw [put4_len, LK.out]; omega)
          have x3 := RO7.out.c (j * 4 + 3) (by rw [put4_len, LK.out]; omega)
          rw [e0] at x0; rw [e1] at x1; rw [e2] at x2; rw [e3] at x3
          have z7 := RO7.out.lt
          have z7b := Nat.lt_of_lt_of_le hb N7.out.le
          clear e0 e1 e2 e3 K1
          cases hv : vR r0 r1 r2 r3
          · have EE := Lib.hid (P3.out k hlt (HV.out.trans hv))
            have HVV := Lib.hid hv
            clear hv
            go_wp2_with fail
            refine (validRect_any _ _ _ _ _).mono ?_
            rw [HVV.out]
            rintro e w8 ⟨rfl, h8⟩
            have N8 := Lib.hid (N7.out.trans h8)
            clear h8
            go_wp2
            go_ret2
            rw [EE.out.1, EE.out.2]
            exact AnsT.no rfl N8.out
          have hv4 : v4 (r0, r1, r2, r3) = true := hv
          have EJ := jAt_yes jlt (HB.out hv4) (by rw [OE.out]; exact HBO.out hv4)
          have eh := HH.out hv4
          rw [EJ, decide_eq_false (by omega : ¬ ¬ j < m), Bool.false_or, OE.out, eh] at HG
          have HS2 : Hid (jTo zs (k + 1) = (put4 out j (h0, h1, h2, h3), m)) := Lib.hid (by rw [HS.out]; unfold jStep; dsimp only; rw [EJ, if_pos jlt, OE.out, eh])
          have SR2 := Lib.hid (SR.out (HV.out.trans hv))
          have HVV := Lib.hid hv
          clear hv hv4 EJ eh
          go_wp2_with fail
          refine (validRect_any _ _ _ _ _).mono ?_
          rw [HVV.out]
          rintro e w8 ⟨rfl, h8⟩
          have x0 := (h8.cells g _ z7).trans x0; have x1 := (h8.cells g _ z7).trans x1; have x2 := (h8.cells g _ z7).trans x2; have x3 := (h8.cells g _ z7).trans x3
          have HO8 := Lib.hid (HO7.out.new h8)
          have N8 := Lib.hid (N7.out.trans h8)
          clear h8
          cases hvh : vR h0 h1 h2 h3
          · have EE := Lib.hid (P2.out k hlt (HG.out.trans hvh))
            have HVH := Lib.hid hvh
            clear hvh
            go_wp2_with fail
            refine (validRect_any _ _ _ _ _).mono ?_
            rw [HVH.out]
            rintro e w9 ⟨rfl, h9⟩
            have N9 := Lib.hid (N8.out.trans h9)
            clear h9
            go_wp2
            go_ret2
            rw [EE.out.1, EE.out.2]
            exact AnsT.no rfl N9.out
          · have HA2 := Lib.hid (ST.out (HG.out.trans hvh))
            have HVH := Lib.hid hvh
            clear hvh
            go_wp2_with fail
            refine (validRect_any _ _ _ _ _).mono ?_
            rw [HVH.out]
            rintro e w9 ⟨rfl, h9⟩
            have HO9 := Lib.hid (HO8.out.new h9)
            have N9 := Lib.hid (N8.out.trans h9)
            clear h9
            go_wp2
            go_roundw
            case rel => exact ⟨k + 1, by omega, by go_num, by rw [HS2.out]; exact HO9, SR2, HA2, N9⟩
            case measure => simp [intOf]; omega
      · obtain rfl : j = m := by omega
        have jj : ¬ (j : Int) < (j : Int) := by omega
        go_wp2
        have NQ0 := Lib.hid HM.out
        go_quiet (fail)
        have NQ := Lib.hid (HN.out.trans (HM.out.drewN nq))
        have HO2 := Lib.hid (HO.out.new (HM.out.drewN nq))
        generalize wr.drewN nq = W at NQ HO2 ⊢
        clear HM NQ0
        obtain ⟨l0, l1, l2, l3⟩ := CELL.out _ NQ.out
        have zq := NQ.out.le
        go_wp2_with (at_builtin; refine wp_appRect rfl _ _ rfl w.heap.size _ j out rfl (HO2.out.alloc _) W.heap.size r0 r1 r2 r3 rfl (Row.oneRect _ _ _ _ _ _) (by omega) (by simp; omega) ?_; intro v' w' ho hg; (have NA := Lib.hid (new_ownRect (NQ.out.alloc (.cells #[.int .i64 r0, .int .i64 r1, .int .i64 r2, .int .i64 r3] 34)) hg (HO2.out.alloc _) (Nat.le_refl _))); (have HO3 := Lib.hid ho); clear ho hg l0 l1 l2 l3; (obtain ⟨l0, l1, l2, l3⟩ := CELL.out _ NA.out); (obtain ⟨-, hz, -⟩ | ⟨g, c3, rfl, hg, RO, -, -⟩ := HO3.out.form); (exact absurd hz (by omega)); (have RO := Lib.hid RO))
        have z7 := RO.out.lt
        have PS := rg_app2 (out := out) (i := j) (r0, r1, r2, r3) LK.out
        unfold rg at PS
        simp only [l4, Prod.mk.injEq] at PS
        obtain ⟨e0, e1, e2, e3⟩ := PS
        have x0 := RO.out.c (j * 4) (by rw [List.length_append, LK.out]; simp)
        have x1 := RO.out.c (j * 4 + 1) (by rw [List.length_append, LK.out]; simp)
        have x2 := RO.out.c (j * 4 + 2) (by rw [List.length_append, LK.out]; simp)
        have x3 := RO.out.c (j * 4 + 3) (by rw [List.length_append, LK.out]; simp)
        rw [e0] at x0; rw [e1] at x1; rw [e2] at x2; rw [e3] at x3
        clear e0 e1 e2 e3
        cases hv : vR r0 r1 r2 r3
        · have EE := Lib.hid (P3.out k hlt (HV.out.trans hv))
          have HVV := Lib.hid hv
          clear hv
          refine (validRect_any _ _ _ _ _).mono ?_
          rw [HVV.out]
          rintro e w8 ⟨rfl, h8⟩
          have N8 := Lib.hid (NA.out.trans h8)
          clear h8
          go_wp2
          go_ret2
          rw [EE.out.1, EE.out.2]
          exact AnsT.no rfl N8.out
        have hv4 : v4 (r0, r1, r2, r3) = true := hv
        have EJ := jAt_no (HB.out hv4)
        have HS2 : Hid (jTo zs (k + 1) = (out ++ [r0, r1, r2, r3], j + 1)) := Lib.hid (by rw [HS.out]; unfold jStep; dsimp only; rw [EJ, if_neg (Nat.lt_irrefl _)]; rfl)
        have HA2 := Lib.hid (ST.out (by rw [HG.out, EJ, decide_eq_true (Nat.lt_irrefl _)]; rfl))
        have SR2 := Lib.hid (SR.out (HV.out.trans hv))
        have HVV := Lib.hid hv
        clear hv hv4 EJ
        refine (validRect_any _ _ _ _ _).mono ?_
        rw [HVV.out]
        rintro e w8 ⟨rfl, h8⟩
        have x0 := (h8.cells g _ z7).trans x0; have x1 := (h8.cells g _ z7).trans x1; have x2 := (h8.cells g _ z7).trans x2; have x3 := (h8.cells g _ z7).trans x3
        have HO8 := Lib.hid (HO3.out.new h8)
        have N8 := Lib.hid (NA.out.trans h8)
        have j2 : (j : Int) < ((j + 1 : Nat) : Int) := by omega
        clear h8
        go_wp2_with fail
        refine (validRect_any _ _ _ _ _).mono ?_
        rw [HVV.out]
        rintro e w9 ⟨rfl, h9⟩
        have HO9 := Lib.hid (HO8.out.new h9)
        have N9 := Lib.hid (N8.out.trans h9)
        clear h9
        go_wp2
        go_roundw
        case rel => exact ⟨k + 1, by omega, by go_num, by rw [HS2.out]; exact HO9, SR2, HA2, N9⟩
        case measure => simp [intOf]; omega
end Go.Proofs.Ytckdokijmlpngaa
