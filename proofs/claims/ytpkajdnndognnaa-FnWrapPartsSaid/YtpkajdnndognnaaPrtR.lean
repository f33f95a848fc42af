/- The rectangles of wrapped parts, in the reference, walked. Condition: the parts can be read. -/
import Derived.Test.YtpkajdnndognnaaPrtG
import Derived.Test.YtpkajdnndognnaaRectK
import Derived.Test.YtpkajdnndognnaaAnsT
namespace Go.Proofs.Ytpkajdnndognnaa
open Go.RowKit

section
variable {zs : List Int} {n : Nat} {wd gap : Int}
theorem tp_step (k : Nat) : tp zs n wd gap (k + 1) = tp zs n wd gap k + lnH zs n wd gap k + gap := by show tp zs n wd gap k + (lnH zs n wd gap k + gap) = _; omega
theorem lf_step (a j : Nat) : lf zs gap a (j + 1) = lf zs gap a j + pw zs (a + j) + gap := by show lf zs gap a j + (pw zs (a + j) + gap) = _; omega
theorem rcs_step (k : Nat) : rcs zs n wd gap (k + 1) = rcs zs n wd gap k ++ rcl zs gap (st zs n wd gap k) (tp zs n wd gap k) (ln zs n wd gap (st zs n wd gap k)) := rfl
theorem rcl_step (R : List Int) (a : Nat) (y : Int) (j : Nat) : R ++ rcl zs gap a y (j + 1) = (R ++ rcl zs gap a y j) ++ [lf zs gap a j, y, pw zs (a + j), ph zs (a + j)] := by rw [List.append_assoc]; rfl
end
set_option maxRecDepth 100000 in
set_option maxHeartbeats 8000000 in
theorem SWrapParts_yes (A : Option Addr) (n c : Nat) (zs : List Int) (wd gap : Int) (hn : n ≤ 1048576) (hv : wrOk zs n wd gap = true) (w : World) (hx : Sts 2 w A n zs) :
    Calls Try.prog 13 #[.slice A n c, .int .i64 wd, .int .i64 gap] w (AnsC 4 w (rcs zs n wd gap (nl zs n wd gap))) := by
  obtain ⟨hv1, hw, hg⟩ := wrOk_iff.1 hv
  have hn12 := n_le hv1
  have HX := Lib.hid hx
  have CV := Lib.hid (fun W (hW : New w W) => validWrap_any A n c zs wd gap hn W (hx.new hW))
  have CT : Hid (∀ W, New w W → Calls Try.prog 41 #[.slice A n c, .int .i64 wd, .int .i64 gap] W (AnsK W (cnL zs n wd gap (nl zs n wd gap)))) := Lib.hid (fun W hW => by
    have h := scounts_any A n c zs wd gap hn hv W (hx.new hW)
    rw [lcA, if_pos hv] at h
    exact h)
  have CU : Hid (∀ W, New w W → Calls Try.prog 25 #[.slice A n c, .int .i64 wd, .int .i64 gap] W (AnsK W (htL zs n wd gap (nl zs n wd gap)))) := Lib.hid (fun W hW => SLineHeights_yes A n c zs wd gap hn hv W (hx.new hW))
  have NL := nl_le (zs := zs) (n := n) (wd := wd) (gap := gap)
  have LI := Lib.hid (fun k (hk : k < nl zs n wd gap) => line_in hk)
  have SS := Lib.hid (fun k => st_succ (zs := zs) (n := n) (wd := wd) (gap := gap) k)
  have TS := Lib.hid (fun k => tp_step (zs := zs) (n := n) (wd := wd) (gap := gap) k)
  have TB := Lib.hid (fun k (hk : k ≤ nl zs n wd gap) => tp_bd (zs := zs) (n := n) (wd := wd) (gap := gap) hv1 hg k hk)
  have HB := Lib.hid (fun k (hk : k < nl zs n wd gap) => lnH_bd (zs := zs) (n := n) (wd := wd) (gap := gap) hv1 hk)
  have FB := Lib.hid (fun a j (h : a + j ≤ n) => lf_bd (zs := zs) (n := n) (gap := gap) hv1 hg (a := a) j h)
  have WB := Lib.hid (fun k (hk : k < n) => (pr_bd hv1 hk).1)
  have RS := Lib.hid (fun k => rcs_step (zs := zs) (n := n) (wd := wd) (gap := gap) k)
  have CA := Lib.hid (fun k (hk : k < nl zs n wd gap) => cnL_at (zs := zs) (n := n) (wd := wd) (gap := gap) hk)
  have HA := Lib.hid (fun k (hk : k < nl zs n wd gap) => htL_at (zs := zs) (n := n) (wd := wd) (gap := gap) hk)
  have CL := Lib.hid (cnL_len (zs := zs) (n := n) (wd := wd) (gap := gap) (nl zs n wd gap))
  have HL := Lib.hid (htL_len (zs := zs) (n := n) (wd := wd) (gap := gap) (nl zs n wd gap))
  have O0 := Lib.hid (OwnRect.empty (lo := w.heap.size) w (Nat.le_refl _))
  have SN := Lib.hid (st_nl (zs := zs) (n := n) (wd := wd) (gap := gap))
  generalize nl zs n wd gap = N at *
  have hmx := run_mx Try.prog
  obtain ⟨hg0, hg1⟩ := hg
  clear hx hw hv1
  go_enter Try.func13, Try.ntmps13
  go_wp2_with (first
    | (go_at_call 40; refine (CV.out _ (by (repeat (first | exact New.refl _ | assumption | refine New.alloc ?_ _ | refine New.drew ?_ | refine New.drewN ?_ _ | refine New.setCell ?_ (by first | omega | (simp; omega) | (simp; done)) _ | refine New.trans ?_ (by assumption))))).mono ?_; rw [hv]; rintro e w1 ⟨rfl, N1⟩; have N1 := Lib.hid N1; have O1 := Lib.hid (O0.out.new N1.out); have M1 : Hid (New w w1) := Lib.hid (New.trans (b := w.alloc (.cells #[] 44)) (by (repeat (first | exact New.refl _ | assumption | refine New.alloc ?_ _ | refine New.drew ?_ | refine New.drewN ?_ _ | refine New.setCell ?_ (by first | omega | (simp; omega) | (simp; done)) _ | refine New.trans ?_ (by assumption)))) N1.out); have l1 := N1.out.le)
    | (go_at_call 41; refine (CT.out _ M1.out).mono ?_; rintro e w2 ⟨A2, n2, c2, rfl, hL, hc2, r2, N2⟩; have N2 := Lib.hid N2; have O2 := Lib.hid (O1.out.new N2.out); have M2 := Lib.hid (M1.out.trans N2.out); (obtain rfl : n2 = N := hL.symm.trans CL.out); have I2 := Lib.hid (r2.ints CL.out); have l2 := N2.out.le; have R2 := Lib.hid r2; clear r2 hL)
    | (go_at_call 25; refine (CU.out _ M2.out).mono ?_; rintro e w3 ⟨A3, n3, c3, rfl, hL, hc3, r3, N3⟩; have N3 := Lib.hid N3; have O3 := Lib.hid (O2.out.new N3.out); have M3 := Lib.hid (M2.out.trans N3.out); have I3 := Lib.hid (I2.out.new N3.out); (obtain rfl : n3 = n2 := hL.symm.trans HL.out); have J3 := Lib.hid (r3.ints HL.out); have l3 := N3.out.le; have R3 := Lib.hid r3; clear r3 hL))
  have P0 : Hid (0 < n3 → ∀ b off, A2 = some ⟨b, off, none⟩ → some w.heap.size ≠ some b) := Lib.hid (fun h b off e => by
    obtain ⟨g, hg, h1, _⟩ := R2.out.2 (by rw [CL.out]; exact h)
    rw [e] at hg
    simp at hg l1
    intro e2
    have := Option.some.inj e2
    omega)
  have P1 : Hid (0 < n3 → ∀ b off, A3 = some ⟨b, off, none⟩ → some w.heap.size ≠ some b) := Lib.hid (fun h b off e => by
    obtain ⟨g, hg, h1, _⟩ := R3.out.2 (by rw [HL.out]; exact h)
    rw [e] at hg
    simp at hg l1
    intro e2
    have := Option.some.inj e2
    omega)
  have B2 : Hid (0 < n3 → ∀ b off, A2 = some ⟨b, off, none⟩ → b < w3.heap.size) := Lib.hid (fun h b off e => by
    obtain ⟨b', off', e', hb', _⟩ := I3.out.at_ h
    rw [e] at e'
    simp at e'
    omega)
  have B3 : Hid (0 < n3 → ∀ b off, A3 = some ⟨b, off, none⟩ → b < w3.heap.size) := Lib.hid (fun h b off e => by
    obtain ⟨b', off', e', hb', _⟩ := J3.out.at_ h
    rw [e] at e'
    simp at e'
    omega)
  clear O0 O1 O2 N1 N2 N3 R2 R3 CV CT CU CL HL I2
  go_loopw [7, 10, 11, 12] (fun v a y i wr => ∃ k : Nat, k ≤ n3 ∧ i = .int .i64 k ∧ a = .int .i64 (st zs n wd gap k : Nat) ∧ y = .int .i64 (tp zs n wd gap k) ∧ Hid (OwnRect w.heap.size wr v (st zs n wd gap k) (rcs zs n wd gap k)) ∧ Hid (New w wr) ∧ Hid (Ints wr A2 n3 (cnL zs n wd gap n3)) ∧ Hid (Ints wr A3 n3 (htL zs n wd gap n3)) ∧ Hid (0 < n3 → ∀ b off, A2 = some ⟨b, off, none⟩ → v.ownBlock ≠ some b) ∧ Hid (0 < n3 → ∀ b off, A3 = some ⟨b, off, none⟩ → v.ownBlock ≠ some b) ∧ Hid (w3.heap.size ≤ wr.heap.size)) (fun _ _ _ i _ => n3 - (intOf i).toNat)
  case atStart => exact ⟨0, Nat.zero_le _, rfl, rfl, rfl, O3, M3, I3, J3, P0, P1, Lib.hid (Nat.le_refl _)⟩
  case round =>
    obtain ⟨k, hk, rfl, rfl, rfl, HO, HM, HI, HJ, HP, HQ, HZ⟩ := hrel
    have k0 : (0 : Int) ≤ (k : Int) := by omega
    have n20 : (0 : Int) ≤ (n3 : Int) := by omega
    obtain ⟨v, hv'⟩ : ∃ v, v = u7 := ⟨_, rfl⟩
    rw [← hv'] at HO HP HQ ⊢
    clear hv'
    by_cases hlt : k < n3
    · have k1 : (k : Int) < (n3 : Int) := by omega
      have hn0 : 0 < n3 := by omega
      obtain ⟨b, off, rfl, hb, hc⟩ := HX.out.at_ (by have := LI.out k hlt; have := SS.out k; omega)
      obtain ⟨b2, o2, rfl, hb2, hc2'⟩ := HI.out.at_ hn0
      have gL := hc2' k hlt
      rw [CA.out k hlt] at gL
      have li := LI.out k hlt
      have sk := Lib.hid (SS.out k); have rk := Lib.hid (RS.out k); have tk := Lib.hid (TS.out k)
      have tb := TB.out k hk
      have hb_ := HB.out k hlt
      have ha := Lib.hid (HA.out k hlt)
      have ca := Lib.hid (CA.out k hlt)
      have GC : Hid (∀ j, st zs n wd gap k + j < n → w.cell? ⟨b, off + (st zs n wd gap k + j) * 2, none⟩ = some (.int .i64 (pw zs (st zs n wd gap k + j))) ∧ w.cell? ⟨b, off + (st zs n wd gap k + j) * 2 + 1, none⟩ = some (.int .i64 (ph zs (st zs n wd gap k + j)))) := Lib.hid (fun j hj => ⟨hc ((st zs n wd gap k + j) * 2) (by omega), hc ((st zs n wd gap k + j) * 2 + 1) (by omega)⟩)
      have hbS := Lib.hid hb
      clear hc hc2' hb2
      generalize rcs zs n wd gap k = R at *
      generalize ln zs n wd gap (st zs n wd gap k) = L at *
      generalize st zs n wd gap k = S at *
      generalize tp zs n wd gap k = Y at *
      generalize lnH zs n wd gap k = H at *
      have L0 : (0 : Int) ≤ (L : Int) := by omega
      have s1 : IntKind.i64.wrap ((S : Int) + (L : Int)) = (S : Int) + (L : Int) := IntWalk.i64_in _ (by omega)
      have s2 : IntKind.i64.wrap (Y + H) = Y + H := IntWalk.i64_in _ (by omega)
      have s3 : IntKind.i64.wrap (Y + H + gap) = Y + H + gap := IntWalk.i64_in _ (by omega)
      go_wp2
      go_loopw [7, 13, 14] (fun v x i W => ∃ j : Nat, j ≤ L ∧ i = .int .i64 j ∧ x = .int .i64 (lf zs gap S j) ∧ Hid (OwnRect w.heap.size W v (S + j) (R ++ rcl zs gap S Y j)) ∧ Hid (New w W) ∧ Hid (Ints W (some ⟨b2, o2, none⟩) n3 (cnL zs n wd gap n3)) ∧ Hid (Ints W A3 n3 (htL zs n wd gap n3)) ∧ Hid (0 < n3 → ∀ b off, some (Addr.mk b2 o2 none) = some ⟨b, off, none⟩ → v.ownBlock ≠ some b) ∧ Hid (0 < n3 → ∀ b off, A3 = some ⟨b, off, none⟩ → v.ownBlock ≠ some b) ∧ Hid (w3.heap.size ≤ W.heap.size)) (fun _ _ i _ => L - (intOf i).toNat)
      case atStart => exact ⟨0, Nat.zero_le _, rfl, rfl, Lib.hid (by simpa [rcl] using HO.out), HM, HI, HJ, HP, HQ, HZ⟩
      case round =>
        clear HO HM HI HJ HP HQ HZ gL
        obtain ⟨j, hj, rfl, rfl, HO, HM, HI, HJ, HP, HQ, HZ⟩ := hrel
        have j0 : (0 : Int) ≤ (j : Int) := by omega
        obtain ⟨v, hv'⟩ : ∃ v, v = u7 := ⟨_, rfl⟩
        rw [← hv'] at HO HP HQ ⊢
        clear hv'
        obtain ⟨b2', o2', e2, _, hc2'⟩ := HI.out.at_ hn0
        simp only [Option.some.injEq, Addr.mk.injEq, and_true] at e2
        obtain ⟨rfl, rfl⟩ := e2
        have gL := hc2' k hlt
        rw [ca.out] at gL
        clear hc2'
        by_cases hjl : j < L
        · have j1 : (j : Int) < (L : Int) := by omega
          obtain ⟨q0, q1⟩ := GC.out j (by omega)
          have g0 := (HM.out.cells b _ hbS.out).trans q0
          have g1 := (HM.out.cells b _ hbS.out).trans q1
          have fb := FB.out S j (by omega)
          have wb := WB.out (S + j) (by omega)
          have fs := Lib.hid (lf_step (zs := zs) (gap := gap) S j)
          have rs := Lib.hid (rcl_step (zs := zs) (gap := gap) R S Y j)
          have s4 : IntKind.i64.wrap ((S : Int) + (j : Int)) = (S : Int) + (j : Int) := IntWalk.i64_in _ (by omega)
          have t0 : (0 : Int) ≤ (S : Int) + (j : Int) := by omega
          have t1 : (S : Int) + (j : Int) < (n : Int) := by omega
          have t2 : ((S : Int) + (j : Int)).toNat = S + j := by omega
          clear q0 q1
          generalize R ++ rcl zs gap S Y j = RR at *
          generalize lf zs gap S j = X at *
          generalize pw zs (S + j) = p at *
          generalize ph zs (S + j) = q at *
          have s5 : IntKind.i64.wrap (X + p) = X + p := IntWalk.i64_in _ (by omega)
          have s6 : IntKind.i64.wrap (X + p + gap) = X + p + gap := IntWalk.i64_in _ (by omega)
          go_wp2_with (at_builtin; refine wp_appRect2 rfl _ _ rfl w.heap.size v _ _ rfl ((HO.out.alloc _).alloc _) (wr.heap.size + 1) X Y p q rfl (by have h := Row.oneRect (wr.alloc (.cells #[.int .i64 p, .int .i64 q] 41)) X Y p q 44; simpa using h) (by omega) (by have := HM.out.le; simp; omega) ?_; intro v6 w6 O6 G6 E6; (have N6 := Lib.hid (new_ownRect ((HM.out.alloc _).alloc _) G6 ((HO.out.alloc _).alloc _) (Nat.le_refl _))); (have I6 := Lib.hid ((HI.out.new (((New.refl _).alloc _).alloc _)).keep G6 (fun b3 o3 e3 => HP.out hn0 b3 o3 e3))); (have J6 := Lib.hid ((HJ.out.new (((New.refl _).alloc _).alloc _)).keep G6 (fun b3 o3 e3 => HQ.out hn0 b3 o3 e3))); (have S6 := G6.size); (have P6 : Hid (0 < n3 → ∀ b3 o3, some (Addr.mk b2 o2 none) = some ⟨b3, o3, none⟩ → v6.ownBlock ≠ some b3) := Lib.hid (fun h b3 o3 e3 => own_ne E6 (HP.out h b3 o3 e3) (by have := B2.out h b3 o3 e3; have := HZ.out; simp; omega))); (have Q6 : Hid (0 < n3 → ∀ b3 o3, A3 = some ⟨b3, o3, none⟩ → v6.ownBlock ≠ some b3) := Lib.hid (fun h b3 o3 e3 => own_ne E6 (HQ.out h b3 o3 e3) (by have := B3.out h b3 o3 e3; have := HZ.out; simp; omega))); (have c6 : w6.cell? ⟨wr.heap.size, 0, none⟩ = some (.int .i64 p) := (World.cell?_of_block (G6.block wr.heap.size (by simp; omega) (fun e => by have := HO.out.lt e.symm; omega))).trans (by simp [go_sem])); (replace O6 := Lib.hid O6); clear G6 E6)
          go_roundw
          case rel => exact ⟨j + 1, by omega, by go_num, by rw [fs.out], Lib.hid (by rw [rs.out]; exact O6.out), N6, I6, J6, P6, Q6, Lib.hid (by have := HZ.out; simp at S6; omega)⟩
          case measure => simp [intOf]; omega
        · obtain rfl : j = L := by omega
          obtain ⟨b3, o3, rfl, hb3, hc3'⟩ := HJ.out.at_ hn0
          have gH := hc3' k hlt
          rw [ha.out] at gH
          clear hc3' hb3
          go_wp2
          go_roundw
          case rel => exact ⟨k + 1, by omega, by go_num, by rw [sk.out]; congr 1, by rw [tk.out], Lib.hid (by rw [sk.out, rk.out]; exact HO.out), HM, HI, HJ, HP, HQ, HZ⟩
          case measure => simp [intOf]; omega
    · obtain rfl : k = n3 := by omega
      rw [SN.out] at HO
      obtain ⟨A8, c8, rfl, hc8, R8⟩ := HO.out.res
      have R8 := Lib.hid R8
      have L8 := Lib.hid HO.out.2
      go_wp2
      go_ret
      exact ⟨A8, _, c8, rfl, L8.out, hc8, R8.out, HM.out⟩
set_option maxHeartbeats 4000000 in
theorem SWrapParts_ans (A : Option Addr) (n c : Nat) (zs : List Int) (wd gap : Int) (hn : n ≤ 1048576) (w : World) (hx : Sts 2 w A n zs) :
    Calls Try.prog 13 #[.slice A n c, .int .i64 wd, .int .i64 gap] w (AnsC 4 w (wpA zs n wd gap)) := by
  cases hv : wrOk zs n wd gap
  · have CV := Lib.hid (fun W (hW : New w W) => validWrap_any A n c zs wd gap hn W (hx.new hW))
    have E : wpA zs n wd gap = [] := by rw [wpA, hv]; rfl
    rw [E]
    clear E hx
    go_enter Try.func13, Try.ntmps13
    go_wp2_with (go_at_call 40; refine (CV.out _ (by (repeat (first | exact New.refl _ | assumption | refine New.alloc ?_ _ | refine New.drew ?_ | refine New.drewN ?_ _ | refine New.setCell ?_ (by first | omega | (simp; omega) | (simp; done)) _ | refine New.trans ?_ (by assumption))))).mono ?_; rw [hv]; rintro e w1 ⟨rfl, N1⟩; have M1 : Hid (New w w1) := Lib.hid (New.trans (b := w.alloc (.cells #[] 44)) (by (repeat (first | exact New.refl _ | assumption | refine New.alloc ?_ _ | refine New.drew ?_ | refine New.drewN ?_ _ | refine New.setCell ?_ (by first | omega | (simp; omega) | (simp; done)) _ | refine New.trans ?_ (by assumption)))) N1))
    go_ret
    exact ⟨none, 0, 0, rfl, rfl, Nat.le_refl _, Res.nil _ _ _, M1.out⟩
  · rw [wpA, if_pos hv]
    exact SWrapParts_yes A n c zs wd gap hn hv w hx
end Go.Proofs.Ytpkajdnndognnaa
