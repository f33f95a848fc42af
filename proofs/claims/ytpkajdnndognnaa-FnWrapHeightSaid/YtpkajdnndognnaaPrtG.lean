/- How high each line is, in the reference, walked. Condition: the parts can be read. -/
import Derived.Test.YtpkajdnndognnaaPrtK
namespace Go.Proofs.Ytpkajdnndognnaa
open Go.RowKit

set_option maxRecDepth 100000 in
set_option maxHeartbeats 8000000 in
theorem SLineHeights_yes (A : Option Addr) (n c : Nat) (zs : List Int) (wd gap : Int) (hn : n ≤ 1048576) (hv : wrOk zs n wd gap = true) (w : World) (hx : Sts 2 w A n zs) :
    Calls Try.prog 25 #[.slice A n c, .int .i64 wd, .int .i64 gap] w (AnsK w (htL zs n wd gap (nl zs n wd gap))) := by
  obtain ⟨hv1, hw, hg⟩ := wrOk_iff.1 hv
  have hn12 := n_le hv1
  have HX := Lib.hid hx
  have CV := Lib.hid (fun W (hW : New w W) => validWrap_any A n c zs wd gap hn W (hx.new hW))
  have CT : Hid (∀ W, New w W → Calls Try.prog 41 #[.slice A n c, .int .i64 wd, .int .i64 gap] W (AnsK W (cnL zs n wd gap (nl zs n wd gap)))) := Lib.hid (fun W hW => by
    have h := scounts_any A n c zs wd gap hn hv W (hx.new hW)
    rw [lcA, if_pos hv] at h
    exact h)
  have NL := nl_le (zs := zs) (n := n) (wd := wd) (gap := gap)
  have LI := Lib.hid (fun k (hk : k < nl zs n wd gap) => line_in hk)
  have SS := Lib.hid (fun k => st_succ (zs := zs) (n := n) (wd := wd) (gap := gap) k)
  have LE : Hid (∀ k, lnH zs n wd gap k = mxh zs (st zs n wd gap k) (ln zs n wd gap (st zs n wd gap k))) := Lib.hid (fun k => rfl)
  have HS := Lib.hid (fun k => htL_step (zs := zs) (n := n) (wd := wd) (gap := gap) k)
  have HL := Lib.hid (fun k => htL_len (zs := zs) (n := n) (wd := wd) (gap := gap) k)
  have CA := Lib.hid (fun k (hk : k < nl zs n wd gap) => cnL_at (zs := zs) (n := n) (wd := wd) (gap := gap) hk)
  have CL := Lib.hid (cnL_len (zs := zs) (n := n) (wd := wd) (gap := gap) (nl zs n wd gap))
  have O0 := Lib.hid (Own.empty (lo := w.heap.size) w 0 (Nat.le_refl _) rfl)
  generalize nl zs n wd gap = N at *
  have hmx := run_mx Try.prog
  clear hx hw hg hv1
  go_enter Try.func25, Try.ntmps25
  go_wp2_with (first
    | (go_at_call 40; refine (CV.out _ (by (repeat (first | exact New.refl _ | assumption | refine New.alloc ?_ _ | refine New.drew ?_ | refine New.drewN ?_ _ | refine New.setCell ?_ (by first | omega | (simp; omega) | (simp; done)) _ | refine New.trans ?_ (by assumption))))).mono ?_; rw [hv]; rintro e w1 ⟨rfl, N1⟩; have N1 := Lib.hid N1; have O1 := Lib.hid (O0.out.new N1.out); have M1 : Hid (New w w1) := Lib.hid (New.trans (b := w.alloc (.cells #[] 3)) (by (repeat (first | exact New.refl _ | assumption | refine New.alloc ?_ _ | refine New.drew ?_ | refine New.drewN ?_ _ | refine New.setCell ?_ (by first | omega | (simp; omega) | (simp; done)) _ | refine New.trans ?_ (by assumption)))) N1.out); have l1 := N1.out.le)
    | (go_at_call 41; refine (CT.out _ M1.out).mono ?_; rintro e w2 ⟨A2, n2, c2, rfl, hL, hc2, r2, N2⟩; have N2 := Lib.hid N2; have O2 := Lib.hid (O1.out.new N2.out); have M2 := Lib.hid (M1.out.trans N2.out); (obtain rfl : n2 = N := hL.symm.trans CL.out); have I2 := Lib.hid (r2.ints CL.out); have R2 := Lib.hid r2; clear r2 hL))
  have P0 : Hid (0 < n2 → ∀ b off, A2 = some ⟨b, off, none⟩ → some w.heap.size ≠ some b) := Lib.hid (fun h b off e => by
    obtain ⟨g, hg, h1, _⟩ := R2.out.2 (by rw [CL.out]; exact h)
    rw [e] at hg
    simp at hg l1
    intro e2
    have := Option.some.inj e2
    omega)
  have B2 : Hid (0 < n2 → ∀ b off, A2 = some ⟨b, off, none⟩ → b < w2.heap.size) := Lib.hid (fun h b off e => by
    obtain ⟨b', off', e', hb', _⟩ := I2.out.at_ h
    rw [e] at e'
    simp at e'
    omega)
  clear O0 O1 N1 N2 R2 CV CT CL
  go_loopw [7, 9, 10] (fun v a i wr => ∃ k : Nat, k ≤ n2 ∧ i = .int .i64 k ∧ a = .int .i64 (st zs n wd gap k : Nat) ∧ Hid (Own w.heap.size wr v (htL zs n wd gap k)) ∧ Hid (New w wr) ∧ Hid (Ints wr A2 n2 (cnL zs n wd gap n2)) ∧ Hid (0 < n2 → ∀ b off, A2 = some ⟨b, off, none⟩ → v.ownBlock ≠ some b) ∧ Hid (w2.heap.size ≤ wr.heap.size)) (fun _ _ i _ => n2 - (intOf i).toNat)
  case atStart => exact ⟨0, Nat.zero_le _, rfl, rfl, O2, M2, I2, P0, Lib.hid (Nat.le_refl _)⟩
  case round =>
    obtain ⟨k, hk, rfl, rfl, HO, HM, HI, HP, HZ⟩ := hrel
    have k0 : (0 : Int) ≤ (k : Int) := by omega
    have n20 : (0 : Int) ≤ (n2 : Int) := by omega
    obtain ⟨v, hv'⟩ : ∃ v, v = u7 := ⟨_, rfl⟩
    rw [← hv'] at HO HP ⊢
    clear hv'
    by_cases hlt : k < n2
    · have k1 : (k : Int) < (n2 : Int) := by omega
      have hn0 : 0 < n2 := by omega
      obtain ⟨b, off, rfl, hb, hc⟩ := HX.out.at_ (by have := LI.out k hlt; have := SS.out k; omega)
      obtain ⟨b2, o2, rfl, hb2, hc2'⟩ := HI.out.at_ hn0
      have gL := hc2' k hlt
      rw [CA.out k hlt] at gL
      have li := LI.out k hlt
      have sk := Lib.hid (SS.out k); have hk2 := Lib.hid (HS.out k); have lk := Lib.hid (LE.out k); have hk3 := Lib.hid (HL.out k)
      have GC : Hid (∀ j, st zs n wd gap k + j < n → wr.cell? ⟨b, off + (st zs n wd gap k + j) * 2 + 1, none⟩ = some (.int .i64 (ph zs (st zs n wd gap k + j)))) := Lib.hid (fun j hj => (HM.out.cells b _ hb).trans (hc ((st zs n wd gap k + j) * 2 + 1) (by omega)))
      have MS : Hid (∀ j, mxh zs (st zs n wd gap k) (j + 1) = mx (mxh zs (st zs n wd gap k) j) (ph zs (st zs n wd gap k + j))) := Lib.hid (fun j => rfl)
      clear hc hc2'
      generalize ln zs n wd gap (st zs n wd gap k) = L at *
      generalize st zs n wd gap k = S at *
      have L0 : (0 : Int) ≤ (L : Int) := by omega
      have s1 : IntKind.i64.wrap ((S : Int) + (L : Int)) = (S : Int) + (L : Int) := IntWalk.i64_in _ (by omega)
      go_wp2
      go_loopw [11, 12] (fun h i W => ∃ j : Nat, j ≤ L ∧ i = .int .i64 j ∧ h = .int .i64 (mxh zs S j) ∧ W = wr) (fun _ i _ => L - (intOf i).toNat)
      case atStart => exact ⟨0, Nat.zero_le _, rfl, rfl, rfl⟩
      case round =>
        obtain ⟨j, hj, rfl, rfl, rfl⟩ := hrel
        have j0 : (0 : Int) ≤ (j : Int) := by omega
        by_cases hjl : j < L
        · have j1 : (j : Int) < (L : Int) := by omega
          have g1 := GC.out j (by omega)
          have ms := Lib.hid (MS.out j)
          have s2 : IntKind.i64.wrap ((S : Int) + (j : Int)) = (S : Int) + (j : Int) := IntWalk.i64_in _ (by omega)
          have t0 : (0 : Int) ≤ (S : Int) + (j : Int) := by omega
          have t1 : (S : Int) + (j : Int) < (n : Int) := by omega
          have t2 : ((S : Int) + (j : Int)).toNat = S + j := by omega
          generalize mxh zs S j = m0 at *
          generalize ph zs (S + j) = q at *
          go_wp2
          go_roundw
          case rel => exact ⟨j + 1, by omega, by go_num, by rw [ms.out], trivial⟩
          case measure => simp [intOf]; omega
        · obtain rfl : j = L := by omega
          rw [← lk.out]
          go_wp2_with (at_builtin; refine wp_app2 rfl _ _ rfl w.heap.size v _ rfl (HO.out.alloc _) _ (lnH zs n wd gap k) rfl (Ints.one _ _ _) (by rw [hk3.out]; omega) (by have := HM.out.le; simp; omega) ?_; intro v6 w6 O6 G6 B6; (have N6 := Lib.hid (new_own (HM.out.alloc _) G6 (HO.out.alloc _) (Nat.le_refl _))); (have I6 := Lib.hid ((HI.out.new ((New.refl _).alloc _)).keep G6 (fun b3 o3 e3 => HP.out hn0 b3 o3 e3))); (have S6 := G6.size); (have P6 : Hid (0 < n2 → ∀ b3 o3, some (Addr.mk b2 o2 none) = some ⟨b3, o3, none⟩ → v6.ownBlock ≠ some b3) := Lib.hid (fun h b3 o3 e3 => own_ne B6 (HP.out h b3 o3 e3) (by have := B2.out h b3 o3 e3; have := HZ.out; simp; omega))); (replace O6 := Lib.hid O6); clear G6 B6)
          go_roundw
          case rel => exact ⟨k + 1, by omega, by go_num, by rw [sk.out]; congr 1, Lib.hid (by rw [hk2.out]; exact O6.out), N6, I6, P6, Lib.hid (by have := HZ.out; simp at S6; omega)⟩
          case measure => simp [intOf]; omega
    · obtain rfl : k = n2 := by omega
      obtain ⟨A8, c8, rfl, hc8, R8⟩ := HO.out.res
      have R8 := Lib.hid R8
      go_wp2
      go_ret
      exact ⟨A8, _, c8, rfl, rfl, hc8, R8.out, HM.out⟩
set_option maxHeartbeats 4000000 in
theorem SLineHeights_ansK (A : Option Addr) (n c : Nat) (zs : List Int) (wd gap : Int) (hn : n ≤ 1048576) (w : World) (hx : Sts 2 w A n zs) :
    Calls Try.prog 25 #[.slice A n c, .int .i64 wd, .int .i64 gap] w (AnsK w (lhA zs n wd gap)) := by
  cases hv : wrOk zs n wd gap
  · have CV := Lib.hid (fun W (hW : New w W) => validWrap_any A n c zs wd gap hn W (hx.new hW))
    have E : lhA zs n wd gap = [] := by rw [lhA, hv]; rfl
    rw [E]
    clear E hx
    go_enter Try.func25, Try.ntmps25
    go_wp2_with (go_at_call 40; refine (CV.out _ (by (repeat (first | exact New.refl _ | assumption | refine New.alloc ?_ _ | refine New.drew ?_ | refine New.drewN ?_ _ | refine New.setCell ?_ (by first | omega | (simp; omega) | (simp; done)) _ | refine New.trans ?_ (by assumption))))).mono ?_; rw [hv]; rintro e w1 ⟨rfl, N1⟩; have M1 : Hid (New w w1) := Lib.hid (New.trans (b := w.alloc (.cells #[] 3)) (by (repeat (first | exact New.refl _ | assumption | refine New.alloc ?_ _ | refine New.drew ?_ | refine New.drewN ?_ _ | refine New.setCell ?_ (by first | omega | (simp; omega) | (simp; done)) _ | refine New.trans ?_ (by assumption)))) N1))
    go_ret
    exact AnsK.nil_ rfl M1.out
  · rw [lhA, if_pos hv]
    exact SLineHeights_yes A n c zs wd gap hn hv w hx
theorem SLineHeights_ans (A : Option Addr) (n c : Nat) (zs : List Int) (wd gap : Int) (hn : n ≤ 1048576) (w : World) (hx : Sts 2 w A n zs) :
    Calls Try.prog 25 #[.slice A n c, .int .i64 wd, .int .i64 gap] w (Ans w (lhA zs n wd gap)) :=
  (SLineHeights_ansK A n c zs wd gap hn w hx).mono fun _ _ h => h.ans
end Go.Proofs.Ytpkajdnndognnaa
