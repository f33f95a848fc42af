/- The program's jobs between two frames, walked: how they begin, and what a frame does of them. Condition: the lists can be read. -/
import Derived.Test.YteofjfglmngmnaaFrameM
import Derived.Test.YteofjfglmngmnaaListV
import Derived.Test.YteofjfglmngmnaaApp
import Derived.Deep.RegionWith
import Derived.Lib.SliceRun
import Derived.RegionTactic
import Derived.BigRegion
namespace Go.Proofs.Yteofjfglmngmnaa
open Go.RowKit

theorem listB_job (xs : List Int) : listB 12 1000 xs = jobB xs := by
  unfold listB jobB
  congr 1
  rw [Bool.eq_iff_iff, decide_eq_true_eq, decide_eq_true_eq]
  omega
set_option maxHeartbeats 400000 in
theorem ivalidCosts_any (A : Option Addr) (n c : Nat) (xs : List Int) (hn : n ≤ 1048576) (w : World) (hx : Ints w A n xs) :
    Calls Try.prog 75 #[.slice A n c] w fun e w' => e = .returned (.bool (jobB xs)) ∧ w = w' := by
  have HX := Lib.hid hx
  clear hx
  go_enter Try.func75, Try.ntmps75
  go_wp2_with (go_at_call 76; refine (validList_any A n c xs _ _ hn _ HX.out).mono ?_; rw [listB_job]; rintro e w' ⟨rfl, rfl⟩)
  go_ret
  exact ⟨rfl, rfl⟩
set_option maxHeartbeats 1000000 in
theorem Clone_any (A : Option Addr) (n c : Nat) (xs : List Int) (hn : n ≤ 1000) (w : World) (hx : Ints w A n xs) :
    Calls Try.prog 77 #[.slice A n c] w (Ans w xs) := by
  have qT : ∀ (w : World) (a : Option Addr) (n c n' c' : Nat), (binOp .eql 23 (.slice a n c) (.slice none n' c')).run Try.prog w = .ok (.bool a.isNone) w := fun w a n c n' c' => Lib.run_eql_slice_nil w _ _ a n c n' c' Try.underlying23
  have HX := Lib.hid hx
  have lx := hx.len
  clear hx
  rcases A with _ | ad
  · have h0 : n = 0 := by
      rcases Nat.eq_zero_or_pos n with h | h
      · exact h
      · obtain ⟨b, off, e, _⟩ := HX.out.at_ h
        cases e
    subst h0
    obtain rfl : xs = [] := List.eq_nil_of_length_eq_zero lx
    clear HX lx
    go_enter Try.func77, Try.ntmps77
    go_wp2
    go_ret
    exact Ans.none_ rfl (by (repeat (first | exact New.refl _ | assumption | refine New.alloc ?_ _ | refine New.drew ?_ | refine New.drewN ?_ _ | refine New.setCell ?_ (by first | omega | (simp; omega) | (simp; done)) _ | refine New.trans ?_ (by assumption))))
  · clear lx
    go_enter Try.func77, Try.ntmps77
    go_wp2_with (at_builtin; refine wp_app rfl _ _ rfl w.heap.size _ [] rfl (Own.empty w 0 (Nat.le_refl _) rfl) (some ad) n c xs rfl (HX.out.new ((New.refl _).alloc _)) (by simp; omega) (by simp) ?_; intro v' w' ho hg)
    have hN := new_own (New.alloc (New.refl _) _) hg (Own.empty w 0 (Nat.le_refl _) rfl) (Nat.le_refl _)
    obtain ⟨A2, c2, rfl, hc2, Z2⟩ := ho.res
    have Z2 := Lib.hid Z2; have hN := Lib.hid hN
    clear hg ho
    go_wp2
    go_ret
    exact ⟨A2, _, c2, rfl, rfl, by simpa using Z2.out, hN.out⟩
/-- Jobs behind the pointer p: what is left of each, and how many are done; both blocks lie between two marks. -/
structure Wk (lo hi : Nat) (w : World) (p : Nat) (A : Option Addr) (n c : Nat) (ls : List Int) (d : Nat) : Prop where
  p0 : lo ≤ p
  p1 : p < hi
  c0 : w.cell? ⟨p, 0, none⟩ = some (.slice A n c)
  c1 : w.cell? ⟨p, 1, none⟩ = some (.int .i64 d)
  f1 : w.frozen? ⟨p, 1, none⟩ = false
  len : ls.length = n
  row : 0 < n → ∃ g, A = some ⟨g, 0, none⟩ ∧ g ≠ p ∧ lo ≤ g ∧ g < hi ∧ Row w g ls
section
variable {lo hi p n c d lo2 hi2 : Nat} {w w' : World} {A : Option Addr} {ls : List Int}
theorem Wk.chg (h : Wk lo hi w p A n c ls d) (k : Chg lo2 hi2 w w') (hd : hi ≤ lo2 ∨ hi2 ≤ lo) : Wk lo hi w' p A n c ls d := by
  have hp : p < w.heap.size := World.block_lt_of_cell? w ⟨p, 1, none⟩ h.c1
  have p0 := h.p0; have p1 := h.p1
  refine ⟨h.p0, h.p1, (World.cell?_of_block (k.block p hp (by omega))).trans h.c0, (World.cell?_of_block (k.block p hp (by omega))).trans h.c1, (World.frozen?_of_block (w := w) (k.block p hp (by omega))).trans h.f1, h.len, fun h0 => ?_⟩
  obtain ⟨g, e, g0, g1, g2, R⟩ := h.row h0
  exact ⟨g, e, g0, g1, g2, R.chg k (by omega)⟩
theorem Wk.new (h : Wk lo hi w p A n c ls d) (k : New w w') : Wk lo hi w' p A n c ls d := h.chg (k.chg hi hi) (Or.inl (Nat.le_refl _))
theorem Wk.ints (h : Wk lo hi w p A n c ls d) : Res lo hi w A ls ∨ ¬ hi ≤ w.heap.size := by
  by_cases hh : hi ≤ w.heap.size
  · refine .inl ⟨hh, fun h0 => ?_⟩
    obtain ⟨g, e, _, g1, g2, R⟩ := h.row (by rw [← h.len]; exact h0)
    exact ⟨g, e, g1, g2, R⟩
  · exact .inr hh
/-- A store into the row of what is left. -/
theorem Wk.left {g k : Nat} (h : Wk lo hi w p (some ⟨g, 0, none⟩) n c ls d) (hk : k < n) (v : Int) : Wk lo hi (w.setCell ⟨g, k, none⟩ (.int .i64 v)) p (some ⟨g, 0, none⟩) n c (ls.set k v) d := by
  obtain ⟨g', e, g0, g1, g2, R⟩ := h.row (by omega)
  simp only [Option.some.injEq, Addr.mk.injEq, and_true] at e
  subst e
  have kp : ∀ o, (w.setCell ⟨g, k, none⟩ (.int .i64 v)).cell? ⟨p, o, none⟩ = w.cell? ⟨p, o, none⟩ := fun o => World.cell?_of_block (Below.heap_setCell _ _ _ _ (fun e => g0 e.symm))
  refine ⟨h.p0, h.p1, (kp 0).trans h.c0, (kp 1).trans h.c1, (World.frozen?_of_block (w := w) (Below.heap_setCell _ _ _ _ (fun e => g0 e.symm))).trans h.f1, by rw [List.length_set]; exact h.len, fun _ => ⟨g, rfl, g0, g1, g2, R.set_ (by rw [h.len]; exact hk) v⟩⟩
/-- One more is done. -/
theorem Wk.more (h : Wk lo hi w p A n c ls d) : Wk lo hi (w.setCell ⟨p, 1, none⟩ (.int .i64 ((d : Int) + 1))) p A n c ls (d + 1) := by
  refine ⟨h.p0, h.p1, ?_, ?_, by have := h.f1; simpa [go_sem] using this, h.len, fun h0 => ?_⟩
  · rw [World.cell?_setCell_other _ _ _ _ (by simp)]; exact h.c0
  · simp [go_sem, h.c1]
  · obtain ⟨g, e, g0, g1, g2, R⟩ := h.row h0
    exact ⟨g, e, g0, g1, g2, R.far (fun e => g0 e.symm) _⟩
theorem Chg.store {g k : Nat} {w0 : World} (h : Chg lo hi w0 w) (h1 : lo ≤ g) (h2 : g < hi) (u : Value) : Chg lo hi w0 (w.setCell ⟨g, k, none⟩ u) :=
  ⟨h.os, h.tape, h.output, by simpa [World.setCell] using h.size, fun i hi' hn => (Below.heap_setCell _ _ _ _ (by simp; omega)).trans (h.block i hi' hn)⟩
theorem Chg.drewN {w0 : World} (h : Chg lo hi w0 w) (k : Nat) : Chg lo hi w0 (w.drewN k) := ⟨h.os, h.tape, h.output, h.size, h.block⟩
theorem Wk.drewN (h : Wk lo hi w p A n c ls d) (k : Nat) : Wk lo hi (w.drewN k) p A n c ls d := ⟨h.p0, h.p1, h.c0, h.c1, h.f1, h.len, fun h0 => by obtain ⟨g, e, g0, g1, g2, R⟩ := h.row h0; exact ⟨g, e, g0, g1, g2, R.drewN k⟩⟩
end
theorem int_eq {a b : Int} (h : a = b) : Value.int .i64 a = .int .i64 b := by rw [h]
theorem cv_setCell_same {w : World} {a : Addr} {u v : Value} (h : w.cell? a = some v) : cv (w.setCell a u) a = u := by
  unfold cv
  have e : (w.setCell a u).cell? a = some u := by
    obtain ⟨b, o, q⟩ := a
    simp [go_sem, h]
  rw [e]; rfl
set_option maxRecDepth 100000 in
set_option maxHeartbeats 4000000 in
theorem resume_any (lo hi p : Nat) (A : Option Addr) (n c : Nat) (cs : List Int) (d : Nat) (T b0 : Int) (hc : Jobs cs) (hl : cs.length = n) (hb0 : 0 ≤ b0 ∧ b0 ≤ 1000) (hd : d ≤ n) (h1 : cumS cs d ≤ T) (h2 : d < n → T ≤ cumS cs (d + 1)) (h3 : T ≤ cs.sum) (w : World) (hw : Wk lo hi w p A n c (remL cs T) d) :
    Calls Try.prog 52 #[.pointer (some ⟨p, 0, none⟩), .int .i64 b0] w fun e w' => ∃ (T' : Int) (d' : Nat), e = .returned (.int .i64 (T + b0 - T')) ∧ T' = mn (T + b0) cs.sum ∧ d ≤ d' ∧ d' ≤ n ∧ cumS cs d' ≤ T' ∧ (d' < n → T' < cumS cs (d' + 1)) ∧ Wk lo hi w' p A n c (remL cs T') d' ∧ Chg lo hi w w' := by
  have n12 : n ≤ 12 := by have := hc.len; omega
  have HC := Lib.hid hc; have HL := Lib.hid hl; have HW := Lib.hid hw; have H2 := Lib.hid h2
  obtain ⟨t0, t1⟩ := hc.sum_bd
  have T0 : 0 ≤ T := by have := (hc.bd d).1; omega
  obtain ⟨b00, b01⟩ := hb0
  have hmn := fun (W : World) (ts : Array TypeId) (t : TypeId) (x y : Int) => run_mn Try.prog W ts t x y
  clear hc hl hw h2
  go_enter Try.func52, Try.ntmps52
  go_wp2
  go_loopw [1] (fun b wr => ∃ (U : Int) (k : Nat), b = .int .i64 (T + b0 - U) ∧ T ≤ U ∧ U ≤ T + b0 ∧ U ≤ cs.sum ∧ d ≤ k ∧ k ≤ n ∧ cumS cs k ≤ U ∧ Hid (k < n → U ≤ cumS cs (k + 1)) ∧ Hid (Wk lo hi wr p A n c (remL cs U) k) ∧ Hid (Chg lo hi w wr)) (fun _ wr => n - (intOf (cv wr ⟨p, 1, none⟩)).toNat)
  case atStart => exact ⟨T, d, by congr 1; omega, Int.le_refl _, by omega, h3, Nat.le_refl _, hd, h1, H2, HW, Lib.hid (Chg.refl _ _ _)⟩
  case round =>
    obtain ⟨U, k, rfl, u0, u1, u2, dk, kn, cu, HU, HK, HG⟩ := hrel
    have q0 := HK.out.c0
    have q1 := HK.out.c1
    have qf := HK.out.f1
    have k0 : (0 : Int) ≤ (k : Int) := by omega
    have k12 : (k : Int) ≤ 12 := by omega
    by_cases hlt : k < n
    · have k1 : (k : Int) < (n : Int) := by omega
      obtain ⟨g, rfl, g0, g1, g2, R⟩ := HK.out.row (by omega)
      have kl : k < cs.length := by rw [HL.out]; exact hlt
      have UU := HU.out hlt
      have gc := R.c k (by rw [remL_len]; exact kl)
      have gf := R.f k (by rw [remL_len]; exact kl)
      rw [remL_at kl, remC_here cu UU] at gc
      have bk := HC.out.bd (k + 1)
      clear R
      generalize hz : cumS cs (k + 1) = z at *
      have bq : 0 ≤ mn (T + b0 - U) (z - U) ∧ mn (T + b0 - U) (z - U) ≤ 1000 := by unfold mn; omega
      have bq2 : mn (T + b0 - U) (z - U) ≤ z - U ∧ mn (T + b0 - U) (z - U) ≤ T + b0 - U ∧ (mn (T + b0 - U) (z - U) < z - U → mn (T + b0 - U) (z - U) = T + b0 - U) := by unfold mn; omega
      obtain ⟨q, hq⟩ : ∃ q, mn (T + b0 - U) (z - U) = q := ⟨_, rfl⟩
      rw [hq] at bq bq2
      obtain ⟨bq2, bq3, bq4⟩ := bq2
      have hmn' := fun (W : World) (ts : Array TypeId) (t : TypeId) => (hmn W ts t (T + b0 - U) (z - U)).trans (by rw [hq])
      have K5 : Hid (∀ j, Wk lo hi ((wr.drewN j).setCell ⟨g, k, none⟩ (.int .i64 (z - U - q))) p (some ⟨g, 0, none⟩) n c (remL cs (U + q)) k) := Lib.hid (fun j => by
        have h := (HK.out.drewN j).left hlt (z - U - q)
        have e := remL_set (cs := cs) (d := k) (T := U) (U := U + q) HC.out cu (by omega) (by omega)
        rw [hz, show z - (U + q) = z - U - q by omega] at e
        rw [e] at h
        exact h)
      have G5 : Hid (∀ j, Chg lo hi w ((wr.drewN j).setCell ⟨g, k, none⟩ (.int .i64 (z - U - q)))) := Lib.hid (fun j => (HG.out.drewN j).store g1 g2 _)
      have ztop := HC.out.top (k + 1)
      rw [hz] at ztop
      have M0 : Hid (cv wr ⟨p, 1, none⟩ = .int .i64 (k : Int)) := Lib.hid (by unfold cv; rw [q1]; rfl)
      have HZ := Lib.hid hz
      clear hmn
      clear hz
      go_wp2
      go_quiet (fail)
      go_wp2
      go_quiet (fail)
      go_wp2
      go_region
      go_wp2
      by_cases hp : 0 < z - U - q
      · have E4 := Lib.hid (bq4 (by omega))
        clear bq4
        go_quiet (fail)
        go_wp2
        go_ret
        exact ⟨U + q, k, ret_int (by omega), by have := E4.out; unfold mn; omega, dk, kn, by omega, fun _ => by rw [HZ.out]; omega, (K5.out _).drewN _, (G5.out _).drewN _⟩
      · have E4 : Hid (z = U + q) := Lib.hid (by omega)
        clear bq4
        go_quiet (fail)
        go_wp2
        go_roundw
        case rel => exact ⟨U + q, k + 1, int_eq (by omega), by omega, by omega, by have := E4.out; omega, by omega, by omega, by rw [HZ.out, E4.out]; exact Int.le_refl _, Lib.hid (fun h => by have := HC.out.mono (show k + 1 ≤ k + 1 + 1 by omega); rw [HZ.out] at this; have := E4.out; omega), Lib.hid (((K5.out _).drewN _).more), Lib.hid (((G5.out _).drewN _).store HK.out.p0 HK.out.p1 _)⟩
        case measure =>
          rw [M0.out, cv_setCell_same ((K5.out _).drewN _).c1]
          simp [intOf]; omega
    · obtain rfl : k = n := by omega
      have cn : cumS cs k = cs.sum := cumS_over (by rw [HL.out]; exact Nat.le_refl _)
      have TT : U = cs.sum := by omega
      clear HU
      subst TT
      go_wp2
      go_quiet (fail)
      go_wp2
      go_ret
      exact ⟨cs.sum, k, rfl, by unfold mn; omega, dk, kn, cu, fun h => absurd h (Nat.lt_irrefl _), HK.out.drewN _, HG.out.drewN _⟩
end Go.Proofs.Yteofjfglmngmnaa
