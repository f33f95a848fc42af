/- The program's frames, walked: FinishFrames, WorkLeft, FramesNeeded, IdleTime answer as the plain functions do. Condition: the lists can be read. -/
import Derived.Test.YteofjfglmngmnaaFrameI
import Derived.Test.YteofjfglmngmnaaFrameS
namespace Go.Proofs.Yteofjfglmngmnaa
open Go.RowKit

theorem size_alloc1 (w : World) (o : Obj) : (w.alloc o).heap.size = w.heap.size + 1 := by simp
set_option maxHeartbeats 1000000 in
theorem startWork_no (A B : Option Addr) (n c m d : Nat) (cs bs : List Int) (hn : n ≤ 1048576) (hm : m ≤ 1048576) (hj : jobsB cs bs = false) (w : World) (hx : Ints w A n cs) (hy : Ints w B m bs) :
    Calls Try.prog 51 #[.slice A n c, .slice B m d] w fun e w' => e = .returned (.pointer none) ∧ w = w' := by
  have HX := Lib.hid hx; have HY := Lib.hid hy
  clear hx hy
  unfold jobsB at hj
  cases h1 : jobB cs
  · have H1 := Lib.hid h1
    clear h1 hj
    go_enter Try.func51, Try.ntmps51
    go_wp2_with (go_at_call 75; refine (ivalidCosts_any A n c cs hn _ HX.out).mono ?_; rw [H1.out]; rintro e w' ⟨rfl, rfl⟩)
    go_ret
    exact ⟨rfl, rfl⟩
  · have H1 := Lib.hid h1
    rw [h1, Bool.true_and] at hj
    have H2 := Lib.hid hj
    clear h1 hj
    go_enter Try.func51, Try.ntmps51
    go_wp2_with (first
      | (go_at_call 75; refine (ivalidCosts_any A n c cs hn _ HX.out).mono ?_; rw [H1.out]; rintro e w' ⟨rfl, rfl⟩)
      | (go_at_call 76; refine (validList_any B m d bs _ _ hm _ HY.out).mono ?_; rw [listB_job, H2.out]; rintro e w' ⟨rfl, rfl⟩))
    go_ret
    exact ⟨rfl, rfl⟩
set_option maxHeartbeats 1000000 in
theorem startWork_yes (A B : Option Addr) (n c m d : Nat) (cs bs : List Int) (hj : jobsB cs bs = true) (w : World) (hx : Ints w A n cs) (hy : Ints w B m bs) :
    Calls Try.prog 51 #[.slice A n c, .slice B m d] w fun e w' => ∃ p A' c', e = .returned (.pointer (some ⟨p, 0, none⟩)) ∧ Wk w.heap.size w'.heap.size w' p A' n c' cs 0 ∧ New w w' := by
  obtain ⟨hc, hb⟩ := jobsB_iff.1 hj
  have n12 : n ≤ 12 := by have := hx.len; have := hc.len; omega
  have m12 : m ≤ 12 := by have := hy.len; have := hb.len; omega
  have H1 := Lib.hid (jobB_iff.2 hc); have H2 := Lib.hid (jobB_iff.2 hb)
  have HX := Lib.hid hx; have HY := Lib.hid hy; have LX := Lib.hid hx.len
  clear hx hy hj hc hb
  go_enter Try.func51, Try.ntmps51
  go_wp2_with (first
    | (go_at_call 75; refine (ivalidCosts_any A n c cs (by omega) _ HX.out).mono ?_; rw [H1.out]; rintro e w' ⟨rfl, rfl⟩)
    | (go_at_call 76; refine (validList_any B m d bs _ _ (by omega) _ HY.out).mono ?_; rw [listB_job, H2.out]; rintro e w' ⟨rfl, rfl⟩)
    | (go_at_call 77; refine (Clone_any A n c cs (by omega) _ HX.out).mono ?_; rintro e w1 ⟨A1, n1, c1, rfl, l1, R1, N1⟩; (obtain rfl : n = n1 := by have := LX.out; omega); (have R1 := Lib.hid R1); (have N1 := Lib.hid N1); clear l1))
  have z1 := N1.out.le
  go_ret
  refine ⟨w1.heap.size, A1, c1, rfl, ⟨z1, by simp, by simp [go_sem], by simp [go_sem], by simp [go_sem], LX.out, fun h0 => ?_⟩, N1.out.alloc _⟩
  obtain ⟨g, e, g1, g2, R⟩ := R1.out.2 (by rw [LX.out]; exact h0)
  exact ⟨g, e, by omega, g1, by simp; omega, R.new ((New.refl _).alloc _)⟩
theorem mn_step {c s b : Int} (hb : 0 ≤ b) : mn (mn c s + b) s = mn (c + b) s := by unfold mn; omega
theorem Own.chg {lo hi lo2 : Nat} {w w' : World} {v : Value} {zs : List Int} (h : Own lo2 w v zs) (k : Chg lo hi w w') (hl : hi ≤ lo2) : Own lo2 w' v zs := by
  refine ⟨h.1, ?_⟩
  rcases h.2 with hn | ⟨g, cap, cur, hv, hg, hh, hc, hm, hs, ht⟩
  · exact .inl hn
  · have hlt : g < w.heap.size := by
      rcases Nat.lt_or_ge g w.heap.size with h1 | h1
      · exact h1
      · rw [Array.getElem?_eq_none h1] at hh; cases hh
    exact .inr ⟨g, cap, cur, hv, hg, (k.block g hlt (by omega)).trans hh, hc, hm, hs, ht⟩
theorem Wk.own {lo hi p n c d lo2 : Nat} {w w' : World} {A : Option Addr} {ls zs : List Int} {v : Value} (h : Wk lo hi w p A n c ls d) (k : w.grownBy w' v.ownBlock) (ho : Own lo2 w v zs) (hl : hi ≤ lo2) : Wk lo hi w' p A n c ls d := by
  have hp : p < w.heap.size := World.block_lt_of_cell? w ⟨p, 1, none⟩ h.c1
  have p0 := h.p0; have p1 := h.p1
  have kb : ∀ b, b < w.heap.size → b < hi → w'.heap[b]? = w.heap[b]? := fun b hb hb' => k.block b hb (fun e => by have := ho.below e.symm; omega)
  refine ⟨h.p0, h.p1, (World.cell?_of_block (kb p hp p1)).trans h.c0, (World.cell?_of_block (kb p hp p1)).trans h.c1, (World.frozen?_of_block (w := w) (kb p hp p1)).trans h.f1, h.len, fun h0 => ?_⟩
  obtain ⟨g, e, g0, g1, g2, R⟩ := h.row h0
  exact ⟨g, e, g0, g1, g2, ⟨Nat.lt_of_lt_of_le R.lt k.size, fun i hi' => (World.cell?_of_block (kb g R.lt g2)).trans (R.c i hi'), fun i hi' => (World.frozen?_of_block (w := w) (kb g R.lt g2)).trans (R.f i hi')⟩⟩
set_option maxRecDepth 100000 in
set_option maxHeartbeats 4000000 in
theorem WorkLeft_yes (A B : Option Addr) (n c m d : Nat) (cs bs : List Int) (hj : jobsB cs bs = true) (w : World) (hx : Ints w A n cs) (hy : Ints w B m bs) :
    Calls Try.prog 20 #[.slice A n c, .slice B m d] w (Ans w (remL cs bs.sum)) := by
  obtain ⟨hc, hb⟩ := jobsB_iff.1 hj
  have m12 : m ≤ 12 := by have := hy.len; have := hb.len; omega
  have LX := Lib.hid hx.len; have LY := Lib.hid hy.len
  have HX := Lib.hid hx; have HY := Lib.hid hy; have HJ := Lib.hid hj; have HC := Lib.hid hc; have HB := Lib.hid hb
  have m1 : (m : Int) ≤ 12 := by omega
  clear hx hy hj hc hb
  go_enter Try.func20, Try.ntmps20
  go_wp2_with fail
  refine (startWork_yes A B n c m d cs bs HJ.out _ HX.out HY.out).mono ?_
  rintro e w1 ⟨p, A1, c1, rfl, K1, N1⟩
  replace K1 := Lib.hid K1; replace N1 := Lib.hid N1
  have HY1 := Lib.hid (HY.out.new N1.out)
  go_wp2
  go_loopw [15] (fun i wr => ∃ (k e : Nat) (T : Int), k ≤ m ∧ i = .int .i64 k ∧ T = mn (cumS bs k) cs.sum ∧ e ≤ n ∧ cumS cs e ≤ T ∧ Hid (e < n → T ≤ cumS cs (e + 1)) ∧ Hid (Wk w.heap.size w1.heap.size wr p A1 n c1 (remL cs T) e) ∧ Hid (New w wr)) (fun i _ => m - (intOf i).toNat)
  case atStart => exact ⟨0, 0, 0, Nat.zero_le _, rfl, by have := HC.out.sum_bd; rw [cumS_zero]; unfold mn; omega, Nat.zero_le _, by rw [cumS_zero]; exact Int.le_refl _, Lib.hid (fun _ => (HC.out.bd _).1), Lib.hid (by rw [remL_zero HC.out]; exact K1.out), N1⟩
  case round =>
    obtain ⟨k, e, T, hk, rfl, hT, en, ce, HE, HK, HN⟩ := hrel
    by_cases hlt : k < m
    · obtain ⟨b, off, rfl, hb, hcl⟩ := HY.out.at_ (by omega)
      have g1 := (HN.out.cells b _ hb).trans (hcl k hlt)
      have kl : k < bs.length := by rw [LY.out]; exact hlt
      have bb := HB.out.at_ k
      have cb := HB.out.bd k
      have T1 : T ≤ cs.sum := by rw [hT]; unfold mn; omega
      have NX : Hid (mn (T + bs.getD k 0) cs.sum = mn (cumS bs (k + 1)) cs.sum) := Lib.hid (by rw [hT, mn_step bb.1, cumS_succ kl])
      have k0 : (0 : Int) ≤ (k : Int) := by omega
      have k1 : (k : Int) < (m : Int) := by omega
      clear hcl kl hT
      generalize bs.getD k 0 = y at *
      go_wp2_with fail
      refine (resume_any _ _ p A1 n c1 cs e T y HC.out LX.out bb en ce HE.out T1 wr HK.out).mono ?_
      rintro e2 w5 ⟨T', d', rfl, t1, t2, t3, t4, t5, K5, G5⟩
      have N5 : Hid (New w w5) := Lib.hid (G5.new HN.out (Nat.le_refl _))
      replace K5 := Lib.hid K5; replace t5 := Lib.hid t5; replace t4 := Lib.hid t4
      have TT : Hid (T' = mn (cumS bs (k + 1)) cs.sum) := Lib.hid (t1.trans NX.out)
      clear G5 t1 NX T1 ce
      go_wp2
      go_roundw
      case rel => exact ⟨k + 1, d', T', by omega, by go_num, TT.out, t3, t4.out, Lib.hid (fun h => Int.le_of_lt (t5.out h)), K5, N5⟩
      case measure => simp [intOf]; omega
    · obtain rfl : k = m := by omega
      have RR : Hid (remL cs T = remL cs bs.sum) := Lib.hid (by rw [hT, remL_min HC.out, cumS_over (by rw [LY.out]; exact Nat.le_refl _)])
      have q0 := HK.out.c0
      clear hT
      go_wp2
      go_ret
      refine ⟨A1, n, c1, rfl, by rw [remL_len]; exact LX.out, ⟨Nat.le_refl _, fun h0 => ?_⟩, HN.out⟩
      obtain ⟨g, e2, _, g1, g2, R⟩ := HK.out.row (by rw [remL_len, LX.out] at h0; exact h0)
      exact ⟨g, e2, g1, R.lt, by rw [← RR.out]; exact R⟩
set_option maxHeartbeats 1000000 in
theorem WorkLeft_no (A B : Option Addr) (n c m d : Nat) (cs bs : List Int) (hn : n ≤ 1048576) (hm : m ≤ 1048576) (hj : jobsB cs bs = false) (w : World) (hx : Ints w A n cs) (hy : Ints w B m bs) :
    Calls Try.prog 20 #[.slice A n c, .slice B m d] w (Ans w []) := by
  have CS := Lib.hid (startWork_no A B n c m d cs bs hn hm hj w hx hy)
  clear hx hy hj
  go_enter Try.func20, Try.ntmps20
  go_wp2_with (go_at_call 51; refine CS.out.mono ?_; rintro e w' ⟨rfl, rfl⟩)
  go_ret
  exact Ans.none_ rfl (by (repeat (first | exact New.refl _ | assumption | refine New.alloc ?_ _ | refine New.drew ?_ | refine New.drewN ?_ _ | refine New.setCell ?_ (by first | omega | (simp; omega) | (simp; done)) _ | refine New.trans ?_ (by assumption))))
theorem WorkLeft_ans (cs bs : List Int) (A : Option Addr) (n c : Nat) (B : Option Addr) (m d : Nat) (W : World) (hx : Ints W A n cs) (hy : Ints W B m bs) (hn : n ≤ 1048576) (hm : m ≤ 1048576) :
    Calls Try.prog 20 #[.slice A n c, .slice B m d] W (Ans W (remA cs bs)) := by
  unfold remA
  cases h : jobsB cs bs
  · exact WorkLeft_no A B n c m d cs bs hn hm h W hx hy
  · exact WorkLeft_yes A B n c m d cs bs h W hx hy
set_option maxRecDepth 100000 in
set_option maxHeartbeats 4000000 in
theorem IdleTime_yes (A B : Option Addr) (n c m d : Nat) (cs bs : List Int) (hj : jobsB cs bs = true) (w : World) (hx : Ints w A n cs) (hy : Ints w B m bs) :
    Calls Try.prog 23 #[.slice A n c, .slice B m d] w fun e w' => e = .returned (.int .i64 (mx 0 (bs.sum - cs.sum))) ∧ New w w' := by
  obtain ⟨hc, hb⟩ := jobsB_iff.1 hj
  have m12 : m ≤ 12 := by have := hy.len; have := hb.len; omega
  have LX := Lib.hid hx.len; have LY := Lib.hid hy.len
  have HX := Lib.hid hx; have HY := Lib.hid hy; have HJ := Lib.hid hj; have HC := Lib.hid hc; have HB := Lib.hid hb
  have m1 : (m : Int) ≤ 12 := by omega
  clear hx hy hj hc hb
  go_enter Try.func23, Try.ntmps23
  go_wp2_with fail
  refine (startWork_yes A B n c m d cs bs HJ.out _ HX.out HY.out).mono ?_
  rintro e w1 ⟨p, A1, c1, rfl, K1, N1⟩
  replace K1 := Lib.hid K1; replace N1 := Lib.hid N1
  have HY1 := Lib.hid (HY.out.new N1.out)
  go_wp2
  go_loopw [6, 16] (fun s i wr => ∃ (k e : Nat) (T : Int), k ≤ m ∧ i = .int .i64 k ∧ s = .int .i64 (cumS bs k - T) ∧ T = mn (cumS bs k) cs.sum ∧ e ≤ n ∧ cumS cs e ≤ T ∧ Hid (e < n → T ≤ cumS cs (e + 1)) ∧ Hid (Wk w.heap.size w1.heap.size wr p A1 n c1 (remL cs T) e) ∧ Hid (New w wr)) (fun _ i _ => m - (intOf i).toNat)
  case atStart => exact ⟨0, 0, 0, Nat.zero_le _, rfl, by rw [cumS_zero]; rfl, by have := HC.out.sum_bd; rw [cumS_zero]; unfold mn; omega, Nat.zero_le _, by rw [cumS_zero]; exact Int.le_refl _, Lib.hid (fun _ => (HC.out.bd _).1), Lib.hid (by rw [remL_zero HC.out]; exact K1.out), N1⟩
  case round =>
    obtain ⟨k, e, T, hk, rfl, rfl, hT, en, ce, HE, HK, HN⟩ := hrel
    by_cases hlt : k < m
    · obtain ⟨b, off, rfl, hb, hcl⟩ := HY.out.at_ (by omega)
      have g1 := (HN.out.cells b _ hb).trans (hcl k hlt)
      have kl : k < bs.length := by rw [LY.out]; exact hlt
      have bb := HB.out.at_ k
      have cb := HB.out.bd k
      have sb := HC.out.sum_bd
      have T1 : T ≤ cs.sum := by rw [hT]; unfold mn; omega
      have T2 : 0 ≤ T ∧ T ≤ cumS bs k := by rw [hT]; unfold mn; omega
      have NX : Hid (mn (T + bs.getD k 0) cs.sum = mn (cumS bs (k + 1)) cs.sum) := Lib.hid (by rw [hT, mn_step bb.1, cumS_succ kl])
      have CK : Hid (∀ q, q = k + 1 → cumS bs q = cumS bs k + bs.getD k 0) := Lib.hid (fun q hq => by rw [hq]; exact cumS_succ kl)
      have k0 : (0 : Int) ≤ (k : Int) := by omega
      have k1 : (k : Int) < (m : Int) := by omega
      clear hcl kl hT
      generalize bs.getD k 0 = y at *
      go_wp2_with fail
      refine (resume_any _ _ p A1 n c1 cs e T y HC.out LX.out bb en ce HE.out T1 wr HK.out).mono ?_
      rintro e2 w5 ⟨T', d', rfl, t1, t2, t3, t4, t5, K5, G5⟩
      have N5 : Hid (New w w5) := Lib.hid (G5.new HN.out (Nat.le_refl _))
      have T3 : 0 ≤ T' ∧ T' ≤ T + y := by rw [t1]; unfold mn; omega
      replace K5 := Lib.hid K5; replace t5 := Lib.hid t5; replace t4 := Lib.hid t4
      have TT : Hid (T' = mn (cumS bs (k + 1)) cs.sum) := Lib.hid (t1.trans NX.out)
      clear G5 t1 NX T1 ce
      generalize cumS bs k = s at *
      go_wp2
      go_roundw
      case rel => exact ⟨k + 1, d', T', by omega, by go_num, int_eq (by rw [CK.out _ rfl]; omega), TT.out, t3, t4.out, Lib.hid (fun h => Int.le_of_lt (t5.out h)), K5, N5⟩
      case measure => simp [intOf]; omega
    · obtain rfl : k = m := by omega
      have RR : Hid (cumS bs k - T = mx 0 (bs.sum - cs.sum)) := Lib.hid (by rw [hT, cumS_over (by rw [LY.out]; exact Nat.le_refl _)]; unfold mn mx; omega)
      clear hT
      go_wp2
      go_ret
      exact ⟨ret_int RR.out, HN.out⟩
set_option maxHeartbeats 1000000 in
theorem IdleTime_any (cs bs : List Int) (A : Option Addr) (n c : Nat) (B : Option Addr) (m d : Nat) (w : World) (hx : Ints w A n cs) (hy : Ints w B m bs) (hn : n ≤ 1048576) (hm : m ≤ 1048576) :
    Calls Try.prog 23 #[.slice A n c, .slice B m d] w fun e w' => e = .returned (.int .i64 (idleA cs bs)) ∧ New w w' := by
  unfold idleA
  cases h : jobsB cs bs
  · have CS := Lib.hid (startWork_no A B n c m d cs bs hn hm h w hx hy)
    clear hx hy h
    go_enter Try.func23, Try.ntmps23
    go_wp2_with (go_at_call 51; refine CS.out.mono ?_; rintro e w' ⟨rfl, rfl⟩)
    go_ret
    exact ⟨rfl, by (repeat (first | exact New.refl _ | assumption | refine New.alloc ?_ _ | refine New.drew ?_ | refine New.drewN ?_ _ | refine New.setCell ?_ (by first | omega | (simp; omega) | (simp; done)) _ | refine New.trans ?_ (by assumption)))⟩
  · exact IdleTime_yes A B n c m d cs bs h w hx hy
end Go.Proofs.Yteofjfglmngmnaa
