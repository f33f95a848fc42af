/- The program's FinishFrames, walked: it answers as the plain function does. Condition: the lists can be read. -/
import Derived.Test.YteofjfglmngmnaaFrameZ
namespace Go.Proofs.Yteofjfglmngmnaa
open Go.RowKit

/-- Jobs that are done in frame k. -/
theorem frame_here {cs bs : List Int} (hc : Jobs cs) (hb : Jobs bs) {k m i e : Nat} {T : Int} (hk : k < m) (hT : T = mn (cumS bs k) cs.sum) (he : e ≤ i) (h0 : 0 < k → T < cumS cs (e + 1)) (h1 : cumS cs (i + 1) ≤ mn (cumS bs (k + 1)) cs.sum) : frameOf bs (cumS cs (i + 1)) m = (k : Int) := by
  refine frameOf_yes m k hk (fun f hf => ?_) (by unfold mn at h1; omega)
  have h2 := h0 (by omega)
  have m1 := hc.mono (show e + 1 ≤ i + 1 by omega)
  have m2 := hb.mono (show f + 1 ≤ k by omega)
  have t := hc.top (i + 1)
  have : mn (cumS bs k) cs.sum = cumS bs k ∨ cs.sum ≤ mn (cumS bs k) cs.sum := by unfold mn; omega
  rcases this with h | h
  · omega
  · have := hc.top (e + 1)
    omega
/-- Jobs that are not done. -/
theorem frame_never {cs bs : List Int} (hc : Jobs cs) (hb : Jobs bs) {m i e : Nat} {T : Int} (hT : T = mn (cumS bs m) cs.sum) (he : e ≤ i) (h0 : 0 < m → T < cumS cs (e + 1)) : frameOf bs (cumS cs (i + 1)) m = -1 := by
  refine frameOf_no m (fun f hf => ?_)
  have h2 := h0 (by omega)
  have m1 := hc.mono (show e + 1 ≤ i + 1 by omega)
  have m2 := hb.mono (show f + 1 ≤ m by omega)
  have t := hc.top (i + 1)
  have : mn (cumS bs m) cs.sum = cumS bs m ∨ cs.sum ≤ mn (cumS bs m) cs.sum := by unfold mn; omega
  rcases this with h | h
  · omega
  · have := hc.top (e + 1)
    omega
theorem Own.len_form {lo : Nat} {w : World} {v : Value} {zs : List Int} {j : Nat} (h : Own lo w v zs) (hj : zs.length = j) : ∃ A c, v = .slice A j c := by
  obtain ⟨A, c, e, _⟩ := h.res
  exact ⟨A, c, by rw [e, hj]⟩
set_option maxRecDepth 100000 in
set_option maxHeartbeats 4000000 in
theorem FinishFrames_yes (A B : Option Addr) (n c m d : Nat) (cs bs : List Int) (hj : jobsB cs bs = true) (w : World) (hx : Ints w A n cs) (hy : Ints w B m bs) :
    Calls Try.prog 16 #[.slice A n c, .slice B m d] w (Ans w (doneL cs bs)) := by
  obtain ⟨hc, hb⟩ := jobsB_iff.1 hj
  have n12 : n ≤ 12 := by have := hx.len; have := hc.len; omega
  have m12 : m ≤ 12 := by have := hy.len; have := hb.len; omega
  have LX := Lib.hid hx.len; have LY := Lib.hid hy.len
  have HX := Lib.hid hx; have HY := Lib.hid hy; have HJ := Lib.hid hj; have HC := Lib.hid hc; have HB := Lib.hid hb
  have m1 : (m : Int) ≤ 12 := by omega
  have n1 : (n : Int) ≤ 12 := by omega
  clear hx hy hj hc hb
  go_enter Try.func16, Try.ntmps16
  go_wp2_with fail
  refine (startWork_yes A B n c m d cs bs HJ.out _ HX.out HY.out).mono ?_
  rintro e w1 ⟨p, A1, c1, rfl, K1, N1⟩
  obtain ⟨i0, hi, hz0, hz1, hz2⟩ := info_parts info_int
  obtain ⟨W0, hmk, O0, G0⟩ := run_make_own (P := Try.prog) w1 w1.heap.size 23 3 i0 (.int .i64 0) 1 Try.underlying23 hi hz0 hz1 .i64 .i64 n (by rw [hz2]; omega) (by unfold maxLen; omega) (Nat.le_refl _)
  have NW : New w1 W0 := ⟨G0.os, G0.tape, G0.output, G0.size, fun k hk => G0.block k hk (by simp)⟩
  have K1 := Lib.hid (K1.new NW); have N1' := Lib.hid (N1.trans NW)
  have O0 : Hid (Own w1.heap.size W0 (.slice (some ⟨w1.heap.size, 0, none⟩) 0 n) (List.take 0 (doneL cs bs))) := Lib.hid O0
  have zN := N1.le
  have zW := NW.le
  clear G0 hi hz0 hz1 hz2 N1 NW
  go_wp2
  clear hmk
  go_loopw [6, 19] (fun v i wr => ∃ (k e : Nat) (T : Int), k ≤ m ∧ i = .int .i64 k ∧ T = mn (cumS bs k) cs.sum ∧ e ≤ n ∧ cumS cs e ≤ T ∧ Hid (e < n → T ≤ cumS cs (e + 1)) ∧ Hid (0 < k → e < n → T < cumS cs (e + 1)) ∧ Hid (Wk w.heap.size w1.heap.size wr p A1 n c1 (remL cs T) e) ∧ Hid (Own w1.heap.size wr v ((doneL cs bs).take e)) ∧ Hid (New w wr) ∧ w1.heap.size ≤ wr.heap.size) (fun _ i _ => m - (intOf i).toNat)
  case atStart => exact ⟨0, 0, 0, Nat.zero_le _, rfl, by have := HC.out.sum_bd; rw [cumS_zero]; unfold mn; omega, Nat.zero_le _, by rw [cumS_zero]; exact Int.le_refl _, Lib.hid (fun _ => (HC.out.bd _).1), Lib.hid (fun h => absurd h (Nat.lt_irrefl _)), Lib.hid (by rw [remL_zero HC.out]; exact K1.out), O0, N1', zW⟩
  case round =>
    obtain ⟨k, e, T, hk, rfl, hT, en, ce, HE, HS, HK, HO, HN, zr⟩ := hrel
    by_cases hlt : k < m
    · obtain ⟨b, off, rfl, hb, hcl⟩ := HY.out.at_ (by omega)
      have g1 := (HN.out.cells b _ hb).trans (hcl k hlt)
      have kl : k < bs.length := by rw [LY.out]; exact hlt
      have bb := HB.out.at_ k
      have T1 : T ≤ cs.sum := by rw [hT]; unfold mn; omega
      have NX : Hid (mn (T + bs.getD k 0) cs.sum = mn (cumS bs (k + 1)) cs.sum) := Lib.hid (by rw [hT, mn_step bb.1, cumS_succ kl])
      have k0 : (0 : Int) ≤ (k : Int) := by omega
      have k1 : (k : Int) < (m : Int) := by omega
      have HT := Lib.hid hT
      clear hcl kl hT
      generalize bs.getD k 0 = y at *
      go_wp2_with fail
      refine (resume_any _ _ p A1 n c1 cs e T y HC.out LX.out bb en ce HE.out T1 wr HK.out).mono ?_
      rintro e2 w5 ⟨T', d', rfl, t1, t2, t3, t4, t5, K5, G5⟩
      have N5 : Hid (New w w5) := Lib.hid (G5.new HN.out (Nat.le_refl _))
      have O5 := Lib.hid (HO.out.chg G5 (Nat.le_refl _))
      have z5 : w1.heap.size ≤ w5.heap.size := Nat.le_trans zr G5.size
      have TT : Hid (T' = mn (cumS bs (k + 1)) cs.sum) := Lib.hid (t1.trans NX.out)
      have FR : Hid (∀ i, e ≤ i → i < d' → (doneL cs bs).take (i + 1) = (doneL cs bs).take i ++ [(k : Int)]) := Lib.hid (fun i h1 h2 => by
        have il : i < cs.length := by rw [LX.out]; omega
        have h3 := HC.out.mono (show i + 1 ≤ d' by omega)
        rw [done_snoc il, LY.out, frame_here HC.out HB.out (e := e) (T := T) hlt HT.out h1 (fun h => HS.out h (by omega)) (by rw [← TT.out]; omega)])
      replace K5 := Lib.hid K5; replace t5 := Lib.hid t5; replace t4 := Lib.hid t4
      have dl : d' ≤ 12 := by omega
      clear G5 t1 NX T1 ce HO HK
      go_wp2
      go_loopw [6] (fun v w6 => ∃ j : Nat, e ≤ j ∧ j ≤ d' ∧ Hid (Own w1.heap.size w6 v ((doneL cs bs).take j)) ∧ Hid (Wk w.heap.size w1.heap.size w6 p A1 n c1 (remL cs T') d') ∧ Hid (New w w6) ∧ w1.heap.size ≤ w6.heap.size) (fun v _ => d' - (match v with | .slice _ l _ => l | _ => 0))
      case atStart => exact ⟨e, Nat.le_refl _, t2, O5, K5, N5, z5⟩
      case round =>
        obtain ⟨j, ej, jd, HO6, HK6, HN6, z6⟩ := hrel
        have TL : ((doneL cs bs).take j).length = j := by rw [List.length_take, doneL_len, LX.out]; omega
        obtain ⟨A2, c2, rfl⟩ := HO6.out.len_form TL
        have q1 := HK6.out.c1
        have j0 : (0 : Int) ≤ (j : Int) := by omega
        have d0 : (0 : Int) ≤ (d' : Int) := by omega
        replace TL := Lib.hid TL
        by_cases hjd : j < d'
        · have TK := Lib.hid (FR.out j ej hjd)
          go_wp2_with (at_builtin; refine wp_app2 rfl _ _ rfl w1.heap.size _ _ rfl (HO6.out.alloc _) wr.heap.size (k : Int) rfl (Ints.one wr _ _) (by rw [TL.out]; omega) (by simp; omega) ?_; intro v7 w7 O7 G7 B7)
          have N7 := Lib.hid (new_own (HN6.out.alloc _) G7 (HO6.out.alloc _) (by omega))
          have K7 := Lib.hid ((HK6.out.new ((New.refl _).alloc _)).own G7 (HO6.out.alloc _) (Nat.le_refl _))
          have z7 := G7.size
          simp only [size_alloc1] at z7
          rw [← TK.out] at O7
          have LF := O7.len_form (j := j + 1) (by rw [List.length_take, doneL_len, LX.out]; omega)
          replace O7 := Lib.hid O7
          clear G7 B7
          obtain ⟨A7, c7, rfl⟩ := LF
          go_roundw
          case rel => exact ⟨j + 1, by omega, by omega, O7, K7, N7, by omega⟩
          case measure => simp; omega
        · obtain rfl : j = d' := by omega
          go_wp2
          go_roundw
          case rel => exact ⟨k + 1, j, T', by omega, by go_num, TT.out, t3, t4.out, Lib.hid (fun h => Int.le_of_lt (t5.out h)), Lib.hid (fun _ h => t5.out h), HK6, HO6, HN6, z6⟩
          case measure => simp [intOf]; omega
    · obtain rfl : k = m := by omega
      have FN : Hid (∀ i, e ≤ i → i < n → (doneL cs bs).take (i + 1) = (doneL cs bs).take i ++ [(-1 : Int)]) := Lib.hid (fun i h1 h2 => by
        have il : i < cs.length := by rw [LX.out]; omega
        rw [done_snoc il, LY.out, frame_never HC.out HB.out (e := e) (T := T) hT h1 (fun h => HS.out h (by omega))])
      clear hT ce
      go_wp2
      go_loopw [6] (fun v w6 => ∃ j : Nat, e ≤ j ∧ j ≤ n ∧ Hid (Own w1.heap.size w6 v ((doneL cs bs).take j)) ∧ Hid (New w w6) ∧ w1.heap.size ≤ w6.heap.size) (fun v _ => n - (match v with | .slice _ l _ => l | _ => 0))
      case atStart => exact ⟨e, Nat.le_refl _, en, HO, HN, zr⟩
      case round =>
        obtain ⟨j, ej, jn, HO6, HN6, z6⟩ := hrel
        have TL : ((doneL cs bs).take j).length = j := by rw [List.length_take, doneL_len, LX.out]; omega
        obtain ⟨A2, c2, rfl⟩ := HO6.out.len_form TL
        have j0 : (0 : Int) ≤ (j : Int) := by omega
        replace TL := Lib.hid TL
        by_cases hjn : j < n
        · have TK := Lib.hid (FN.out j ej hjn)
          go_wp2_with (at_builtin; refine wp_app2 rfl _ _ rfl w1.heap.size _ _ rfl (HO6.out.alloc _) wr.heap.size (-1 : Int) rfl (Ints.one wr _ _) (by rw [TL.out]; omega) (by simp; omega) ?_; intro v7 w7 O7 G7 B7)
          have N7 := Lib.hid (new_own (HN6.out.alloc _) G7 (HO6.out.alloc _) (by omega))
          have z7 := G7.size
          simp only [size_alloc1] at z7
          rw [← TK.out] at O7
          have LF := O7.len_form (j := j + 1) (by rw [List.length_take, doneL_len, LX.out]; omega)
          replace O7 := Lib.hid O7
          clear G7 B7
          obtain ⟨A7, c7, rfl⟩ := LF
          go_roundw
          case rel => exact ⟨j + 1, by omega, by omega, O7, N7, by omega⟩
          case measure => simp; omega
        · obtain rfl : j = n := by omega
          have EA : Hid ((doneL cs bs).take j = doneL cs bs) := Lib.hid (List.take_of_length_le (by rw [doneL_len, LX.out]; exact Nat.le_refl _))
          have OO := HO6.out
          rw [EA.out] at OO
          obtain ⟨A3, c3, e3, _, Z3⟩ := OO.res
          have L3 : (doneL cs bs).length = j := by rw [doneL_len]; exact LX.out
          rw [L3] at e3
          obtain ⟨rfl, rfl⟩ : A2 = A3 ∧ c2 = c3 := by simpa using e3
          have Z4 : Hid (Res w.heap.size wr.heap.size wr A2 (doneL cs bs)) := Lib.hid ⟨Z3.1, fun h => by obtain ⟨g, e, g1, g2⟩ := Z3.2 h; exact ⟨g, e, by omega, g2⟩⟩
          clear e3 OO Z3
          go_wp2
          go_ret
          exact ⟨A2, _, c2, rfl, L3, Z4.out, HN6.out⟩
set_option maxHeartbeats 1000000 in
theorem FinishFrames_ans (cs bs : List Int) (A : Option Addr) (n c : Nat) (B : Option Addr) (m d : Nat) (w : World) (hx : Ints w A n cs) (hy : Ints w B m bs) (hn : n ≤ 1048576) (hm : m ≤ 1048576) :
    Calls Try.prog 16 #[.slice A n c, .slice B m d] w (Ans w (doneA cs bs)) := by
  unfold doneA
  cases h : jobsB cs bs
  · have CS := Lib.hid (startWork_no A B n c m d cs bs hn hm h w hx hy)
    clear hx hy h
    go_enter Try.func16, Try.ntmps16
    go_wp2_with (go_at_call 51; refine CS.out.mono ?_; rintro e w' ⟨rfl, rfl⟩)
    go_ret
    exact Ans.none_ rfl (by (repeat (first | exact New.refl _ | assumption | refine New.alloc ?_ _ | refine New.drew ?_ | refine New.drewN ?_ _ | refine New.setCell ?_ (by first | omega | (simp; omega) | (simp; done)) _ | refine New.trans ?_ (by assumption))))
  · exact FinishFrames_yes A B n c m d cs bs h w hx hy
end Go.Proofs.Yteofjfglmngmnaa
