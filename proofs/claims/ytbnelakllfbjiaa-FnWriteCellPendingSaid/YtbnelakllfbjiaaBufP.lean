/- The cells that differ, of the program and of the reference, walked. Condition: the rows can be read. -/
import Derived.Test.YtbnelakllfbjiaaBufX
import Derived.Deep.QuietTactic
import Derived.BigQuiet
namespace Go.Proofs.Ytbnelakllfbjiaa
open Go.RowKit

/-- The first k cells whose numbers differ. -/
def pendTo (xs ys : List Int) (k : Nat) : List Int := ((List.range k).filter fun i => !(xs.getD i 0 == ys.getD i 0)).map fun (i : Nat) => (i : Int)
def pendA (v : Int) (xs ys : List Int) : List Int := okL (okB v xs ys) (pendTo xs ys xs.length)
theorem pendTo_len (xs ys : List Int) (k : Nat) : (pendTo xs ys k).length ≤ k := by
  unfold pendTo; rw [List.length_map]; have := List.length_filter_le (fun i => !(xs.getD i 0 == ys.getD i 0)) (List.range k); rwa [List.length_range] at this
theorem pendTo_yes {xs ys : List Int} {k : Nat} (h : xs.getD k 0 ≠ ys.getD k 0) : pendTo xs ys (k + 1) = pendTo xs ys k ++ [(k : Int)] := by
  unfold pendTo
  rw [List.range_succ, List.filter_append, List.filter_cons_of_pos (by simpa using h), List.map_append]; rfl
theorem pendTo_no {xs ys : List Int} {k : Nat} (h : xs.getD k 0 = ys.getD k 0) : pendTo xs ys (k + 1) = pendTo xs ys k := by
  unfold pendTo
  rw [List.range_succ, List.filter_append, List.filter_cons_of_neg (by rw [h]; simp), List.map_append]; simp
theorem pendA_len (v : Int) (xs ys : List Int) : (pendA v xs ys).length ≤ 16 := by
  unfold pendA okL
  split
  · next h => have := okB_len h; have := pendTo_len xs ys xs.length; omega
  · simp
theorem okL_len {ok : Bool} {xs : List Int} (h : ok = true → xs.length ≤ 16) : (okL ok xs).length ≤ 1048576 := by
  unfold okL
  split
  · next e => have := h e; omega
  · simp
theorem wr_len (v : Int) (xs ys : List Int) (a z : Int) : (okL (wrOk v xs ys a z) xs).length ≤ 1048576 ∧ (okL (wrOk v xs ys a z) (ys.set a.toNat z)).length ≤ 1048576 := by
  have k : wrOk v xs ys a z = true → xs.length = ys.length ∧ 1 ≤ xs.length ∧ xs.length ≤ 16 := fun h => by
    unfold wrOk at h
    rw [Bool.and_eq_true, Bool.and_eq_true] at h
    exact okB_len h.1.1
  exact ⟨okL_len fun h => (k h).2.2, okL_len fun h => by rw [List.length_set]; have := k h; omega⟩
theorem sw_len (v : Int) (xs ys : List Int) : (okL (swOk v xs ys) ys).length ≤ 1048576 := okL_len fun h => by
  unfold swOk at h
  rw [Bool.and_eq_true] at h
  have := okB_len h.1; omega
theorem dr_len (v : Int) (xs ys : List Int) : (okL (okB v xs ys) xs).length ≤ 1048576 := okL_len fun h => (okB_len h).2.2
set_option maxRecDepth 100000 in
set_option maxHeartbeats 2000000 in
theorem PendingCells_ans (A : Option Addr) (n c : Nat) (B : Option Addr) (m d : Nat) (v : Int) (xs ys : List Int) (hn : n ≤ 1048576) (hm : m ≤ 1048576) (w : World) (hx : Ints w A n xs) (hy : Ints w B m ys) :
    Calls Try.prog 20 #[.agg #[.slice A n c, .slice B m d, .int .i64 v]] w (Ans w (pendA v xs ys)) := by
  have N0 := Lib.hid (show New w (w.alloc (.cells #[.slice A n c, .slice B m d, .int .i64 v] 25)) by (repeat (first | exact New.refl _ | assumption | refine New.alloc ?_ _ | refine New.drew ?_ | refine New.drewN ?_ _ | refine New.setCell ?_ (by first | omega | (simp; omega) | (simp; done)) _ | refine New.trans ?_ (by assumption))))
  have P := Lib.hid (B3.laid w (.slice A n c) (.slice B m d) (.int .i64 v) 25)
  have HX := Lib.hid (hx.new N0.out); have HY := Lib.hid (hy.new N0.out)
  have lx := hx.len; have ly := hy.len
  clear hx hy
  cases hv : okB v xs ys
  · have E : Hid (pendA v xs ys = []) := Lib.hid (by unfold pendA; rw [hv]; rfl)
    clear lx ly
    go_enter Try.func20, Try.ntmps20
    go_wp2_with fail
    refine (ValidBuffers_any A n c B m d v xs ys hn hm _ HX.out HY.out).mono ?_
    rw [hv]
    rintro e w1 ⟨rfl, N1⟩
    have N1 := Lib.hid (N0.out.trans N1)
    go_wp2
    go_ret
    rw [E.out]
    exact Ans.none_ rfl N1.out
  have E : Hid (pendA v xs ys = pendTo xs ys n) := Lib.hid (by unfold pendA; rw [hv, lx]; rfl)
  obtain ⟨he, h1, h16⟩ := okB_len hv
  rw [lx, ly] at he
  rw [lx] at h1 h16
  obtain rfl : n = m := he
  have n16 : (n : Int) ≤ 16 := by omega
  have LX := Lib.hid lx
  clear lx ly
  go_enter Try.func20, Try.ntmps20
  go_wp2_with fail
  refine (ValidBuffers_any A n c B n d v xs ys hn hm _ HX.out HY.out).mono ?_
  rw [hv]
  rintro e w1 ⟨rfl, N1⟩
  have P1 := Lib.hid (P.out.new N1); have HX1 := Lib.hid (HX.out.new N1); have HY1 := Lib.hid (HY.out.new N1)
  have z1 : w.heap.size < w1.heap.size := P1.out.lt
  have N1 := Lib.hid (N0.out.trans N1)
  obtain ⟨_, p0, p1, p2, _, _, _⟩ := P1.out
  clear hv
  go_wp2
  go_loopw [3, 12] (fun o i wr => ∃ k : Nat, k ≤ n ∧ i = .int .i64 k ∧ Hid (Own w1.heap.size wr o (pendTo xs ys k)) ∧ Hid (New w1 wr)) (fun _ i _ => n - (intOf i).toNat)
  case atStart => exact ⟨0, Nat.zero_le _, rfl, Lib.hid (Own.nil _ _), Lib.hid (New.refl _)⟩
  case round =>
    obtain ⟨k, hk, rfl, HO, HN⟩ := hrel
    have LO := pendTo_len xs ys k
    obtain ⟨_, q0, q1, q2, _, _, _⟩ := P1.out.new HN.out
    by_cases hlt : k < n
    · have k0 : (0 : Int) ≤ (k : Int) := by omega
      have k1 : (k : Int) < (n : Int) := by omega
      obtain ⟨b, off, rfl, hb, hc⟩ := (HX1.out.new HN.out).at_ (by omega)
      obtain ⟨b', off', rfl, hb', hc'⟩ := (HY1.out.new HN.out).at_ (by omega)
      have g := hc k hlt; have g' := hc' k hlt
      clear hc hc' hb hb'
      by_cases hd : xs.getD k 0 = ys.getD k 0
      · have HS := Lib.hid (pendTo_no hd)
        rw [← hd] at g'
        clear hd
        generalize xs.getD k 0 = y at g g'
        go_wp2
        go_roundw
        case rel => exact ⟨k + 1, by omega, by go_num, by rw [HS.out]; exact HO, HN⟩
        case measure => simp [intOf]; omega
      · have HS := Lib.hid (pendTo_yes hd)
        have hd1 : (xs.getD k 0 != ys.getD k 0) = true := by simpa using hd
        have hd2 : (xs.getD k 0 == ys.getD k 0) = false := by simpa using hd
        have zr : w1.heap.size ≤ wr.heap.size := by have := HN.out.le; simpa using this
        clear hd
        generalize xs.getD k 0 = y at g hd1 hd2
        generalize ys.getD k 0 = y' at g' hd1 hd2
        go_wp2_with (at_builtin; refine wp_app rfl _ _ rfl w1.heap.size _ _ rfl (HO.out.alloc _) (some ⟨wr.heap.size, 0, none⟩) 1 1 [(k : Int)] rfl (Ints.one _ _ _) (by omega) (by simp; omega) ?_; intro v' w' ho hg)
        go_roundw
        case rel => exact ⟨k + 1, by omega, by go_num, by rw [HS.out]; exact Lib.hid ho, Lib.hid (new_own (HN.out.alloc _) hg (HO.out.alloc _) (Nat.le_refl _))⟩
        case measure => simp [intOf]; omega
    · obtain rfl : n = k := by omega
      obtain ⟨A2, c2, rfl, hc2, Z2⟩ := HO.out.res
      have Z2 := Lib.hid Z2
      go_wp2
      go_ret
      rw [E.out]
      exact ⟨A2, _, c2, rfl, rfl, Z2.out.mono (by omega) (Nat.le_refl _) (Nat.le_refl _), N1.out.trans HN.out⟩
set_option maxRecDepth 100000 in
set_option maxHeartbeats 2000000 in
theorem SPendingCells_ans (A : Option Addr) (n c : Nat) (B : Option Addr) (m d : Nat) (v : Int) (xs ys : List Int) (hn : n ≤ 1048576) (hm : m ≤ 1048576) (w : World) (hx : Ints w A n xs) (hy : Ints w B m ys) :
    Calls Try.prog 22 #[.agg #[.slice A n c, .slice B m d, .int .i64 v]] w (Ans w (pendA v xs ys)) := by
  have N0 := Lib.hid (show New w ((w.alloc (.cells #[.slice A n c, .slice B m d, .int .i64 v] 25)).alloc (.cells #[] 3)) by (repeat (first | exact New.refl _ | assumption | refine New.alloc ?_ _ | refine New.drew ?_ | refine New.drewN ?_ _ | refine New.setCell ?_ (by first | omega | (simp; omega) | (simp; done)) _ | refine New.trans ?_ (by assumption))))
  have P := Lib.hid ((B3.laid w (.slice A n c) (.slice B m d) (.int .i64 v) 25).new ((New.refl _).alloc (.cells #[] 3)))
  have NBf := Lib.hid (fun (W : World) (h : New ((w.alloc (.cells #[.slice A n c, .slice B m d, .int .i64 v] 25)).alloc (.cells #[] 3)) W) => ((New.refl (w.alloc (.cells #[.slice A n c, .slice B m d, .int .i64 v] 25))).alloc (.cells #[] 3)).trans h); have NBw := Lib.hid (show New w (w.alloc (.cells #[.slice A n c, .slice B m d, .int .i64 v] 25)) from (New.refl w).alloc (.cells #[.slice A n c, .slice B m d, .int .i64 v] 25))
  have PB := Lib.hid (B3.laid w (.slice A n c) (.slice B m d) (.int .i64 v) 25)
  have HXB := Lib.hid (hx.new ((New.refl w).alloc (.cells #[.slice A n c, .slice B m d, .int .i64 v] 25))); have HYB := Lib.hid (hy.new ((New.refl w).alloc (.cells #[.slice A n c, .slice B m d, .int .i64 v] 25)))
  have OE := Lib.hid (show Own (w.heap.size + 1) ((w.alloc (.cells #[.slice A n c, .slice B m d, .int .i64 v] 25)).alloc (.cells #[] 3)) (.slice (some ⟨w.heap.size + 1, 0, none⟩) 0 0) [] by have h := Own.empty (lo := w.heap.size + 1) (w.alloc (.cells #[.slice A n c, .slice B m d, .int .i64 v] 25)) 0 (by simp) rfl; simpa using h)
  have HX := Lib.hid (hx.new N0.out); have HY := Lib.hid (hy.new N0.out)
  have lx := hx.len; have ly := hy.len
  clear hx hy
  cases hv : okB v xs ys
  · have E : Hid (pendA v xs ys = []) := Lib.hid (by unfold pendA; rw [hv]; rfl)
    clear lx ly
    go_enter Try.func22, Try.ntmps22
    go_wp2_with fail
    refine (SValidBuffers_any A n c B m d v xs ys hn hm _ HX.out HY.out).mono ?_
    rw [hv]
    rintro e w1 ⟨rfl, N1⟩
    have N1 := Lib.hid (N0.out.trans N1)
    go_wp2
    go_ret
    rw [E.out]
    exact Ans.none_ rfl N1.out
  have E : Hid (pendA v xs ys = pendTo xs ys n) := Lib.hid (by unfold pendA; rw [hv, lx]; rfl)
  obtain ⟨he, h1, h16⟩ := okB_len hv
  rw [lx, ly] at he
  rw [lx] at h1 h16
  obtain rfl : n = m := he
  have n16 : (n : Int) ≤ 16 := by omega
  have LX := Lib.hid lx
  clear lx ly
  go_enter Try.func22, Try.ntmps22
  go_wp2_with fail
  refine (SValidBuffers_any A n c B n d v xs ys hn hm _ HX.out HY.out).mono ?_
  rw [hv]
  rintro e w1 ⟨rfl, N1⟩
  have P1 := Lib.hid (P.out.new N1); have HX1 := Lib.hid (HX.out.new N1); have HY1 := Lib.hid (HY.out.new N1)
  have O1 := Lib.hid (OE.out.new N1); have NB := Lib.hid (NBf.out _ N1)
  have z1 : w.heap.size < w1.heap.size := P1.out.lt
  have N1 := Lib.hid (N0.out.trans N1)
  obtain ⟨_, p0, p1, p2, _, _, _⟩ := P1.out
  clear hv
  go_wp2
  go_loopw [3, 4] (fun o i wr => ∃ k : Nat, k ≤ n ∧ i = .int .i64 k ∧ Hid (Own (w.heap.size + 1) wr o (pendTo xs ys k)) ∧ Hid (New (w.alloc (.cells #[.slice A n c, .slice B n d, .int .i64 v] 25)) wr)) (fun _ i _ => n - (intOf i).toNat)
  case atStart => exact ⟨0, Nat.zero_le _, rfl, O1, NB⟩
  case round =>
    obtain ⟨k, hk, rfl, HO, HN⟩ := hrel
    have LO := pendTo_len xs ys k
    obtain ⟨_, q0, q1, q2, _, _, _⟩ := PB.out.new HN.out
    by_cases hlt : k < n
    · have k0 : (0 : Int) ≤ (k : Int) := by omega
      have k1 : (k : Int) < (n : Int) := by omega
      obtain ⟨b, off, rfl, hb, hc⟩ := (HXB.out.new HN.out).at_ (by omega)
      obtain ⟨b', off', rfl, hb', hc'⟩ := (HYB.out.new HN.out).at_ (by omega)
      have g := hc k hlt; have g' := hc' k hlt
      clear hc hc' hb hb'
      by_cases hd : xs.getD k 0 = ys.getD k 0
      · have HS := Lib.hid (pendTo_no hd)
        rw [← hd] at g'
        clear hd
        generalize xs.getD k 0 = y at g g'
        go_wp2
        go_quiet (fail)
        go_wp2
        go_roundw
        case rel => exact ⟨k + 1, by omega, by go_num, by rw [HS.out]; exact HO, Lib.hid (HN.out.drewN nq)⟩
        case measure => simp [intOf]; omega
      · have HS := Lib.hid (pendTo_yes hd)
        have hd1 : (xs.getD k 0 != ys.getD k 0) = true := by simpa using hd
        have hd2 : (xs.getD k 0 == ys.getD k 0) = false := by simpa using hd
        have zr : w.heap.size + 1 ≤ wr.heap.size := by have := HN.out.le; simpa using this
        clear hd
        generalize xs.getD k 0 = y at g hd1 hd2
        generalize ys.getD k 0 = y' at g' hd1 hd2
        go_wp2
        go_quiet (fail)
        go_wp2_with (at_builtin; refine wp_app rfl _ _ rfl (w.heap.size + 1) _ _ rfl (HO.out.alloc _) (some ⟨wr.heap.size, 0, none⟩) 1 1 [(k : Int)] rfl (Ints.one _ _ _) (by omega) (by simp; omega) ?_; intro v' w' ho hg)
        go_roundw
        case rel => exact ⟨k + 1, by omega, by go_num, by rw [HS.out]; exact Lib.hid ho, Lib.hid (new_own ((HN.out.drewN nq).alloc _) hg (HO.out.alloc _) (by simp))⟩
        case measure => simp [intOf]; omega
    · obtain rfl : n = k := by omega
      obtain ⟨A2, c2, rfl, hc2, Z2⟩ := HO.out.res
      have Z2 := Lib.hid Z2
      go_wp2
      go_ret
      rw [E.out]
      exact ⟨A2, _, c2, rfl, rfl, Z2.out.mono (by omega) (Nat.le_refl _) (Nat.le_refl _), NBw.out.trans HN.out⟩
end Go.Proofs.Ytbnelakllfbjiaa
