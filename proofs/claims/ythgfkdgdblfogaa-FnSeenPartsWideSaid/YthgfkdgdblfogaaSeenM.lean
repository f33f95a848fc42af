/- SeenParts of the program and of the reference, walked: both answer with the parts that have a point in common with the view. Conditions: the sizes can be read. -/
import Derived.Test.YthgfkdgdblfogaaApp
import Derived.Test.YthgfkdgdblfogaaListV
namespace Go.Proofs.Ythgfkdgdblfogaa
open Go.RowKit

/-- Part k has a point in common with the view. -/
def snB (xs : List Int) (view at_ : Int) (k : Nat) : Bool := decide (mx (xs.take k).sum at_ < mn ((xs.take k).sum + xs.getD k 0) (at_ + view))
def snTo (xs : List Int) (view at_ : Int) (k : Nat) : List Int := ((List.range k).filter (snB xs view at_)).map Int.ofNat
def snOk (xs : List Int) (view at_ : Int) : Bool := decide ((xs.length : Int) ≤ 8) && allB 0 10000 xs && decide (0 ≤ view ∧ view ≤ 200000) && decide (-200000 ≤ at_ ∧ at_ ≤ 200000)
def snA (xs : List Int) (view at_ : Int) : List Int := if snOk xs view at_ = true then snTo xs view at_ xs.length else []
section
variable {xs : List Int} {view at_ : Int} {k : Nat}
theorem snTo_zero : snTo xs view at_ 0 = [] := rfl
theorem snTo_yes (h : snB xs view at_ k = true) : snTo xs view at_ (k + 1) = snTo xs view at_ k ++ [(k : Int)] := by
  unfold snTo; rw [List.range_succ, List.filter_append, List.map_append]; simp [h]
theorem snTo_no (h : snB xs view at_ k = false) : snTo xs view at_ (k + 1) = snTo xs view at_ k := by
  unfold snTo; rw [List.range_succ, List.filter_append, List.map_append]; simp [h]
theorem snTo_len : (snTo xs view at_ k).length ≤ k := by
  unfold snTo
  rw [List.length_map]
  exact Nat.le_trans (List.length_filter_le _ _) (by simp)
theorem snTo_in {m : Nat} (hk : k < m) : decide ((k : Int) ∈ snTo xs view at_ m) = snB xs view at_ k := by
  rw [Bool.eq_iff_iff, decide_eq_true_eq]
  unfold snTo
  rw [List.mem_map]
  constructor
  · rintro ⟨j, hj, e⟩
    obtain rfl : j = k := by have : (j : Int) = (k : Int) := e; omega
    exact (List.mem_filter.1 hj).2
  · intro h
    exact ⟨k, List.mem_filter.2 ⟨List.mem_range.2 hk, h⟩, rfl⟩
theorem snOk_iff : snOk xs view at_ = true ↔ ((xs.length : Int) ≤ 8 ∧ allB 0 10000 xs = true) ∧ (0 ≤ view ∧ view ≤ 200000) ∧ (-200000 ≤ at_ ∧ at_ ≤ 200000) := by
  unfold snOk
  rw [Bool.and_eq_true, Bool.and_eq_true, Bool.and_eq_true, decide_eq_true_eq, decide_eq_true_eq, decide_eq_true_eq]
  simp [and_assoc]
theorem snA_len : (snA xs view at_).length ≤ 8 := by
  unfold snA
  split
  · next h => have h1 := (snOk_iff.1 h).1.1; have h2 := snTo_len (xs := xs) (view := view) (at_ := at_) (k := xs.length); omega
  · simp
theorem take_bd (h : allB 0 10000 xs = true) (hk : k ≤ xs.length) : 0 ≤ (xs.take k).sum ∧ (xs.take k).sum ≤ 10000 * (k : Int) := by
  induction k with
  | zero => simp
  | succ k ih =>
    have h1 := ih (by omega)
    have h2 := allB_iff.1 h (xs.getD k 0) (by rw [show xs.getD k 0 = xs[k] by simp [show k < xs.length by omega]]; exact List.getElem_mem _)
    rw [sum_snoc (by omega)]
    omega
end
theorem Ans.ownS {w w' : World} {v : Value} {zs : List Int} {e : Ending} (he : e = .returned v) (h : Own w.heap.size w' v zs) (hN : New w w') : Ans w zs e w' := by
  obtain ⟨A, c, rfl, _, hR⟩ := h.res
  exact ⟨A, zs.length, c, he, rfl, hR, hN⟩
set_option maxHeartbeats 2000000 in
theorem SeenParts_ans (A : Option Addr) (n c : Nat) (xs : List Int) (view at_ : Int) (hn : n ≤ 1048576) (w : World) (hx : Ints w A n xs) :
    Calls Try.prog 17 #[.slice A n c, .int .i64 view, .int .i64 at_] w (Ans w (snA xs view at_)) := by
  have HX := Lib.hid hx
  have LX := Lib.hid hx.len
  have LV := Lib.hid (fun W (hW : New w W) => validList_any A n c xs 8 10000 hn W (hx.new hW))
  have hn0 : (0 : Int) ≤ (n : Int) := by omega
  cases hl : listB 8 10000 xs
  · have e0 : snA xs view at_ = [] := if_neg (fun h => by have h1 := (snOk_iff.1 h).1; unfold listB at hl; rw [h1.2, decide_eq_true h1.1] at hl; cases hl)
    rw [e0]
    clear e0 hx
    go_enter Try.func17, Try.ntmps17
    go_wp2_with (go_at_call 34; refine (LV.out _ (by (repeat (first | exact New.refl _ | assumption | refine New.alloc ?_ _ | refine New.drew ?_ | refine New.drewN ?_ _ | refine New.setCell ?_ (by first | omega | (simp; omega) | (simp; done)) _ | refine New.trans ?_ (by assumption))))).mono ?_; rw [hl]; rintro e w' ⟨rfl, rfl⟩)
    go_ret
    exact ⟨none, 0, 0, rfl, rfl, Res.nil _ _ _, by (repeat (first | exact New.refl _ | assumption | refine New.alloc ?_ _ | refine New.drew ?_ | refine New.drewN ?_ _ | refine New.setCell ?_ (by first | omega | (simp; omega) | (simp; done)) _ | refine New.trans ?_ (by assumption)))⟩
  cases h1 : decide (0 ≤ view ∧ view ≤ 200000)
  · have e0 : snA xs view at_ = [] := if_neg (fun h => by have h2 := (snOk_iff.1 h).2.1; rw [decide_eq_true h2] at h1; cases h1)
    rw [e0]
    clear e0 hx
    go_enter Try.func17, Try.ntmps17
    go_wp2_with (first | (go_at_call 34; refine (LV.out _ (by (repeat (first | exact New.refl _ | assumption | refine New.alloc ?_ _ | refine New.drew ?_ | refine New.drewN ?_ _ | refine New.setCell ?_ (by first | omega | (simp; omega) | (simp; done)) _ | refine New.trans ?_ (by assumption))))).mono ?_; rw [hl]; rintro e w' ⟨rfl, rfl⟩) | (go_at_call 35; refine (within_any _ _ _ _).mono ?_; (first | rw [h1]); rintro e w' ⟨rfl, rfl⟩))
    go_ret
    exact ⟨none, 0, 0, rfl, rfl, Res.nil _ _ _, by (repeat (first | exact New.refl _ | assumption | refine New.alloc ?_ _ | refine New.drew ?_ | refine New.drewN ?_ _ | refine New.setCell ?_ (by first | omega | (simp; omega) | (simp; done)) _ | refine New.trans ?_ (by assumption)))⟩
  cases h2 : decide (-200000 ≤ at_ ∧ at_ ≤ 200000)
  · have e0 : snA xs view at_ = [] := if_neg (fun h => by have h3 := (snOk_iff.1 h).2.2; rw [decide_eq_true h3] at h2; cases h2)
    rw [e0]
    clear e0 hx
    go_enter Try.func17, Try.ntmps17
    go_wp2_with (first | (go_at_call 34; refine (LV.out _ (by (repeat (first | exact New.refl _ | assumption | refine New.alloc ?_ _ | refine New.drew ?_ | refine New.drewN ?_ _ | refine New.setCell ?_ (by first | omega | (simp; omega) | (simp; done)) _ | refine New.trans ?_ (by assumption))))).mono ?_; rw [hl]; rintro e w' ⟨rfl, rfl⟩) | (go_at_call 35; refine (within_any _ _ _ _).mono ?_; (first | rw [h1] | rw [h2]); rintro e w' ⟨rfl, rfl⟩))
    go_ret
    exact ⟨none, 0, 0, rfl, rfl, Res.nil _ _ _, by (repeat (first | exact New.refl _ | assumption | refine New.alloc ?_ _ | refine New.drew ?_ | refine New.drewN ?_ _ | refine New.setCell ?_ (by first | omega | (simp; omega) | (simp; done)) _ | refine New.trans ?_ (by assumption)))⟩
  obtain ⟨v0, v1⟩ := of_decide_eq_true h1
  obtain ⟨a0, a1⟩ := of_decide_eq_true h2
  have hl8 : (xs.length : Int) ≤ 8 ∧ allB 0 10000 xs = true := by unfold listB at hl; rw [Bool.and_eq_true, decide_eq_true_eq] at hl; exact hl
  have e0 : snA xs view at_ = snTo xs view at_ n := by unfold snA; rw [if_pos (snOk_iff.2 ⟨hl8, ⟨v0, v1⟩, a0, a1⟩), hx.len]
  have TB := Lib.hid (fun k (hk : k ≤ n) => take_bd hl8.2 (k := k) (by rw [hx.len]; exact hk))
  have TS := Lib.hid (fun k (hk : k < n) => sum_snoc (zs := xs) (k := k) (by rw [hx.len]; exact hk))
  have TY := Lib.hid (fun k => snTo_yes (xs := xs) (view := view) (at_ := at_) (k := k)); have TN := Lib.hid (fun k => snTo_no (xs := xs) (view := view) (at_ := at_) (k := k))
  have TL := Lib.hid (fun k => snTo_len (xs := xs) (view := view) (at_ := at_) (k := k))
  have n8' : (n : Int) ≤ 8 := by have := hl8.1; rw [hx.len] at this; exact this
  rw [e0]
  have hmx := run_mx Try.prog
  have hmn := run_mn Try.prog
  clear e0 hl8 hx
  go_enter Try.func17, Try.ntmps17
  go_wp2_with (first | (go_at_call 34; refine (LV.out _ (by (repeat (first | exact New.refl _ | assumption | refine New.alloc ?_ _ | refine New.drew ?_ | refine New.drewN ?_ _ | refine New.setCell ?_ (by first | omega | (simp; omega) | (simp; done)) _ | refine New.trans ?_ (by assumption))))).mono ?_; rw [hl]; rintro e w' ⟨rfl, rfl⟩) | (go_at_call 35; refine (within_any _ _ _ _).mono ?_; (first | rw [h1] | rw [h2]); rintro e w' ⟨rfl, rfl⟩))
  clear h1 h2 LV
  go_loopw [7, 8, 27] (fun v b x wr => ∃ k : Nat, k ≤ n ∧ x = .int .i64 k ∧ b = .int .i64 (xs.take k).sum ∧ Hid (Own w.heap.size wr v (snTo xs view at_ k)) ∧ Hid (New w wr)) (fun _ _ x _ => n - (intOf x).toNat)
  case atStart => exact ⟨0, Nat.zero_le _, rfl, by simp, Lib.hid (Own.nil _ _), Lib.hid (by (repeat (first | exact New.refl _ | assumption | refine New.alloc ?_ _ | refine New.drew ?_ | refine New.drewN ?_ _ | refine New.setCell ?_ (by first | omega | (simp; omega) | (simp; done)) _ | refine New.trans ?_ (by assumption))))⟩
  case round =>
    obtain ⟨k, hk, rfl, rfl, HO, HN⟩ := hrel
    have k0 : (0 : Int) ≤ (k : Int) := by omega
    by_cases hlt : k < n
    · have k1 : (k : Int) < (n : Int) := by omega
      obtain ⟨b', off', rfl, hb', hc'⟩ := HX.out.at_ (by omega)
      have g0 := (HN.out.cells b' _ hb').trans (hc' k hlt)
      obtain ⟨s0, s1⟩ := TB.out k hk
      obtain ⟨s2, s3⟩ := TB.out (k + 1) hlt
      have ts := TS.out k hlt
      have ty := TY.out k; have tn := TN.out k
      have tl := TL.out k
      unfold snB at ty tn
      have TO := Lib.hid (show (xs.take (k + 1)).sum = (xs.take k).sum + xs.getD k 0 from ts)
      rw [ts] at s2 s3
      have hbw : b' < wr.heap.size := Nat.lt_of_lt_of_le hb' HN.out.le
      have szr := HN.out.le
      have GZ := Lib.hid (hc' k hlt)
      clear hc' ts
      generalize (xs.take k).sum = S at *
      generalize xs.getD k 0 = z at *
      obtain ⟨v, hv'⟩ : ∃ v, v = u7 := ⟨_, rfl⟩
      rw [← hv'] at HO ⊢
      clear hv'
      have TL8 := Lib.hid tl
      clear tl
      have aw : -300000 ≤ at_ + view ∧ at_ + view ≤ 500000 := by omega
      obtain ⟨aw0, aw1⟩ := aw
      by_cases hq : mx S at_ < mn (S + z) (at_ + view)
      · have TYk := Lib.hid (ty (decide_eq_true hq))
        clear ty tn
        go_wp2_with (at_builtin; refine wp_app rfl _ _ rfl w.heap.size v _ rfl (HO.out.alloc _) (some ⟨wr.heap.size, 0, none⟩) 1 1 [(k : Int)] rfl (Ints.one wr _ _) (by have := TL8.out; omega) (by simp; omega) ?_; intro v6 w6 O6 G6; (have N6 := Lib.hid (new_own (HN.out.alloc _) G6 (HO.out.alloc _) (Nat.le_refl _))); (have g0 := (N6.out.cells b' _ hb').trans GZ.out); (replace O6 := Lib.hid O6); clear G6)
        go_roundw
        case rel => exact ⟨k + 1, by omega, by go_num, by rw [TO.out], Lib.hid (by rw [TYk.out]; exact O6.out), N6⟩
        case measure => simp [intOf]; omega
      · have TNk := Lib.hid (tn (decide_eq_false hq))
        clear ty tn
        have hq2 : mn (S + z) (at_ + view) ≤ mx S at_ := by omega
        go_wp2
        go_roundw
        case rel => exact ⟨k + 1, by omega, by go_num, by rw [TO.out], Lib.hid (by rw [TNk.out]; exact HO.out), HN⟩
        case measure => simp [intOf]; omega
    · obtain rfl : k = n := by omega
      obtain ⟨v, hv'⟩ : ∃ v, v = u7 := ⟨_, rfl⟩
      rw [← hv'] at HO ⊢
      clear hv' TB TS TY TN TL
      go_wp2
      go_ret
      exact Ans.ownS rfl HO.out HN.out
set_option maxHeartbeats 2000000 in
theorem SSeenParts_ans (A : Option Addr) (n c : Nat) (xs : List Int) (view at_ : Int) (hn : n ≤ 1048576) (w : World) (hx : Ints w A n xs) :
    Calls Try.prog 15 #[.slice A n c, .int .i64 view, .int .i64 at_] w (Ans w (snA xs view at_)) := by
  have HX := Lib.hid hx
  have LX := Lib.hid hx.len
  have LV := Lib.hid (fun W (hW : New w W) => allIn_any A n c xs 0 10000 hn W (hx.new hW))
  have hn0 : (0 : Int) ≤ (n : Int) := by omega
  by_cases h8 : (xs.length : Int) ≤ 8
  case neg =>
    have e0 : snA xs view at_ = [] := if_neg (fun h => h8 (snOk_iff.1 h).1.1)
    rw [e0]
    have hb : (8 : Int) < (n : Int) := by rw [hx.len] at h8; omega
    clear h8 e0 hx
    go_enter Try.func15, Try.ntmps15
    go_wp2
    go_ret
    exact ⟨none, 0, 0, rfl, rfl, Res.nil _ _ _, by (repeat (first | exact New.refl _ | assumption | refine New.alloc ?_ _ | refine New.drew ?_ | refine New.drewN ?_ _ | refine New.setCell ?_ (by first | omega | (simp; omega) | (simp; done)) _ | refine New.trans ?_ (by assumption)))⟩
  have n8 : (n : Int) ≤ 8 := by rw [hx.len] at h8; exact h8
  cases hl : allB 0 10000 xs
  · have e0 : snA xs view at_ = [] := if_neg (fun h => by have h1 := (snOk_iff.1 h).1; rw [h1.2] at hl; cases hl)
    rw [e0]
    clear e0 hx
    go_enter Try.func15, Try.ntmps15
    go_wp2_with (go_at_call 32; refine (LV.out _ (by (repeat (first | exact New.refl _ | assumption | refine New.alloc ?_ _ | refine New.drew ?_ | refine New.drewN ?_ _ | refine New.setCell ?_ (by first | omega | (simp; omega) | (simp; done)) _ | refine New.trans ?_ (by assumption))))).mono ?_; rw [hl]; rintro e w' ⟨rfl, rfl⟩)
    go_ret
    exact ⟨none, 0, 0, rfl, rfl, Res.nil _ _ _, by (repeat (first | exact New.refl _ | assumption | refine New.alloc ?_ _ | refine New.drew ?_ | refine New.drewN ?_ _ | refine New.setCell ?_ (by first | omega | (simp; omega) | (simp; done)) _ | refine New.trans ?_ (by assumption)))⟩
  cases h1 : decide (0 ≤ view ∧ view ≤ 200000)
  · have e0 : snA xs view at_ = [] := if_neg (fun h => by have h2 := (snOk_iff.1 h).2.1; rw [decide_eq_true h2] at h1; cases h1)
    rw [e0]
    clear e0 hx
    go_enter Try.func15, Try.ntmps15
    go_wp2_with (first | (go_at_call 32; refine (LV.out _ (by (repeat (first | exact New.refl _ | assumption | refine New.alloc ?_ _ | refine New.drew ?_ | refine New.drewN ?_ _ | refine New.setCell ?_ (by first | omega | (simp; omega) | (simp; done)) _ | refine New.trans ?_ (by assumption))))).mono ?_; rw [hl]; rintro e w' ⟨rfl, rfl⟩) | (go_at_call 33; refine (inRange_any _ _ _ _).mono ?_; (first | rw [h1]); rintro e w' ⟨rfl, rfl⟩))
    go_ret
    exact ⟨none, 0, 0, rfl, rfl, Res.nil _ _ _, by (repeat (first | exact New.refl _ | assumption | refine New.alloc ?_ _ | refine New.drew ?_ | refine New.drewN ?_ _ | refine New.setCell ?_ (by first | omega | (simp; omega) | (simp; done)) _ | refine New.trans ?_ (by assumption)))⟩
  cases h2 : decide (-200000 ≤ at_ ∧ at_ ≤ 200000)
  · have e0 : snA xs view at_ = [] := if_neg (fun h => by have h3 := (snOk_iff.1 h).2.2; rw [decide_eq_true h3] at h2; cases h2)
    rw [e0]
    clear e0 hx
    go_enter Try.func15, Try.ntmps15
    go_wp2_with (first | (go_at_call 32; refine (LV.out _ (by (repeat (first | exact New.refl _ | assumption | refine New.alloc ?_ _ | refine New.drew ?_ | refine New.drewN ?_ _ | refine New.setCell ?_ (by first | omega | (simp; omega) | (simp; done)) _ | refine New.trans ?_ (by assumption))))).mono ?_; rw [hl]; rintro e w' ⟨rfl, rfl⟩) | (go_at_call 33; refine (inRange_any _ _ _ _).mono ?_; (first | rw [h1] | rw [h2]); rintro e w' ⟨rfl, rfl⟩))
    go_ret
    exact ⟨none, 0, 0, rfl, rfl, Res.nil _ _ _, by (repeat (first | exact New.refl _ | assumption | refine New.alloc ?_ _ | refine New.drew ?_ | refine New.drewN ?_ _ | refine New.setCell ?_ (by first | omega | (simp; omega) | (simp; done)) _ | refine New.trans ?_ (by assumption)))⟩
  obtain ⟨v0, v1⟩ := of_decide_eq_true h1
  obtain ⟨a0, a1⟩ := of_decide_eq_true h2
  have hl8 : (xs.length : Int) ≤ 8 ∧ allB 0 10000 xs = true := ⟨h8, hl⟩
  have e0 : snA xs view at_ = snTo xs view at_ n := by unfold snA; rw [if_pos (snOk_iff.2 ⟨hl8, ⟨v0, v1⟩, a0, a1⟩), hx.len]
  have TB := Lib.hid (fun k (hk : k ≤ n) => take_bd hl8.2 (k := k) (by rw [hx.len]; exact hk))
  have TS := Lib.hid (fun k (hk : k < n) => sum_snoc (zs := xs) (k := k) (by rw [hx.len]; exact hk))
  have TY := Lib.hid (fun k => snTo_yes (xs := xs) (view := view) (at_ := at_) (k := k)); have TN := Lib.hid (fun k => snTo_no (xs := xs) (view := view) (at_ := at_) (k := k))
  have TL := Lib.hid (fun k => snTo_len (xs := xs) (view := view) (at_ := at_) (k := k))
  have n8' : (n : Int) ≤ 8 := by have := hl8.1; rw [hx.len] at this; exact this
  rw [e0]
  have hmx := run_mx Try.prog
  have hmn := run_mn Try.prog
  clear e0 hl8 hx
  go_enter Try.func15, Try.ntmps15
  go_wp2_with (first | (go_at_call 32; refine (LV.out _ (by (repeat (first | exact New.refl _ | assumption | refine New.alloc ?_ _ | refine New.drew ?_ | refine New.drewN ?_ _ | refine New.setCell ?_ (by first | omega | (simp; omega) | (simp; done)) _ | refine New.trans ?_ (by assumption))))).mono ?_; rw [hl]; rintro e w' ⟨rfl, rfl⟩) | (go_at_call 33; refine (inRange_any _ _ _ _).mono ?_; (first | rw [h1] | rw [h2]); rintro e w' ⟨rfl, rfl⟩))
  clear h1 h2 LV
  go_loopw [7, 8, 9] (fun v b x wr => ∃ k : Nat, k ≤ n ∧ x = .int .i64 k ∧ b = .int .i64 (xs.take k).sum ∧ Hid (Own w.heap.size wr v (snTo xs view at_ k)) ∧ Hid (New w wr)) (fun _ _ x _ => n - (intOf x).toNat)
  case atStart => exact ⟨0, Nat.zero_le _, rfl, by simp, Lib.hid (Own.empty w 0 (Nat.le_refl _) rfl), Lib.hid (by (repeat (first | exact New.refl _ | assumption | refine New.alloc ?_ _ | refine New.drew ?_ | refine New.drewN ?_ _ | refine New.setCell ?_ (by first | omega | (simp; omega) | (simp; done)) _ | refine New.trans ?_ (by assumption))))⟩
  case round =>
    obtain ⟨k, hk, rfl, rfl, HO, HN⟩ := hrel
    have k0 : (0 : Int) ≤ (k : Int) := by omega
    by_cases hlt : k < n
    · have k1 : (k : Int) < (n : Int) := by omega
      obtain ⟨b', off', rfl, hb', hc'⟩ := HX.out.at_ (by omega)
      have g0 := (HN.out.cells b' _ hb').trans (hc' k hlt)
      obtain ⟨s0, s1⟩ := TB.out k hk
      obtain ⟨s2, s3⟩ := TB.out (k + 1) hlt
      have ts := TS.out k hlt
      have ty := TY.out k; have tn := TN.out k
      have tl := TL.out k
      unfold snB at ty tn
      have TO := Lib.hid (show (xs.take (k + 1)).sum = (xs.take k).sum + xs.getD k 0 from ts)
      rw [ts] at s2 s3
      have hbw : b' < wr.heap.size := Nat.lt_of_lt_of_le hb' HN.out.le
      have szr := HN.out.le
      have GZ := Lib.hid (hc' k hlt)
      clear hc' ts
      generalize (xs.take k).sum = S at *
      generalize xs.getD k 0 = z at *
      obtain ⟨v, hv'⟩ : ∃ v, v = u7 := ⟨_, rfl⟩
      rw [← hv'] at HO ⊢
      clear hv'
      have TL8 := Lib.hid tl
      clear tl
      have aw : -300000 ≤ at_ + view ∧ at_ + view ≤ 500000 := by omega
      obtain ⟨aw0, aw1⟩ := aw
      by_cases hq : mx S at_ < mn (S + z) (at_ + view)
      · have TYk := Lib.hid (ty (decide_eq_true hq))
        clear ty tn
        go_wp2_with (at_builtin; refine wp_app rfl _ _ rfl w.heap.size v _ rfl (HO.out.alloc _) (some ⟨wr.heap.size, 0, none⟩) 1 1 [(k : Int)] rfl (Ints.one wr _ _) (by have := TL8.out; omega) (by simp; omega) ?_; intro v6 w6 O6 G6; (have N6 := Lib.hid (new_own (HN.out.alloc _) G6 (HO.out.alloc _) (Nat.le_refl _))); (have g0 := (N6.out.cells b' _ hb').trans GZ.out); (replace O6 := Lib.hid O6); clear G6)
        go_roundw
        case rel => exact ⟨k + 1, by omega, by go_num, by rw [TO.out], Lib.hid (by rw [TYk.out]; exact O6.out), N6⟩
        case measure => simp [intOf]; omega
      · have TNk := Lib.hid (tn (decide_eq_false hq))
        clear ty tn
        have hq2 : mn (S + z) (at_ + view) ≤ mx S at_ := by omega
        go_wp2
        go_roundw
        case rel => exact ⟨k + 1, by omega, by go_num, by rw [TO.out], Lib.hid (by rw [TNk.out]; exact HO.out), HN⟩
        case measure => simp [intOf]; omega
    · obtain rfl : k = n := by omega
      obtain ⟨v, hv'⟩ : ∃ v, v = u7 := ⟨_, rfl⟩
      rw [← hv'] at HO ⊢
      clear hv' TB TS TY TN TL
      go_wp2
      go_ret
      exact Ans.ownS rfl HO.out HN.out
end Go.Proofs.Ythgfkdgdblfogaa
