/- The reference's frames, walked: FinishFrames, WorkLeft, FramesNeeded, IdleTime answer as the plain functions do. Condition: the lists can be read. -/
import Derived.Test.YteofjfglmngmnaaFrameM
import Derived.Test.YteofjfglmngmnaaApp
import Derived.Deep.RegionWith
namespace Go.Proofs.Yteofjfglmngmnaa
open Go.RowKit

theorem jobB_len {xs : List Int} (h : 12 < xs.length) : jobB xs = false := by unfold jobB; rw [decide_eq_false (by omega), Bool.false_and]
theorem jobB_all {xs : List Int} (h : xs.length ≤ 12) : jobB xs = allB 0 1000 xs := by unfold jobB; rw [decide_eq_true h, Bool.true_and]
set_option maxHeartbeats 1000000 in
theorem svalidCosts_any (A B : Option Addr) (n c m d : Nat) (xs ys : List Int) (hn : n ≤ 1048576) (hm : m ≤ 1048576) (w : World) (hx : Ints w A n xs) (hy : Ints w B m ys) :
    Calls Try.prog 53 #[.slice A n c, .slice B m d] w fun e w' => e = .returned (.bool (jobsB xs ys)) ∧ w = w' := by
  have lx := hx.len; have ly := hy.len
  have HX := Lib.hid hx; have HY := Lib.hid hy
  clear hx hy
  unfold jobsB
  by_cases h1 : n ≤ 12
  · have i1 : (n : Int) ≤ 12 := by omega
    rw [jobB_all (xs := xs) (by omega)]
    cases h2 : allB 0 1000 xs
    · have H2 := Lib.hid h2
      rw [Bool.false_and]
      clear lx ly h2
      go_enter Try.func53, Try.ntmps53
      go_wp2_with (go_at_call_of 78 n; refine (allIn_any A n c xs _ _ hn _ HX.out).mono ?_; rw [H2.out]; rintro e w' ⟨rfl, rfl⟩)
      go_ret
      exact ⟨rfl, rfl⟩
    · have H2 := Lib.hid h2
      rw [Bool.true_and]
      by_cases h3 : m ≤ 12
      · have i3 : (m : Int) ≤ 12 := by omega
        rw [jobB_all (xs := ys) (by omega)]
        clear lx ly h2
        obtain ⟨q, H4⟩ : ∃ q, Hid (allB 0 1000 ys = q) := ⟨_, Lib.hid rfl⟩
        rw [H4.out]
        go_enter Try.func53, Try.ntmps53
        go_wp2_with fail
        refine (allIn_any A n c xs _ _ hn _ HX.out).mono ?_
        rw [H2.out]
        rintro e w' ⟨rfl, rfl⟩
        go_wp2_with fail
        refine (allIn_any B m d ys _ _ hm _ HY.out).mono ?_
        rw [H4.out]
        rintro e w' ⟨rfl, rfl⟩
        go_wp2
        go_ret
        exact ⟨rfl, rfl⟩
      · have i3 : (12 : Int) < (m : Int) := by omega
        rw [jobB_len (xs := ys) (by omega)]
        clear lx ly h2
        go_enter Try.func53, Try.ntmps53
        go_wp2_with (go_at_call_of 78 n; refine (allIn_any A n c xs _ _ hn _ HX.out).mono ?_; rw [H2.out]; rintro e w' ⟨rfl, rfl⟩)
        go_ret
        exact ⟨rfl, rfl⟩
  · have i1 : (12 : Int) < (n : Int) := by omega
    rw [jobB_len (xs := xs) (by omega), Bool.false_and]
    clear lx ly
    go_enter Try.func53, Try.ntmps53
    go_wp2
    go_ret
    exact ⟨rfl, rfl⟩
theorem cst_at {xs : List Int} (h : Jobs xs) (k : Nat) : 0 ≤ xs.getD k 0 ∧ xs.getD k 0 ≤ 1000 := h.at_ k
theorem rem_snoc {cs : List Int} {T : Int} {k : Nat} (h : k < cs.length) : (remL cs T).take (k + 1) = (remL cs T).take k ++ [remC cs T k] := by
  rw [take_snoc_i (by rw [remL_len]; exact h), remL_at h]
theorem done_snoc {cs bs : List Int} {k : Nat} (h : k < cs.length) : (doneL cs bs).take (k + 1) = (doneL cs bs).take k ++ [frameOf bs (cumS cs (k + 1)) bs.length] := by
  rw [take_snoc_i (by rw [doneL_len]; exact h), doneL_at h]
set_option maxRecDepth 100000 in
set_option maxHeartbeats 4000000 in
theorem SWorkLeft_yes (A B : Option Addr) (n c m d : Nat) (cs bs : List Int) (hj : jobsB cs bs = true) (w : World) (hx : Ints w A n cs) (hy : Ints w B m bs) :
    Calls Try.prog 21 #[.slice A n c, .slice B m d] w (Ans w (remL cs bs.sum)) := by
  obtain ⟨hc, hb⟩ := jobsB_iff.1 hj
  have n12 : n ≤ 12 := by have := hx.len; have := hc.len; omega
  have m12 : m ≤ 12 := by have := hy.len; have := hb.len; omega
  have LX := Lib.hid hx.len
  have HX := Lib.hid hx; have HY := Lib.hid hy; have HJ := Lib.hid hj; have HC := Lib.hid hc; have HB := Lib.hid hb
  obtain ⟨s0, s1⟩ := hb.sum_bd
  have hmn := fun (W : World) (ts : Array TypeId) (t : TypeId) (x y : Int) => run_mn Try.prog W ts t x y
  have n1 : (n : Int) ≤ 12 := by omega
  clear hx hy hj hc hb
  go_enter Try.func21, Try.ntmps21
  go_wp2_with fail
  refine (svalidCosts_any A B n c m d cs bs (by omega) (by omega) _ (HX.out.new (by (repeat (first | exact New.refl _ | assumption | refine New.alloc ?_ _ | refine New.drew ?_ | refine New.drewN ?_ _ | refine New.setCell ?_ (by first | omega | (simp; omega) | (simp; done)) _ | refine New.trans ?_ (by assumption))))) (HY.out.new (by (repeat (first | exact New.refl _ | assumption | refine New.alloc ?_ _ | refine New.drew ?_ | refine New.drewN ?_ _ | refine New.setCell ?_ (by first | omega | (simp; omega) | (simp; done)) _ | refine New.trans ?_ (by assumption)))))).mono ?_
  rw [HJ.out]
  rintro e w' ⟨rfl, rfl⟩
  go_wp2_with fail
  refine (ssum_any B m d bs (by omega) _ (HY.out.new (by (repeat (first | exact New.refl _ | assumption | refine New.alloc ?_ _ | refine New.drew ?_ | refine New.drewN ?_ _ | refine New.setCell ?_ (by first | omega | (simp; omega) | (simp; done)) _ | refine New.trans ?_ (by assumption))))) HB.out.sml).mono ?_
  rintro e w' ⟨rfl, rfl⟩
  have O0 := Lib.hid (show Own w.heap.size (w.alloc (.cells #[] 3)) (.slice (some ⟨w.heap.size, 0, none⟩) 0 0) (List.take 0 (remL cs bs.sum)) from Own.empty w 0 (Nat.le_refl _) rfl)
  have N0 := Lib.hid ((New.refl w).alloc (.cells #[] 3))
  have S0 := Lib.hid (show bs.sum = mx 0 (bs.sum - cumS cs 0) by rw [cumS_zero]; unfold mx; omega)
  generalize hT : bs.sum = T at *
  clear hT
  go_wp2
  generalize w.alloc (.cells #[] 3) = W0 at *
  go_loopw [5, 6, 7] (fun v h i wr => ∃ k : Nat, k ≤ n ∧ i = .int .i64 k ∧ h = .int .i64 (mx 0 (T - cumS cs k)) ∧ Hid (Own w.heap.size wr v ((remL cs T).take k)) ∧ Hid (New w wr)) (fun _ _ i _ => n - (intOf i).toNat)
  case atStart => exact ⟨0, Nat.zero_le _, rfl, by rw [← S0.out], O0, N0⟩
  case round =>
    obtain ⟨k, hk, rfl, rfl, HO, HN⟩ := hrel
    by_cases hlt : k < n
    · obtain ⟨b, off, rfl, hb, hc⟩ := HX.out.at_ (by omega)
      have kl : k < cs.length := by rw [LX.out]; exact hlt
      have g1 := (HN.out.cells b _ hb).trans (hc k hlt)
      have C1 := Lib.hid (fun (W : World) (h : New w W) => (h.cells b _ hb).trans (hc k hlt))
      obtain ⟨e1, e2⟩ := rem_step (T := T) kl HC.out
      have TK := Lib.hid (rem_snoc (T := T) kl)
      have TL : Hid (((remL cs T).take k).length = k) := Lib.hid (by rw [List.length_take, remL_len]; omega)
      have bz := cst_at HC.out k
      have bc := HC.out.bd k
      have bh : 0 ≤ mx 0 (T - cumS cs k) ∧ mx 0 (T - cumS cs k) ≤ 12000 := by unfold mx; omega
      have bq : 0 ≤ mn (mx 0 (T - cumS cs k)) (cs.getD k 0) ∧ mn (mx 0 (T - cumS cs k)) (cs.getD k 0) ≤ 1000 := by unfold mn; omega
      have k0 : (0 : Int) ≤ (k : Int) := by omega
      have k1 : (k : Int) < (n : Int) := by omega
      have sz1 := HN.out.le
      rw [← e1] at TK
      have E2 := Lib.hid e2
      clear hc e1 e2 bc kl
      generalize cs.getD k 0 = z at *
      generalize mx 0 (T - cumS cs k) = h at *
      go_wp2_with (at_builtin; refine wp_app2 rfl _ _ rfl w.heap.size _ _ rfl (HO.out.alloc _) wr.heap.size (z - mn h z) rfl (Ints.one wr _ _) (by rw [TL.out]; omega) (by simp; omega) ?_; intro v6 w6 O6 G6 B6)
      have N6 := Lib.hid (new_own (HN.out.alloc _) G6 (HO.out.alloc _) (Nat.le_refl _))
      rw [← TK.out] at O6
      replace O6 := Lib.hid O6
      clear G6 B6
      go_roundw
      case rel => exact ⟨k + 1, by omega, by go_num, by rw [E2.out], O6, N6⟩
      case measure => simp [intOf]; omega
    · obtain rfl : k = n := by omega
      have EA : Hid ((remL cs T).take k = remL cs T) := Lib.hid (List.take_of_length_le (by rw [remL_len, LX.out]; exact Nat.le_refl _))
      have OO := HO.out
      rw [EA.out] at OO
      obtain ⟨A2, c2, rfl, hc2, Z2⟩ := OO.res
      replace Z2 := Lib.hid Z2
      go_wp2
      go_ret
      exact ⟨A2, _, c2, rfl, rfl, Z2.out, HN.out⟩
theorem frameOf_stay {bs : List Int} {need : Int} {j m : Nat} (h : 0 ≤ frameOf bs need j) (hj : j ≤ m) : frameOf bs need m = frameOf bs need j := by
  induction m with
  | zero => obtain rfl : j = 0 := by omega
            rfl
  | succ m ih =>
    by_cases e : j = m + 1
    · subst e; rfl
    · have h1 := ih (by omega)
      show (if 0 ≤ frameOf bs need m then frameOf bs need m else if need ≤ cumS bs (m + 1) then (m : Int) else -1) = _
      rw [if_pos (by omega), h1]
theorem frameOf_bd (bs : List Int) (need : Int) (m : Nat) : -1 ≤ frameOf bs need m ∧ frameOf bs need m < (m : Int) + 1 := by
  rcases frameOf_cases (bs := bs) need m with ⟨h, _⟩ | ⟨k, hk, h, _⟩ <;> omega
theorem frameOf_succ (bs : List Int) (need : Int) (m : Nat) (h : frameOf bs need m < 0) : frameOf bs need (m + 1) = if need ≤ cumS bs (m + 1) then (m : Int) else -1 := by
  show (if 0 ≤ frameOf bs need m then frameOf bs need m else if need ≤ cumS bs (m + 1) then (m : Int) else -1) = _
  rw [if_neg (by omega)]
set_option maxRecDepth 100000 in
set_option maxHeartbeats 4000000 in
theorem SFinishFrames_yes (A B : Option Addr) (n c m d : Nat) (cs bs : List Int) (hj : jobsB cs bs = true) (w : World) (hx : Ints w A n cs) (hy : Ints w B m bs) :
    Calls Try.prog 18 #[.slice A n c, .slice B m d] w (Ans w (doneL cs bs)) := by
  obtain ⟨hc, hb⟩ := jobsB_iff.1 hj
  have n12 : n ≤ 12 := by have := hx.len; have := hc.len; omega
  have m12 : m ≤ 12 := by have := hy.len; have := hb.len; omega
  have LX := Lib.hid hx.len; have LY := Lib.hid hy.len
  have HX := Lib.hid hx; have HY := Lib.hid hy; have HJ := Lib.hid hj; have HC := Lib.hid hc; have HB := Lib.hid hb
  have n1 : (n : Int) ≤ 12 := by omega
  have m1 : (m : Int) ≤ 12 := by omega
  clear hx hy hj hc hb
  go_enter Try.func18, Try.ntmps18
  go_wp2_with fail
  refine (svalidCosts_any A B n c m d cs bs (by omega) (by omega) _ (HX.out.new (by (repeat (first | exact New.refl _ | assumption | refine New.alloc ?_ _ | refine New.drew ?_ | refine New.drewN ?_ _ | refine New.setCell ?_ (by first | omega | (simp; omega) | (simp; done)) _ | refine New.trans ?_ (by assumption))))) (HY.out.new (by (repeat (first | exact New.refl _ | assumption | refine New.alloc ?_ _ | refine New.drew ?_ | refine New.drewN ?_ _ | refine New.setCell ?_ (by first | omega | (simp; omega) | (simp; done)) _ | refine New.trans ?_ (by assumption)))))).mono ?_
  rw [HJ.out]
  rintro e w' ⟨rfl, rfl⟩
  have O0 := Lib.hid (show Own w.heap.size (w.alloc (.cells #[] 3)) (.slice (some ⟨w.heap.size, 0, none⟩) 0 0) (List.take 0 (doneL cs bs)) from Own.empty w 0 (Nat.le_refl _) rfl)
  have N0 := Lib.hid ((New.refl w).alloc (.cells #[] 3))
  go_wp2
  generalize w.alloc (.cells #[] 3) = W0 at *
  go_loopw [5, 6, 7] (fun v h i wr => ∃ k : Nat, k ≤ n ∧ i = .int .i64 k ∧ h = .int .i64 (cumS cs k) ∧ Hid (Own w.heap.size wr v ((doneL cs bs).take k)) ∧ Hid (New w wr)) (fun _ _ i _ => n - (intOf i).toNat)
  case atStart => exact ⟨0, Nat.zero_le _, rfl, by rw [cumS_zero], O0, N0⟩
  case round =>
    obtain ⟨k, hk, rfl, rfl, HO, HN⟩ := hrel
    by_cases hlt : k < n
    · obtain ⟨b, off, rfl, hb, hc⟩ := HX.out.at_ (by omega)
      have kl : k < cs.length := by rw [LX.out]; exact hlt
      have g1 := (HN.out.cells b _ hb).trans (hc k hlt)
      have TK := Lib.hid (done_snoc (bs := bs) kl)
      have TL : Hid (((doneL cs bs).take k).length = k) := Lib.hid (by rw [List.length_take, doneL_len]; omega)
      have bz := cst_at HC.out k
      have b0 := HC.out.bd k
      have b1 := HC.out.bd (k + 1)
      have e1 := cumS_succ kl
      have E1 := Lib.hid (show ∀ q, q = k + 1 → cumS cs q = cumS cs k + cs.getD k 0 from fun q hq => by rw [hq]; exact e1)
      have k0 : (0 : Int) ≤ (k : Int) := by omega
      have k1 : (k : Int) < (n : Int) := by omega
      have sz1 := HN.out.le
      rw [LY.out] at TK
      have HYr := Lib.hid (HY.out.new HN.out)
      clear hc kl hb
      generalize cs.getD k 0 = z at *
      generalize cumS cs (k + 1) = u at *
      generalize cumS cs k = h at *
      obtain rfl : u = h + z := e1
      obtain ⟨wo, rfl⟩ : ∃ x, x = wr := ⟨wr, rfl⟩
      go_wp2
      go_loopw [8, 9, 10] (fun a s f wz => wz = wo ∧ ∃ j : Nat, j ≤ m ∧ f = .int .i64 j ∧ s = .int .i64 (cumS bs j) ∧ a = .int .i64 (frameOf bs (h + z) j)) (fun _ _ f _ => m - (intOf f).toNat)
      case atStart => exact ⟨rfl, 0, Nat.zero_le _, rfl, by rw [cumS_zero], rfl⟩
      case round =>
        obtain ⟨rfl, j, hj, rfl, rfl, rfl⟩ := hrel
        have j0 : (0 : Int) ≤ (j : Int) := by omega
        have fb := frameOf_bd bs (h + z) j
        by_cases hgo : j < m ∧ frameOf bs (h + z) j < 0
        · obtain ⟨hjm, hneg⟩ := hgo
          have FS := Lib.hid (frameOf_succ bs (h + z) j hneg)
          have jl : j < bs.length := by rw [LY.out]; exact hjm
          have c0 := HB.out.bd j
          have c1 := HB.out.bd (j + 1)
          have eb := cumS_succ jl
          have EB := Lib.hid (show ∀ q, q = j + 1 → cumS bs q = cumS bs j + bs.getD j 0 from fun q hq => by rw [hq]; exact eb)
          have bb := cst_at HB.out j
          obtain ⟨b', off', rfl, hb', hc'⟩ := HYr.out.at_ (by omega)
          have g2 := hc' j hjm
          have j1 : (j : Int) < (m : Int) := by omega
          clear hc' jl hb'
          generalize frameOf bs (h + z) j = f at *
          generalize bs.getD j 0 = y at *
          generalize cumS bs (j + 1) = u at *
          generalize cumS bs j = s at *
          obtain rfl : u = s + y := eb
          by_cases hle : h + z ≤ s + y
          · have FS2 := FS.out
            rw [if_pos hle] at FS2
            replace FS2 := Lib.hid FS2
            clear FS
            go_wp2
            go_roundw
            case rel => exact ⟨trivial, j + 1, by omega, by go_num, by rw [EB.out _ rfl], by rw [FS2.out]⟩
            case measure => simp [intOf]; omega
          · have FS2 := FS.out
            rw [if_neg hle] at FS2
            replace FS2 := Lib.hid FS2
            have hle2 : s + y < h + z := by omega
            have ff : f = -1 := by omega
            subst ff
            clear FS hle
            go_wp2
            go_roundw
            case rel => exact ⟨trivial, j + 1, by omega, by go_num, by rw [EB.out _ rfl], by rw [FS2.out]⟩
            case measure => simp [intOf]; omega
        · have FE : Hid (frameOf bs (h + z) j = frameOf bs (h + z) m) := Lib.hid (by
            by_cases e : j = m
            · rw [e]
            · exact (frameOf_stay (by omega) hj).symm)
          have hx : (j = m) ∨ (j < m ∧ 0 ≤ frameOf bs (h + z) j) := by omega
          rw [← FE.out] at TK
          clear FE hgo
          generalize frameOf bs (h + z) j = f at *
          rcases hx with rfl | ⟨hx, hf⟩
          all_goals
            go_wp2_with (at_builtin; refine wp_app2 rfl _ _ rfl w.heap.size _ _ rfl (HO.out.alloc _) wr.heap.size f rfl (Ints.one wr _ _) (by rw [TL.out]; omega) (by simp; omega) ?_; intro v6 w6 O6 G6 B6)
            have N6 := Lib.hid (new_own (HN.out.alloc _) G6 (HO.out.alloc _) (Nat.le_refl _))
            rw [← TK.out] at O6
            replace O6 := Lib.hid O6
            clear G6 B6
            go_roundw
            case rel => exact ⟨k + 1, by omega, by go_num, by rw [E1.out _ rfl], O6, N6⟩
            case measure => simp [intOf]; omega
    · obtain rfl : k = n := by omega
      have EA : Hid ((doneL cs bs).take k = doneL cs bs) := Lib.hid (List.take_of_length_le (by rw [doneL_len, LX.out]; exact Nat.le_refl _))
      have OO := HO.out
      rw [EA.out] at OO
      obtain ⟨A2, c2, rfl, hc2, Z2⟩ := OO.res
      replace Z2 := Lib.hid Z2
      go_wp2
      go_ret
      exact ⟨A2, _, c2, rfl, rfl, Z2.out, HN.out⟩
theorem SWorkLeft_no (A B : Option Addr) (n c m d : Nat) (cs bs : List Int) (hn : n ≤ 1048576) (hm : m ≤ 1048576) (hj : jobsB cs bs = false) (w : World) (hx : Ints w A n cs) (hy : Ints w B m bs) :
    Calls Try.prog 21 #[.slice A n c, .slice B m d] w (Ans w []) := by
  have HX := Lib.hid hx; have HY := Lib.hid hy; have HJ := Lib.hid hj
  clear hx hy hj
  go_enter Try.func21, Try.ntmps21
  go_wp2_with fail
  refine (svalidCosts_any A B n c m d cs bs hn hm _ (HX.out.new (by (repeat (first | exact New.refl _ | assumption | refine New.alloc ?_ _ | refine New.drew ?_ | refine New.drewN ?_ _ | refine New.setCell ?_ (by first | omega | (simp; omega) | (simp; done)) _ | refine New.trans ?_ (by assumption))))) (HY.out.new (by (repeat (first | exact New.refl _ | assumption | refine New.alloc ?_ _ | refine New.drew ?_ | refine New.drewN ?_ _ | refine New.setCell ?_ (by first | omega | (simp; omega) | (simp; done)) _ | refine New.trans ?_ (by assumption)))))).mono ?_
  rw [HJ.out]
  rintro e w' ⟨rfl, rfl⟩
  go_wp2
  go_ret
  exact Ans.none_ rfl (by (repeat (first | exact New.refl _ | assumption | refine New.alloc ?_ _ | refine New.drew ?_ | refine New.drewN ?_ _ | refine New.setCell ?_ (by first | omega | (simp; omega) | (simp; done)) _ | refine New.trans ?_ (by assumption))))
theorem SFinishFrames_no (A B : Option Addr) (n c m d : Nat) (cs bs : List Int) (hn : n ≤ 1048576) (hm : m ≤ 1048576) (hj : jobsB cs bs = false) (w : World) (hx : Ints w A n cs) (hy : Ints w B m bs) :
    Calls Try.prog 18 #[.slice A n c, .slice B m d] w (Ans w []) := by
  have HX := Lib.hid hx; have HY := Lib.hid hy; have HJ := Lib.hid hj
  clear hx hy hj
  go_enter Try.func18, Try.ntmps18
  go_wp2_with fail
  refine (svalidCosts_any A B n c m d cs bs hn hm _ (HX.out.new (by (repeat (first | exact New.refl _ | assumption | refine New.alloc ?_ _ | refine New.drew ?_ | refine New.drewN ?_ _ | refine New.setCell ?_ (by first | omega | (simp; omega) | (simp; done)) _ | refine New.trans ?_ (by assumption))))) (HY.out.new (by (repeat (first | exact New.refl _ | assumption | refine New.alloc ?_ _ | refine New.drew ?_ | refine New.drewN ?_ _ | refine New.setCell ?_ (by first | omega | (simp; omega) | (simp; done)) _ | refine New.trans ?_ (by assumption)))))).mono ?_
  rw [HJ.out]
  rintro e w' ⟨rfl, rfl⟩
  go_wp2
  go_ret
  exact Ans.none_ rfl (by (repeat (first | exact New.refl _ | assumption | refine New.alloc ?_ _ | refine New.drew ?_ | refine New.drewN ?_ _ | refine New.setCell ?_ (by first | omega | (simp; omega) | (simp; done)) _ | refine New.trans ?_ (by assumption))))
theorem SWorkLeft_ans (cs bs : List Int) (A : Option Addr) (n c : Nat) (B : Option Addr) (m d : Nat) (W : World) (hx : Ints W A n cs) (hy : Ints W B m bs) (hn : n ≤ 1048576) (hm : m ≤ 1048576) :
    Calls Try.prog 21 #[.slice A n c, .slice B m d] W (Ans W (remA cs bs)) := by
  unfold remA
  cases h : jobsB cs bs
  · exact SWorkLeft_no A B n c m d cs bs hn hm h W hx hy
  · exact SWorkLeft_yes A B n c m d cs bs h W hx hy
theorem SFinishFrames_ans (cs bs : List Int) (A : Option Addr) (n c : Nat) (B : Option Addr) (m d : Nat) (W : World) (hx : Ints W A n cs) (hy : Ints W B m bs) (hn : n ≤ 1048576) (hm : m ≤ 1048576) :
    Calls Try.prog 18 #[.slice A n c, .slice B m d] W (Ans W (doneA cs bs)) := by
  unfold doneA
  cases h : jobsB cs bs
  · exact SFinishFrames_no A B n c m d cs bs hn hm h W hx hy
  · exact SFinishFrames_yes A B n c m d cs bs h W hx hy
theorem jobsB_nil (cs : List Int) : jobsB cs [] = jobB cs := by
  unfold jobsB
  have h : jobB [] = true := jobB_iff.2 ⟨by simp, fun z h => absurd h (by simp)⟩
  rw [h, Bool.and_true]
theorem Ints.none_ (w : World) : Ints w none 0 [] := ⟨rfl, fun h => absurd h (by omega)⟩
set_option maxHeartbeats 1000000 in
theorem SIdleTime_any (cs bs : List Int) (A : Option Addr) (n c : Nat) (B : Option Addr) (m d : Nat) (w : World) (hx : Ints w A n cs) (hy : Ints w B m bs) (hn : n ≤ 1048576) (hm : m ≤ 1048576) :
    Calls Try.prog 24 #[.slice A n c, .slice B m d] w fun e w' => e = .returned (.int .i64 (idleA cs bs)) ∧ New w w' := by
  have CV := Lib.hid (svalidCosts_any A B n c m d cs bs hn hm w hx hy)
  cases hj : jobsB cs bs
  · have E : idleA cs bs = -1 := by unfold idleA; rw [hj]; rfl
    rw [E]
    have J := Lib.hid hj
    clear hj E hx hy
    go_enter Try.func24, Try.ntmps24
    go_wp2_with (go_at_call 53; refine CV.out.mono ?_; rw [J.out]; rintro e w' ⟨rfl, rfl⟩)
    go_ret
    exact ⟨rfl, by (repeat (first | exact New.refl _ | assumption | refine New.alloc ?_ _ | refine New.drew ?_ | refine New.drewN ?_ _ | refine New.setCell ?_ (by first | omega | (simp; omega) | (simp; done)) _ | refine New.trans ?_ (by assumption)))⟩
  · obtain ⟨hc, hb⟩ := jobsB_iff.1 hj
    have E : Hid (idleA cs bs = mx 0 (bs.sum - cs.sum)) := Lib.hid (by unfold idleA; rw [if_pos hj])
    have J := Lib.hid hj
    have n12 : n ≤ 12 := by have := hx.len; have := hc.len; omega
    have m12 : m ≤ 12 := by have := hy.len; have := hb.len; omega
    obtain ⟨s0, s1⟩ := hc.sum_bd
    obtain ⟨t0, t1⟩ := hb.sum_bd
    have SA := Lib.hid (ssum_any A n c cs (by omega) w hx hc.sml)
    have SB := Lib.hid (ssum_any B m d bs (by omega) w hy hb.sml)
    have hmx := fun (W : World) (ts : Array TypeId) (t : TypeId) (x y : Int) => run_mx Try.prog W ts t x y
    rw [E.out]
    clear hj hx hy hc hb E
    go_enter Try.func24, Try.ntmps24
    go_wp2_with fail
    refine CV.out.mono ?_
    rw [J.out]
    rintro e w' ⟨rfl, rfl⟩
    go_wp2_with fail
    refine SB.out.mono ?_
    rintro e w' ⟨rfl, rfl⟩
    go_wp2_with fail
    refine SA.out.mono ?_
    rintro e w' ⟨rfl, rfl⟩
    go_wp2
    go_ret
    exact ⟨rfl, by (repeat (first | exact New.refl _ | assumption | refine New.alloc ?_ _ | refine New.drew ?_ | refine New.drewN ?_ _ | refine New.setCell ?_ (by first | omega | (simp; omega) | (simp; done)) _ | refine New.trans ?_ (by assumption)))⟩
end Go.Proofs.Yteofjfglmngmnaa
