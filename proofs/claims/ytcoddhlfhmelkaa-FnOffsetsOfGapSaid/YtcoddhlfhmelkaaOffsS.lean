/- The reference's offsets and OffsetsOf, walked: they say where sizes begin as the plain function does. Condition: the sizes can be read. -/
import Derived.Test.YtcoddhlfhmelkaaOffs
import Derived.Test.YtcoddhlfhmelkaaShareS
namespace Go.Proofs.Ytcoddhlfhmelkaa
open Go.RowKit

theorem offs_start (gap : Int) (fr sz : List Int) : offAt gap fr sz 0 = fr.getD 0 0 := by
  unfold offAt endAt
  omega
set_option maxRecDepth 100000 in
set_option maxHeartbeats 4000000 in
theorem soffs_end (A : Option Addr) (n c : Nat) (sz : List Int) (space gap : Int) (hr : rowB 10000 sz = true) (hs : 0 ≤ space ∧ space ≤ 200000) (hg : 0 ≤ gap ∧ gap ≤ 50) (w : World) (hx : Ints w A n sz) :
    Calls Try.prog 45 #[.slice A n c, .int .i64 space, .int .i64 gap, .int .i64 1] w (Ans w (offsL gap (frontL (leftA sz space gap) sz.length 1) sz)) := by
  have lx := hx.len
  obtain ⟨n1, n8⟩ := rowB_len hr
  have hsz : ∀ z ∈ sz, 0 ≤ z ∧ z ≤ 10000 := (rowB_iff.1 hr).2
  have hszd : ∀ i, 0 ≤ sz.getD i 0 ∧ sz.getD i 0 ≤ 10000 := fun i => getD_of_mem ⟨by omega, by omega⟩ hsz i
  have sml : Sml sz := fun z hz => by have := hsz z hz; omega
  have sb := sum_bd sml n
  rw [List.take_of_length_le (by omega)] at sb
  have s0 := sum_nonneg (xs := sz) fun z hz => (hsz z hz).1
  have pg := prod_gap (g := gap) (n := (n : Int) - 1) hg (by omega)
  have lb := leftA_bd sz space gap s0 hs (by rw [lx]; exact pg.1)
  have le : leftA sz space gap = mx 0 (space - sz.sum - gap * ((n : Int) - 1)) := by unfold leftA; rw [lx]
  rw [lx]
  have fl := frontL_len (leftA sz space gap) n 1 lb (by omega)
  have fb := frontL_bd (leftA sz space gap) n 1 lb (by omega)
  have eb := end_bd gap (frontL (leftA sz space gap) n 1) sz hg fb hszd
  have HX := Lib.hid hx; have LX := Lib.hid lx; have HS := Lib.hid sml; have LB := Lib.hid lb
  have FB := Lib.hid fb; have EB := Lib.hid eb; have SD := Lib.hid hszd
  have lb1 := lb.1; have lb2 := lb.2
  have i1 : (1 : Int) ≤ (n : Int) := by omega
  have i8 : (n : Int) ≤ 8 := by omega
  have LE := Lib.hid le
  obtain ⟨hs0, hs1⟩ := hs
  obtain ⟨hg0, hg1⟩ := hg
  obtain ⟨pg0, pg1⟩ := pg
  have hmx := fun (W : World) (ts : Array TypeId) (t : TypeId) => (run_mx Try.prog W ts t 0 (space - sz.sum - gap * ((n : Int) - 1))).trans (by rw [← LE.out])
  have hmk := fun W => run_make_row' (P := Try.prog) 23 3 (.int .i64 0) 8 Try.underlying23 (by kernel_rfl) rfl .i64 .i64 n (by omega) (by omega) W
  have ZR : ∀ W : World, Ints (W.alloc (.cells (madeCells #[.int .i64 0] n) 3)) (some ⟨W.heap.size, 0, none⟩) n (List.replicate n 0) := fun W => by
    have h := (Row.made W n 3).ints
    rw [List.length_replicate] at h
    exact h
  have ZH := Lib.hid ZR
  clear hx lx hr hsz hszd sml fl fb eb ZR
  generalize hL : leftA sz space gap = L at *
  clear hL le
  have FR : Value.int .i64 (L) = .int .i64 (offAt gap (frontL L n 1) sz 0) := by
    rw [offs_start]
    unfold frontL
    rw [if_pos rfl]
    rw [getD_set _ _ _ _ (by simp; omega), if_pos rfl]
  have AT : ∀ k, k < n → (List.replicate n (0 : Int)).getD k 0 = (frontL L n 1).getD (k + 1) 0 := fun k hk => by
    unfold frontL
    rw [if_pos rfl]
    by_cases h : k + 1 < n
    · rw [getD_set _ _ _ _ (by simpa using h), if_neg (by omega), zero_at, zero_at]
    · rw [zero_at, List.getD_eq_getElem?_getD, List.getElem?_eq_none (by simp; omega)]
      rfl
  replace FR := Lib.hid FR; replace AT := Lib.hid AT
  go_enter Try.func45, Try.ntmps45
  go_wp2_with (go_at_call 53; refine (ssum_any A n c sz (by omega) _ (HX.out.new (by (repeat (first | exact New.refl _ | assumption | refine New.alloc ?_ _ | refine New.drew ?_ | refine New.drewN ?_ _ | refine New.setCell ?_ (by first | omega | (simp; omega) | (simp; done)) _ | refine New.trans ?_ (by assumption))))) HS.out).mono ?_; rintro e w' ⟨rfl, rfl⟩)
  have NT : New w ((w.alloc (.cells #[] 3)).alloc (.cells (madeCells #[.int .i64 0] n) 3)) := by (repeat (first | exact New.refl _ | assumption | refine New.alloc ?_ _ | refine New.drew ?_ | refine New.drewN ?_ _ | refine New.setCell ?_ (by first | omega | (simp; omega) | (simp; done)) _ | refine New.trans ?_ (by assumption)))
  have OT : Own w.heap.size ((w.alloc (.cells #[] 3)).alloc (.cells (madeCells #[.int .i64 0] n) 3)) (.slice (some ⟨w.heap.size, 0, none⟩) 0 0) (List.take 0 (offsL gap (frontL L n 1) sz)) := (Own.empty w 0 (Nat.le_refl _) rfl).alloc _
  have MT := ZH.out (w.alloc (.cells #[] 3))
  have SP : (Value.slice (some ⟨w.heap.size, 0, none⟩) 0 0).ownBlock ≠ some (w.alloc (.cells #[] 3)).heap.size := by simp [Value.ownBlock]
  clear hmk hmx pg0 pg1 sb s0 LE
  generalize (w.alloc (.cells #[] 3)).alloc (.cells (madeCells #[.int .i64 0] n) 3) = W0 at *
  have SP : (Value.slice (some ⟨w.heap.size, 0, none⟩) 0 0).ownBlock ≠ some (⟨w.heap.size + 1, 0, none⟩ : Addr).block := by simp [Value.ownBlock]
  have MT : Ints W0 (some ⟨w.heap.size + 1, 0, none⟩) n (List.replicate n 0) := by simpa using MT
  generalize frontL L n 1 = fr at *
  obtain ⟨BM, hBM⟩ : ∃ BM : Addr, BM = ⟨w.heap.size + 1, 0, none⟩ := ⟨_, rfl⟩
  rw [← hBM] at SP MT
  rw [← hBM]
  obtain ⟨more, hmore⟩ : ∃ more, more = List.replicate n (0 : Int) := ⟨_, rfl⟩
  rw [← hmore] at MT AT
  clear hBM hmore
  have OT := Lib.hid OT; have MT := Lib.hid MT; have NT := Lib.hid NT; have SP := Lib.hid SP
  go_loopw [9, 12, 15] (fun v t i wr => ∃ k : Nat, k ≤ n ∧ i = .int .i64 k ∧ t = .int .i64 (offAt gap fr sz k) ∧ Hid (Own w.heap.size wr v ((offsL gap fr sz).take k)) ∧ Hid (New w wr) ∧ Hid (Ints wr (some BM) n more) ∧ Hid (v.ownBlock ≠ some BM.block)) (fun _ _ i _ => n - (intOf i).toNat)
  case atStart => exact ⟨0, Nat.zero_le _, rfl, FR.out, OT, NT, MT, SP⟩
  case round =>
    obtain ⟨k, hk, rfl, rfl, HO, HN, HM, HP⟩ := hrel
    by_cases hlt : k < n
    · obtain ⟨b, off, rfl, hb, hc⟩ := HX.out.at_ (by omega)
      obtain ⟨b', off', e', hb', hc'⟩ := HM.out.at_ (by omega)
      obtain rfl := Option.some.inj e'
      have C3 := Lib.hid (fun (W : World) (h : Ints W (some ⟨b, off, none⟩) n sz) => h.cell_ hlt)
      have C4 := Lib.hid (fun (W : World) (h : Ints W (some ⟨b', off', none⟩) n more) => h.cell_ hlt)
      have am := AT.out k hlt
      have sx := offAt_succ gap fr sz k
      have tk : (offsL gap fr sz).take (k + 1) = (offsL gap fr sz).take k ++ [offAt gap fr sz k] := by rw [take_snoc_i (by rw [offsL_len, LX.out]; exact hlt), offsL_at _ _ _ _ (by rw [LX.out]; exact hlt)]
      have tl : ((offsL gap fr sz).take k).length = k := by rw [List.length_take, offsL_len, LX.out]; omega
      have TK := Lib.hid tk; have TL := Lib.hid tl
      have b1 := FB.out k
      have b2 := EB.out k
      have b3 := SD.out k
      have b4 := FB.out (k + 1)
      have bo : 0 ≤ offAt gap fr sz k ∧ offAt gap fr sz k ≤ 10000000 := by unfold offAt; omega
      rw [← am] at sx b4
      have SX := Lib.hid sx
      have k0 : (0 : Int) ≤ (k : Int) := by omega
      have k1 : (k : Int) < (n : Int) := by omega
      have sz1 := HN.out.le
      clear hc hc' tk tl am sx b1 b2 e'
      generalize offAt gap fr sz k = u at *
      generalize more.getD k 0 = q at *
      generalize sz.getD k 0 = z at *
      go_wp2_with (at_builtin; refine wp_app2 rfl _ _ rfl w.heap.size _ _ rfl (HO.out.alloc _) wr.heap.size u rfl (Ints.one wr _ _) (by rw [TL.out]; omega) (by simp; omega) ?_; intro v6 w6 O6 G6 B6)
      have N6 := Lib.hid (new_own (HN.out.alloc _) G6 (HO.out.alloc _) (Nat.le_refl _))
      have M6 := Lib.hid ((HM.out.new ((New.refl _).alloc _)).keep G6 (fun b off e h => HP.out (h.trans (congrArg (fun (a : Addr) => some a.block) (Option.some.inj e)).symm)))
      have P6 : Hid (v6.ownBlock ≠ some b') := Lib.hid (by
        rcases B6 with h | h
        · rw [h]; exact HP.out
        · rw [h]; intro e; have := Option.some.inj e; simp at this; omega)
      replace O6 := Lib.hid O6
      clear G6 B6
      have g3 := C3.out w6 (HX.out.new N6.out)
      have g4 := C4.out w6 M6.out
      go_wp2
      go_quiet (fail)
      go_wp2
      go_roundw
      case rel => exact ⟨k + 1, by omega, by go_num, by rw [SX.out], Lib.hid (by rw [TK.out]; exact O6.out), Lib.hid (N6.out.drewN nq), Lib.hid (M6.out.drewN nq), P6⟩
      case measure => simp [intOf]; omega
    · obtain rfl : k = n := by omega
      have RR := HO.out
      rw [List.take_of_length_le (by rw [offsL_len, LX.out]; exact Nat.le_refl _)] at RR
      obtain ⟨B9, c9, rfl, _, Z9⟩ := RR.res
      go_wp2
      go_ret
      exact ⟨B9, _, c9, rfl, rfl, Z9, HN.out⟩
set_option maxRecDepth 100000 in
set_option maxHeartbeats 4000000 in
theorem soffs_mid (A : Option Addr) (n c : Nat) (sz : List Int) (space gap : Int) (hr : rowB 10000 sz = true) (hs : 0 ≤ space ∧ space ≤ 200000) (hg : 0 ≤ gap ∧ gap ≤ 50) (w : World) (hx : Ints w A n sz) :
    Calls Try.prog 45 #[.slice A n c, .int .i64 space, .int .i64 gap, .int .i64 2] w (Ans w (offsL gap (frontL (leftA sz space gap) sz.length 2) sz)) := by
  have lx := hx.len
  obtain ⟨n1, n8⟩ := rowB_len hr
  have hsz : ∀ z ∈ sz, 0 ≤ z ∧ z ≤ 10000 := (rowB_iff.1 hr).2
  have hszd : ∀ i, 0 ≤ sz.getD i 0 ∧ sz.getD i 0 ≤ 10000 := fun i => getD_of_mem ⟨by omega, by omega⟩ hsz i
  have sml : Sml sz := fun z hz => by have := hsz z hz; omega
  have sb := sum_bd sml n
  rw [List.take_of_length_le (by omega)] at sb
  have s0 := sum_nonneg (xs := sz) fun z hz => (hsz z hz).1
  have pg := prod_gap (g := gap) (n := (n : Int) - 1) hg (by omega)
  have lb := leftA_bd sz space gap s0 hs (by rw [lx]; exact pg.1)
  have le : leftA sz space gap = mx 0 (space - sz.sum - gap * ((n : Int) - 1)) := by unfold leftA; rw [lx]
  rw [lx]
  have fl := frontL_len (leftA sz space gap) n 2 lb (by omega)
  have fb := frontL_bd (leftA sz space gap) n 2 lb (by omega)
  have eb := end_bd gap (frontL (leftA sz space gap) n 2) sz hg fb hszd
  have HX := Lib.hid hx; have LX := Lib.hid lx; have HS := Lib.hid sml; have LB := Lib.hid lb
  have FB := Lib.hid fb; have EB := Lib.hid eb; have SD := Lib.hid hszd
  have lb1 := lb.1; have lb2 := lb.2
  have i1 : (1 : Int) ≤ (n : Int) := by omega
  have i8 : (n : Int) ≤ 8 := by omega
  have LE := Lib.hid le
  obtain ⟨hs0, hs1⟩ := hs
  obtain ⟨hg0, hg1⟩ := hg
  obtain ⟨pg0, pg1⟩ := pg
  have hmx := fun (W : World) (ts : Array TypeId) (t : TypeId) => (run_mx Try.prog W ts t 0 (space - sz.sum - gap * ((n : Int) - 1))).trans (by rw [← LE.out])
  have hmk := fun W => run_make_row' (P := Try.prog) 23 3 (.int .i64 0) 8 Try.underlying23 (by kernel_rfl) rfl .i64 .i64 n (by omega) (by omega) W
  have ZR : ∀ W : World, Ints (W.alloc (.cells (madeCells #[.int .i64 0] n) 3)) (some ⟨W.heap.size, 0, none⟩) n (List.replicate n 0) := fun W => by
    have h := (Row.made W n 3).ints
    rw [List.length_replicate] at h
    exact h
  have ZH := Lib.hid ZR
  clear hx lx hr hsz hszd sml fl fb eb ZR
  generalize hL : leftA sz space gap = L at *
  clear hL le
  have FR : Value.int .i64 (L / 2) = .int .i64 (offAt gap (frontL L n 2) sz 0) := by
    rw [offs_start]
    unfold frontL
    rw [if_neg (by omega), if_pos rfl]
    rw [getD_set _ _ _ _ (by simp; omega), if_pos rfl]
  have AT : ∀ k, k < n → (List.replicate n (0 : Int)).getD k 0 = (frontL L n 2).getD (k + 1) 0 := fun k hk => by
    unfold frontL
    rw [if_neg (by omega), if_pos rfl]
    by_cases h : k + 1 < n
    · rw [getD_set _ _ _ _ (by simpa using h), if_neg (by omega), zero_at, zero_at]
    · rw [zero_at, List.getD_eq_getElem?_getD, List.getElem?_eq_none (by simp; omega)]
      rfl
  replace FR := Lib.hid FR; replace AT := Lib.hid AT
  go_enter Try.func45, Try.ntmps45
  go_wp2_with (go_at_call 53; refine (ssum_any A n c sz (by omega) _ (HX.out.new (by (repeat (first | exact New.refl _ | assumption | refine New.alloc ?_ _ | refine New.drew ?_ | refine New.drewN ?_ _ | refine New.setCell ?_ (by first | omega | (simp; omega) | (simp; done)) _ | refine New.trans ?_ (by assumption))))) HS.out).mono ?_; rintro e w' ⟨rfl, rfl⟩)
  have NT : New w ((w.alloc (.cells #[] 3)).alloc (.cells (madeCells #[.int .i64 0] n) 3)) := by (repeat (first | exact New.refl _ | assumption | refine New.alloc ?_ _ | refine New.drew ?_ | refine New.drewN ?_ _ | refine New.setCell ?_ (by first | omega | (simp; omega) | (simp; done)) _ | refine New.trans ?_ (by assumption)))
  have OT : Own w.heap.size ((w.alloc (.cells #[] 3)).alloc (.cells (madeCells #[.int .i64 0] n) 3)) (.slice (some ⟨w.heap.size, 0, none⟩) 0 0) (List.take 0 (offsL gap (frontL L n 2) sz)) := (Own.empty w 0 (Nat.le_refl _) rfl).alloc _
  have MT := ZH.out (w.alloc (.cells #[] 3))
  have SP : (Value.slice (some ⟨w.heap.size, 0, none⟩) 0 0).ownBlock ≠ some (w.alloc (.cells #[] 3)).heap.size := by simp [Value.ownBlock]
  clear hmk hmx pg0 pg1 sb s0 LE
  generalize (w.alloc (.cells #[] 3)).alloc (.cells (madeCells #[.int .i64 0] n) 3) = W0 at *
  have SP : (Value.slice (some ⟨w.heap.size, 0, none⟩) 0 0).ownBlock ≠ some (⟨w.heap.size + 1, 0, none⟩ : Addr).block := by simp [Value.ownBlock]
  have MT : Ints W0 (some ⟨w.heap.size + 1, 0, none⟩) n (List.replicate n 0) := by simpa using MT
  generalize frontL L n 2 = fr at *
  obtain ⟨BM, hBM⟩ : ∃ BM : Addr, BM = ⟨w.heap.size + 1, 0, none⟩ := ⟨_, rfl⟩
  rw [← hBM] at SP MT
  rw [← hBM]
  obtain ⟨more, hmore⟩ : ∃ more, more = List.replicate n (0 : Int) := ⟨_, rfl⟩
  rw [← hmore] at MT AT
  clear hBM hmore
  have OT := Lib.hid OT; have MT := Lib.hid MT; have NT := Lib.hid NT; have SP := Lib.hid SP
  go_loopw [9, 12, 15] (fun v t i wr => ∃ k : Nat, k ≤ n ∧ i = .int .i64 k ∧ t = .int .i64 (offAt gap fr sz k) ∧ Hid (Own w.heap.size wr v ((offsL gap fr sz).take k)) ∧ Hid (New w wr) ∧ Hid (Ints wr (some BM) n more) ∧ Hid (v.ownBlock ≠ some BM.block)) (fun _ _ i _ => n - (intOf i).toNat)
  case atStart => exact ⟨0, Nat.zero_le _, rfl, FR.out, OT, NT, MT, SP⟩
  case round =>
    obtain ⟨k, hk, rfl, rfl, HO, HN, HM, HP⟩ := hrel
    by_cases hlt : k < n
    · obtain ⟨b, off, rfl, hb, hc⟩ := HX.out.at_ (by omega)
      obtain ⟨b', off', e', hb', hc'⟩ := HM.out.at_ (by omega)
      obtain rfl := Option.some.inj e'
      have C3 := Lib.hid (fun (W : World) (h : Ints W (some ⟨b, off, none⟩) n sz) => h.cell_ hlt)
      have C4 := Lib.hid (fun (W : World) (h : Ints W (some ⟨b', off', none⟩) n more) => h.cell_ hlt)
      have am := AT.out k hlt
      have sx := offAt_succ gap fr sz k
      have tk : (offsL gap fr sz).take (k + 1) = (offsL gap fr sz).take k ++ [offAt gap fr sz k] := by rw [take_snoc_i (by rw [offsL_len, LX.out]; exact hlt), offsL_at _ _ _ _ (by rw [LX.out]; exact hlt)]
      have tl : ((offsL gap fr sz).take k).length = k := by rw [List.length_take, offsL_len, LX.out]; omega
      have TK := Lib.hid tk; have TL := Lib.hid tl
      have b1 := FB.out k
      have b2 := EB.out k
      have b3 := SD.out k
      have b4 := FB.out (k + 1)
      have bo : 0 ≤ offAt gap fr sz k ∧ offAt gap fr sz k ≤ 10000000 := by unfold offAt; omega
      rw [← am] at sx b4
      have SX := Lib.hid sx
      have k0 : (0 : Int) ≤ (k : Int) := by omega
      have k1 : (k : Int) < (n : Int) := by omega
      have sz1 := HN.out.le
      clear hc hc' tk tl am sx b1 b2 e'
      generalize offAt gap fr sz k = u at *
      generalize more.getD k 0 = q at *
      generalize sz.getD k 0 = z at *
      go_wp2_with (at_builtin; refine wp_app2 rfl _ _ rfl w.heap.size _ _ rfl (HO.out.alloc _) wr.heap.size u rfl (Ints.one wr _ _) (by rw [TL.out]; omega) (by simp; omega) ?_; intro v6 w6 O6 G6 B6)
      have N6 := Lib.hid (new_own (HN.out.alloc _) G6 (HO.out.alloc _) (Nat.le_refl _))
      have M6 := Lib.hid ((HM.out.new ((New.refl _).alloc _)).keep G6 (fun b off e h => HP.out (h.trans (congrArg (fun (a : Addr) => some a.block) (Option.some.inj e)).symm)))
      have P6 : Hid (v6.ownBlock ≠ some b') := Lib.hid (by
        rcases B6 with h | h
        · rw [h]; exact HP.out
        · rw [h]; intro e; have := Option.some.inj e; simp at this; omega)
      replace O6 := Lib.hid O6
      clear G6 B6
      have g3 := C3.out w6 (HX.out.new N6.out)
      have g4 := C4.out w6 M6.out
      go_wp2
      go_quiet (fail)
      go_wp2
      go_roundw
      case rel => exact ⟨k + 1, by omega, by go_num, by rw [SX.out], Lib.hid (by rw [TK.out]; exact O6.out), Lib.hid (N6.out.drewN nq), Lib.hid (M6.out.drewN nq), P6⟩
      case measure => simp [intOf]; omega
    · obtain rfl : k = n := by omega
      have RR := HO.out
      rw [List.take_of_length_le (by rw [offsL_len, LX.out]; exact Nat.le_refl _)] at RR
      obtain ⟨B9, c9, rfl, _, Z9⟩ := RR.res
      go_wp2
      go_ret
      exact ⟨B9, _, c9, rfl, rfl, Z9, HN.out⟩
set_option maxRecDepth 100000 in
set_option maxHeartbeats 4000000 in
theorem soffs_start (A : Option Addr) (n c : Nat) (sz : List Int) (space gap : Int) (j : Int) (hj : j ≠ 1 ∧ j ≠ 2 ∧ (j = 3 → sz.length ≤ 1)) (hr : rowB 10000 sz = true) (hs : 0 ≤ space ∧ space ≤ 200000) (hg : 0 ≤ gap ∧ gap ≤ 50) (w : World) (hx : Ints w A n sz) :
    Calls Try.prog 45 #[.slice A n c, .int .i64 space, .int .i64 gap, .int .i64 j] w (Ans w (offsL gap (frontL (leftA sz space gap) sz.length j) sz)) := by
  have lx := hx.len
  obtain ⟨n1, n8⟩ := rowB_len hr
  have hsz : ∀ z ∈ sz, 0 ≤ z ∧ z ≤ 10000 := (rowB_iff.1 hr).2
  have hszd : ∀ i, 0 ≤ sz.getD i 0 ∧ sz.getD i 0 ≤ 10000 := fun i => getD_of_mem ⟨by omega, by omega⟩ hsz i
  have sml : Sml sz := fun z hz => by have := hsz z hz; omega
  have sb := sum_bd sml n
  rw [List.take_of_length_le (by omega)] at sb
  have s0 := sum_nonneg (xs := sz) fun z hz => (hsz z hz).1
  have pg := prod_gap (g := gap) (n := (n : Int) - 1) hg (by omega)
  have lb := leftA_bd sz space gap s0 hs (by rw [lx]; exact pg.1)
  have le : leftA sz space gap = mx 0 (space - sz.sum - gap * ((n : Int) - 1)) := by unfold leftA; rw [lx]
  rw [lx]
  have fl := frontL_len (leftA sz space gap) n j lb (by omega)
  have fb := frontL_bd (leftA sz space gap) n j lb (by omega)
  have eb := end_bd gap (frontL (leftA sz space gap) n j) sz hg fb hszd
  have HX := Lib.hid hx; have LX := Lib.hid lx; have HS := Lib.hid sml; have LB := Lib.hid lb
  have FB := Lib.hid fb; have EB := Lib.hid eb; have SD := Lib.hid hszd
  have lb1 := lb.1; have lb2 := lb.2
  have i1 : (1 : Int) ≤ (n : Int) := by omega
  have i8 : (n : Int) ≤ 8 := by omega
  have LE := Lib.hid le
  obtain ⟨hs0, hs1⟩ := hs
  obtain ⟨hg0, hg1⟩ := hg
  obtain ⟨pg0, pg1⟩ := pg
  have hmx := fun (W : World) (ts : Array TypeId) (t : TypeId) => (run_mx Try.prog W ts t 0 (space - sz.sum - gap * ((n : Int) - 1))).trans (by rw [← LE.out])
  have hmk := fun W => run_make_row' (P := Try.prog) 23 3 (.int .i64 0) 8 Try.underlying23 (by kernel_rfl) rfl .i64 .i64 n (by omega) (by omega) W
  have ZR : ∀ W : World, Ints (W.alloc (.cells (madeCells #[.int .i64 0] n) 3)) (some ⟨W.heap.size, 0, none⟩) n (List.replicate n 0) := fun W => by
    have h := (Row.made W n 3).ints
    rw [List.length_replicate] at h
    exact h
  have ZH := Lib.hid ZR
  clear hx lx hr hsz hszd sml fl fb eb ZR
  generalize hL : leftA sz space gap = L at *
  clear hL le
  have FR : Value.int .i64 0 = .int .i64 (offAt gap (frontL L n j) sz 0) := by
    rw [offs_start]
    by_cases h3 : j = 3
    · subst h3
      rw [frontL_three L n LB.out (by omega)]
      rfl
    · unfold frontL
      rw [if_neg hj.1, if_neg hj.2.1, if_neg h3, zero_at]
  have AT : ∀ k, k < n → (List.replicate n (0 : Int)).getD k 0 = (frontL L n j).getD (k + 1) 0 := fun k hk => by
    by_cases h3 : j = 3
    · subst h3
      rw [frontL_three L n LB.out (by omega)]
      obtain rfl : n = 1 := by have h1 := hj.2.2 rfl; have h2 := LX.out; omega
      have e := shareA_ones L 1 LB.out (by omega)
      have e2 : shareA L (onesL (1 - 1)) = [] := List.eq_nil_of_length_eq_zero e
      rw [e2, zero_at]
      simp
    · unfold frontL
      rw [if_neg hj.1, if_neg hj.2.1, if_neg h3, zero_at, zero_at]
  have j1 : (j == 1) = false := by simpa using hj.1
  have j2 : (j == 2) = false := by simpa using hj.2.1
  have jj : (j == 3) = false ∨ ((j == 3) = true ∧ (n : Int) ≤ 1) := by
    by_cases h3 : j = 3
    · exact .inr ⟨by simpa using h3, by have h1 := hj.2.2 h3; have h2 := LX.out; omega⟩
    · exact .inl (by simpa using h3)
  clear hj
  rcases jj with j3 | ⟨j3, hle⟩
  all_goals
    replace FR := Lib.hid FR; replace AT := Lib.hid AT
    go_enter Try.func45, Try.ntmps45
    go_wp2_with (go_at_call 53; refine (ssum_any A n c sz (by omega) _ (HX.out.new (by (repeat (first | exact New.refl _ | assumption | refine New.alloc ?_ _ | refine New.drew ?_ | refine New.drewN ?_ _ | refine New.setCell ?_ (by first | omega | (simp; omega) | (simp; done)) _ | refine New.trans ?_ (by assumption))))) HS.out).mono ?_; rintro e w' ⟨rfl, rfl⟩)
    have NT : New w ((w.alloc (.cells #[] 3)).alloc (.cells (madeCells #[.int .i64 0] n) 3)) := by (repeat (first | exact New.refl _ | assumption | refine New.alloc ?_ _ | refine New.drew ?_ | refine New.drewN ?_ _ | refine New.setCell ?_ (by first | omega | (simp; omega) | (simp; done)) _ | refine New.trans ?_ (by assumption)))
    have OT : Own w.heap.size ((w.alloc (.cells #[] 3)).alloc (.cells (madeCells #[.int .i64 0] n) 3)) (.slice (some ⟨w.heap.size, 0, none⟩) 0 0) (List.take 0 (offsL gap (frontL L n j) sz)) := (Own.empty w 0 (Nat.le_refl _) rfl).alloc _
    have MT := ZH.out (w.alloc (.cells #[] 3))
    have SP : (Value.slice (some ⟨w.heap.size, 0, none⟩) 0 0).ownBlock ≠ some (w.alloc (.cells #[] 3)).heap.size := by simp [Value.ownBlock]
    clear hmk hmx pg0 pg1 sb s0 LE
    generalize (w.alloc (.cells #[] 3)).alloc (.cells (madeCells #[.int .i64 0] n) 3) = W0 at *
    have SP : (Value.slice (some ⟨w.heap.size, 0, none⟩) 0 0).ownBlock ≠ some (⟨w.heap.size + 1, 0, none⟩ : Addr).block := by simp [Value.ownBlock]
    have MT : Ints W0 (some ⟨w.heap.size + 1, 0, none⟩) n (List.replicate n 0) := by simpa using MT
    generalize frontL L n j = fr at *
    obtain ⟨BM, hBM⟩ : ∃ BM : Addr, BM = ⟨w.heap.size + 1, 0, none⟩ := ⟨_, rfl⟩
    rw [← hBM] at SP MT
    rw [← hBM]
    obtain ⟨more, hmore⟩ : ∃ more, more = List.replicate n (0 : Int) := ⟨_, rfl⟩
    rw [← hmore] at MT AT
    clear hBM hmore
    have OT := Lib.hid OT; have MT := Lib.hid MT; have NT := Lib.hid NT; have SP := Lib.hid SP
    go_loopw [9, 12, 15] (fun v t i wr => ∃ k : Nat, k ≤ n ∧ i = .int .i64 k ∧ t = .int .i64 (offAt gap fr sz k) ∧ Hid (Own w.heap.size wr v ((offsL gap fr sz).take k)) ∧ Hid (New w wr) ∧ Hid (Ints wr (some BM) n more) ∧ Hid (v.ownBlock ≠ some BM.block)) (fun _ _ i _ => n - (intOf i).toNat)
    case atStart => exact ⟨0, Nat.zero_le _, rfl, FR.out, OT, NT, MT, SP⟩
    case round =>
      obtain ⟨k, hk, rfl, rfl, HO, HN, HM, HP⟩ := hrel
      by_cases hlt : k < n
      · obtain ⟨b, off, rfl, hb, hc⟩ := HX.out.at_ (by omega)
        obtain ⟨b', off', e', hb', hc'⟩ := HM.out.at_ (by omega)
        obtain rfl := Option.some.inj e'
        have C3 := Lib.hid (fun (W : World) (h : Ints W (some ⟨b, off, none⟩) n sz) => h.cell_ hlt)
        have C4 := Lib.hid (fun (W : World) (h : Ints W (some ⟨b', off', none⟩) n more) => h.cell_ hlt)
        have am := AT.out k hlt
        have sx := offAt_succ gap fr sz k
        have tk : (offsL gap fr sz).take (k + 1) = (offsL gap fr sz).take k ++ [offAt gap fr sz k] := by rw [take_snoc_i (by rw [offsL_len, LX.out]; exact hlt), offsL_at _ _ _ _ (by rw [LX.out]; exact hlt)]
        have tl : ((offsL gap fr sz).take k).length = k := by rw [List.length_take, offsL_len, LX.out]; omega
        have TK := Lib.hid tk; have TL := Lib.hid tl
        have b1 := FB.out k
        have b2 := EB.out k
        have b3 := SD.out k
        have b4 := FB.out (k + 1)
        have bo : 0 ≤ offAt gap fr sz k ∧ offAt gap fr sz k ≤ 10000000 := by unfold offAt; omega
        rw [← am] at sx b4
        have SX := Lib.hid sx
        have k0 : (0 : Int) ≤ (k : Int) := by omega
        have k1 : (k : Int) < (n : Int) := by omega
        have sz1 := HN.out.le
        clear hc hc' tk tl am sx b1 b2 e'
        generalize offAt gap fr sz k = u at *
        generalize more.getD k 0 = q at *
        generalize sz.getD k 0 = z at *
        go_wp2_with (at_builtin; refine wp_app2 rfl _ _ rfl w.heap.size _ _ rfl (HO.out.alloc _) wr.heap.size u rfl (Ints.one wr _ _) (by rw [TL.out]; omega) (by simp; omega) ?_; intro v6 w6 O6 G6 B6)
        have N6 := Lib.hid (new_own (HN.out.alloc _) G6 (HO.out.alloc _) (Nat.le_refl _))
        have M6 := Lib.hid ((HM.out.new ((New.refl _).alloc _)).keep G6 (fun b off e h => HP.out (h.trans (congrArg (fun (a : Addr) => some a.block) (Option.some.inj e)).symm)))
        have P6 : Hid (v6.ownBlock ≠ some b') := Lib.hid (by
          rcases B6 with h | h
          · rw [h]; exact HP.out
          · rw [h]; intro e; have := Option.some.inj e; simp at this; omega)
        replace O6 := Lib.hid O6
        clear G6 B6
        have g3 := C3.out w6 (HX.out.new N6.out)
        have g4 := C4.out w6 M6.out
        go_wp2
        go_quiet (fail)
        go_wp2
        go_roundw
        case rel => exact ⟨k + 1, by omega, by go_num, by rw [SX.out], Lib.hid (by rw [TK.out]; exact O6.out), Lib.hid (N6.out.drewN nq), Lib.hid (M6.out.drewN nq), P6⟩
        case measure => simp [intOf]; omega
      · obtain rfl : k = n := by omega
        have RR := HO.out
        rw [List.take_of_length_le (by rw [offsL_len, LX.out]; exact Nat.le_refl _)] at RR
        obtain ⟨B9, c9, rfl, _, Z9⟩ := RR.res
        go_wp2
        go_ret
        exact ⟨B9, _, c9, rfl, rfl, Z9, HN.out⟩
set_option maxRecDepth 100000 in
set_option maxHeartbeats 4000000 in
theorem soffs_between (A : Option Addr) (n c : Nat) (sz : List Int) (space gap : Int) (h2 : 2 ≤ sz.length) (hr : rowB 10000 sz = true) (hs : 0 ≤ space ∧ space ≤ 200000) (hg : 0 ≤ gap ∧ gap ≤ 50) (w : World) (hx : Ints w A n sz) :
    Calls Try.prog 45 #[.slice A n c, .int .i64 space, .int .i64 gap, .int .i64 3] w (Ans w (offsL gap (frontL (leftA sz space gap) sz.length 3) sz)) := by
  have lx := hx.len
  obtain ⟨n1, n8⟩ := rowB_len hr
  have hsz : ∀ z ∈ sz, 0 ≤ z ∧ z ≤ 10000 := (rowB_iff.1 hr).2
  have hszd : ∀ i, 0 ≤ sz.getD i 0 ∧ sz.getD i 0 ≤ 10000 := fun i => getD_of_mem ⟨by omega, by omega⟩ hsz i
  have sml : Sml sz := fun z hz => by have := hsz z hz; omega
  have sb := sum_bd sml n
  rw [List.take_of_length_le (by omega)] at sb
  have s0 := sum_nonneg (xs := sz) fun z hz => (hsz z hz).1
  have pg := prod_gap (g := gap) (n := (n : Int) - 1) hg (by omega)
  have lb := leftA_bd sz space gap s0 hs (by rw [lx]; exact pg.1)
  have le : leftA sz space gap = mx 0 (space - sz.sum - gap * ((n : Int) - 1)) := by unfold leftA; rw [lx]
  rw [lx]
  have fl := frontL_len (leftA sz space gap) n 3 lb (by omega)
  have fb := frontL_bd (leftA sz space gap) n 3 lb (by omega)
  have eb := end_bd gap (frontL (leftA sz space gap) n 3) sz hg fb hszd
  have HX := Lib.hid hx; have LX := Lib.hid lx; have HS := Lib.hid sml; have LB := Lib.hid lb
  have FB := Lib.hid fb; have EB := Lib.hid eb; have SD := Lib.hid hszd
  have lb1 := lb.1; have lb2 := lb.2
  have i1 : (1 : Int) ≤ (n : Int) := by omega
  have i8 : (n : Int) ≤ 8 := by omega
  have LE := Lib.hid le
  obtain ⟨hs0, hs1⟩ := hs
  obtain ⟨hg0, hg1⟩ := hg
  obtain ⟨pg0, pg1⟩ := pg
  have hmx := fun (W : World) (ts : Array TypeId) (t : TypeId) => (run_mx Try.prog W ts t 0 (space - sz.sum - gap * ((n : Int) - 1))).trans (by rw [← LE.out])
  have hmk := fun W => run_make_row' (P := Try.prog) 23 3 (.int .i64 0) 8 Try.underlying23 (by kernel_rfl) rfl .i64 .i64 n (by omega) (by omega) W
  have ZR : ∀ W : World, Ints (W.alloc (.cells (madeCells #[.int .i64 0] n) 3)) (some ⟨W.heap.size, 0, none⟩) n (List.replicate n 0) := fun W => by
    have h := (Row.made W n 3).ints
    rw [List.length_replicate] at h
    exact h
  have ZH := Lib.hid ZR
  clear hx lx hr hsz hszd sml fl fb eb ZR
  generalize hL : leftA sz space gap = L at *
  clear hL le
  have n2 : 2 ≤ n := by have h3 := LX.out; omega
  have FR : Value.int .i64 0 = .int .i64 (offAt gap (frontL L n 3) sz 0) := by
    rw [offs_start, frontL_three L n LB.out (by omega)]
    rfl
  have ok : shOk L (onesL (n - 1)) = true := by
    unfold shOk
    rw [Bool.and_eq_true, decide_eq_true_eq]
    exact ⟨LB.out, rowB_iff.2 ⟨by rw [ones_len]; omega, ones_wts _⟩⟩
  have sl : (shareL L (onesL (n - 1))).length = n - 1 := (shareL_len _ _).trans (ones_len _)
  have AT : ∀ k, k < n → (shareL L (onesL (n - 1)) ++ [0]).getD k 0 = (frontL L n 3).getD (k + 1) 0 := fun k hk => by
    rw [frontL_three L n LB.out (by omega)]
    unfold shareA
    rw [if_pos ok, List.getD_cons_succ]
    by_cases h : k < n - 1
    · rw [List.getD_eq_getElem?_getD, List.getD_eq_getElem?_getD, List.getElem?_append_left (by omega)]
    · rw [List.getD_eq_getElem?_getD, List.getD_eq_getElem?_getD, List.getElem?_append_right (by omega), sl, show k - (n - 1) = 0 by omega, List.getElem?_eq_none (l := shareL L (onesL (n - 1))) (by omega)]
      rfl
  replace FR := Lib.hid FR; replace AT := Lib.hid AT; replace sl := Lib.hid sl
  have i2 : (2 : Int) ≤ (n : Int) := by omega
  have dn : decide ((1 : Int) < (n : Int)) = true := decide_eq_true (by omega)
  have W2 : New w ((w.alloc (.cells #[] 3)).alloc (.cells (madeCells #[.int .i64 0] n) 3)) := by (repeat (first | exact New.refl _ | assumption | refine New.alloc ?_ _ | refine New.drew ?_ | refine New.drewN ?_ _ | refine New.setCell ?_ (by first | omega | (simp; omega) | (simp; done)) _ | refine New.trans ?_ (by assumption)))
  have O2 : Own w.heap.size ((w.alloc (.cells #[] 3)).alloc (.cells (madeCells #[.int .i64 0] n) 3)) (.slice (some ⟨w.heap.size, 0, none⟩) 0 0) [] := (Own.empty w 0 (Nat.le_refl _) rfl).alloc _
  have l2 : w.heap.size + 2 = ((w.alloc (.cells #[] 3)).alloc (.cells (madeCells #[.int .i64 0] n) 3)).heap.size := by simp
  replace W2 := Lib.hid W2; replace O2 := Lib.hid O2; replace l2 := Lib.hid l2
  go_enter Try.func45, Try.ntmps45
  go_wp2_with (go_at_call 53; refine (ssum_any A n c sz (by omega) _ (HX.out.new (by (repeat (first | exact New.refl _ | assumption | refine New.alloc ?_ _ | refine New.drew ?_ | refine New.drewN ?_ _ | refine New.setCell ?_ (by first | omega | (simp; omega) | (simp; done)) _ | refine New.trans ?_ (by assumption))))) HS.out).mono ?_; rintro e w' ⟨rfl, rfl⟩)
  clear hmk hmx pg0 pg1 sb s0 LE
  generalize hW : (w.alloc (.cells #[] 3)).alloc (.cells (madeCells #[.int .i64 0] n) 3) = W2' at *
  clear hW
  have O3 : Hid (Own W2'.heap.size (W2'.alloc (.cells #[] 3)) (.slice (some ⟨w.heap.size + 1 + 1, 0, none⟩) 0 0) (onesL 0)) := Lib.hid (by rw [show w.heap.size + 1 + 1 = W2'.heap.size from l2.out]; exact Own.empty W2' 0 (Nat.le_refl _) rfl)
  have N3 : Hid (New W2' (W2'.alloc (.cells #[] 3))) := Lib.hid ((New.refl _).alloc _)
  go_loopw [13, 14] (fun v i wr => ∃ k : Nat, 1 ≤ k ∧ k ≤ n ∧ i = .int .i64 k ∧ Hid (Own W2'.heap.size wr v (onesL (k - 1))) ∧ Hid (New W2' wr)) (fun _ i _ => n - (intOf i).toNat)
  case atStart => exact ⟨1, Nat.le_refl _, by omega, rfl, O3, N3⟩
  case round =>
    obtain ⟨k, hk1, hk, rfl, HO, HN⟩ := hrel
    have sz1 := HN.out.le
    by_cases hlt : k < n
    · have k0 : (1 : Int) ≤ (k : Int) := by omega
      have k1 : (k : Int) < (n : Int) := by omega
      have OL := Lib.hid (ones_len (k - 1))
      go_wp2_with (at_builtin; refine wp_app rfl _ _ rfl W2'.heap.size _ _ rfl (HO.out.alloc _) (some ⟨wr.heap.size, 0, none⟩) 1 1 [1] rfl (Ints.one wr _ _) (by rw [OL.out]; omega) (by simp; omega) ?_; intro v6 w6 O6 G6)
      have N6 := Lib.hid (new_own (HN.out.alloc _) G6 (HO.out.alloc _) (Nat.le_refl _))
      replace O6 := Lib.hid O6
      clear G6
      go_wp2
      go_roundw
      case rel => exact ⟨k + 1, by omega, by omega, by go_num, Lib.hid (by
        have h := O6.out
        rw [show k + 1 - 1 = (k - 1) + 1 by omega]
        unfold onesL at h ⊢
        rw [List.replicate_succ']
        exact h), N6⟩
      case measure => simp [intOf]; omega
    · obtain rfl : n = k := by omega
      obtain ⟨B5, c5, rfl, _, Z5⟩ := HO.out.res
      rw [ones_len]
      have I5 := Lib.hid (Z5.ints (ones_len (n - 1)))
      clear Z5
      go_wp2_with fail
      refine (share_any B5 (n - 1) c5 L (onesL (n - 1)) (by omega) LB.out (ones_wts _) _ I5.out).mono ?_
      rintro e w7 ⟨g7, rfl, hg7, R7, N7⟩
      have I7 := R7.ints
      rw [sl.out] at I7
      replace I7 := Lib.hid I7; replace R7 := Lib.hid R7; replace N7 := Lib.hid (HN.out.trans N7)
      have sz7 := N7.out.le
      go_wp2_with (at_builtin; refine wp_grow rfl _ _ rfl g7 (n - 1) _ rfl (I7.out.new ((New.refl _).alloc _)) w7.heap.size 0 rfl (Ints.one w7 _ _) (by omega) ?_; intro v8 w8 O8 N8)
      obtain ⟨B8, c8, rfl, _, Z8⟩ := O8.res
      have len8 : (shareL L (onesL (n - 1)) ++ [0]).length = n := by simp [sl.out]; omega
      obtain ⟨g8, rfl, hg8, hg8', R8⟩ := Z8.2 (by omega)
      have MT := Z8.ints len8
      have NT : New w w8 := W2.out.trans (N7.out.trans (New.trans ((New.refl _).alloc _) N8))
      have OT : Own w.heap.size w8 (.slice (some ⟨w.heap.size, 0, none⟩) 0 0) (List.take 0 (offsL gap (frontL L n 3) sz)) := O2.out.new (N7.out.trans (New.trans ((New.refl _).alloc _) N8))
      have SP : (Value.slice (some ⟨w.heap.size, 0, none⟩) 0 0).ownBlock ≠ some (⟨g8, 0, none⟩ : Addr).block := by
        simp [Value.ownBlock]
        have := l2.out
        simp at hg8
        omega
      have SE : Hid (sz.length = n) := LX
      clear O8 Z8 R8 hg8 hg8' N8 R7 I7 N7 HO HN I5 O2 O3 N3 W2
      generalize frontL L n 3 = fr at *
      generalize hBM : (⟨g8, 0, none⟩ : Addr) = BM at *
      generalize hmore : shareL L (onesL (n - 1)) ++ [0] = more at *
      have LM : Hid (more.length = n) := Lib.hid len8
      clear hBM hmore
      rw [len8]
      clear len8
      have OT := Lib.hid OT; have MT := Lib.hid MT; have NT := Lib.hid NT; have SP := Lib.hid SP
      go_loopw [9, 12, 15] (fun v t i wr => ∃ k : Nat, k ≤ n ∧ i = .int .i64 k ∧ t = .int .i64 (offAt gap fr sz k) ∧ Hid (Own w.heap.size wr v ((offsL gap fr sz).take k)) ∧ Hid (New w wr) ∧ Hid (Ints wr (some BM) n more) ∧ Hid (v.ownBlock ≠ some BM.block)) (fun _ _ i _ => n - (intOf i).toNat)
      case atStart => exact ⟨0, Nat.zero_le _, rfl, FR.out, OT, NT, MT, SP⟩
      case round =>
        obtain ⟨k, hk, rfl, rfl, HO, HN, HM, HP⟩ := hrel
        by_cases hlt : k < n
        · obtain ⟨b, off, rfl, hb, hc⟩ := HX.out.at_ (by omega)
          obtain ⟨b', off', e', hb', hc'⟩ := HM.out.at_ (by omega)
          obtain rfl := Option.some.inj e'
          have C3 := Lib.hid (fun (W : World) (h : Ints W (some ⟨b, off, none⟩) n sz) => h.cell_ hlt)
          have C4 := Lib.hid (fun (W : World) (h : Ints W (some ⟨b', off', none⟩) n more) => h.cell_ hlt)
          have am := AT.out k hlt
          have sx := offAt_succ gap fr sz k
          have tk : (offsL gap fr sz).take (k + 1) = (offsL gap fr sz).take k ++ [offAt gap fr sz k] := by rw [take_snoc_i (by rw [offsL_len, LX.out]; exact hlt), offsL_at _ _ _ _ (by rw [LX.out]; exact hlt)]
          have tl : ((offsL gap fr sz).take k).length = k := by rw [List.length_take, offsL_len, LX.out]; omega
          have TK := Lib.hid tk; have TL := Lib.hid tl
          have b1 := FB.out k
          have b2 := EB.out k
          have b3 := SD.out k
          have b4 := FB.out (k + 1)
          have bo : 0 ≤ offAt gap fr sz k ∧ offAt gap fr sz k ≤ 10000000 := by unfold offAt; omega
          rw [← am] at sx b4
          have SX := Lib.hid sx
          have k0 : (0 : Int) ≤ (k : Int) := by omega
          have k1 : (k : Int) < (n : Int) := by omega
          have sz1 := HN.out.le
          clear hc hc' tk tl am sx b1 b2 e'
          generalize offAt gap fr sz k = u at *
          generalize more.getD k 0 = q at *
          generalize sz.getD k 0 = z at *
          go_wp2_with (at_builtin; refine wp_app2 rfl _ _ rfl w.heap.size _ _ rfl (HO.out.alloc _) wr.heap.size u rfl (Ints.one wr _ _) (by rw [TL.out]; omega) (by simp; omega) ?_; intro v6 w6 O6 G6 B6)
          have N6 := Lib.hid (new_own (HN.out.alloc _) G6 (HO.out.alloc _) (Nat.le_refl _))
          have M6 := Lib.hid ((HM.out.new ((New.refl _).alloc _)).keep G6 (fun b off e h => HP.out (h.trans (congrArg (fun (a : Addr) => some a.block) (Option.some.inj e)).symm)))
          have P6 : Hid (v6.ownBlock ≠ some b') := Lib.hid (by
            rcases B6 with h | h
            · rw [h]; exact HP.out
            · rw [h]; intro e; have := Option.some.inj e; simp at this; omega)
          replace O6 := Lib.hid O6
          clear G6 B6
          have g3 := C3.out w6 (HX.out.new N6.out)
          have g4 := C4.out w6 M6.out
          go_wp2
          go_quiet (fail)
          go_wp2
          go_roundw
          case rel => exact ⟨k + 1, by omega, by go_num, by rw [SX.out], Lib.hid (by rw [TK.out]; exact O6.out), Lib.hid (N6.out.drewN nq), Lib.hid (M6.out.drewN nq), P6⟩
          case measure => simp [intOf]; omega
        · obtain rfl : k = n := by omega
          have RR := HO.out
          rw [List.take_of_length_le (by rw [offsL_len, LX.out]; exact Nat.le_refl _)] at RR
          obtain ⟨B9, c9, rfl, _, Z9⟩ := RR.res
          go_wp2
          go_ret
          exact ⟨B9, _, c9, rfl, rfl, Z9, HN.out⟩
end Go.Proofs.Ytcoddhlfhmelkaa
