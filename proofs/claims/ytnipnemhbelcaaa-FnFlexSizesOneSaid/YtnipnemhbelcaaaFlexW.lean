/- The program's moveBy, walked: sizes are moved in rounds until nothing moves, as the plain function says. Condition: the sizes on their way lie in a block of the call's own. -/
import Derived.Test.YtnipnemhbelcaaaFlexM
import Derived.Test.YtnipnemhbelcaaaRepeat
namespace Go.Proofs.Ytnipnemhbelcaaa
open Go.RowKit

theorem getD_set2 (zs : List Int) (p q j : Nat) (x y : Int) (hj : j < zs.length) : ((zs.set p x).set q y).getD j 0 = if q = j then y else if p = j then x else zs.getD j 0 := by
  rw [getD_set _ _ _ _ (by simpa using hj), getD_set _ _ _ _ hj]
/-- The block holds weights, rooms and what has been moved. -/
def Mv (n : Nat) (wt r0 rooms zs : List Int) : Prop := zs.length = n * 3 ∧ ∀ i, i < n → zs.getD (i * 3) 0 = wt.getD i 0 ∧ zs.getD (i * 3 + 1) 0 = rooms.getD i 0 ∧ zs.getD (i * 3 + 2) 0 = r0.getD i 0 - rooms.getD i 0
/-- The first k have been moved in this round. -/
def roomsTo (wt rooms : List Int) (a : Int) (k : Nat) : List Int := (nextL wt rooms a).take k ++ rooms.drop k
section
variable {n : Nat} {wt r0 rooms zs : List Int} {a : Int}
theorem roomsTo_at (h : Rm n wt rooms a) (k i : Nat) (hk : k ≤ n) (_hi : i < n) : (roomsTo wt rooms a k).getD i 0 = if i < k then (nextL wt rooms a).getD i 0 else rooms.getD i 0 := by
  unfold roomsTo
  have hl : ((nextL wt rooms a).take k).length = k := by rw [List.length_take, h.ln]; omega
  split
  · next hlt =>
    rw [List.getD_eq_getElem?_getD, List.getD_eq_getElem?_getD, List.getElem?_append_left (by omega), List.getElem?_take_of_lt hlt]
  · next hge =>
    rw [List.getD_eq_getElem?_getD, List.getD_eq_getElem?_getD, List.getElem?_append_right (by omega), hl, List.getElem?_drop, show k + (i - k) = i by omega]
theorem roomsTo_zero (wt rooms : List Int) (a : Int) : roomsTo wt rooms a 0 = rooms := by simp [roomsTo]
theorem roomsTo_all (h : Rm n wt rooms a) : roomsTo wt rooms a n = nextL wt rooms a := by
  unfold roomsTo
  rw [List.take_of_length_le (by rw [h.ln]; exact Nat.le_refl _), List.drop_of_length_le (by rw [h.lr]; exact Nat.le_refl _), List.append_nil]
theorem Mv.step (h : Rm n wt rooms a) {k : Nat} (hk : k < n) (hm : Mv n wt r0 (roomsTo wt rooms a k) zs) {x y : Int} (hx : x = rooms.getD k 0 - (stepL wt rooms a).getD k 0) (hy : y = r0.getD k 0 - rooms.getD k 0 + (stepL wt rooms a).getD k 0) :
    Mv n wt r0 (roomsTo wt rooms a (k + 1)) ((zs.set (k * 3 + 1) x).set (k * 3 + 2) y) := by
  obtain ⟨hl, hm⟩ := hm
  refine ⟨by simpa using hl, fun i hi => ?_⟩
  obtain ⟨m1, m2, m3⟩ := hm i hi
  rw [roomsTo_at h k i (by omega) hi] at m2 m3
  rw [roomsTo_at h (k + 1) i (by omega) hi]
  rw [getD_set2 _ _ _ _ _ _ (by omega), getD_set2 _ _ _ _ _ _ (by omega), getD_set2 _ _ _ _ _ _ (by omega)]
  have n1 : ¬ k * 3 + 2 = i * 3 := by omega
  have n2 : ¬ k * 3 + 1 = i * 3 := by omega
  have n3 : ¬ k * 3 + 2 = i * 3 + 1 := by omega
  have n4 : ¬ k * 3 + 1 = i * 3 + 2 := by omega
  simp only [if_neg n1, if_neg n2, if_neg n3, if_neg n4]
  by_cases he : k = i
  · subst he
    rw [if_neg (by omega)] at m2 m3
    simp only [if_true, if_pos (Nat.lt_succ_self k)]
    rw [h.next_at hi]
    exact ⟨m1, hx, by rw [hy]; omega⟩
  · have n5 : ¬ k * 3 + 1 = i * 3 + 1 := by omega
    have n6 : ¬ k * 3 + 2 = i * 3 + 2 := by omega
    simp only [if_neg n5, if_neg n6]
    by_cases hlt : i < k
    · rw [if_pos hlt] at m2 m3
      have n7 : i < k + 1 := by omega
      simp only [if_pos n7]
      exact ⟨m1, m2, m3⟩
    · rw [if_neg hlt] at m2 m3
      have n7 : ¬ i < k + 1 := by omega
      simp only [if_neg n7]
      exact ⟨m1, m2, m3⟩
end
/-- The weight, where there is room. -/
def ow (r x : Int) : Int := if r = 0 then 0 else x
set_option maxHeartbeats 400000 in
theorem openWeight_any (g o : Nat) (x r : Int) (w : World) (c0 : w.cell? ⟨g, o, none⟩ = some (.int .i64 x)) (c1 : w.cell? ⟨g, o + 1, none⟩ = some (.int .i64 r)) :
    Calls Try.prog 56 #[.pointer (some ⟨g, o, none⟩)] w fun e w' => e = .returned (.int .i64 (ow r x)) ∧ w = w' := by
  by_cases hr : r = 0
  · subst hr
    have e : ow 0 x = 0 := rfl
    rw [e]
    go_enter Try.func56, Try.ntmps56
    go_wp2
    go_ret
    exact ⟨rfl, rfl⟩
  · have hb : (r == 0) = false := by simpa using hr
    have e : ow r x = x := if_neg hr
    rw [e]
    clear e
    go_enter Try.func56, Try.ntmps56
    go_wp2
    go_ret
    exact ⟨rfl, rfl⟩
set_option maxHeartbeats 1000000 in
theorem move_any (g o : Nat) (s r m : Int) (hs : 0 ≤ s ∧ s ≤ 1000000) (hr : 0 ≤ r ∧ r ≤ 1000000) (hm : 0 ≤ m ∧ m ≤ 1000000) (w : World) (c1 : w.cell? ⟨g, o + 1, none⟩ = some (.int .i64 r)) (c2 : w.cell? ⟨g, o + 2, none⟩ = some (.int .i64 m))
    (f1 : w.frozen? ⟨g, o + 1, none⟩ = false) (f2 : w.frozen? ⟨g, o + 2, none⟩ = false) :
    Calls Try.prog 58 #[.pointer (some ⟨g, o, none⟩), .int .i64 s] w fun e w' => e = .returned (.int .i64 (mn s r)) ∧ (w.setCell ⟨g, o + 1, none⟩ (.int .i64 (r - mn s r))).setCell ⟨g, o + 2, none⟩ (.int .i64 (m + mn s r)) = w' := by
  have hmn := fun (W : World) (ts : Array TypeId) (t : TypeId) => run_mn Try.prog W ts t s r
  have b : 0 ≤ mn s r ∧ mn s r ≤ 1000000 := mn_bd hs hr
  generalize mn s r = k at *
  go_enter Try.func58, Try.ntmps58
  go_wp2
  go_ret
  exact ⟨rfl, rfl⟩
theorem take_sum_bd {xs : List Int} (h : ∀ i, i < xs.length → 0 ≤ xs.getD i 0) (k : Nat) : 0 ≤ (xs.take k).sum ∧ (xs.take k).sum ≤ xs.sum := by
  have h1 : ∀ z ∈ xs, 0 ≤ z := all_at (P := fun z => 0 ≤ z) h
  have e : xs.sum = (xs.take k).sum + (xs.drop k).sum := by rw [← List.sum_append, List.take_append_drop]
  have h2 := sum_nonneg (xs := xs.take k) fun z hz => h1 z (List.mem_of_mem_take hz)
  have h3 := sum_nonneg (xs := xs.drop k) fun z hz => h1 z (List.mem_of_mem_drop hz)
  omega
theorem next_still {n : Nat} {wt rooms : List Int} {a : Int} (h : Rm n wt rooms a) (hs : (stepL wt rooms a).sum = 0) : nextL wt rooms a = rooms := by
  apply List.ext_getElem
  · rw [h.ln, h.lr]
  · intro i h1 h2
    have hi : i < n := by rw [h.ln] at h1; exact h1
    have e := h.next_at hi
    have hm := mem_le_sum (xs := stepL wt rooms a) (all_at (P := fun z => 0 ≤ z) fun i hi => (h.step_bd (by rw [h.lst] at hi; exact hi)).1) (y := (stepL wt rooms a).getD i 0) (by
      have hl : i < (stepL wt rooms a).length := by rw [h.lst]; exact hi
      have e : (stepL wt rooms a).getD i 0 = (stepL wt rooms a)[i] := by simp [hl]
      rw [e]; exact List.getElem_mem hl)
    have hb := (h.step_bd hi).1
    have e1 : (nextL wt rooms a).getD i 0 = (nextL wt rooms a)[i] := by simp [h1]
    have e2 : rooms.getD i 0 = rooms[i] := by simp [h2]
    rw [e1, e2] at e
    omega
theorem Chg.setg {g : Nat} {w w' : World} (h : Chg g (g + 1) w w') (o : Nat) (u : Value) : Chg g (g + 1) w (w'.setCell ⟨g, o, none⟩ u) :=
  ⟨h.os, h.tape, h.output, by simpa [World.setCell] using h.size, fun k hk hn => (Below.heap_setCell _ _ _ _ (by simp; omega)).trans (h.block k hk hn)⟩
theorem Chg.grown_ {g : Nat} {w w' : World} (h : Chg g (g + 1) w w') : w.grownBy w' (some g) :=
  ⟨h.os, h.tape, h.output, h.size, fun k hk hn => h.block k hk (fun e => hn (by rw [show k = g by omega]))⟩
set_option maxRecDepth 100000 in
set_option maxHeartbeats 4000000 in
theorem moveBy_any (g n c : Nat) (wt r0 zs0 : List Int) (a0 : Int) (h : Rm n wt r0 a0) (w : World) (hR : Row w g zs0) (hM : Mv n wt r0 r0 zs0) :
    Calls Try.prog 41 #[.slice (some ⟨g, 0, none⟩) n c, .int .i64 a0] w fun e w' => e = .returned (.tuple #[]) ∧ ∃ zs, Row w' g zs ∧ Mv n wt r0 (finL wt r0 a0) zs ∧ w.grownBy w' (some g) := by
  have hg : g < w.heap.size := hR.lt
  have n1 := h.n1; have n8 := h.n8
  have i1 : (1 : Int) ≤ (n : Int) := by omega
  have i8 : (n : Int) ≤ 8 := by omega
  have H := Lib.hid h; have HR := Lib.hid hR; have HM := Lib.hid hM
  clear h hR hM
  go_enter Try.func41, Try.ntmps41
  go_wp2
  go_loopw [1] (fun s wr => ∃ (rooms zs : List Int) (a : Int), s = .int .i64 a ∧ Hid (Rm n wt rooms a) ∧ Hid (finL wt rooms a = finL wt r0 a0) ∧ Hid (Row wr g zs) ∧ Hid (Mv n wt r0 rooms zs) ∧ Hid (w.grownBy wr (some g)) ∧ Hid (∀ i, i < n → r0.getD i 0 - rooms.getD i 0 ≤ 10000 ∧ 0 ≤ r0.getD i 0 - rooms.getD i 0)) (fun s _ => (intOf s).toNat)
  case atStart => exact ⟨r0, zs0, a0, rfl, H, Lib.hid rfl, HR, HM, Lib.hid (World.grownBy.refl _ _), Lib.hid (fun i hi => by omega)⟩
  case round =>
    obtain ⟨rooms, zs, a, rfl, HRm, HF, HR1, HM1, HG, HB⟩ := hrel
    obtain ⟨wo, rfl⟩ : ∃ x, x = wr := ⟨wr, rfl⟩
    have gl : g < wo.heap.size := HR1.out.lt
    have hgs := HG.out.size
    obtain ⟨W0, hmk, R0, N0⟩ : ∃ W0, (Instr.makeSlice 36 (.int .i64 (n : Int)) (.int .i64 (n : Int))).run Try.prog wo = .ok (.slice (some ⟨wo.heap.size, 0, none⟩) n n) W0 ∧ Row W0 wo.heap.size (List.replicate n 0) ∧ New wo W0 :=
      ⟨_, run_make_row' (P := Try.prog) 36 3 (.int .i64 0) 8 Try.underlying36 (by kernel_rfl) rfl .i64 .i64 n (by omega) (by omega) wo, Row.made wo n _, by (repeat (first | exact New.refl _ | assumption | refine New.alloc ?_ _ | refine New.drew ?_ | refine New.drewN ?_ _ | refine New.setCell ?_ (by first | omega | (simp; omega) | (simp; done)) _ | refine New.trans ?_ (by assumption)))⟩
    replace R0 := Lib.hid R0; replace N0 := Lib.hid N0
    have ab := HRm.out.ab
    obtain ⟨ab0, ab1⟩ := ab
    go_wp2
    clear hmk
    go_loopw [14] (fun i w2 => ∃ k : Nat, k ≤ n ∧ i = .int .i64 k ∧ Hid (Row w2 wo.heap.size (upTo k (openL wt rooms))) ∧ Hid (New wo w2)) (fun i _ => n - (intOf i).toNat)
    case atStart => exact ⟨0, Nat.zero_le _, rfl, Lib.hid (by rw [upTo_zero, HRm.out.lo]; exact R0.out), N0⟩
    case round =>
      obtain ⟨k, hk, rfl, HW, HN⟩ := hrel
      obtain ⟨w2, rfl⟩ : ∃ x, x = wr := ⟨wr, rfl⟩
      by_cases hlt : k < n
      · obtain ⟨m1, m2, m3⟩ := HM1.out.2 k hlt
        have R2 := HR1.out.new HN.out
        have c0 := R2.c (k * 3) (by rw [HM1.out.1]; omega)
        have c1 := R2.c (k * 3 + 1) (by rw [HM1.out.1]; omega)
        rw [m1] at c0
        rw [m2] at c1
        have lu := upTo_len k (openL wt rooms) (by rw [HRm.out.lo]; exact hk)
        have fW := HW.out.f k (by rw [lu, HRm.out.lo]; exact hlt)
        have oW := HW.out.c k (by rw [lu, HRm.out.lo]; exact hlt)
        have S := HW.out.set_ (k := k) (by rw [lu, HRm.out.lo]; exact hlt) ((openL wt rooms).getD k 0)
        rw [upTo_step k _ (by rw [HRm.out.lo]; exact hlt), HRm.out.open_at hlt, show (if rooms.getD k 0 = 0 then 0 else wt.getD k 0) = ow (rooms.getD k 0) (wt.getD k 0) from rfl] at S
        replace S := Lib.hid S
        have k0 : (0 : Int) ≤ (k : Int) := by omega
        have k1 : (k : Int) < (n : Int) := by omega
        clear m1 m2 m3 R2 lu
        generalize wt.getD k 0 = x at *
        generalize rooms.getD k 0 = r at *
        generalize (upTo k (openL wt rooms)).getD k 0 = z at *
        go_wp2_with fail
        refine (openWeight_any g (k * 3) x r w2 c0 c1).mono ?_
        rintro e w' ⟨rfl, rfl⟩
        generalize ow r x = v at *
        go_wp2
        go_roundw
        case rel => exact ⟨k + 1, by omega, by go_num, S, Lib.hid (HN.out.setCell (Nat.le_refl _) _)⟩
        case measure => simp [intOf]; omega
      · obtain rfl : n = k := by omega
        have RW : Hid (Row w2 wo.heap.size (openL wt rooms)) := Lib.hid (by have h := HW.out; have e := upTo_all (openL wt rooms); rw [HRm.out.lo] at e; rw [e] at h; exact h)
        have IW := Lib.hid (show Ints w2 (some ⟨wo.heap.size, 0, none⟩) n (openL wt rooms) by have h := RW.out.ints; rw [HRm.out.lo] at h; exact h)
        have sw := HN.out.le
        go_wp2_with fail
        refine (ShareSpace_ans a (openL wt rooms) _ n n w2 IW.out (by omega)).mono ?_
        rw [HRm.out.shareA]
        rintro e w3 ⟨A3, n3, c3, rfl, l3, R3, N3⟩
        obtain rfl : n = n3 := by have := HRm.out.ls; omega
        have s3 := N3.le
        have HN3 := Lib.hid (HN.out.trans N3)
        replace R3 := Lib.hid R3
        have RM3 := Lib.hid (HR1.out.new HN3.out)
        clear l3 N3
        go_wp2
        go_loopw [6, 29] (fun d i w4 => ∃ (k : Nat) (zs4 : List Int), k ≤ n ∧ i = .int .i64 k ∧ d = .int .i64 ((stepL wt rooms a).take k).sum ∧ Hid (Row w4 g zs4) ∧ Hid (Mv n wt r0 (roomsTo wt rooms a k) zs4) ∧ Hid (Chg g (g + 1) w3 w4)) (fun _ i _ => n - (intOf i).toNat)
        case atStart => exact ⟨0, zs, Nat.zero_le _, rfl, by simp, RM3, Lib.hid (by rw [roomsTo_zero]; exact HM1.out), Lib.hid (Chg.refl _ _ _)⟩
        case round =>
          obtain ⟨k, zs4, hk, rfl, rfl, HR4, HM4, HC4⟩ := hrel
          obtain ⟨w4, rfl⟩ : ∃ x, x = wr := ⟨wr, rfl⟩
          by_cases hlt : k < n
          · have IS := (R3.out.chg HC4.out (by omega)).ints HRm.out.ls
            obtain ⟨b, off, rfl, hb, hc⟩ := IS.at_ (by omega)
            have gs := hc k hlt
            obtain ⟨m1, m2, m3⟩ := HM4.out.2 k hlt
            rw [roomsTo_at HRm.out k k hk hlt, if_neg (by omega)] at m2 m3
            have lz := HM4.out.1
            have c1 := HR4.out.c (k * 3 + 1) (by rw [lz]; omega)
            have c2 := HR4.out.c (k * 3 + 2) (by rw [lz]; omega)
            have f1 := HR4.out.f (k * 3 + 1) (by rw [lz]; omega)
            have f2 := HR4.out.f (k * 3 + 2) (by rw [lz]; omega)
            rw [m2] at c1
            rw [m3] at c2
            have sb := HRm.out.share_bd k
            have rb := HRm.out.rb k hlt
            have mb := HB.out k hlt
            have se := HRm.out.step_at hlt
            have sm := HRm.out.step_le
            have ss : ((stepL wt rooms a).take (k + 1)).sum = ((stepL wt rooms a).take k).sum + (stepL wt rooms a).getD k 0 := sum_snoc (by rw [HRm.out.lst]; exact hlt)
            have tb := take_sum_bd (xs := stepL wt rooms a) (fun i hi => (HRm.out.step_bd (by rw [HRm.out.lst] at hi; exact hi)).1) k
            have S := (HR4.out.set_ (k := k * 3 + 1) (by rw [lz]; omega) (rooms.getD k 0 - (stepL wt rooms a).getD k 0)).set_ (k := k * 3 + 2) (by simp; rw [lz]; omega) (r0.getD k 0 - rooms.getD k 0 + (stepL wt rooms a).getD k 0)
            have M := HM4.out.step HRm.out hlt rfl rfl
            have stb := HRm.out.step_bd hlt
            rw [show min ((shareL a (openL wt rooms)).getD k 0) (rooms.getD k 0) = mn ((shareL a (openL wt rooms)).getD k 0) (rooms.getD k 0) from rfl] at se
            rw [se] at S ss stb
            replace S := Lib.hid S; have SS := Lib.hid ss
            have M' : Hid (Mv n wt r0 (roomsTo wt rooms a (k + 1)) ((zs4.set (k * 3 + 1) (rooms.getD k 0 - mn ((shareL a (openL wt rooms)).getD k 0) (rooms.getD k 0))).set (k * 3 + 2) (r0.getD k 0 - rooms.getD k 0 + mn ((shareL a (openL wt rooms)).getD k 0) (rooms.getD k 0)))) := Lib.hid (by rw [← se]; exact M)
            have k0 : (0 : Int) ≤ (k : Int) := by omega
            have k1 : (k : Int) < (n : Int) := by omega
            have g4 : g < w4.heap.size := HR4.out.lt
            clear m1 m2 m3 lz se M hc IS ss
            generalize (shareL a (openL wt rooms)).getD k 0 = sh at *
            generalize rooms.getD k 0 = r at *
            generalize r0.getD k 0 - r = mm at *
            generalize ((stepL wt rooms a).take k).sum = dd at *
            go_wp2_with fail
            refine (move_any g (k * 3) sh r mm (by omega) (by omega) (by omega) w4 c1 c2 f1 f2).mono ?_
            rintro e w5 ⟨rfl, hw5⟩
            have C5 : Hid (Chg g (g + 1) w3 w5) := Lib.hid (by rw [← hw5]; exact (HC4.out.setg _ _).setg _ _)
            have S5 : Hid (Row w5 g _) := Lib.hid (by rw [← hw5]; exact S.out)
            clear hw5 S c1 c2 f1 f2
            generalize mn sh r = st at *
            go_wp2
            go_roundw
            case rel => exact ⟨k + 1, _, by omega, by go_num, by rw [SS.out], S5, M', C5⟩
            case measure => simp [intOf]; omega
          · obtain rfl : n = k := by omega
            have td : ((stepL wt rooms a).take n).sum = (stepL wt rooms a).sum := by rw [List.take_of_length_le (by rw [HRm.out.lst]; exact Nat.le_refl _)]
            have GG : Hid (w.grownBy w4 (some g)) := Lib.hid (only_trans HG.out (only_trans (New.grown HN3.out _) (HC4.out.grown_)))
            have M4 : Hid (Mv n wt r0 (nextL wt rooms a) zs4) := Lib.hid (by have h := HM4.out; rw [roomsTo_all HRm.out] at h; exact h)
            rw [td]
            have sle := HRm.out.step_le
            by_cases hz : (stepL wt rooms a).sum = 0
            · have FE : Hid (rooms = finL wt r0 a0) := Lib.hid ((fin_end hz).symm.trans HF.out)
              have NE : Hid (nextL wt rooms a = rooms) := Lib.hid (next_still HRm.out hz)
              have HZ := Lib.hid hz
              rw [HZ.out]
              clear hz td sle
              go_wp2
              refine bodyPost_ret (v := .tuple #[]) (by simp [results, Try.results41, go_sem]) rfl ?_
              exact ⟨rfl, zs4, HR4.out, by rw [← FE.out, ← NE.out]; exact M4.out, GG.out⟩
            · have FN : Hid (finL wt (nextL wt rooms a) (a - (stepL wt rooms a).sum) = finL wt r0 a0) := Lib.hid ((HRm.out.fin_go hz).symm.trans HF.out)
              have RN := Lib.hid HRm.out.next
              have hzb : ((stepL wt rooms a).sum == 0) = false := by simpa using hz
              have hpos : 0 < (stepL wt rooms a).sum := by omega
              have BN : Hid (∀ i, i < n → r0.getD i 0 - (nextL wt rooms a).getD i 0 ≤ 10000 ∧ 0 ≤ r0.getD i 0 - (nextL wt rooms a).getD i 0) := Lib.hid (fun i hi => by
                have h1 := HB.out i hi
                have h2 := HRm.out.step_bd hi
                have h3 := H.out.rb i hi
                have h4 := RN.out.rb i hi
                rw [HRm.out.next_at hi] at h4 ⊢
                omega)
              clear hz td
              generalize (stepL wt rooms a).sum = dd at *
              go_wp2
              go_roundw
              case rel => exact ⟨nextL wt rooms a, zs4, a - dd, rfl, RN, FN, HR4, M4, GG, BN⟩
              case measure => simp [intOf]; omega
end Go.Proofs.Ytnipnemhbelcaaa
