/- Parts that belong together: FlexW, FlexP. Conditions: as each part says. -/
import Derived.Test.YtobnjagmakhgpaaZL
import Derived.Test.YtobnjagmakhgpaaZM
import Derived.Test.YtobnjagmakhgpaaZN
/- The program's moveBy, walked: sizes are moved in rounds until nothing moves, as the plain function says. Condition: the sizes on their way lie in a block of the call's own. -/
namespace Go.Proofs.Ytobnjagmakhgpaa
open Go.RowKit

theorem getD_set2 (zs : List Int) (p q j : Nat) (x y : Int) (hj : j < zs.length) : ((zs.set p x).set q y).getD j 0 = if q = j then y else if p = j then x else zs.getD j 0 := by
  rw [getD_set _ _ _ _ (by simpa using hj), getD_set _ _ _ _ hj]
/-- The block holds weights, rooms and what has been moved. -/
def Mv (n : Nat) (wt r0 rooms zs : List Int) : Prop := zs.length = n * 3 ∧ ∀ i, i < n → zs.getD (i * 3) 0 = wt.getD i 0 ∧ zs.getD (i * 3 + 1) 0 = rooms.getD i 0 ∧ zs.getD (i * 3 + 2) 0 = r0.getD i 0 - rooms.getD i 0
/-- The first k have been moved in this round. -/
def roomsTo (wt rooms : List Int) (a : Int) (k : Nat) : List Int := (nextL wt rooms a).take k ++ rooms.drop k
section
variable {n : Nat} {wt r0 rooms zs : List Int} {a : Int}
theorem roomsTo_at (h : Rm n wt rooms a) (k i : Nat) (hk : k ≤ n) (_hi : i < n) : (roomsTo wt rooms a k).getD i 0 = if i < k then (nextL wt rooms a).getD i 0 else rooms.getD i 0 := by
  unfold roomsTo
  have hl : ((nextL wt rooms a).take k).length = k := by rw [List.length_take, h.ln]; omega
  split
  · next hlt =>
    rw [List.getD_eq_getElem?_getD, List.getD_eq_getElem?_getD, List.getElem?_append_left (by omega), List.getElem?_take_of_lt hlt]
  · next hge =>
    rw [List.getD_eq_getElem?_getD, List.getD_eq_getElem?_getD, List.getElem?_append_right (by omega), hl, List.getElem?_drop, show k + (i - k) = i by omega]
theorem roomsTo_zero (wt rooms : List Int) (a : Int) : roomsTo wt rooms a 0 = rooms := by simp [roomsTo]
theorem roomsTo_all (h : Rm n wt rooms a) : roomsTo wt rooms a n = nextL wt rooms a := by
  unfold roomsTo
  rw [List.take_of_length_le (by rw [h.ln]; exact Nat.le_refl _), List.drop_of_length_le (by rw [h.lr]; exact Nat.le_refl _), List.append_nil]
theorem Mv.step (h : Rm n wt rooms a) {k : Nat} (hk : k < n) (hm : Mv n wt r0 (roomsTo wt rooms a k) zs) {x y : Int} (hx : x = rooms.getD k 0 - (stepL wt rooms a).getD k 0) (hy : y = r0.getD k 0 - rooms.getD k 0 + (stepL wt rooms a).getD k 0) :
    Mv n wt r0 (roomsTo wt rooms a (k + 1)) ((zs.set (k * 3 + 1) x).set (k * 3 + 2) y) := by
  obtain ⟨hl, hm⟩ := hm
  refine ⟨by simpa using hl, fun i hi => ?_⟩
  obtain ⟨m1, m2, m3⟩ := hm i hi
  rw [roomsTo_at h k i (by omega) hi] at m2 m3
  rw [roomsTo_at h (k + 1) i (by omega) hi]
  rw [getD_set2 _ _ _ _ _ _ (by omega), getD_set2 _ _ _ _ _ _ (by omega), getD_set2 _ _ _ _ _ _ (by omega)]
  have n1 : ¬ k * 3 + 2 = i * 3 := by omega
  have n2 : ¬ k * 3 + 1 = i * 3 := by omega
  have n3 : ¬ k * 3 + 2 = i * 3 + 1 := by omega
  have n4 : ¬ k * 3 + 1 = i * 3 + 2 := by omega
  simp only [if_neg n1, if_neg n2, if_neg n3, if_neg n4]
  by_cases he : k = i
  · subst he
    rw [if_neg (by omega)] at m2 m3
    simp only [if_true, if_pos (Nat.lt_succ_self k)]
    rw [h.next_at hi]
    exact ⟨m1, hx, by rw [hy]; omega⟩
  · have n5 : ¬ k * 3 + 1 = i * 3 + 1 := by omega
    have n6 : ¬ k * 3 + 2 = i * 3 + 2 := by omega
    simp only [if_neg n5, if_neg n6]
    by_cases hlt : i < k
    · rw [if_pos hlt] at m2 m3
      have n7 : i < k + 1 := by omega
      simp only [if_pos n7]
      exact ⟨m1, m2, m3⟩
    · rw [if_neg hlt] at m2 m3
      have n7 : ¬ i < k + 1 := by omega
      simp only [if_neg n7]
      exact ⟨m1, m2, m3⟩
end
/-- The weight, where there is room. -/
def ow (r x : Int) : Int := if r = 0 then 0 else x
set_option maxHeartbeats 400000 in
theorem openWeight_any (g o : Nat) (x r : Int) (w : World) (c0 : w.cell? ⟨g, o, none⟩ = some (.int .i64 x)) (c1 : w.cell? ⟨g, o + 1, none⟩ = some (.int .i64 r)) :
    Calls Try.prog 82 #[.pointer (some ⟨g, o, none⟩)] w fun e w' => e = .returned (.int .i64 (ow r x)) ∧ w = w' := by
  by_cases hr : r = 0
  · subst hr
    have e : ow 0 x = 0 := rfl
    rw [e]
    go_enter Try.func82, Try.ntmps82
    go_wp2
    go_ret
    exact ⟨rfl, rfl⟩
  · have hb : (r == 0) = false := by simpa using hr
    have e : ow r x = x := if_neg hr
    rw [e]
    clear e
    go_enter Try.func82, Try.ntmps82
    go_wp2
    go_ret
    exact ⟨rfl, rfl⟩
set_option maxHeartbeats 1000000 in
theorem move_any (g o : Nat) (s r m : Int) (hs : 0 ≤ s ∧ s ≤ 1000000) (hr : 0 ≤ r ∧ r ≤ 1000000) (hm : 0 ≤ m ∧ m ≤ 1000000) (w : World) (c1 : w.cell? ⟨g, o + 1, none⟩ = some (.int .i64 r)) (c2 : w.cell? ⟨g, o + 2, none⟩ = some (.int .i64 m))
    (f1 : w.frozen? ⟨g, o + 1, none⟩ = false) (f2 : w.frozen? ⟨g, o + 2, none⟩ = false) :
    Calls Try.prog 84 #[.pointer (some ⟨g, o, none⟩), .int .i64 s] w fun e w' => e = .returned (.int .i64 (mn s r)) ∧ (w.setCell ⟨g, o + 1, none⟩ (.int .i64 (r - mn s r))).setCell ⟨g, o + 2, none⟩ (.int .i64 (m + mn s r)) = w' := by
  have hmn := fun (W : World) (ts : Array TypeId) (t : TypeId) => run_mn Try.prog W ts t s r
  have b : 0 ≤ mn s r ∧ mn s r ≤ 1000000 := mn_bd hs hr
  generalize mn s r = k at *
  go_enter Try.func84, Try.ntmps84
  go_wp2
  go_ret
  exact ⟨rfl, rfl⟩
theorem take_sum_bd {xs : List Int} (h : ∀ i, i < xs.length → 0 ≤ xs.getD i 0) (k : Nat) : 0 ≤ (xs.take k).sum ∧ (xs.take k).sum ≤ xs.sum := by
  have h1 : ∀ z ∈ xs, 0 ≤ z := all_at (P := fun z => 0 ≤ z) h
  have e : xs.sum = (xs.take k).sum + (xs.drop k).sum := by rw [← List.sum_append, List.take_append_drop]
  have h2 := sum_nonneg (xs := xs.take k) fun z hz => h1 z (List.mem_of_mem_take hz)
  have h3 := sum_nonneg (xs := xs.drop k) fun z hz => h1 z (List.mem_of_mem_drop hz)
  omega
theorem next_still {n : Nat} {wt rooms : List Int} {a : Int} (h : Rm n wt rooms a) (hs : (stepL wt rooms a).sum = 0) : nextL wt rooms a = rooms := by
  apply List.ext_getElem
  · rw [h.ln, h.lr]
  · intro i h1 h2
    have hi : i < n := by rw [h.ln] at h1; exact h1
    have e := h.next_at hi
    have hm := mem_le_sum (xs := stepL wt rooms a) (all_at (P := fun z => 0 ≤ z) fun i hi => (h.step_bd (by rw [h.lst] at hi; exact hi)).1) (y := (stepL wt rooms a).getD i 0) (by
      have hl : i < (stepL wt rooms a).length := by rw [h.lst]; exact hi
      have e : (stepL wt rooms a).getD i 0 = (stepL wt rooms a)[i] := by simp [hl]
      rw [e]; exact List.getElem_mem hl)
    have hb := (h.step_bd hi).1
    have e1 : (nextL wt rooms a).getD i 0 = (nextL wt rooms a)[i] := by simp [h1]
    have e2 : rooms.getD i 0 = rooms[i] := by simp [h2]
    rw [e1, e2] at e
    omega
theorem Chg.setg {g : Nat} {w w' : World} (h : Chg g (g + 1) w w') (o : Nat) (u : Value) : Chg g (g + 1) w (w'.setCell ⟨g, o, none⟩ u) :=
  ⟨h.os, h.tape, h.output, by simpa [World.setCell] using h.size, fun k hk hn => (Below.heap_setCell _ _ _ _ (by simp; omega)).trans (h.block k hk hn)⟩
theorem Chg.grown_ {g : Nat} {w w' : World} (h : Chg g (g + 1) w w') : w.grownBy w' (some g) :=
  ⟨h.os, h.tape, h.output, h.size, fun k hk hn => h.block k hk (fun e => hn (by rw [show k = g by omega]))⟩
set_option maxRecDepth 100000 in
set_option maxHeartbeats 4000000 in
theorem moveBy_any (g n c : Nat) (wt r0 zs0 : List Int) (a0 : Int) (h : Rm n wt r0 a0) (w : World) (hR : Row w g zs0) (hM : Mv n wt r0 r0 zs0) :
    Calls Try.prog 50 #[.slice (some ⟨g, 0, none⟩) n c, .int .i64 a0] w fun e w' => e = .returned (.tuple #[]) ∧ ∃ zs, Row w' g zs ∧ Mv n wt r0 (finL wt r0 a0) zs ∧ w.grownBy w' (some g) := by
  have hg : g < w.heap.size := hR.lt
  have n1 := h.n1; have n8 := h.n8
  have i1 : (1 : Int) ≤ (n : Int) := by omega
  have i8 : (n : Int) ≤ 8 := by omega
  have H := Lib.hid h; have HR := Lib.hid hR; have HM := Lib.hid hM
  clear h hR hM
  go_enter Try.func50, Try.ntmps50
  go_wp2
  go_loopw [1] (fun s wr => ∃ (rooms zs : List Int) (a : Int), s = .int .i64 a ∧ Hid (Rm n wt rooms a) ∧ Hid (finL wt rooms a = finL wt r0 a0) ∧ Hid (Row wr g zs) ∧ Hid (Mv n wt r0 rooms zs) ∧ Hid (w.grownBy wr (some g)) ∧ Hid (∀ i, i < n → r0.getD i 0 - rooms.getD i 0 ≤ 10000 ∧ 0 ≤ r0.getD i 0 - rooms.getD i 0)) (fun s _ => (intOf s).toNat)
  case atStart => exact ⟨r0, zs0, a0, rfl, H, Lib.hid rfl, HR, HM, Lib.hid (World.grownBy.refl _ _), Lib.hid (fun i hi => by omega)⟩
  case round =>
    obtain ⟨rooms, zs, a, rfl, HRm, HF, HR1, HM1, HG, HB⟩ := hrel
    obtain ⟨wo, rfl⟩ : ∃ x, x = wr := ⟨wr, rfl⟩
    have gl : g < wo.heap.size := HR1.out.lt
    have hgs := HG.out.size
    obtain ⟨W0, hmk, R0, N0⟩ : ∃ W0, (Instr.makeSlice 31 (.int .i64 (n : Int)) (.int .i64 (n : Int))).run Try.prog wo = .ok (.slice (some ⟨wo.heap.size, 0, none⟩) n n) W0 ∧ Row W0 wo.heap.size (List.replicate n 0) ∧ New wo W0 :=
      ⟨_, run_make_row' (P := Try.prog) 31 3 (.int .i64 0) 8 Try.underlying31 (by kernel_rfl) rfl .i64 .i64 n (by omega) (by omega) wo, Row.made wo n _, by (repeat (first | exact New.refl _ | assumption | refine New.alloc ?_ _ | refine New.drew ?_ | refine New.drewN ?_ _ | refine New.setCell ?_ (by first | omega | (simp; omega) | (simp; done)) _ | refine New.trans ?_ (by assumption)))⟩
    replace R0 := Lib.hid R0; replace N0 := Lib.hid N0
    have ab := HRm.out.ab
    obtain ⟨ab0, ab1⟩ := ab
    go_wp2
    clear hmk
    go_loopw [14] (fun i w2 => ∃ k : Nat, k ≤ n ∧ i = .int .i64 k ∧ Hid (Row w2 wo.heap.size (upTo k (openL wt rooms))) ∧ Hid (New wo w2)) (fun i _ => n - (intOf i).toNat)
    case atStart => exact ⟨0, Nat.zero_le _, rfl, Lib.hid (by rw [upTo_zero, HRm.out.lo]; exact R0.out), N0⟩
    case round =>
      obtain ⟨k, hk, rfl, HW, HN⟩ := hrel
      obtain ⟨w2, rfl⟩ : ∃ x, x = wr := ⟨wr, rfl⟩
      by_cases hlt : k < n
      · obtain ⟨m1, m2, m3⟩ := HM1.out.2 k hlt
        have R2 := HR1.out.new HN.out
        have c0 := R2.c (k * 3) (by rw [HM1.out.1]; omega)
        have c1 := R2.c (k * 3 + 1) (by rw [HM1.out.1]; omega)
        rw [m1] at c0
        rw [m2] at c1
        have lu := upTo_len k (openL wt rooms) (by rw [HRm.out.lo]; exact hk)
        have fW := HW.out.f k (by rw [lu, HRm.out.lo]; exact hlt)
        have oW := HW.out.c k (by rw [lu, HRm.out.lo]; exact hlt)
        have S := HW.out.set_ (k := k) (by rw [lu, HRm.out.lo]; exact hlt) ((openL wt rooms).getD k 0)
        rw [upTo_step k _ (by rw [HRm.out.lo]; exact hlt), HRm.out.open_at hlt, show (if rooms.getD k 0 = 0 then 0 else wt.getD k 0) = ow (rooms.getD k 0) (wt.getD k 0) from rfl] at S
        replace S := Lib.hid S
        have k0 : (0 : Int) ≤ (k : Int) := by omega
        have k1 : (k : Int) < (n : Int) := by omega
        clear m1 m2 m3 R2 lu
        generalize wt.getD k 0 = x at *
        generalize rooms.getD k 0 = r at *
        generalize (upTo k (openL wt rooms)).getD k 0 = z at *
        go_wp2_with fail
        refine (openWeight_any g (k * 3) x r w2 c0 c1).mono ?_
        rintro e w' ⟨rfl, rfl⟩
        generalize ow r x = v at *
        go_wp2
        go_roundw
        case rel => exact ⟨k + 1, by omega, by go_num, S, Lib.hid (HN.out.setCell (Nat.le_refl _) _)⟩
        case measure => simp [intOf]; omega
      · obtain rfl : n = k := by omega
        have RW : Hid (Row w2 wo.heap.size (openL wt rooms)) := Lib.hid (by have h := HW.out; have e := upTo_all (openL wt rooms); rw [HRm.out.lo] at e; rw [e] at h; exact h)
        have IW := Lib.hid (show Ints w2 (some ⟨wo.heap.size, 0, none⟩) n (openL wt rooms) by have h := RW.out.ints; rw [HRm.out.lo] at h; exact h)
        have sw := HN.out.le
        go_wp2_with fail
        refine (ShareSpace_ans a (openL wt rooms) _ n n w2 IW.out (by omega)).mono ?_
        rw [HRm.out.shareA]
        rintro e w3 ⟨A3, n3, c3, rfl, l3, R3, N3⟩
        obtain rfl : n = n3 := by have := HRm.out.ls; omega
        have s3 := N3.le
        have HN3 := Lib.hid (HN.out.trans N3)
        replace R3 := Lib.hid R3
        have RM3 := Lib.hid (HR1.out.new HN3.out)
        clear l3 N3
        go_wp2
        go_loopw [6, 29] (fun d i w4 => ∃ (k : Nat) (zs4 : List Int), k ≤ n ∧ i = .int .i64 k ∧ d = .int .i64 ((stepL wt rooms a).take k).sum ∧ Hid (Row w4 g zs4) ∧ Hid (Mv n wt r0 (roomsTo wt rooms a k) zs4) ∧ Hid (Chg g (g + 1) w3 w4)) (fun _ i _ => n - (intOf i).toNat)
        case atStart => exact ⟨0, zs, Nat.zero_le _, rfl, by simp, RM3, Lib.hid (by rw [roomsTo_zero]; exact HM1.out), Lib.hid (Chg.refl _ _ _)⟩
        case round =>
          obtain ⟨k, zs4, hk, rfl, rfl, HR4, HM4, HC4⟩ := hrel
          obtain ⟨w4, rfl⟩ : ∃ x, x = wr := ⟨wr, rfl⟩
          by_cases hlt : k < n
          · have IS := (R3.out.chg HC4.out (by omega)).ints HRm.out.ls
            obtain ⟨b, off, rfl, hb, hc⟩ := IS.at_ (by omega)
            have gs := hc k hlt
            obtain ⟨m1, m2, m3⟩ := HM4.out.2 k hlt
            rw [roomsTo_at HRm.out k k hk hlt, if_neg (by omega)] at m2 m3
            have lz := HM4.out.1
            have c1 := HR4.out.c (k * 3 + 1) (by rw [lz]; omega)
            have c2 := HR4.out.c (k * 3 + 2) (by rw [lz]; omega)
            have f1 := HR4.out.f (k * 3 + 1) (by rw [lz]; omega)
            have f2 := HR4.out.f (k * 3 + 2) (by rw [lz]; omega)
            rw [m2] at c1
            rw [m3] at c2
            have sb := HRm.out.share_bd k
            have rb := HRm.out.rb k hlt
            have mb := HB.out k hlt
            have se := HRm.out.step_at hlt
            have sm := HRm.out.step_le
            have ss : ((stepL wt rooms a).take (k + 1)).sum = ((stepL wt rooms a).take k).sum + (stepL wt rooms a).getD k 0 := sum_snoc (by rw [HRm.out.lst]; exact hlt)
            have tb := take_sum_bd (xs := stepL wt rooms a) (fun i hi => (HRm.out.step_bd (by rw [HRm.out.lst] at hi; exact hi)).1) k
            have S := (HR4.out.set_ (k := k * 3 + 1) (by rw [lz]; omega) (rooms.getD k 0 - (stepL wt rooms a).getD k 0)).set_ (k := k * 3 + 2) (by simp; rw [lz]; omega) (r0.getD k 0 - rooms.getD k 0 + (stepL wt rooms a).getD k 0)
            have M := HM4.out.step HRm.out hlt rfl rfl
            have stb := HRm.out.step_bd hlt
            rw [show min ((shareL a (openL wt rooms)).getD k 0) (rooms.getD k 0) = mn ((shareL a (openL wt rooms)).getD k 0) (rooms.getD k 0) from rfl] at se
            rw [se] at S ss stb
            replace S := Lib.hid S; have SS := Lib.hid ss
            have M' : Hid (Mv n wt r0 (roomsTo wt rooms a (k + 1)) ((zs4.set (k * 3 + 1) (rooms.getD k 0 - mn ((shareL a (openL wt rooms)).getD k 0) (rooms.getD k 0))).set (k * 3 + 2) (r0.getD k 0 - rooms.getD k 0 + mn ((shareL a (openL wt rooms)).getD k 0) (rooms.getD k 0)))) := Lib.hid (by rw [← se]; exact M)
            have k0 : (0 : Int) ≤ (k : Int) := by omega
            have k1 : (k : Int) < (n : Int) := by omega
            have g4 : g < w4.heap.size := HR4.out.lt
            clear m1 m2 m3 lz se M hc IS ss
            generalize (shareL a (openL wt rooms)).getD k 0 = sh at *
            generalize rooms.getD k 0 = r at *
            generalize r0.getD k 0 - r = mm at *
            generalize ((stepL wt rooms a).take k).sum = dd at *
            go_wp2_with fail
            refine (move_any g (k * 3) sh r mm (by omega) (by omega) (by omega) w4 c1 c2 f1 f2).mono ?_
            rintro e w5 ⟨rfl, hw5⟩
            have C5 : Hid (Chg g (g + 1) w3 w5) := Lib.hid (by rw [← hw5]; exact (HC4.out.setg _ _).setg _ _)
            have S5 : Hid (Row w5 g _) := Lib.hid (by rw [← hw5]; exact S.out)
            clear hw5 S c1 c2 f1 f2
            generalize mn sh r = st at *
            go_wp2
            go_roundw
            case rel => exact ⟨k + 1, _, by omega, by go_num, by rw [SS.out], S5, M', C5⟩
            case measure => simp [intOf]; omega
          · obtain rfl : n = k := by omega
            have td : ((stepL wt rooms a).take n).sum = (stepL wt rooms a).sum := by rw [List.take_of_length_le (by rw [HRm.out.lst]; exact Nat.le_refl _)]
            have GG : Hid (w.grownBy w4 (some g)) := Lib.hid (only_trans HG.out (only_trans (New.grown HN3.out _) (HC4.out.grown_)))
            have M4 : Hid (Mv n wt r0 (nextL wt rooms a) zs4) := Lib.hid (by have h := HM4.out; rw [roomsTo_all HRm.out] at h; exact h)
            rw [td]
            have sle := HRm.out.step_le
            by_cases hz : (stepL wt rooms a).sum = 0
            · have FE : Hid (rooms = finL wt r0 a0) := Lib.hid ((fin_end hz).symm.trans HF.out)
              have NE : Hid (nextL wt rooms a = rooms) := Lib.hid (next_still HRm.out hz)
              have HZ := Lib.hid hz
              rw [HZ.out]
              clear hz td sle
              go_wp2
              refine bodyPost_ret (v := .tuple #[]) (by simp [results, Try.results50, go_sem]) rfl ?_
              exact ⟨rfl, zs4, HR4.out, by rw [← FE.out, ← NE.out]; exact M4.out, GG.out⟩
            · have FN : Hid (finL wt (nextL wt rooms a) (a - (stepL wt rooms a).sum) = finL wt r0 a0) := Lib.hid ((HRm.out.fin_go hz).symm.trans HF.out)
              have RN := Lib.hid HRm.out.next
              have hzb : ((stepL wt rooms a).sum == 0) = false := by simpa using hz
              have hpos : 0 < (stepL wt rooms a).sum := by omega
              have BN : Hid (∀ i, i < n → r0.getD i 0 - (nextL wt rooms a).getD i 0 ≤ 10000 ∧ 0 ≤ r0.getD i 0 - (nextL wt rooms a).getD i 0) := Lib.hid (fun i hi => by
                have h1 := HB.out i hi
                have h2 := HRm.out.step_bd hi
                have h3 := H.out.rb i hi
                have h4 := RN.out.rb i hi
                rw [HRm.out.next_at hi] at h4 ⊢
                omega)
              clear hz td
              generalize (stepL wt rooms a).sum = dd at *
              go_wp2
              go_roundw
              case rel => exact ⟨nextL wt rooms a, zs4, a - dd, rfl, RN, FN, HR4, M4, GG, BN⟩
              case measure => simp [intOf]; omega
end Go.Proofs.Ytobnjagmakhgpaa

/- The program's FlexSizes, walked: sizes grow or shrink as the plain function says. Condition: the sizes can be read. -/
namespace Go.Proofs.Ytobnjagmakhgpaa
open Go.RowKit

/-- A column of flexible sizes: 0 base, 1 least, 2 greatest, 3 grow, 4 shrink. -/
def colL (n : Nat) (zs : List Int) (j : Nat) : List Int := (List.range n).map fun i => zs.getD (i * 5 + j) 0
theorem colL_len (n : Nat) (zs : List Int) (j : Nat) : (colL n zs j).length = n := by simp [colL]
theorem colL_at {n : Nat} {zs : List Int} {j i : Nat} (h : i < n) : (colL n zs j).getD i 0 = zs.getD (i * 5 + j) 0 := by simp [colL, h]
def roomG (n : Nat) (zs : List Int) : List Int := (List.range n).map fun i => zs.getD (i * 5 + 2) 0 - zs.getD (i * 5) 0
def roomS (n : Nat) (zs : List Int) : List Int := (List.range n).map fun i => zs.getD (i * 5) 0 - zs.getD (i * 5 + 1) 0
theorem roomG_at {n : Nat} {zs : List Int} {i : Nat} (h : i < n) : (roomG n zs).getD i 0 = zs.getD (i * 5 + 2) 0 - zs.getD (i * 5) 0 := by simp [roomG, h]
theorem roomS_at {n : Nat} {zs : List Int} {i : Nat} (h : i < n) : (roomS n zs).getD i 0 = zs.getD (i * 5) 0 - zs.getD (i * 5 + 1) 0 := by simp [roomS, h]
/-- Flexible sizes for a space. -/
def flexL (n : Nat) (zs : List Int) (s : Int) : List Int :=
  if 0 ≤ s - (colL n zs 0).sum then (List.range n).map fun i => zs.getD (i * 5) 0 + ((roomG n zs).getD i 0 - (finL (colL n zs 3) (roomG n zs) (s - (colL n zs 0).sum)).getD i 0)
  else (List.range n).map fun i => zs.getD (i * 5) 0 - ((roomS n zs).getD i 0 - (finL (colL n zs 4) (roomS n zs) ((colL n zs 0).sum - s)).getD i 0)
def flOkA (n : Nat) (zs : List Int) (s : Int) : Bool := flsB n zs && decide (0 ≤ s ∧ s ≤ 200000)
/-- Flexible sizes for a space, or nothing for arguments that are not valid. -/
def flexA (n : Nat) (zs : List Int) (s : Int) : List Int := if flOkA n zs s = true then flexL n zs s else []
theorem flexL_len (n : Nat) (zs : List Int) (s : Int) : (flexL n zs s).length = n := by
  unfold flexL
  split <;> simp
theorem flsB_iff {n : Nat} {zs : List Int} : flsB n zs = true ↔ (1 ≤ n ∧ n ≤ 8) ∧ ∀ k, k < n → flOk zs k = true := by
  unfold flsB flAll
  rw [Bool.and_eq_true, decide_eq_true_eq, decide_eq_true_eq]
  constructor
  · rintro ⟨h1, h2⟩; exact ⟨by omega, h2⟩
  · rintro ⟨h1, h2⟩; exact ⟨by omega, h2⟩
theorem flOk_iff {zs : List Int} {k : Nat} : flOk zs k = true ↔ (0 ≤ zs.getD (k * 5 + 1) 0 ∧ zs.getD (k * 5 + 1) 0 ≤ 10000) ∧ (zs.getD (k * 5 + 1) 0 ≤ zs.getD (k * 5 + 2) 0 ∧ zs.getD (k * 5 + 2) 0 ≤ 10000) ∧ (zs.getD (k * 5 + 1) 0 ≤ zs.getD (k * 5) 0 ∧ zs.getD (k * 5) 0 ≤ zs.getD (k * 5 + 2) 0) ∧ (0 ≤ zs.getD (k * 5 + 3) 0 ∧ zs.getD (k * 5 + 3) 0 ≤ 10) ∧ (0 ≤ zs.getD (k * 5 + 4) 0 ∧ zs.getD (k * 5 + 4) 0 ≤ 10) := by
  unfold flOk okF
  rw [decide_eq_true_eq]
theorem colL_sum_bd {n : Nat} {zs : List Int} (h : flsB n zs = true) (k : Nat) (hk : k ≤ n) : 0 ≤ ((colL n zs 0).take k).sum ∧ ((colL n zs 0).take k).sum ≤ 10000 * (k : Int) := by
  induction k with
  | zero => simp
  | succ k ih =>
    have e := sum_snoc (zs := colL n zs 0) (k := k) (by rw [colL_len]; omega)
    rw [colL_at (by omega)] at e
    have h1 := flOk_iff.1 ((flsB_iff.1 h).2 k (by omega))
    have h2 := ih (by omega)
    rw [e]
    simp only [Nat.add_zero]
    omega
theorem Rm.grow {n : Nat} {zs : List Int} {s : Int} (h : flsB n zs = true) (hs : 0 ≤ s ∧ s ≤ 200000) (hl : 0 ≤ s - (colL n zs 0).sum) : Rm n (colL n zs 3) (roomG n zs) (s - (colL n zs 0).sum) := by
  have hb := colL_sum_bd h n (Nat.le_refl _)
  rw [List.take_of_length_le (by rw [colL_len]; exact Nat.le_refl _)] at hb
  refine ⟨(flsB_iff.1 h).1.1, (flsB_iff.1 h).1.2, colL_len _ _ _, by simp [roomG], fun i hi => ?_, fun i hi => ?_, by omega⟩
  · have h1 := flOk_iff.1 ((flsB_iff.1 h).2 i hi)
    rw [colL_at hi]; omega
  · have h1 := flOk_iff.1 ((flsB_iff.1 h).2 i hi)
    rw [roomG_at hi]; omega
theorem Rm.shrink {n : Nat} {zs : List Int} {s : Int} (h : flsB n zs = true) (hs : 0 ≤ s ∧ s ≤ 200000) (hl : ¬ 0 ≤ s - (colL n zs 0).sum) : Rm n (colL n zs 4) (roomS n zs) ((colL n zs 0).sum - s) := by
  have hb := colL_sum_bd h n (Nat.le_refl _)
  rw [List.take_of_length_le (by rw [colL_len]; exact Nat.le_refl _)] at hb
  have h8 := (flsB_iff.1 h).1.2
  refine ⟨(flsB_iff.1 h).1.1, h8, colL_len _ _ _, by simp [roomS], fun i hi => ?_, fun i hi => ?_, by omega⟩
  · have h1 := flOk_iff.1 ((flsB_iff.1 h).2 i hi)
    rw [colL_at hi]; omega
  · have h1 := flOk_iff.1 ((flsB_iff.1 h).2 i hi)
    rw [roomS_at hi]; omega
set_option maxHeartbeats 400000 in
theorem growing_any (a b c d e0 : Int) (h1 : -1000000 ≤ a ∧ a ≤ 1000000) (h2 : -1000000 ≤ c ∧ c ≤ 1000000) (w : World) :
    Calls Try.prog 48 #[.agg #[.int .i64 a, .int .i64 b, .int .i64 c, .int .i64 d, .int .i64 e0]] w fun e w' => e = .returned (.agg #[.int .i64 d, .int .i64 (c - a), .int .i64 0]) ∧ New w w' := by
  go_enter Try.func48, Try.ntmps48
  go_wp2
  go_returns
  exact ⟨rfl, by (repeat (first | exact New.refl _ | assumption | refine New.alloc ?_ _ | refine New.drew ?_ | refine New.drewN ?_ _ | refine New.setCell ?_ (by first | omega | (simp; omega) | (simp; done)) _ | refine New.trans ?_ (by assumption)))⟩
set_option maxHeartbeats 400000 in
theorem shrinking_any (a b c d e0 : Int) (h1 : -1000000 ≤ a ∧ a ≤ 1000000) (h2 : -1000000 ≤ b ∧ b ≤ 1000000) (w : World) :
    Calls Try.prog 49 #[.agg #[.int .i64 a, .int .i64 b, .int .i64 c, .int .i64 d, .int .i64 e0]] w fun e w' => e = .returned (.agg #[.int .i64 e0, .int .i64 (a - b), .int .i64 0]) ∧ New w w' := by
  go_enter Try.func49, Try.ntmps49
  go_wp2
  go_returns
  exact ⟨rfl, by (repeat (first | exact New.refl _ | assumption | refine New.alloc ?_ _ | refine New.drew ?_ | refine New.drewN ?_ _ | refine New.setCell ?_ (by first | omega | (simp; omega) | (simp; done)) _ | refine New.trans ?_ (by assumption)))⟩
theorem mk_moving (n : Nat) (hn : n ≤ 8) (W : World) : (Instr.makeSlice 74 (.int .i64 (n : Int)) (.int .i64 (n : Int))).run Try.prog W = .ok (.slice (some ⟨W.heap.size, 0, none⟩) n n) (W.alloc (.cells (madeCells #[.int .i64 0, .int .i64 0, .int .i64 0] (n * 3)) 76)) := by
  have hinfo : (Try.prog.info? 76).map (fun i => (i.zero, i.size, i.bytes)) = some (some (.agg #[.int .i64 0, .int .i64 0, .int .i64 0]), 3, 24) := by kernel_rfl
  obtain ⟨i, hi, hzz⟩ := Option.map_eq_some_iff.1 hinfo
  simp only [Prod.mk.injEq] at hzz
  obtain ⟨hz, hs, hb⟩ := hzz
  have h := run_make (P := Try.prog) W 74 76 i (.agg #[.int .i64 0, .int .i64 0, .int .i64 0]) Try.underlying74 hi hz .i64 .i64 (n : Int) (n : Int) (by omega) (by omega) (by rw [hb]; omega) (by omega)
  rw [hs] at h
  exact h
theorem zero_moving (i : Nat) : (#[Value.int .i64 0, .int .i64 0, .int .i64 0] : Array Value)[i % (#[Value.int .i64 0, .int .i64 0, .int .i64 0] : Array Value).size]! = .int .i64 0 := by
  have h : i % 3 < 3 := Nat.mod_lt _ (by omega)
  have hs : (#[Value.int .i64 0, .int .i64 0, .int .i64 0] : Array Value).size = 3 := rfl
  rw [hs]
  generalize i % 3 = j at h
  match j, h with
  | 0, _ => rfl
  | 1, _ => rfl
  | 2, _ => rfl
  | j + 3, h => omega
theorem moveBy_any' (g n c : Nat) (wt r0 zs0 : List Int) (a0 z : Int) (hz : z = a0) (h : Rm n wt r0 a0) (w : World) (hR : Row w g zs0) (hM : Mv n wt r0 r0 zs0) :
    Calls Try.prog 50 #[.slice (some ⟨g, 0, none⟩) n c, .int .i64 z] w fun e w' => e = .returned (.tuple #[]) ∧ ∃ zs, Row w' g zs ∧ Mv n wt r0 (finL wt r0 a0) zs ∧ w.grownBy w' (some g) := by
  subst hz
  exact moveBy_any g n c wt r0 zs0 z h w hR hM
/-- The first k are on their way. -/
def MvTo (n k : Nat) (wt r0 zs : List Int) : Prop := zs.length = n * 3 ∧ ∀ i, i < k → zs.getD (i * 3) 0 = wt.getD i 0 ∧ zs.getD (i * 3 + 1) 0 = r0.getD i 0 ∧ zs.getD (i * 3 + 2) 0 = 0
theorem MvTo.step {n k : Nat} {wt r0 zs : List Int} (h : MvTo n k wt r0 zs) (hk : k < n) {x y : Int} (hx : x = wt.getD k 0) (hy : y = r0.getD k 0) : MvTo n (k + 1) wt r0 (((zs.set (k * 3) x).set (k * 3 + 1) y).set (k * 3 + 2) 0) := by
  obtain ⟨hl, hm⟩ := h
  refine ⟨by simpa using hl, fun i hi => ?_⟩
  have g3 : ∀ j, j < zs.length → (((zs.set (k * 3) x).set (k * 3 + 1) y).set (k * 3 + 2) 0).getD j 0 = if k * 3 + 2 = j then 0 else if k * 3 + 1 = j then y else if k * 3 = j then x else zs.getD j 0 := fun j hj => by
    rw [getD_set _ _ _ _ (by simpa using hj), getD_set2 _ _ _ _ _ _ hj]
  rw [g3 _ (by omega), g3 _ (by omega), g3 _ (by omega)]
  by_cases he : i = k
  · subst he
    have n1 : ¬ i * 3 + 2 = i * 3 := by omega
    have n2 : ¬ i * 3 + 1 = i * 3 := by omega
    have n3 : ¬ i * 3 + 2 = i * 3 + 1 := by omega
    simp only [if_neg n1, if_neg n2, if_neg n3, if_true]
    exact ⟨hx, hy, trivial⟩
  · have n1 : ¬ k * 3 + 2 = i * 3 := by omega
    have n2 : ¬ k * 3 + 1 = i * 3 := by omega
    have n3 : ¬ k * 3 = i * 3 := by omega
    have n4 : ¬ k * 3 + 2 = i * 3 + 1 := by omega
    have n5 : ¬ k * 3 + 1 = i * 3 + 1 := by omega
    have n6 : ¬ k * 3 = i * 3 + 1 := by omega
    have n7 : ¬ k * 3 + 2 = i * 3 + 2 := by omega
    have n8 : ¬ k * 3 + 1 = i * 3 + 2 := by omega
    have n9 : ¬ k * 3 = i * 3 + 2 := by omega
    simp only [if_neg n1, if_neg n2, if_neg n3, if_neg n4, if_neg n5, if_neg n6, if_neg n7, if_neg n8, if_neg n9]
    exact hm i (by omega)
theorem MvTo.all {n : Nat} {wt r0 zs : List Int} (h : MvTo n n wt r0 zs) : Mv n wt r0 r0 zs := ⟨h.1, fun i hi => by
  obtain ⟨h1, h2, h3⟩ := h.2 i hi
  exact ⟨h1, h2, by omega⟩⟩
set_option maxRecDepth 100000 in
set_option maxHeartbeats 8000000 in
theorem FlexSizes_grow (A : Option Addr) (n c : Nat) (zs : List Int) (s : Int) (hv : flsB n zs = true) (hs : 0 ≤ s ∧ s ≤ 200000) (hl : 0 ≤ s - (colL n zs 0).sum) (w : World) (hx : Sts 5 w A n zs) :
    Calls Try.prog 16 #[.slice A n c, .int .i64 s] w (Ans w (flexL n zs s)) := by
  have HX := Lib.hid hx; have HV := Lib.hid hv
  have bds := colL_sum_bd hv
  have RM := Lib.hid (Rm.grow hv hs hl)
  obtain ⟨⟨n1, n8⟩, hok⟩ := flsB_iff.1 hv
  have HOK := Lib.hid (fun k hk => flOk_iff.1 (hok k hk))
  have BD := Lib.hid bds
  have d1 := decide_eq_true hs
  have i1 : (1 : Int) ≤ (n : Int) := by omega
  have i8 : (n : Int) ≤ 8 := by omega
  have fl : flexL n zs s = (List.range n).map fun i => zs.getD (i * 5) 0 + ((roomG n zs).getD i 0 - (finL (colL n zs 3) (roomG n zs) (s - (colL n zs 0).sum)).getD i 0) := by
    unfold flexL
    rw [if_pos hl]
  have FL := Lib.hid fl
  have ts : (colL n zs 0).take n = colL n zs 0 := List.take_of_length_le (by rw [colL_len]; exact Nat.le_refl _)
  have bn := bds n (Nat.le_refl _)
  rw [ts] at bn
  have TS := Lib.hid ts
  obtain ⟨hs0, hs1⟩ := hs
  clear hx hv bds hok fl ts
  go_enter Try.func16, Try.ntmps16
  go_wp2_with (first
    | (go_at_call 47; refine (ValidFlexes_any A n c zs (by omega) _ HX.out).mono ?_; rw [HV.out]; rintro e w1 ⟨rfl, N1⟩; (replace N1 := Lib.hid N1))
    | (go_at_call 39; refine (within_any _ _ _ _).mono ?_; rw [d1]; rintro e w' ⟨rfl, rfl⟩))
  go_loopw [5, 27] (fun l i wr => ∃ k : Nat, k ≤ n ∧ i = .int .i64 k ∧ l = .int .i64 (s - ((colL n zs 0).take k).sum) ∧ Hid (New w wr)) (fun _ i _ => n - (intOf i).toNat)
  case atStart => exact ⟨0, Nat.zero_le _, rfl, by simp, N1⟩
  case round =>
    obtain ⟨k, hk, rfl, rfl, HN⟩ := hrel
    have bk := BD.out k hk
    by_cases hlt : k < n
    · obtain ⟨b, off, rfl, hb, hc⟩ := HX.out.at_ (by omega)
      have g0 : wr.cell? ⟨b, off + k * 5, none⟩ = some (.int .i64 (zs.getD (k * 5) 0)) := (HN.out.cells b _ hb).trans (hc (k * 5) (by have := idx_lt (m := 5) (j := 0) hlt (by omega); omega))
      have g1 : wr.cell? ⟨b, off + k * 5 + 1, none⟩ = some (.int .i64 (zs.getD (k * 5 + 1) 0)) := (HN.out.cells b _ hb).trans (hc (k * 5 + 1) (by have := idx_lt (m := 5) (j := 1) hlt (by omega); omega))
      have g2 : wr.cell? ⟨b, off + k * 5 + 2, none⟩ = some (.int .i64 (zs.getD (k * 5 + 2) 0)) := (HN.out.cells b _ hb).trans (hc (k * 5 + 2) (by have := idx_lt (m := 5) (j := 2) hlt (by omega); omega))
      have g3 : wr.cell? ⟨b, off + k * 5 + 3, none⟩ = some (.int .i64 (zs.getD (k * 5 + 3) 0)) := (HN.out.cells b _ hb).trans (hc (k * 5 + 3) (by have := idx_lt (m := 5) (j := 3) hlt (by omega); omega))
      have g4 : wr.cell? ⟨b, off + k * 5 + 4, none⟩ = some (.int .i64 (zs.getD (k * 5 + 4) 0)) := (HN.out.cells b _ hb).trans (hc (k * 5 + 4) (by have := idx_lt (m := 5) (j := 4) hlt (by omega); omega))
      have ss := sum_snoc (zs := colL n zs 0) (k := k) (by rw [colL_len]; exact hlt)
      rw [colL_at hlt, Nat.add_zero] at ss
      have SS := Lib.hid ss
      obtain ⟨o1, o2, o3, o4, o5⟩ := HOK.out k hlt
      have k0 : (0 : Int) ≤ (k : Int) := by omega
      have k1 : (k : Int) < (n : Int) := by omega
      clear hc ss bn
      generalize ((colL n zs 0).take k).sum = T at *
      generalize zs.getD (k * 5) 0 = y0 at *
      generalize zs.getD (k * 5 + 1) 0 = y1 at *
      generalize zs.getD (k * 5 + 2) 0 = y2 at *
      generalize zs.getD (k * 5 + 3) 0 = y3 at *
      generalize zs.getD (k * 5 + 4) 0 = y4 at *
      go_wp2
      go_roundw
      case rel => exact ⟨k + 1, by omega, by go_num, by rw [SS.out]; go_num, Lib.hid (New.trans HN.out (by (repeat (first | exact New.refl _ | assumption | refine New.alloc ?_ _ | refine New.drew ?_ | refine New.drewN ?_ _ | refine New.setCell ?_ (by first | omega | (simp; omega) | (simp; done)) _ | refine New.trans ?_ (by assumption)))))⟩
      case measure => simp [intOf]; omega
    · obtain rfl : n = k := by omega
      obtain ⟨w2, rfl⟩ : ∃ x, x = wr := ⟨wr, rfl⟩
      rw [TS.out]
      clear bk
      generalize hS : (colL n zs 0).sum = S at *
      have hlt0 : ¬ s - S < 0 := by omega
      have HS := Lib.hid hS
      clear hS
      obtain ⟨W0, hmk, R0, N0⟩ : ∃ W0, (Instr.makeSlice 74 (.int .i64 (n : Int)) (.int .i64 (n : Int))).run Try.prog w2 = .ok (.slice (some ⟨w2.heap.size, 0, none⟩) n n) W0 ∧ Row W0 w2.heap.size (List.replicate (n * 3) 0) ∧ New w2 W0 :=
        ⟨_, mk_moving n n8 w2, Row.zeros w2 _ _ _ zero_moving, by (repeat (first | exact New.refl _ | assumption | refine New.alloc ?_ _ | refine New.drew ?_ | refine New.drewN ?_ _ | refine New.setCell ?_ (by first | omega | (simp; omega) | (simp; done)) _ | refine New.trans ?_ (by assumption)))⟩
      replace R0 := Lib.hid R0
      have NW0 := Lib.hid (HN.out.trans N0)
      have sz2 := HN.out.le
      have gW0 := R0.out.lt
      clear N0
      go_wp2
      clear hmk
      go_loopw [43] (fun i wr => ∃ (k : Nat) (ms : List Int), k ≤ n ∧ i = .int .i64 k ∧ Hid (Row wr w2.heap.size ms) ∧ Hid (MvTo n k (colL n zs 3) (roomG n zs) ms) ∧ Hid (New w wr)) (fun i _ => n - (intOf i).toNat)
      case atStart => exact ⟨0, _, Nat.zero_le _, rfl, R0, Lib.hid ⟨by simp, fun i hi => absurd hi (by omega)⟩, NW0⟩
      case round =>
        obtain ⟨k, ms, hk, rfl, HR, HM, HN⟩ := hrel
        by_cases hlt : k < n
        · obtain ⟨b, off, rfl, hb, hc⟩ := HX.out.at_ (by omega)
          have g0 : wr.cell? ⟨b, off + k * 5, none⟩ = some (.int .i64 (zs.getD (k * 5) 0)) := (HN.out.cells b _ hb).trans (hc (k * 5) (by have := idx_lt (m := 5) (j := 0) hlt (by omega); omega))
          have g1 : wr.cell? ⟨b, off + k * 5 + 1, none⟩ = some (.int .i64 (zs.getD (k * 5 + 1) 0)) := (HN.out.cells b _ hb).trans (hc (k * 5 + 1) (by have := idx_lt (m := 5) (j := 1) hlt (by omega); omega))
          have g2 : wr.cell? ⟨b, off + k * 5 + 2, none⟩ = some (.int .i64 (zs.getD (k * 5 + 2) 0)) := (HN.out.cells b _ hb).trans (hc (k * 5 + 2) (by have := idx_lt (m := 5) (j := 2) hlt (by omega); omega))
          have g3 : wr.cell? ⟨b, off + k * 5 + 3, none⟩ = some (.int .i64 (zs.getD (k * 5 + 3) 0)) := (HN.out.cells b _ hb).trans (hc (k * 5 + 3) (by have := idx_lt (m := 5) (j := 3) hlt (by omega); omega))
          have g4 : wr.cell? ⟨b, off + k * 5 + 4, none⟩ = some (.int .i64 (zs.getD (k * 5 + 4) 0)) := (HN.out.cells b _ hb).trans (hc (k * 5 + 4) (by have := idx_lt (m := 5) (j := 4) hlt (by omega); omega))
          have lm := HM.out.1
          have f0 := HR.out.f (k * 3) (by omega); have c0 := HR.out.c (k * 3) (by omega)
          have f1 := HR.out.f (k * 3 + 1) (by omega); have c1 := HR.out.c (k * 3 + 1) (by omega)
          have f2 := HR.out.f (k * 3 + 2) (by omega); have c2 := HR.out.c (k * 3 + 2) (by omega)
          have wk : (colL n zs 3).getD k 0 = zs.getD (k * 5 + 3) 0 := colL_at hlt
          have rk : (roomG n zs).getD k 0 = zs.getD (k * 5 + 2) 0 - zs.getD (k * 5) 0 := roomG_at hlt
          have M := Lib.hid (HM.out.step hlt wk.symm rk.symm)
          have glt := HR.out.lt
          obtain ⟨o1, o2, o3, o4, o5⟩ := HOK.out k hlt
          have SETS := Lib.hid (fun (w5 : World) (h5 : New wr w5) => (((HR.out.new h5).set_ (k := k * 3) (by omega) (zs.getD (k * 5 + 3) 0)).set_ (k := k * 3 + 1) (by simp; omega) (zs.getD (k * 5 + 2) 0 - zs.getD (k * 5) 0)).set_ (k := k * 3 + 2) (by simp; omega) 0)
          have k0 : (0 : Int) ≤ (k : Int) := by omega
          have k1 : (k : Int) < (n : Int) := by omega
          clear hc wk rk bn
          generalize ms.getD (k * 3) 0 = q0 at c0
          generalize ms.getD (k * 3 + 1) 0 = q1 at c1
          generalize ms.getD (k * 3 + 2) 0 = q2 at c2
          generalize zs.getD (k * 5) 0 = y0 at *
          generalize zs.getD (k * 5 + 1) 0 = y1 at *
          generalize zs.getD (k * 5 + 2) 0 = y2 at *
          generalize zs.getD (k * 5 + 3) 0 = y3 at *
          generalize zs.getD (k * 5 + 4) 0 = y4 at *
          obtain ⟨w3, rfl⟩ : ∃ x, x = wr := ⟨wr, rfl⟩
          go_wp2_with fail
          refine (growing_any _ _ _ _ _ (by omega) (by omega) _).mono ?_
          rintro e w5 ⟨rfl, h5⟩
          have h6 : New w3 w5 := New.trans (by (repeat (first | exact New.refl _ | assumption | refine New.alloc ?_ _ | refine New.drew ?_ | refine New.drewN ?_ _ | refine New.setCell ?_ (by first | omega | (simp; omega) | (simp; done)) _ | refine New.trans ?_ (by assumption)))) h5
          have f0' := (h6.marks _ _ glt).trans f0; have c0' := (h6.cells _ _ glt).trans c0
          have f1' := (h6.marks _ _ glt).trans f1; have c1' := (h6.cells _ _ glt).trans c1
          have f2' := (h6.marks _ _ glt).trans f2; have c2' := (h6.cells _ _ glt).trans c2
          have T5 := Lib.hid (SETS.out w5 h6)
          have N5 := Lib.hid (HN.out.trans h6)
          clear h5 h6 f0 f1 f2 c0 c1 c2
          go_wp2
          go_roundw
          case rel => exact ⟨k + 1, _, by omega, by go_num, T5, M, Lib.hid (((N5.out.setCell sz2 _).setCell sz2 _).setCell sz2 _)⟩
          case measure => simp [intOf]; omega
        · obtain rfl : n = k := by omega
          obtain ⟨w3, rfl⟩ : ∃ x, x = wr := ⟨wr, rfl⟩
          have MA := Lib.hid HM.out.all
          have FR := Lib.hid RM.out.fin
          have SP := sz2
          have RM2 : Hid (Rm n (colL n zs 3) (roomG n zs) (s - S)) := RM
          go_wp2_with fail
          refine (moveBy_any' (w2.heap.size) n n (colL n zs 3) (roomG n zs) ms (s - S) _ (by omega) RM2.out _ HR.out MA.out).mono ?_
          rintro e w4 ⟨rfl, ms4, R4, M4, G4⟩
          have N4 := Lib.hid ((Chg.of_grown G4 (Nat.le_refl _) (Nat.lt_succ_self _)).new HN.out sz2)
          replace R4 := Lib.hid R4; replace M4 := Lib.hid M4
          clear G4
          obtain ⟨W5, hmk5, R5, N5⟩ : ∃ W5, (Instr.makeSlice 31 (.int .i64 (n : Int)) (.int .i64 (n : Int))).run Try.prog w4 = .ok (.slice (some ⟨w4.heap.size, 0, none⟩) n n) W5 ∧ Row W5 w4.heap.size (List.replicate n 0) ∧ New w4 W5 :=
            ⟨_, run_make_row' (P := Try.prog) 31 3 (.int .i64 0) 8 Try.underlying31 (by kernel_rfl) rfl .i64 .i64 n (by omega) (by omega) w4, Row.made w4 n _, by (repeat (first | exact New.refl _ | assumption | refine New.alloc ?_ _ | refine New.drew ?_ | refine New.drewN ?_ _ | refine New.setCell ?_ (by first | omega | (simp; omega) | (simp; done)) _ | refine New.trans ?_ (by assumption)))⟩
          have RM5 := Lib.hid (R4.out.new N5)
          replace R5 := Lib.hid R5
          have g4 := R4.out.lt
          have sw4 := N4.out.le
          have NW5 := Lib.hid (N4.out.trans N5)
          clear N5
          go_wp2
          clear hmk5
          go_loopw [65] (fun i wr => ∃ k : Nat, k ≤ n ∧ i = .int .i64 k ∧ Hid (Row wr w4.heap.size (upTo k (flexL n zs s))) ∧ Hid (Row wr w2.heap.size ms4) ∧ Hid (New w wr)) (fun i _ => n - (intOf i).toNat)
          case atStart => exact ⟨0, Nat.zero_le _, rfl, Lib.hid (by rw [upTo_zero, flexL_len]; exact R5.out), RM5, NW5⟩
          case round =>
            obtain ⟨k, hk, rfl, HW, HQ, HN⟩ := hrel
            by_cases hlt : k < n
            · obtain ⟨b, off, rfl, hb, hc⟩ := HX.out.at_ (by omega)
              have g0 : wr.cell? ⟨b, off + k * 5, none⟩ = some (.int .i64 (zs.getD (k * 5) 0)) := (HN.out.cells b _ hb).trans (hc (k * 5) (by have := idx_lt (m := 5) (j := 0) hlt (by omega); omega))
              have g1 : wr.cell? ⟨b, off + k * 5 + 1, none⟩ = some (.int .i64 (zs.getD (k * 5 + 1) 0)) := (HN.out.cells b _ hb).trans (hc (k * 5 + 1) (by have := idx_lt (m := 5) (j := 1) hlt (by omega); omega))
              have g2 : wr.cell? ⟨b, off + k * 5 + 2, none⟩ = some (.int .i64 (zs.getD (k * 5 + 2) 0)) := (HN.out.cells b _ hb).trans (hc (k * 5 + 2) (by have := idx_lt (m := 5) (j := 2) hlt (by omega); omega))
              have g3 : wr.cell? ⟨b, off + k * 5 + 3, none⟩ = some (.int .i64 (zs.getD (k * 5 + 3) 0)) := (HN.out.cells b _ hb).trans (hc (k * 5 + 3) (by have := idx_lt (m := 5) (j := 3) hlt (by omega); omega))
              have g4 : wr.cell? ⟨b, off + k * 5 + 4, none⟩ = some (.int .i64 (zs.getD (k * 5 + 4) 0)) := (HN.out.cells b _ hb).trans (hc (k * 5 + 4) (by have := idx_lt (m := 5) (j := 4) hlt (by omega); omega))
              have lf := flexL_len n zs s
              have lu := upTo_len k (flexL n zs s) (by omega)
              have f1 := HW.out.f k (by omega)
              have o1 := HW.out.c k (by omega)
              obtain ⟨m1, m2, m3⟩ := M4.out.2 k hlt
              have c3 := HQ.out.c (k * 3 + 2) (by have := M4.out.1; omega)
              rw [m3] at c3
              have fa : (flexL n zs s).getD k 0 = zs.getD (k * 5) 0 + ((roomG n zs).getD k 0 - (finL (colL n zs 3) (roomG n zs) (s - S)).getD k 0) := by rw [FL.out]; simp [hlt]
              obtain ⟨⟨a', FR1⟩, FR2⟩ := FR.out
              have e1 := FR1.rb k hlt
              have e2 := FR2 k hlt
              have e3 := RM2.out.rb k hlt
              obtain ⟨p1, p2, p3, p4, p5⟩ := HOK.out k hlt
              have S1 : Hid (∀ w7, New wr w7 → Row (w7.setCell ⟨w4.heap.size, k, none⟩ (.int .i64 ((flexL n zs s).getD k 0))) w4.heap.size (upTo (k + 1) (flexL n zs s))) := Lib.hid (fun w7 h7 => by
                have q := (HW.out.new h7).set_ (k := k) (by omega) ((flexL n zs s).getD k 0)
                rw [upTo_step k _ (by omega)] at q
                exact q)
              rw [fa] at S1
              have gq := HQ.out.lt
              have gw := HW.out.lt
              have k0 : (0 : Int) ≤ (k : Int) := by omega
              have k1 : (k : Int) < (n : Int) := by omega
              clear hc lu m1 m2 m3 fa FR1 FR2 lf bn
              generalize zs.getD (k * 5) 0 = y0 at *
              generalize zs.getD (k * 5 + 1) 0 = y1 at *
              generalize zs.getD (k * 5 + 2) 0 = y2 at *
              generalize zs.getD (k * 5 + 3) 0 = y3 at *
              generalize zs.getD (k * 5 + 4) 0 = y4 at *
              generalize (roomG n zs).getD k 0 = u0 at *
              generalize (finL (colL n zs 3) (roomG n zs) (s - S)).getD k 0 = u1 at *
              generalize (upTo k (flexL n zs s)).getD k 0 = z9 at o1
              obtain ⟨mv, hmv⟩ : ∃ mv, mv = u0 - u1 := ⟨_, rfl⟩
              rw [← hmv] at c3 S1
              have mvb : 0 ≤ mv ∧ mv ≤ 10000 := by omega
              obtain ⟨mv0, mv1⟩ := mvb
              clear hmv
              obtain ⟨w6, rfl⟩ : ∃ x, x = wr := ⟨wr, rfl⟩
              go_wp2
              have cy : (w6.alloc (.cells #[.int .i64 y0, .int .i64 y1, .int .i64 y2, .int .i64 y3, .int .i64 y4] 37)).cell? ⟨w6.heap.size, 0, none⟩ = some (.int .i64 y0) := by simp [go_sem]
              have N8 : New w6 (w6.alloc (.cells #[.int .i64 y0, .int .i64 y1, .int .i64 y2, .int .i64 y3, .int .i64 y4] 37)) := by (repeat (first | exact New.refl _ | assumption | refine New.alloc ?_ _ | refine New.drew ?_ | refine New.drewN ?_ _ | refine New.setCell ?_ (by first | omega | (simp; omega) | (simp; done)) _ | refine New.trans ?_ (by assumption)))
              generalize w6.alloc (.cells #[.int .i64 y0, .int .i64 y1, .int .i64 y2, .int .i64 y3, .int .i64 y4] 37) = w8 at cy N8 ⊢
              have c3' := (N8.cells _ _ gq).trans c3
              have N7 := N8.drew
              have N8h := Lib.hid N8
              clear N8 c3
              go_still_tail 13, (by kernel_rfl)
              change wpList _ _ _ _ _ w8.drew
              generalize w8.drew = w7 at N7 ⊢
              have f1' := (N7.marks _ _ gw).trans f1; have o1' := (N7.cells _ _ gw).trans o1
              have T1 := Lib.hid (S1.out w7 N7)
              have Q7 := Lib.hid ((HQ.out.new N7).far (p := ⟨w4.heap.size, k, none⟩) (by simp; omega) (.int .i64 (y0 + mv)))
              have N7' := Lib.hid ((HN.out.trans N7).setCell (p := ⟨w4.heap.size, k, none⟩) sw4 (.int .i64 (y0 + mv)))
              clear N7 f1 o1
              go_wp2
              go_roundw
              case rel => exact ⟨k + 1, by omega, by go_num, T1, Q7, N7'⟩
              case measure => simp [intOf]; omega
            · obtain rfl : n = k := by omega
              have RR : Hid (Row wr w4.heap.size (flexL n zs s)) := Lib.hid (by have h := HW.out; have e := upTo_all (flexL n zs s); rw [flexL_len] at e; rw [e] at h; exact h)
              go_wp2
              go_ret
              exact Ans.row rfl (flexL_len _ _ _) (by omega) RR.out HN.out
set_option maxRecDepth 100000 in
set_option maxHeartbeats 8000000 in
theorem FlexSizes_shrink (A : Option Addr) (n c : Nat) (zs : List Int) (s : Int) (hv : flsB n zs = true) (hs : 0 ≤ s ∧ s ≤ 200000) (hl : ¬ 0 ≤ s - (colL n zs 0).sum) (w : World) (hx : Sts 5 w A n zs) :
    Calls Try.prog 16 #[.slice A n c, .int .i64 s] w (Ans w (flexL n zs s)) := by
  have HX := Lib.hid hx; have HV := Lib.hid hv
  have bds := colL_sum_bd hv
  have RM := Lib.hid (Rm.shrink hv hs hl)
  obtain ⟨⟨n1, n8⟩, hok⟩ := flsB_iff.1 hv
  have HOK := Lib.hid (fun k hk => flOk_iff.1 (hok k hk))
  have BD := Lib.hid bds
  have d1 := decide_eq_true hs
  have i1 : (1 : Int) ≤ (n : Int) := by omega
  have i8 : (n : Int) ≤ 8 := by omega
  have fl : flexL n zs s = (List.range n).map fun i => zs.getD (i * 5) 0 - ((roomS n zs).getD i 0 - (finL (colL n zs 4) (roomS n zs) ((colL n zs 0).sum - s)).getD i 0) := by
    unfold flexL
    rw [if_neg hl]
  have FL := Lib.hid fl
  have ts : (colL n zs 0).take n = colL n zs 0 := List.take_of_length_le (by rw [colL_len]; exact Nat.le_refl _)
  have bn := bds n (Nat.le_refl _)
  rw [ts] at bn
  have TS := Lib.hid ts
  obtain ⟨hs0, hs1⟩ := hs
  clear hx hv bds hok fl ts
  go_enter Try.func16, Try.ntmps16
  go_wp2_with (first
    | (go_at_call 47; refine (ValidFlexes_any A n c zs (by omega) _ HX.out).mono ?_; rw [HV.out]; rintro e w1 ⟨rfl, N1⟩; (replace N1 := Lib.hid N1))
    | (go_at_call 39; refine (within_any _ _ _ _).mono ?_; rw [d1]; rintro e w' ⟨rfl, rfl⟩))
  go_loopw [5, 27] (fun l i wr => ∃ k : Nat, k ≤ n ∧ i = .int .i64 k ∧ l = .int .i64 (s - ((colL n zs 0).take k).sum) ∧ Hid (New w wr)) (fun _ i _ => n - (intOf i).toNat)
  case atStart => exact ⟨0, Nat.zero_le _, rfl, by simp, N1⟩
  case round =>
    obtain ⟨k, hk, rfl, rfl, HN⟩ := hrel
    have bk := BD.out k hk
    by_cases hlt : k < n
    · obtain ⟨b, off, rfl, hb, hc⟩ := HX.out.at_ (by omega)
      have g0 : wr.cell? ⟨b, off + k * 5, none⟩ = some (.int .i64 (zs.getD (k * 5) 0)) := (HN.out.cells b _ hb).trans (hc (k * 5) (by have := idx_lt (m := 5) (j := 0) hlt (by omega); omega))
      have g1 : wr.cell? ⟨b, off + k * 5 + 1, none⟩ = some (.int .i64 (zs.getD (k * 5 + 1) 0)) := (HN.out.cells b _ hb).trans (hc (k * 5 + 1) (by have := idx_lt (m := 5) (j := 1) hlt (by omega); omega))
      have g2 : wr.cell? ⟨b, off + k * 5 + 2, none⟩ = some (.int .i64 (zs.getD (k * 5 + 2) 0)) := (HN.out.cells b _ hb).trans (hc (k * 5 + 2) (by have := idx_lt (m := 5) (j := 2) hlt (by omega); omega))
      have g3 : wr.cell? ⟨b, off + k * 5 + 3, none⟩ = some (.int .i64 (zs.getD (k * 5 + 3) 0)) := (HN.out.cells b _ hb).trans (hc (k * 5 + 3) (by have := idx_lt (m := 5) (j := 3) hlt (by omega); omega))
      have g4 : wr.cell? ⟨b, off + k * 5 + 4, none⟩ = some (.int .i64 (zs.getD (k * 5 + 4) 0)) := (HN.out.cells b _ hb).trans (hc (k * 5 + 4) (by have := idx_lt (m := 5) (j := 4) hlt (by omega); omega))
      have ss := sum_snoc (zs := colL n zs 0) (k := k) (by rw [colL_len]; exact hlt)
      rw [colL_at hlt, Nat.add_zero] at ss
      have SS := Lib.hid ss
      obtain ⟨o1, o2, o3, o4, o5⟩ := HOK.out k hlt
      have k0 : (0 : Int) ≤ (k : Int) := by omega
      have k1 : (k : Int) < (n : Int) := by omega
      clear hc ss bn
      generalize ((colL n zs 0).take k).sum = T at *
      generalize zs.getD (k * 5) 0 = y0 at *
      generalize zs.getD (k * 5 + 1) 0 = y1 at *
      generalize zs.getD (k * 5 + 2) 0 = y2 at *
      generalize zs.getD (k * 5 + 3) 0 = y3 at *
      generalize zs.getD (k * 5 + 4) 0 = y4 at *
      go_wp2
      go_roundw
      case rel => exact ⟨k + 1, by omega, by go_num, by rw [SS.out]; go_num, Lib.hid (New.trans HN.out (by (repeat (first | exact New.refl _ | assumption | refine New.alloc ?_ _ | refine New.drew ?_ | refine New.drewN ?_ _ | refine New.setCell ?_ (by first | omega | (simp; omega) | (simp; done)) _ | refine New.trans ?_ (by assumption)))))⟩
      case measure => simp [intOf]; omega
    · obtain rfl : n = k := by omega
      obtain ⟨w2, rfl⟩ : ∃ x, x = wr := ⟨wr, rfl⟩
      rw [TS.out]
      clear bk
      generalize hS : (colL n zs 0).sum = S at *
      have hlt0 : s - S < 0 := by omega
      have HS := Lib.hid hS
      clear hS
      obtain ⟨W0, hmk, R0, N0⟩ : ∃ W0, (Instr.makeSlice 74 (.int .i64 (n : Int)) (.int .i64 (n : Int))).run Try.prog w2 = .ok (.slice (some ⟨w2.heap.size, 0, none⟩) n n) W0 ∧ Row W0 w2.heap.size (List.replicate (n * 3) 0) ∧ New w2 W0 :=
        ⟨_, mk_moving n n8 w2, Row.zeros w2 _ _ _ zero_moving, by (repeat (first | exact New.refl _ | assumption | refine New.alloc ?_ _ | refine New.drew ?_ | refine New.drewN ?_ _ | refine New.setCell ?_ (by first | omega | (simp; omega) | (simp; done)) _ | refine New.trans ?_ (by assumption)))⟩
      replace R0 := Lib.hid R0
      have NW0 := Lib.hid (HN.out.trans N0)
      have sz2 := HN.out.le
      have gW0 := R0.out.lt
      clear N0
      go_wp2
      clear hmk
      go_loopw [43] (fun i wr => ∃ (k : Nat) (ms : List Int), k ≤ n ∧ i = .int .i64 k ∧ Hid (Row wr w2.heap.size ms) ∧ Hid (MvTo n k (colL n zs 4) (roomS n zs) ms) ∧ Hid (New w wr)) (fun i _ => n - (intOf i).toNat)
      case atStart => exact ⟨0, _, Nat.zero_le _, rfl, R0, Lib.hid ⟨by simp, fun i hi => absurd hi (by omega)⟩, NW0⟩
      case round =>
        obtain ⟨k, ms, hk, rfl, HR, HM, HN⟩ := hrel
        by_cases hlt : k < n
        · obtain ⟨b, off, rfl, hb, hc⟩ := HX.out.at_ (by omega)
          have g0 : wr.cell? ⟨b, off + k * 5, none⟩ = some (.int .i64 (zs.getD (k * 5) 0)) := (HN.out.cells b _ hb).trans (hc (k * 5) (by have := idx_lt (m := 5) (j := 0) hlt (by omega); omega))
          have g1 : wr.cell? ⟨b, off + k * 5 + 1, none⟩ = some (.int .i64 (zs.getD (k * 5 + 1) 0)) := (HN.out.cells b _ hb).trans (hc (k * 5 + 1) (by have := idx_lt (m := 5) (j := 1) hlt (by omega); omega))
          have g2 : wr.cell? ⟨b, off + k * 5 + 2, none⟩ = some (.int .i64 (zs.getD (k * 5 + 2) 0)) := (HN.out.cells b _ hb).trans (hc (k * 5 + 2) (by have := idx_lt (m := 5) (j := 2) hlt (by omega); omega))
          have g3 : wr.cell? ⟨b, off + k * 5 + 3, none⟩ = some (.int .i64 (zs.getD (k * 5 + 3) 0)) := (HN.out.cells b _ hb).trans (hc (k * 5 + 3) (by have := idx_lt (m := 5) (j := 3) hlt (by omega); omega))
          have g4 : wr.cell? ⟨b, off + k * 5 + 4, none⟩ = some (.int .i64 (zs.getD (k * 5 + 4) 0)) := (HN.out.cells b _ hb).trans (hc (k * 5 + 4) (by have := idx_lt (m := 5) (j := 4) hlt (by omega); omega))
          have lm := HM.out.1
          have f0 := HR.out.f (k * 3) (by omega); have c0 := HR.out.c (k * 3) (by omega)
          have f1 := HR.out.f (k * 3 + 1) (by omega); have c1 := HR.out.c (k * 3 + 1) (by omega)
          have f2 := HR.out.f (k * 3 + 2) (by omega); have c2 := HR.out.c (k * 3 + 2) (by omega)
          have wk : (colL n zs 4).getD k 0 = zs.getD (k * 5 + 4) 0 := colL_at hlt
          have rk : (roomS n zs).getD k 0 = zs.getD (k * 5) 0 - zs.getD (k * 5 + 1) 0 := roomS_at hlt
          have M := Lib.hid (HM.out.step hlt wk.symm rk.symm)
          have glt := HR.out.lt
          obtain ⟨o1, o2, o3, o4, o5⟩ := HOK.out k hlt
          have SETS := Lib.hid (fun (w5 : World) (h5 : New wr w5) => (((HR.out.new h5).set_ (k := k * 3) (by omega) (zs.getD (k * 5 + 4) 0)).set_ (k := k * 3 + 1) (by simp; omega) (zs.getD (k * 5) 0 - zs.getD (k * 5 + 1) 0)).set_ (k := k * 3 + 2) (by simp; omega) 0)
          have k0 : (0 : Int) ≤ (k : Int) := by omega
          have k1 : (k : Int) < (n : Int) := by omega
          clear hc wk rk bn
          generalize ms.getD (k * 3) 0 = q0 at c0
          generalize ms.getD (k * 3 + 1) 0 = q1 at c1
          generalize ms.getD (k * 3 + 2) 0 = q2 at c2
          generalize zs.getD (k * 5) 0 = y0 at *
          generalize zs.getD (k * 5 + 1) 0 = y1 at *
          generalize zs.getD (k * 5 + 2) 0 = y2 at *
          generalize zs.getD (k * 5 + 3) 0 = y3 at *
          generalize zs.getD (k * 5 + 4) 0 = y4 at *
          obtain ⟨w3, rfl⟩ : ∃ x, x = wr := ⟨wr, rfl⟩
          go_wp2_with fail
          refine (shrinking_any _ _ _ _ _ (by omega) (by omega) _).mono ?_
          rintro e w5 ⟨rfl, h5⟩
          have h6 : New w3 w5 := New.trans (by (repeat (first | exact New.refl _ | assumption | refine New.alloc ?_ _ | refine New.drew ?_ | refine New.drewN ?_ _ | refine New.setCell ?_ (by first | omega | (simp; omega) | (simp; done)) _ | refine New.trans ?_ (by assumption)))) h5
          have f0' := (h6.marks _ _ glt).trans f0; have c0' := (h6.cells _ _ glt).trans c0
          have f1' := (h6.marks _ _ glt).trans f1; have c1' := (h6.cells _ _ glt).trans c1
          have f2' := (h6.marks _ _ glt).trans f2; have c2' := (h6.cells _ _ glt).trans c2
          have T5 := Lib.hid (SETS.out w5 h6)
          have N5 := Lib.hid (HN.out.trans h6)
          clear h5 h6 f0 f1 f2 c0 c1 c2
          go_wp2
          go_roundw
          case rel => exact ⟨k + 1, _, by omega, by go_num, T5, M, Lib.hid (((N5.out.setCell sz2 _).setCell sz2 _).setCell sz2 _)⟩
          case measure => simp [intOf]; omega
        · obtain rfl : n = k := by omega
          obtain ⟨w3, rfl⟩ : ∃ x, x = wr := ⟨wr, rfl⟩
          have MA := Lib.hid HM.out.all
          have FR := Lib.hid RM.out.fin
          have SP := sz2
          have RM2 : Hid (Rm n (colL n zs 4) (roomS n zs) (S - s)) := RM
          go_wp2_with fail
          refine (moveBy_any' (w2.heap.size) n n (colL n zs 4) (roomS n zs) ms (S - s) _ (by omega) RM2.out _ HR.out MA.out).mono ?_
          rintro e w4 ⟨rfl, ms4, R4, M4, G4⟩
          have N4 := Lib.hid ((Chg.of_grown G4 (Nat.le_refl _) (Nat.lt_succ_self _)).new HN.out sz2)
          replace R4 := Lib.hid R4; replace M4 := Lib.hid M4
          clear G4
          obtain ⟨W5, hmk5, R5, N5⟩ : ∃ W5, (Instr.makeSlice 31 (.int .i64 (n : Int)) (.int .i64 (n : Int))).run Try.prog w4 = .ok (.slice (some ⟨w4.heap.size, 0, none⟩) n n) W5 ∧ Row W5 w4.heap.size (List.replicate n 0) ∧ New w4 W5 :=
            ⟨_, run_make_row' (P := Try.prog) 31 3 (.int .i64 0) 8 Try.underlying31 (by kernel_rfl) rfl .i64 .i64 n (by omega) (by omega) w4, Row.made w4 n _, by (repeat (first | exact New.refl _ | assumption | refine New.alloc ?_ _ | refine New.drew ?_ | refine New.drewN ?_ _ | refine New.setCell ?_ (by first | omega | (simp; omega) | (simp; done)) _ | refine New.trans ?_ (by assumption)))⟩
          have RM5 := Lib.hid (R4.out.new N5)
          replace R5 := Lib.hid R5
          have g4 := R4.out.lt
          have sw4 := N4.out.le
          have NW5 := Lib.hid (N4.out.trans N5)
          clear N5
          go_wp2
          clear hmk5
          go_loopw [65] (fun i wr => ∃ k : Nat, k ≤ n ∧ i = .int .i64 k ∧ Hid (Row wr w4.heap.size (upTo k (flexL n zs s))) ∧ Hid (Row wr w2.heap.size ms4) ∧ Hid (New w wr)) (fun i _ => n - (intOf i).toNat)
          case atStart => exact ⟨0, Nat.zero_le _, rfl, Lib.hid (by rw [upTo_zero, flexL_len]; exact R5.out), RM5, NW5⟩
          case round =>
            obtain ⟨k, hk, rfl, HW, HQ, HN⟩ := hrel
            by_cases hlt : k < n
            · obtain ⟨b, off, rfl, hb, hc⟩ := HX.out.at_ (by omega)
              have g0 : wr.cell? ⟨b, off + k * 5, none⟩ = some (.int .i64 (zs.getD (k * 5) 0)) := (HN.out.cells b _ hb).trans (hc (k * 5) (by have := idx_lt (m := 5) (j := 0) hlt (by omega); omega))
              have g1 : wr.cell? ⟨b, off + k * 5 + 1, none⟩ = some (.int .i64 (zs.getD (k * 5 + 1) 0)) := (HN.out.cells b _ hb).trans (hc (k * 5 + 1) (by have := idx_lt (m := 5) (j := 1) hlt (by omega); omega))
              have g2 : wr.cell? ⟨b, off + k * 5 + 2, none⟩ = some (.int .i64 (zs.getD (k * 5 + 2) 0)) := (HN.out.cells b _ hb).trans (hc (k * 5 + 2) (by have := idx_lt (m := 5) (j := 2) hlt (by omega); omega))
              have g3 : wr.cell? ⟨b, off + k * 5 + 3, none⟩ = some (.int .i64 (zs.getD (k * 5 + 3) 0)) := (HN.out.cells b _ hb).trans (hc (k * 5 + 3) (by have := idx_lt (m := 5) (j := 3) hlt (by omega); omega))
              have g4 : wr.cell? ⟨b, off + k * 5 + 4, none⟩ = some (.int .i64 (zs.getD (k * 5 + 4) 0)) := (HN.out.cells b _ hb).trans (hc (k * 5 + 4) (by have := idx_lt (m := 5) (j := 4) hlt (by omega); omega))
              have lf := flexL_len n zs s
              have lu := upTo_len k (flexL n zs s) (by omega)
              have f1 := HW.out.f k (by omega)
              have o1 := HW.out.c k (by omega)
              obtain ⟨m1, m2, m3⟩ := M4.out.2 k hlt
              have c3 := HQ.out.c (k * 3 + 2) (by have := M4.out.1; omega)
              rw [m3] at c3
              have fa : (flexL n zs s).getD k 0 = zs.getD (k * 5) 0 - ((roomS n zs).getD k 0 - (finL (colL n zs 4) (roomS n zs) (S - s)).getD k 0) := by rw [FL.out]; simp [hlt]
              obtain ⟨⟨a', FR1⟩, FR2⟩ := FR.out
              have e1 := FR1.rb k hlt
              have e2 := FR2 k hlt
              have e3 := RM2.out.rb k hlt
              obtain ⟨p1, p2, p3, p4, p5⟩ := HOK.out k hlt
              have S1 : Hid (∀ w7, New wr w7 → Row (w7.setCell ⟨w4.heap.size, k, none⟩ (.int .i64 ((flexL n zs s).getD k 0))) w4.heap.size (upTo (k + 1) (flexL n zs s))) := Lib.hid (fun w7 h7 => by
                have q := (HW.out.new h7).set_ (k := k) (by omega) ((flexL n zs s).getD k 0)
                rw [upTo_step k _ (by omega)] at q
                exact q)
              rw [fa] at S1
              have gq := HQ.out.lt
              have gw := HW.out.lt
              have k0 : (0 : Int) ≤ (k : Int) := by omega
              have k1 : (k : Int) < (n : Int) := by omega
              clear hc lu m1 m2 m3 fa FR1 FR2 lf bn
              generalize zs.getD (k * 5) 0 = y0 at *
              generalize zs.getD (k * 5 + 1) 0 = y1 at *
              generalize zs.getD (k * 5 + 2) 0 = y2 at *
              generalize zs.getD (k * 5 + 3) 0 = y3 at *
              generalize zs.getD (k * 5 + 4) 0 = y4 at *
              generalize (roomS n zs).getD k 0 = u0 at *
              generalize (finL (colL n zs 4) (roomS n zs) (S - s)).getD k 0 = u1 at *
              generalize (upTo k (flexL n zs s)).getD k 0 = z9 at o1
              obtain ⟨mv, hmv⟩ : ∃ mv, mv = u0 - u1 := ⟨_, rfl⟩
              rw [← hmv] at c3 S1
              have mvb : 0 ≤ mv ∧ mv ≤ 10000 := by omega
              obtain ⟨mv0, mv1⟩ := mvb
              clear hmv
              obtain ⟨w6, rfl⟩ : ∃ x, x = wr := ⟨wr, rfl⟩
              go_wp2
              have cy : (w6.alloc (.cells #[.int .i64 y0, .int .i64 y1, .int .i64 y2, .int .i64 y3, .int .i64 y4] 37)).cell? ⟨w6.heap.size, 0, none⟩ = some (.int .i64 y0) := by simp [go_sem]
              have N8 : New w6 (w6.alloc (.cells #[.int .i64 y0, .int .i64 y1, .int .i64 y2, .int .i64 y3, .int .i64 y4] 37)) := by (repeat (first | exact New.refl _ | assumption | refine New.alloc ?_ _ | refine New.drew ?_ | refine New.drewN ?_ _ | refine New.setCell ?_ (by first | omega | (simp; omega) | (simp; done)) _ | refine New.trans ?_ (by assumption)))
              generalize w6.alloc (.cells #[.int .i64 y0, .int .i64 y1, .int .i64 y2, .int .i64 y3, .int .i64 y4] 37) = w8 at cy N8 ⊢
              have c3' := (N8.cells _ _ gq).trans c3
              have N7 := N8.drew
              have N8h := Lib.hid N8
              clear N8 c3
              go_still_tail 13, (by kernel_rfl)
              change wpList _ _ _ _ _ w8.drew
              generalize w8.drew = w7 at N7 ⊢
              have f1' := (N7.marks _ _ gw).trans f1; have o1' := (N7.cells _ _ gw).trans o1
              have T1 := Lib.hid (S1.out w7 N7)
              have Q7 := Lib.hid ((HQ.out.new N7).far (p := ⟨w4.heap.size, k, none⟩) (by simp; omega) (.int .i64 (y0 - mv)))
              have N7' := Lib.hid ((HN.out.trans N7).setCell (p := ⟨w4.heap.size, k, none⟩) sw4 (.int .i64 (y0 - mv)))
              clear N7 f1 o1
              go_wp2
              go_roundw
              case rel => exact ⟨k + 1, by omega, by go_num, T1, Q7, N7'⟩
              case measure => simp [intOf]; omega
            · obtain rfl : n = k := by omega
              have RR : Hid (Row wr w4.heap.size (flexL n zs s)) := Lib.hid (by have h := HW.out; have e := upTo_all (flexL n zs s); rw [flexL_len] at e; rw [e] at h; exact h)
              go_wp2
              go_ret
              exact Ans.row rfl (flexL_len _ _ _) (by omega) RR.out HN.out
end Go.Proofs.Ytobnjagmakhgpaa
