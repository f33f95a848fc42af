/- boxOf of the program. Condition: what the library wants to find lies there. -/
import Derived.Test.YtffggmjhaaehlaaGreatDoorPbN
import Derived.Test.YtffggmjhaaehlaaGreatDoorTxtC
import Derived.Test.YtffggmjhaaehlaaGreatDoorTxtX
import Derived.Test.YtffggmjhaaehlaaGreatDoorBoxH
import Derived.Deep.Cut
import Derived.Deep.CutRange
namespace Go.Proofs.YtffggmjhaaehlaaGreatDoor
open Go.RowKit

/-- A block of numbers that may be written, told by a function. -/
structure FRow (w : World) (g : Nat) (f : Nat → Int) (n : Nat) : Prop where
  lt : g < w.heap.size
  c : ∀ i, i < n → w.cell? ⟨g, i, none⟩ = some (.int .i64 (f i))
  f : ∀ i, i < n → w.frozen? ⟨g, i, none⟩ = false
section
variable {g n k : Nat} {w w' : World} {f h : Nat → Int}
theorem FRow.new (r : FRow w g f n) (k : New w w') : FRow w' g f n :=
  ⟨Nat.lt_of_lt_of_le r.lt k.le, fun i hi => (k.cells _ _ r.lt).trans (r.c i hi), fun i hi => (k.marks _ _ r.lt).trans (r.f i hi)⟩
theorem FRow.put (r : FRow w g f n) (hk : k < n) (v : Int) : FRow (w.setCell ⟨g, k, none⟩ (.int .i64 v)) g (fun i => if i = k then v else f i) n :=
  ⟨by simpa [World.setCell] using r.lt, fun i hi => by
    rw [set_cell_at (r.c k hk)]
    by_cases e : i = k
    · rw [if_pos e, if_pos e]
    · rw [if_neg e, r.c i hi, if_neg e], fun i hi => set_frozen (r.f i hi)⟩
theorem FRow.cong (r : FRow w g f n) (e : ∀ i, i < n → h i = f i) : FRow w g h n := ⟨r.lt, fun i hi => by rw [e i hi]; exact r.c i hi, r.f⟩
end
/-- The box while its numbers are read. -/
def bF (ws : List (List UInt8)) (k : Int) (j i : Nat) : Int := if i = 0 then 0 else if i = 1 then k else if i = 2 then whI ws 1 else if i = 3 then whI ws 2 else if i - 4 < j then vI ws (i - 4) else 0
theorem bF_next (ws : List (List UInt8)) (k : Int) (j i : Nat) : bF ws k (j + 1) i = if i = 4 + j then vI ws j else bF ws k j i := by
  by_cases h : i < 4
  · rw [if_neg (show ¬ i = 4 + j by omega)]
    rcases (show i = 0 ∨ i = 1 ∨ i = 2 ∨ i = 3 by omega) with rfl | rfl | rfl | rfl <;> rfl
  · obtain ⟨t, rfl⟩ : ∃ t, i = t + 4 := ⟨i - 4, by omega⟩
    have hb : ∀ q, bF ws k q (t + 4) = if t < q then vI ws t else 0 := fun q => by
      unfold bF
      rw [if_neg (by omega), if_neg (by omega), if_neg (by omega), if_neg (by omega), Nat.add_sub_cancel]
    rw [hb, hb]
    by_cases e : t = j
    · subst e
      rw [if_pos (by omega), if_pos (by omega)]
    · rw [if_neg (show ¬ t + 4 = 4 + j by omega)]
      by_cases h2 : t < j
      · rw [if_pos h2, if_pos (by omega)]
      · rw [if_neg h2, if_neg (by omega)]
theorem row_five {ws : List (List UInt8)} {k : Int} {w : World} {g : Nat} (h : FRow w g (bF ws k 5) 9) : w.cell? ⟨g, 0, none⟩ = some (.int .i64 (0)) ∧ w.cell? ⟨g, 1, none⟩ = some (.int .i64 (k)) ∧ w.cell? ⟨g, 2, none⟩ = some (.int .i64 (whI ws 1)) ∧ w.cell? ⟨g, 3, none⟩ = some (.int .i64 (whI ws 2)) ∧ w.cell? ⟨g, 4, none⟩ = some (.int .i64 (vI ws 0)) ∧ w.cell? ⟨g, 5, none⟩ = some (.int .i64 (vI ws 1)) ∧ w.cell? ⟨g, 6, none⟩ = some (.int .i64 (vI ws 2)) ∧ w.cell? ⟨g, 7, none⟩ = some (.int .i64 (vI ws 3)) ∧ w.cell? ⟨g, 8, none⟩ = some (.int .i64 (vI ws 4)) :=
  ⟨by simpa [bF] using h.c 0 (by omega), by simpa [bF] using h.c 1 (by omega), by simpa [bF] using h.c 2 (by omega), by simpa [bF] using h.c 3 (by omega), by simpa [bF] using h.c 4 (by omega), by simpa [bF] using h.c 5 (by omega), by simpa [bF] using h.c 6 (by omega), by simpa [bF] using h.c 7 (by omega), by simpa [bF] using h.c 8 (by omega)⟩
section
variable {ws : List (List UInt8)} {f : Nat → List UInt8} {L m o j : Nat}
theorem drop_head (ws : List (List UInt8)) (a : Nat) : (ws.drop a).headD [] = ws.getD a [] := by
  rw [List.headD_eq_head?_getD, List.head?_drop, List.getD_eq_getElem?_getD]
theorem drop_one (ws : List (List UInt8)) (a : Nat) : (ws.drop a).getD 1 [] = ws.getD (a + 1) [] := by
  rw [List.getD_eq_getElem?_getD, List.getElem?_drop, List.getD_eq_getElem?_getD]
theorem at_iff (hf : ∀ i, f i = ws.getD i []) (hL : ws.length = L) (hr : rI ws j = ws.drop (L - m)) (hm : m ≤ L ∧ (0 < m → o + m = L)) : atW (rI ws j) j ↔ 2 ≤ m ∧ f o = nm j := by
  unfold atW
  rw [hr, drop_head, List.length_drop, hL, ← hf]
  constructor
  · rintro ⟨h1, h2⟩
    have : L - m = o := by have := hm.2 (by omega); omega
    rw [this] at h2
    exact ⟨by omega, h2⟩
  · rintro ⟨h1, h2⟩
    have : L - m = o := by have := hm.2 (by omega); omega
    rw [this]
    exact ⟨by omega, h2⟩
theorem step_yes (hf : ∀ i, f i = ws.getD i []) (hr : rI ws j = ws.drop (L - m)) (hm : m ≤ L ∧ (0 < m → o + m = L)) (h2 : 2 ≤ m) (ha : atW (rI ws j) j) : rI ws (j + 1) = ws.drop (L - (m - 2)) ∧ vI ws j = numT (f (o + 1)) := by
  have e : L - m = o := by have := hm.2 (by omega); omega
  refine ⟨?_, ?_⟩
  · show (if atW (rI ws j) j then (rI ws j).drop 2 else rI ws j) = _
    rw [if_pos ha, hr, List.drop_drop]
    exact congrArg (fun x => ws.drop x) (by omega)
  · unfold vI
    rw [if_pos ha, hr, drop_one, e, ← hf]
theorem step_no (ha : ¬ atW (rI ws j) j) : rI ws (j + 1) = rI ws j ∧ vI ws j = 0 := by
  refine ⟨?_, by unfold vI; rw [if_neg ha]⟩
  show (if atW (rI ws j) j then (rI ws j).drop 2 else rI ws j) = _
  rw [if_neg ha]
end
theorem New.setCells {a : World} {b : Nat} (hb : a.heap.size ≤ b) : ∀ (vs : List Value) (o : Nat) {w : World}, New a w → New a (w.setCells b o vs)
  | [], _, _, h => h
  | v :: r, o, _, h => New.setCells hb r (o + 1) (h.setCell (p := ⟨b, o, none⟩) hb v)
theorem box_there {w : World} {g : Nat} {ys : List Int} (h : Row w g ys) (hl : ys.length = 9) : w.there g 0 9 := fun j hj => ⟨by rw [Nat.zero_add, h.c j (by omega)]; rfl, by rw [Nat.zero_add]; exact h.f j (by omega)⟩
theorem box_set {w : World} {g : Nat} {ys : List Int} (h : Row w g ys) (hl : ys.length = 9) (y0 y1 y2 y3 y4 y5 y6 y7 y8 : Int) : ∀ j, j < 9 → (w.setCells g 0 [.int .i64 y0, .int .i64 y1, .int .i64 y2, .int .i64 y3, .int .i64 y4, .int .i64 y5, .int .i64 y6, .int .i64 y7, .int .i64 y8]).cell? ⟨g, j, none⟩ = some (.int .i64 ([y0, y1, y2, y3, y4, y5, y6, y7, y8].getD j 0)) := fun j hj => by
  have h1 := World.cell?_setCells_in g [.int .i64 y0, .int .i64 y1, .int .i64 y2, .int .i64 y3, .int .i64 y4, .int .i64 y5, .int .i64 y6, .int .i64 y7, .int .i64 y8] 0 w (fun j hj => by rw [Nat.zero_add, h.c j (by simp at hj; omega)]; rfl) j (by simpa using hj)
  rw [Nat.zero_add] at h1
  rw [h1]
  rcases (show j = 0 ∨ j = 1 ∨ j = 2 ∨ j = 3 ∨ j = 4 ∨ j = 5 ∨ j = 6 ∨ j = 7 ∨ j = 8 by omega) with rfl | rfl | rfl | rfl | rfl | rfl | rfl | rfl | rfl <;> rfl
theorem box_range {w : World} {g : Nat} {y0 y1 y2 y3 y4 y5 y6 y7 y8 : Int} (h : Row w g [y0, y1, y2, y3, y4, y5, y6, y7, y8]) : w.rangeAt g 0 [.int .i64 y0, .int .i64 y1, .int .i64 y2, .int .i64 y3, .int .i64 y4, .int .i64 y5, .int .i64 y6, .int .i64 y7, .int .i64 y8] := fun j v hv => by
  have hj : j < 9 := by have := (List.getElem?_eq_some_iff.1 hv).1; simpa using this
  rw [Nat.zero_add, h.c j (by simpa using hj)]
  rcases (show j = 0 ∨ j = 1 ∨ j = 2 ∨ j = 3 ∨ j = 4 ∨ j = 5 ∨ j = 6 ∨ j = 7 ∨ j = 8 by omega) with rfl | rfl | rfl | rfl | rfl | rfl | rfl | rfl | rfl <;> exact hv
theorem split_any (l : List UInt8) (hl : l.length ≤ 2000000) (c : UInt8) (w : World) (h : LibC w) :
    Calls Tryz.prog 68 #[str l, str [c]] w fun e w' => e = .returned (.slice (some ⟨w.heap.size, 0, none⟩) (pcs c l).length (pcs c l).length) ∧ New w w' ∧ SRow w' w.heap.size (fun i => (pcs c l).getD i []) (pcs c l).length := by
  obtain ⟨m, hm⟩ := h.len
  have hs : (⟨l.toArray⟩ : ByteArray).size = l.length := by simp [ByteArray.size]
  have hd : (⟨l.toArray⟩ : ByteArray).data.toList = l := by simp
  have hmap := Lib.splitB_data ⟨#[c]⟩ 0 (Lib.countB ⟨l.toArray⟩ ⟨#[c]⟩) ⟨l.toArray⟩
  have hlen := Lib.splitB_all ⟨#[c]⟩ (Nat.le_refl 1) 0 _ ⟨l.toArray⟩ rfl
  have hsp : Lib.splitK [c] 0 (Lib.countB ⟨l.toArray⟩ ⟨#[c]⟩) l = pcs c l := by
    have := split_pcs c _ l (Nat.le_refl _)
    unfold Lib.split at this
    rw [← this]
  rw [hd] at hmap
  rw [show (⟨#[c]⟩ : ByteArray).data.toList = [c] from rfl, hsp] at hmap
  refine (Shf.strings_Split ⟨l.toArray⟩ ⟨#[c]⟩ m w (by rw [hs]; omega) hm (Nat.le_refl 1)).mono fun e w' ⟨he, hw⟩ => ?_
  generalize Lib.splitB ⟨#[c]⟩ 0 (Lib.countB ⟨l.toArray⟩ ⟨#[c]⟩) ⟨l.toArray⟩ = xs at *
  have hL : (pcs c l).length = Lib.countB ⟨l.toArray⟩ ⟨#[c]⟩ + 1 := by rw [← hmap, List.length_map, hlen]
  refine ⟨by rw [he, hL], by rw [hw]; exact (New.refl w).alloc _, ?_⟩
  subst hw
  refine ⟨by simp, fun i hi => ?_, fun i hi => by simp [go_sem]⟩
  have e1 : (w.alloc (.cells (xs.map Value.string).toArray 9)).cell? ⟨w.heap.size, i, none⟩ = ((xs.map Value.string).toArray)[i]? := World.cell?_alloc_new w _ _ i
  rw [e1]
  have hx : i < xs.length := by rw [hlen, ← hL]; exact hi
  have e2 : (pcs c l).getD i [] = xs[i].data.toList := by
    rw [← hmap, List.getD_eq_getElem?_getD, List.getElem?_map, List.getElem?_eq_getElem hx]; rfl
  rw [e2, List.getElem?_toArray, List.getElem?_map, List.getElem?_eq_getElem hx]
  exact congrArg some (str_of rfl)
set_option maxRecDepth 100000 in
set_option maxHeartbeats 4000000 in
theorem boxOf_any (l : List UInt8) (hl : l.length ≤ 2000000) (w : World) (h : LibC w) : Calls Tryz.prog 42 #[str l] w fun e w' => New w w' ∧
    ((bxOk l ∧ e = .returned (.tuple #[.agg ((rdI (pcs 32 l)).map (Value.int .i64)).toArray, .bool true])) ∨ (¬ bxOk l ∧ e = .returned (.tuple #[.agg #[.int .i64 0, .int .i64 0, .int .i64 0, .int .i64 0, .int .i64 0, .int .i64 0, .int .i64 0, .int .i64 0, .int .i64 0], .bool false]))) := by
  have H := Lib.hid h
  have HL := Lib.hid hl
  have R0 := Lib.hid (Row.oneBox1 w 0 0 0 0 0 0 0 0 0 38)
  clear h hl
  go_enter Tryz.func42, Tryz.ntmps42
  go_wp2_with fail
  refine (split_any l HL.out 32 _ (H.out.new (by (repeat (first | exact New.refl _ | assumption | refine New.alloc ?_ _ | refine New.drew ?_ | refine New.drewN ?_ _ | refine New.setCell ?_ (by first | omega | (simp; omega) | (simp; done)) _ | refine New.trans ?_ (by assumption)))))).mono ?_
  rintro e w1 ⟨rfl, N1, S1⟩
  have R1 := Lib.hid (R0.out.new N1)
  have N1 := Lib.hid ((show New w _ by (repeat (first | exact New.refl _ | assumption | refine New.alloc ?_ _ | refine New.drew ?_ | refine New.drewN ?_ _ | refine New.setCell ?_ (by first | omega | (simp; omega) | (simp; done)) _ | refine New.trans ?_ (by assumption)))).trans N1)
  obtain ⟨ws, hws⟩ : ∃ ws, pcs 32 l = ws := ⟨_, rfl⟩
  rw [hws, World.size_alloc] at S1
  rw [hws, World.size_alloc]
  generalize w.heap.size + 1 = gw at *
  have L1 : 1 ≤ ws.length := by obtain ⟨a, t, e⟩ := pcs_ne 32 l; rw [hws] at e; rw [e]; simp
  have L2 : ws.length ≤ 2000001 := by have := pcs_len 32 l; rw [hws] at this; have := HL.out; omega
  obtain ⟨f, hf⟩ : ∃ f : Nat → List UInt8, ∀ i, f i = ws.getD i [] := ⟨_, fun _ => rfl⟩
  have FL := Lib.hid (fun i => (show (f i).length ≤ 2000000 by rw [hf, ← hws]; exact Nat.le_trans (pcs_at_len 32 l i) HL.out))
  have CW := Lib.hid (fun X (hX : New w1 X) i (hi : i < ws.length) => (show X.cell? ⟨gw, i, none⟩ = some (str (f i)) by rw [hf]; exact (hX.cells gw i S1.lt).trans (S1.c i hi)))
  have HF := Lib.hid hf
  have HW := Lib.hid hws
  have H0 : Hid (ws.headD [] = f 0) := Lib.hid (by rw [hf]; cases ws <;> rfl)
  obtain ⟨L, hL⟩ : ∃ L, ws.length = L := ⟨_, rfl⟩
  have EL := Lib.hid hL
  rw [hL] at L1 L2 CW ⊢
  have c0 := CW.out w1 (New.refl _) 0 L1
  have LC := Lib.hid (fun X (hX : New w1 X) => H.out.new (N1.out.trans hX))
  have GW := Lib.hid S1.lt
  clear S1 hf hws hL R0
  go_wp2_with fail
  refine (kindOf_any (f 0) _ (LC.out _ (New.refl _))).mono ?_
  rintro e w2 ⟨rfl, N2⟩
  have kb := kindT_le (f 0)
  obtain ⟨k, hk⟩ : ∃ k, kindT (f 0) = k := ⟨_, rfl⟩
  rw [hk] at kb ⊢
  have HK : Hid (kindT (f 0) = k) := Lib.hid hk
  have RB := Lib.hid (Row.oneBox1 w2 0 k 0 0 0 0 0 0 0 38)
  have N2 := Lib.hid N2
  have NUM := Lib.hid (fun i X (hX : New w1 X) => numberOf_any (f i) (FL.out i) X (LC.out X hX))
  have GB := Lib.hid N2.out.le
  clear c0 hk
  go_upto_region 3 with (fail)
  generalize hWA : w2.alloc (.cells #[.int .i64 0, .int .i64 k, .int .i64 0, .int .i64 0, .int .i64 0, .int .i64 0, .int .i64 0, .int .i64 0, .int .i64 0] 38) = WA at *
  have NA : Hid (New w1 WA) := Lib.hid (by rw [← hWA]; exact N2.out.alloc _)
  clear hWA
  obtain ⟨gb, hgb⟩ : ∃ g, w2.heap.size = g := ⟨_, rfl⟩
  rw [hgb] at RB GB
  rw [hgb]
  clear hgb
  go_cut [4] from 8 (fun s4 wx => wx = WA ∧ ∃ o m : Nat, s4 = .slice (some ⟨gw, o, none⟩) m m ∧ m + 1 = L ∧ (0 < m → o = 1))
  case first =>
    by_cases h1 : L = 1
    · subst h1
      go_wp2_with fail
      go_meet
      case rel => exact ⟨rfl, 0, 0, rfl, rfl, fun h => absurd h (by omega)⟩
    · obtain ⟨q, rfl⟩ : ∃ q, L = q + 2 := ⟨L - 2, by omega⟩
      have q0 : (1 : Int) ≤ (q : Int) + 2 := by omega
      go_wp2_with fail
      go_meet
      case rel => exact ⟨rfl, 1, q + 1, rfl, rfl, fun _ => rfl⟩
  case rest =>
    obtain ⟨hw, o, m, rfl, hm, ho⟩ := hcut
    rw [hw]
    clear hw
    have m0 : (0 : Int) ≤ (m : Int) := by omega
    have kq := RB.out.c 1 (by simp)
    simp only [List.getD_cons_zero, List.getD_cons_succ] at kq
    have HLF : Hid (leafW ws ↔ k = 0 ∧ 2 ≤ m) := Lib.hid (by unfold leafW; rw [H0.out, HK.out, EL.out]; omega)
    go_upto_region 4 with (fail)
    go_cut [24] from 8 (fun s24 wx => wx = WA ∧ s24 = .bool (decide (k = 0 ∧ 2 ≤ m)))
    case first =>
      by_cases k0 : k = 0
      · subst k0
        by_cases m2 : 2 ≤ m
        · have m2i : (2 : Int) ≤ (m : Int) := by omega
          go_wp2_with fail
          go_meet
          case rel => exact ⟨rfl, by simp [m2]⟩
        · have m2i : ¬ (2 : Int) ≤ (m : Int) := by omega
          have m2d : decide ((2 : Int) ≤ (m : Int)) = false := decide_eq_false m2i
          go_wp2_with fail
          go_meet
          case rel => exact ⟨rfl, by simp [m2]⟩
      · have k0b : (k == 0) = false := by simpa using k0
        go_wp2_with fail
        go_meet
        case rel => exact ⟨rfl, by simp [k0]⟩
    case rest =>
      obtain ⟨hw, rfl⟩ := hcut
      rw [hw]
      clear hw
      go_upto_if 24 with (fail)
      go_cut [4] from 8 (fun s4 wx => ∃ o m : Nat, s4 = .slice (some ⟨gw, o, none⟩) m m ∧ Hid (m ≤ L ∧ (0 < m → o + m = L)) ∧ Hid (restW ws = ws.drop (L - m)) ∧ Hid (New w1 wx) ∧ Hid (Row wx gb [0, k, whI ws 1, whI ws 2, 0, 0, 0, 0, 0]))
      case first =>
        by_cases hlf : k = 0 ∧ 2 ≤ m
        · have hl2 := HLF.out.2 hlf
          obtain ⟨q, rfl⟩ : ∃ q, m = q + 2 := ⟨m - 2, by omega⟩
          obtain rfl : o = 1 := ho (by omega)
          obtain rfl : k = 0 := hlf.1
          have q0 : (0 : Int) < (q : Int) + 2 := by omega
          have q1 : (1 : Int) < (q : Int) + 2 := by omega
          have q2 : (2 : Int) ≤ (q : Int) + 2 := by omega
          have E3 : Hid (restW ws = ws.drop 3) := Lib.hid (by unfold restW; rw [if_pos hl2])
          have E4 : Hid (whI ws 1 = numT (f 1) ∧ whI ws 2 = numT (f 2)) := Lib.hid (by unfold whI; rw [if_pos hl2, if_pos hl2, HF.out, HF.out]; exact ⟨rfl, rfl⟩)
          have CS := Lib.hid (fun X (hX : New w1 X) => And.intro (CW.out X hX 1 (by omega)) (CW.out X hX 2 (by omega)))
          have ND := Lib.hid NA.out.drew
          have RD := Lib.hid (RB.out.new (New.refl WA).drew)
          rw [decide_eq_true hlf]
          clear hl2 hlf kq m0 HLF ho
          go_wp2_with fail
          refine wp_region_noPanic ?_
          refine wp_region_held_drew (S := fun w' => w'.cell? ⟨gw, 1, none⟩ = some (str (f 1)) ∧ w'.cell? ⟨gw, 2, none⟩ = some (str (f 2))) (by kernel_rfl) (CS.out _ ND.out) (fun hHeld => ?_)
          generalize WA.drew = Vd at ND RD hHeld ⊢
          refine wpAnyH_take (i := 0) (oi := _) (v := ?_) rfl (by kernel_rfl) (by kernel_rfl) (by kernel_rfl) (fun _ _ _ h => h) (Or.inl ⟨by kernel_rfl, ?_⟩) (by assumption) ?_
          rotate_left; (intro w' hSw; (try dsimp only at hSw); go_split_ands; go_simp; (try with_reducible rfl))
          try dsimp only [Act.put]
          refine wpAnyH_take (i := 1) (oi := _) (v := ?_) rfl (by kernel_rfl) (by kernel_rfl) (by kernel_rfl) (fun _ _ _ h => h) (Or.inl ⟨by kernel_rfl, ?_⟩) (by assumption) ?_
          rotate_left; (intro w' hSw; (try dsimp only at hSw); go_split_ands; go_simp; (try with_reducible rfl))
          try dsimp only [Act.put]
          refine wpAnyH_take (i := 2) (oi := _) (v := ?_) rfl (by kernel_rfl) (by kernel_rfl) (by kernel_rfl) (fun _ _ _ h => h) (Or.inl ⟨by kernel_rfl, ?_⟩) (by assumption) ?_
          rotate_left; (intro w' hSw; (try dsimp only at hSw); go_split_ands; go_simp; (try with_reducible rfl))
          try dsimp only [Act.put]
          refine wpAnyH_take (i := 4) (oi := _) (v := ?_) rfl (by kernel_rfl) (by kernel_rfl) (by kernel_rfl) (fun _ _ _ h => h) (Or.inl ⟨by kernel_rfl, ?_⟩) (by assumption) ?_
          rotate_left; (intro w' hSw; (try dsimp only at hSw); go_split_ands; go_simp; (try with_reducible rfl))
          try dsimp only [Act.put]
          refine wpAnyH_take (i := 5) (oi := _) (v := ?_) rfl (by kernel_rfl) (by kernel_rfl) (by kernel_rfl) (fun _ _ _ h => h) (Or.inl ⟨by kernel_rfl, ?_⟩) (by assumption) ?_
          rotate_left; (intro w' hSw; (try dsimp only at hSw); go_split_ands; go_simp; (try with_reducible rfl))
          try dsimp only [Act.put]
          refine wpAnyH_take (i := 6) (oi := _) (v := ?_) rfl (by kernel_rfl) (by kernel_rfl) (by kernel_rfl) (fun _ _ _ h => h) (Or.inl ⟨by kernel_rfl, ?_⟩) (by assumption) ?_
          rotate_left; (intro w' hSw; (try dsimp only at hSw); go_split_ands; go_simp; (try with_reducible rfl))
          try dsimp only [Act.put]
          refine wpAnyH_ready (rs := [3]) (by kernel_rfl) (by simp) ?_
          refine AllReadyH.cons (o := _) rfl (fun K hK => ?_) AllReadyH.nil
          go_simp
          go_at_call 70
          refine (NUM.out 1 _ ND.out).mono ?_
          rintro e wa ⟨rfl, Nc⟩
          have Na := Lib.hid (ND.out.trans Nc)
          have Ra := Lib.hid (RD.out.new Nc)
          clear Nc
          go_wp2_with fail
          refine hK.out _ _ (CS.out wa Na.out) (fun hH3 => ?_)
          clear hK K
          try dsimp only [Act.put]
          refine wpAnyH_ready (rs := [7]) (by kernel_rfl) (by simp) ?_
          refine AllReadyH.cons (o := _) rfl (fun K hK => ?_) AllReadyH.nil
          go_simp
          go_at_call 70
          refine (NUM.out 2 _ Na.out).mono ?_
          rintro e wb ⟨rfl, Nc⟩
          have Nb := Lib.hid (Na.out.trans Nc)
          have Rb := Lib.hid (Ra.out.new Nc)
          clear Nc
          go_wp2_with fail
          refine hK.out _ _ (CS.out wb Nb.out) (fun hH7 => ?_)
          clear hK K
          try dsimp only [Act.put]
          refine wpAnyH_take (i := 8) (oi := _) (v := ?_) rfl (by kernel_rfl) (by kernel_rfl) (by kernel_rfl) (fun _ _ _ h => h) (Or.inl ⟨by kernel_rfl, ?_⟩) (by assumption) ?_
          rotate_left; (intro w' hSw; (try dsimp only at hSw); go_split_ands; go_simp; (try with_reducible rfl))
          try dsimp only [Act.put]
          refine wpAnyH_ready (rs := [9]) (by kernel_rfl) (by simp) ?_
          refine AllReadyH.cons (o := _) rfl (fun K hK => ?_) AllReadyH.nil
          have q2 := Rb.out.c 2 (by simp); have z2 := Rb.out.f 2 (by simp)
          simp only [List.getD_cons_zero, List.getD_cons_succ] at q2
          go_simp
          have Nc := Lib.hid (Nb.out.setCell (p := ⟨gb, 2, none⟩) (GB.out) (.int .i64 (numT (f 1))))
          have Rc : Hid (Row _ gb [0, 0, numT (f 1), 0, 0, 0, 0, 0, 0]) := Lib.hid (Rb.out.set_ (k := 2) (by simp) (numT (f 1)))
          clear q2 z2
          refine hK.out _ _ (CS.out _ Nc.out) (fun hH9 => ?_)
          clear hK K
          try dsimp only [Act.put]
          refine wpAnyH_take (i := 10) (oi := _) (v := ?_) rfl (by kernel_rfl) (by kernel_rfl) (by kernel_rfl) (fun _ _ _ h => h) (Or.inl ⟨by kernel_rfl, ?_⟩) (by assumption) ?_
          rotate_left; (intro w' hSw; (try dsimp only at hSw); go_split_ands; go_simp; (try with_reducible rfl))
          try dsimp only [Act.put]
          refine wpAnyH_ready (rs := [11]) (by kernel_rfl) (by simp) ?_
          refine AllReadyH.cons (o := _) rfl (fun K hK => ?_) AllReadyH.nil
          have q3 := Rc.out.c 3 (by simp); have z3 := Rc.out.f 3 (by simp)
          simp only [List.getD_cons_zero, List.getD_cons_succ] at q3
          go_simp
          have Nd := Lib.hid (Nc.out.setCell (p := ⟨gb, 3, none⟩) (GB.out) (.int .i64 (numT (f 2))))
          have Rd : Hid (Row _ gb [0, 0, numT (f 1), numT (f 2), 0, 0, 0, 0, 0]) := Lib.hid (Rc.out.set_ (k := 3) (by simp) (numT (f 2)))
          clear q3 z3
          refine hK.out _ _ (CS.out _ Nd.out) (fun hH11 => ?_)
          clear hK K
          try dsimp only [Act.put]
          refine wpAnyH_done (by kernel_rfl) ?_ _
          refine NoPanic.normal ?_
          have E8 : Hid (Row _ gb [0, 0, whI ws 1, whI ws 2, 0, 0, 0, 0, 0]) := Lib.hid (by rw [E4.out.1, E4.out.2]; exact Rd.out)
          have E9 := Lib.hid hm
          try go_simp
          go_wp2_with fail
          all_goals go_meet
          all_goals first | exact ⟨1, 0, rfl, Lib.hid ⟨by omega, fun h => absurd h (by omega)⟩, Lib.hid (by rw [E3.out]; exact congrArg (fun x => ws.drop x) (by have := E9.out; omega)), Nd, E8⟩ | exact ⟨3, q, rfl, Lib.hid ⟨by have := E9.out; omega, fun _ => by have := E9.out; omega⟩, Lib.hid (by rw [E3.out]; exact congrArg (fun x => ws.drop x) (by have := E9.out; omega)), Nd, E8⟩
        · have hl2 : ¬ leafW ws := fun h => hlf (HLF.out.1 h)
          have E3 : restW ws = ws.drop (L - m) := by unfold restW; rw [if_neg hl2, show L - m = 1 by omega]
          have E4 : whI ws 1 = 0 ∧ whI ws 2 = 0 := by unfold whI; rw [if_neg hl2, if_neg hl2]; exact ⟨rfl, rfl⟩
          have E5 : Hid (m ≤ L ∧ (0 < m → o + m = L)) := Lib.hid ⟨by omega, fun h => by rw [ho h]; omega⟩
          rw [decide_eq_false hlf]
          have E6 := Lib.hid E3
          have E7 : Hid (Row WA gb [0, k, whI ws 1, whI ws 2, 0, 0, 0, 0, 0]) := Lib.hid (by rw [E4.1, E4.2]; exact RB.out)
          clear E3 E4 hl2 hlf kq ho
          go_wp2_with fail
          go_meet
          case rel => exact ⟨o, m, rfl, E5, E6, NA, E7⟩
      case rest =>
        obtain ⟨o', m', rfl, HO, HR, NW, RW⟩ := hcut
        clear HLF kq NA RB ho hm
        go_wp2_with fail
        refine (styleWords_any gb _).mono ?_
        rintro e w3 ⟨sg, rfl, N3, sg1, sg2, SW⟩
        have hne : sg ≠ gb := by have := RW.out.lt; omega
        have FR : Hid (FRow w3 gb (bF ws k 0) 9) := Lib.hid (by
          have r := RW.out.new N3
          refine ⟨r.lt, fun i hi => ?_, fun i hi => r.f i hi⟩
          rw [r.c i hi]
          rcases (show i = 0 ∨ i = 1 ∨ i = 2 ∨ i = 3 ∨ i = 4 ∨ i = 5 ∨ i = 6 ∨ i = 7 ∨ i = 8 by omega) with rfl | rfl | rfl | rfl | rfl | rfl | rfl | rfl | rfl <;> rfl)
        have NW3 := Lib.hid (NW.out.trans N3)
        have SW := Lib.hid SW
        have HNE := Lib.hid hne
        clear N3 NW RW sg1 hne
        go_wp2_with fail
        go_loopw [4, 7, 39] (fun s4 _ i wr => ∃ j o m : Nat, j ≤ 5 ∧ i = .int .i64 (j : Int) ∧ s4 = .slice (some ⟨gw, o, none⟩) m m ∧ Hid (m ≤ L ∧ (0 < m → o + m = L)) ∧ Hid (rI ws j = ws.drop (L - m)) ∧ Hid (New w1 wr) ∧ Hid (FRow wr gb (bF ws k j) 9) ∧ Hid (sg < wr.heap.size ∧ ∀ i, i < 5 → wr.cell? ⟨sg, i * 2, none⟩ = some (str (nm i)) ∧ wr.cell? ⟨sg, i * 2 + 1, none⟩ = some (.pointer (some ⟨gb, 4 + i, none⟩)))) (fun _ _ i _ => 5 - (intOf i).toNat)
        case atStart => exact ⟨0, o', m', by omega, rfl, rfl, HO, HR, NW3, FR, Lib.hid ⟨sg2, SW.out⟩⟩
        case round =>
          obtain ⟨j, o, m, hj, rfl, rfl, HOj, HRj, NWj, FRj, SWj⟩ := hrel
          have j0 : (0 : Int) ≤ (j : Int) := by omega
          have sz := NWj.out.le
          by_cases hlt : j < 5
          · have j1 : (j : Int) < 5 := by omega
            have g1 := (SWj.out.2 j hlt).1
            have g2 := (SWj.out.2 j hlt).2
            obtain ⟨gs, hgs⟩ : ∃ g, wr.heap.size = g := ⟨_, rfl⟩
            have NS : New wr (wr.alloc (.cells #[str (nm j), .pointer (some ⟨gb, 4 + j, none⟩)] 94)) := (New.refl wr).alloc _
            have s1 : (wr.alloc (.cells #[str (nm j), .pointer (some ⟨gb, 4 + j, none⟩)] 94)).cell? ⟨gs, 0, none⟩ = some (str (nm j)) := by rw [← hgs]; simp [go_sem]
            have s2 : (wr.alloc (.cells #[str (nm j), .pointer (some ⟨gb, 4 + j, none⟩)] 94)).cell? ⟨gs, 1, none⟩ = some (.pointer (some ⟨gb, 4 + j, none⟩)) := by rw [← hgs]; simp [go_sem]
            have s3 : gs < (wr.alloc (.cells #[str (nm j), .pointer (some ⟨gb, 4 + j, none⟩)] 94)).heap.size := by rw [← hgs]; simp
            go_upto_region 10 with (fail)
            have HNS : Hid (gs ≠ gb) := Lib.hid (by have := FRj.out.lt; omega)
            clear g1 g2 hgs
            have NSW := Lib.hid (NWj.out.trans NS)
            have FRS := Lib.hid (FRj.out.new NS)
            have SWS : Hid (sg < (wr.alloc (.cells #[str (nm j), .pointer (some ⟨gb, 4 + j, none⟩)] 94)).heap.size ∧ ∀ i, i < 5 → (wr.alloc (.cells #[str (nm j), .pointer (some ⟨gb, 4 + j, none⟩)] 94)).cell? ⟨sg, i * 2, none⟩ = some (str (nm i)) ∧ (wr.alloc (.cells #[str (nm j), .pointer (some ⟨gb, 4 + j, none⟩)] 94)).cell? ⟨sg, i * 2 + 1, none⟩ = some (.pointer (some ⟨gb, 4 + i, none⟩))) := Lib.hid ⟨Nat.lt_of_lt_of_le SWj.out.1 NS.le, fun i hi => ⟨(NS.cells _ _ SWj.out.1).trans (SWj.out.2 i hi).1, (NS.cells _ _ SWj.out.1).trans (SWj.out.2 i hi).2⟩⟩
            clear NWj FRj SWj NS
            generalize wr.alloc (.cells #[str (nm j), .pointer (some ⟨gb, 4 + j, none⟩)] 94) = WS at *
            by_cases m2 : 2 ≤ m
            · have m2i : (2 : Int) ≤ (m : Int) := by omega
              have m0i : (0 : Int) < (m : Int) := by omega
              have ho := HOj.out.2 (by omega)
              have q1 := CW.out WS NSW.out o (by omega)
              by_cases he : f o = nm j
              · obtain ⟨en, ev⟩ := step_yes HF.out HRj.out HOj.out m2 ((at_iff HF.out EL.out HRj.out HOj.out).2 ⟨m2, he⟩)
                have EN := Lib.hid en
                have EV := Lib.hid ev
                rw [he] at q1
                clear en ev
                go_quiet (fail)
                have NQ := Lib.hid ((New.refl WS).drewN nq)
                generalize WS.drewN nq = WX at NQ ⊢
                have NX := Lib.hid (NSW.out.trans NQ.out)
                have FX := Lib.hid (FRS.out.new NQ.out)
                have SX : Hid (sg < WX.heap.size ∧ ∀ i, i < 5 → WX.cell? ⟨sg, i * 2, none⟩ = some (str (nm i)) ∧ WX.cell? ⟨sg, i * 2 + 1, none⟩ = some (.pointer (some ⟨gb, 4 + i, none⟩))) := Lib.hid ⟨Nat.lt_of_lt_of_le SWS.out.1 NQ.out.le, fun i hi => ⟨(NQ.out.cells _ _ SWS.out.1).trans (SWS.out.2 i hi).1, (NQ.out.cells _ _ SWS.out.1).trans (SWS.out.2 i hi).2⟩⟩
                have x2 := (NQ.out.cells gs 1 s3).trans s2
                have x3 := Nat.lt_of_lt_of_le s3 NQ.out.le
                obtain ⟨q, rfl⟩ : ∃ q, m = q + 2 := ⟨m - 2, by omega⟩
                have q1i : (1 : Int) < (q : Int) + 2 := by omega
                have q2i : (2 : Int) ≤ (q : Int) + 2 := by omega
                clear s1 s2 s3 q1 NQ SWS FRS NSW m2i m0i he
                have CS := Lib.hid (fun X (hX : New WX X) => And.intro ((hX.cells gs 1 x3).trans x2) (CW.out X (NX.out.trans hX) (o + 1) (by omega)))
                clear x2 x3
                go_upto_region 11 with (fail)
                have ND := Lib.hid (New.refl WX).drew
                have RD := Lib.hid (FX.out.new ND.out)
                refine wp_region_noPanic ?_
                refine wp_region_held_drew (S := fun w' => w'.cell? ⟨gs, 1, none⟩ = some (.pointer (some ⟨gb, 4 + j, none⟩)) ∧ w'.cell? ⟨gw, o + 1, none⟩ = some (str (f (o + 1)))) (by kernel_rfl) (CS.out _ ND.out) (fun hHeld => ?_)
                generalize WX.drew = Vd at ND RD hHeld ⊢
                refine wpAnyH_take (i := 0) (oi := _) (v := ?_) rfl (by kernel_rfl) (by kernel_rfl) (by kernel_rfl) (fun _ _ _ h => h) (Or.inl ⟨by kernel_rfl, ?_⟩) (by assumption) ?_
                rotate_left; (intro w' hSw; (try dsimp only at hSw); go_split_ands; go_simp; (try with_reducible rfl))
                try dsimp only [Act.put]
                refine wpAnyH_take (i := 1) (oi := _) (v := ?_) rfl (by kernel_rfl) (by kernel_rfl) (by kernel_rfl) (fun _ _ _ h => h) (Or.inl ⟨by kernel_rfl, ?_⟩) (by assumption) ?_
                rotate_left; (intro w' hSw; (try dsimp only at hSw); go_split_ands; go_simp; (try with_reducible rfl))
                try dsimp only [Act.put]
                refine wpAnyH_take (i := 2) (oi := _) (v := ?_) rfl (by kernel_rfl) (by kernel_rfl) (by kernel_rfl) (fun _ _ _ h => h) (Or.inl ⟨by kernel_rfl, ?_⟩) (by assumption) ?_
                rotate_left; (intro w' hSw; (try dsimp only at hSw); go_split_ands; go_simp; (try with_reducible rfl))
                try dsimp only [Act.put]
                refine wpAnyH_take (i := 3) (oi := _) (v := ?_) rfl (by kernel_rfl) (by kernel_rfl) (by kernel_rfl) (fun _ _ _ h => h) (Or.inl ⟨by kernel_rfl, ?_⟩) (by assumption) ?_
                rotate_left; (intro w' hSw; (try dsimp only at hSw); go_split_ands; go_simp; (try with_reducible rfl))
                try dsimp only [Act.put]
                refine wpAnyH_take (i := 4) (oi := _) (v := ?_) rfl (by kernel_rfl) (by kernel_rfl) (by kernel_rfl) (fun _ _ _ h => h) (Or.inl ⟨by kernel_rfl, ?_⟩) (by assumption) ?_
                rotate_left; (intro w' hSw; (try dsimp only at hSw); go_split_ands; go_simp; (try with_reducible rfl))
                try dsimp only [Act.put]
                refine wpAnyH_ready (rs := [5]) (by kernel_rfl) (by simp) ?_
                refine AllReadyH.cons (o := _) rfl (fun K hK => ?_) AllReadyH.nil
                go_simp
                go_at_call 70
                refine (NUM.out (o + 1) _ (NX.out.trans ND.out)).mono ?_
                rintro e wv ⟨rfl, Nc⟩
                have NV := Lib.hid (ND.out.trans Nc)
                have RV := Lib.hid (RD.out.new Nc)
                clear Nc
                go_wp2_with fail
                refine hK.out _ _ (CS.out wv NV.out) (fun hH5 => ?_)
                clear hK K
                try dsimp only [Act.put]
                refine wpAnyH_take (i := 6) (oi := _) (v := ?_) rfl (by kernel_rfl) (by kernel_rfl) (by kernel_rfl) (fun _ _ _ h => h) (Or.inl ⟨by kernel_rfl, ?_⟩) (by assumption) ?_
                rotate_left; (intro w' hSw; (try dsimp only at hSw); go_split_ands; go_simp; (try with_reducible rfl))
                try dsimp only [Act.put]
                refine wpAnyH_ready (rs := [7]) (by kernel_rfl) (by simp) ?_
                refine AllReadyH.cons (o := _) rfl (fun K hK => ?_) AllReadyH.nil
                have q4 := RV.out.c (4 + j) (by omega); have z4 := RV.out.f (4 + j) (by omega)
                generalize bF ws k j (4 + j) = ob at q4
                go_simp
                have RZ := Lib.hid ((RV.out.put (k := 4 + j) (by omega) (numT (f (o + 1)))).cong (h := bF ws k (j + 1)) (fun i _ => by rw [bF_next, EV.out]))
                have NZ := Lib.hid ((NX.out.trans NV.out).setCell (p := ⟨gb, 4 + j, none⟩) (GB.out) (.int .i64 (numT (f (o + 1)))))
                have SZ : Hid (sg < (wv.setCell ⟨gb, 4 + j, none⟩ (.int .i64 (numT (f (o + 1))))).heap.size ∧ ∀ i, i < 5 → (wv.setCell ⟨gb, 4 + j, none⟩ (.int .i64 (numT (f (o + 1))))).cell? ⟨sg, i * 2, none⟩ = some (str (nm i)) ∧ (wv.setCell ⟨gb, 4 + j, none⟩ (.int .i64 (numT (f (o + 1))))).cell? ⟨sg, i * 2 + 1, none⟩ = some (.pointer (some ⟨gb, 4 + i, none⟩))) := Lib.hid ⟨by have h1 := SX.out.1; have h2 := NV.out.le; rw [World.size_setCell]; omega, fun i hi => ⟨by rw [World.cell?_setCell_other _ _ _ _ (by simp; exact fun h => absurd h.symm (HNE.out))]; exact (NV.out.cells _ _ SX.out.1).trans (SX.out.2 i hi).1, by rw [World.cell?_setCell_other _ _ _ _ (by simp; exact fun h => absurd h.symm (HNE.out))]; exact (NV.out.cells _ _ SX.out.1).trans (SX.out.2 i hi).2⟩⟩
                clear q4 z4
                have SS : (wv.setCell ⟨gb, 4 + j, none⟩ (.int .i64 (numT (f (o + 1))))).cell? ⟨gs, 1, none⟩ = some (.pointer (some ⟨gb, 4 + j, none⟩)) ∧ (wv.setCell ⟨gb, 4 + j, none⟩ (.int .i64 (numT (f (o + 1))))).cell? ⟨gw, o + 1, none⟩ = some (str (f (o + 1))) := ⟨by rw [World.cell?_setCell_other _ _ _ _ (by first | (simp; done) | (simp; exact fun h => absurd h.symm HNS.out))]; exact (CS.out wv NV.out).1, by rw [World.cell?_setCell_other _ _ _ _ (by simp; exact fun h => absurd h (by have := GW.out; have := GB.out; omega))]; exact (CS.out wv NV.out).2⟩
                generalize wv.setCell ⟨gb, 4 + j, none⟩ (.int .i64 (numT (f (o + 1)))) = WZ at *
                refine hK.out _ _ SS (fun hH7 => ?_)
                clear hK K SS
                try dsimp only [Act.put]
                refine wpAnyH_done (by kernel_rfl) ?_ _
                refine NoPanic.normal ?_
                have HQ : Hid ((q ≤ L ∧ (0 < q → o + 2 + q = L)) ∧ rI ws (j + 1) = ws.drop (L - q)) := Lib.hid ⟨⟨by have := HOj.out.1; omega, fun _ => by have := HOj.out.2 (by omega); omega⟩, EN.out⟩
                try go_simp
                go_wp2_with fail
                by_cases hq : q = 0
                · subst hq
                  exact ⟨⟨j + 1, o, 0, by omega, by go_num, rfl, Lib.hid ⟨HQ.out.1.1, fun h => absurd h (by omega)⟩, Lib.hid HQ.out.2, NZ, RZ, SZ⟩, by simp [intOf]; omega⟩
                · rw [if_neg hq]
                  exact ⟨⟨j + 1, o + 2, q, by omega, by go_num, rfl, Lib.hid HQ.out.1, Lib.hid HQ.out.2, NZ, RZ, SZ⟩, by simp [intOf]; omega⟩
              · have EQ : (f o == nm j) = false := by simp [he]
                obtain ⟨en, ev⟩ := step_no (ws := ws) (j := j) (fun h => he ((at_iff HF.out EL.out HRj.out HOj.out).1 h).2)
                have EN : Hid (rI ws (j + 1) = ws.drop (L - m)) := Lib.hid (en.trans HRj.out)
                have FN : Hid (FRow WS gb (bF ws k (j + 1)) 9) := Lib.hid (FRS.out.cong (fun i hi => by
                  rw [bF_next]
                  by_cases e : i = 4 + j
                  · subst e
                    rw [if_pos rfl, ev]
                    unfold bF
                    rw [if_neg (by omega), if_neg (by omega), if_neg (by omega), if_neg (by omega), if_neg (by omega)]
                  · rw [if_neg e]))
                clear en ev
                clear he
                go_quiet (fail)
                have NQ := Lib.hid ((New.refl WS).drewN nq)
                generalize WS.drewN nq = WX at NQ ⊢
                go_wp2
                go_roundw
                case rel => exact ⟨j + 1, o, m, by omega, by go_num, rfl, HOj, EN, Lib.hid (NSW.out.trans NQ.out), Lib.hid (FN.out.new NQ.out), Lib.hid ⟨Nat.lt_of_lt_of_le SWS.out.1 NQ.out.le, fun i hi => ⟨(NQ.out.cells _ _ SWS.out.1).trans (SWS.out.2 i hi).1, (NQ.out.cells _ _ SWS.out.1).trans (SWS.out.2 i hi).2⟩⟩⟩
                case measure => simp [intOf]; omega
            · have m2i : ¬ (2 : Int) ≤ (m : Int) := by omega
              have m2d : decide ((2 : Int) ≤ (m : Int)) = false := decide_eq_false m2i
              obtain ⟨en, ev⟩ := step_no (ws := ws) (j := j) (fun h => m2 ((at_iff HF.out EL.out HRj.out HOj.out).1 h).1)
              have EN : Hid (rI ws (j + 1) = ws.drop (L - m)) := Lib.hid (en.trans HRj.out)
              have FN : Hid (FRow WS gb (bF ws k (j + 1)) 9) := Lib.hid (FRS.out.cong (fun i hi => by
                rw [bF_next]
                by_cases e : i = 4 + j
                · subst e
                  rw [if_pos rfl, ev]
                  unfold bF
                  rw [if_neg (by omega), if_neg (by omega), if_neg (by omega), if_neg (by omega), if_neg (by omega)]
                · rw [if_neg e]))
              clear en ev
              clear m2
              go_quiet (fail)
              have NQ := Lib.hid ((New.refl WS).drewN nq)
              generalize WS.drewN nq = WX at NQ ⊢
              go_wp2
              go_roundw
              case rel => exact ⟨j + 1, o, m, by omega, by go_num, rfl, HOj, EN, Lib.hid (NSW.out.trans NQ.out), Lib.hid (FN.out.new NQ.out), Lib.hid ⟨Nat.lt_of_lt_of_le SWS.out.1 NQ.out.le, fun i hi => ⟨(NQ.out.cells _ _ SWS.out.1).trans (SWS.out.2 i hi).1, (NQ.out.cells _ _ SWS.out.1).trans (SWS.out.2 i hi).2⟩⟩⟩
              case measure => simp [intOf]; omega
          · obtain rfl : j = 5 := by omega
            obtain ⟨c0, c1, c2, c3, c4, c5, c6, c7, c8⟩ := row_five FRj.out
            have hrd : rdI ws = [0, k, whI ws 1, whI ws 2, vI ws 0, vI ws 1, vI ws 2, vI ws 3, vI ws 4] := by unfold rdI; rw [H0.out, HK.out]
            have hlt9 := FRj.out.lt
            have RG : Hid (Row wr gb [0, k, whI ws 1, whI ws 2, vI ws 0, vI ws 1, vI ws 2, vI ws 3, vI ws 4]) := Lib.hid ⟨hlt9, fun i hi => by
              rcases (show i = 0 ∨ i = 1 ∨ i = 2 ∨ i = 3 ∨ i = 4 ∨ i = 5 ∨ i = 6 ∨ i = 7 ∨ i = 8 by simp at hi; omega) with rfl | rfl | rfl | rfl | rfl | rfl | rfl | rfl | rfl
              · exact c0
              · exact c1
              · exact c2
              · exact c3
              · exact c4
              · exact c5
              · exact c6
              · exact c7
              · exact c8, fun i hi => FRj.out.f i (by simpa using hi)⟩
            have RR := Lib.hid (R1.out.new NWj.out)
            have NR := Lib.hid (N1.out.trans NWj.out)
            have LCj := Lib.hid (LC.out wr NWj.out)
            generalize whI ws 1 = x at *
            generalize whI ws 2 = y at *
            generalize vI ws 0 = a0 at *
            generalize vI ws 1 = a1 at *
            generalize vI ws 2 = a2 at *
            generalize vI ws 3 = a3 at *
            generalize vI ws 4 = a4 at *
            have HRD : Hid (rdI (pcs 32 l) = [0, k, x, y, a0, a1, a2, a3, a4]) := Lib.hid (by rw [HW.out]; exact hrd)
            clear hrd SWj HRj HOj FRj NWj NUM GB GW CW LC FL HF HW H0 HK EL SW
            go_wp2_with fail
            refine (boxValid_any 0 k x y a0 a1 a2 a3 a4 _).mono ?_
            rintro e w4 ⟨rfl, N4⟩
            have RR4 := Lib.hid (RR.out.new N4)
            have NR4 := Lib.hid (NR.out.trans N4)
            cases hok : okX k x y a0 a1 a2 a3 a4 with
            | false =>
              have NB : Hid (¬ bxOk l) := Lib.hid (fun hb => by
                have h1 := boxB_iff.2 hb.1
                rw [HRD.out] at h1
                have h2 : okX k x y a0 a1 a2 a3 a4 = true := h1
                rw [hok] at h2
                cases h2)
              clear hok N4 c0 c1 c2 c3 c4 c5 c6 c7 c8
              clear RG LCj
              go_upto_region 15 with (fail)
              refine wp_region_lit ?_
              refine wpList_build rfl 38 _ rfl (by kernel_rfl) ?_
              refine wpList_store_mid rfl 38 _ _ rfl w.heap.size 0 #[.int .i64 0, .int .i64 0, .int .i64 0, .int .i64 0, .int .i64 0, .int .i64 0, .int .i64 0, .int .i64 0, .int .i64 0] rfl (by kernel_rfl) (box_there RR4.out rfl) (by kernel_rfl) (by kernel_rfl) ?_
              have b := box_set RR4.out rfl 0 0 0 0 0 0 0 0 0
              have N9 : Hid (New w (w4.setCells w.heap.size 0 #[.int .i64 0, .int .i64 0, .int .i64 0, .int .i64 0, .int .i64 0, .int .i64 0, .int .i64 0, .int .i64 0, .int .i64 0].toList)) := Lib.hid (NR4.out.setCells (Nat.le_refl _) _ _)
              generalize w4.setCells w.heap.size 0 #[.int .i64 0, .int .i64 0, .int .i64 0, .int .i64 0, .int .i64 0, .int .i64 0, .int .i64 0, .int .i64 0, .int .i64 0].toList = w9 at *
              have b0 := b 0 (by omega); have b1 := b 1 (by omega); have b2 := b 2 (by omega); have b3 := b 3 (by omega); have b4 := b 4 (by omega); have b5 := b 5 (by omega); have b6 := b 6 (by omega); have b7 := b 7 (by omega); have b8 := b 8 (by omega)
              simp only [List.getD_cons_zero, List.getD_cons_succ] at b0 b1 b2 b3 b4 b5 b6 b7 b8
              go_wp2
              refine bodyPost_ret (v := .tuple #[.agg #[.int .i64 0, .int .i64 0, .int .i64 0, .int .i64 0, .int .i64 0, .int .i64 0, .int .i64 0, .int .i64 0, .int .i64 0], .bool false]) (by simp [results, Tryz.results42, go_sem, b0, b1, b2, b3, b4, b5, b6, b7, b8]) rfl ?_
              exact ⟨N9.out, Or.inr ⟨NB.out, rfl⟩⟩
            | true =>
              have hb : BoxP [0, k, x, y, a0, a1, a2, a3, a4] 0 := boxB_iff.1 hok
              have hv := hb.vals
              obtain ⟨hw, hh⟩ := hb.wide
              have hk := hb.1
              rw [show knd [0, k, x, y, a0, a1, a2, a3, a4] 0 = k from rfl] at hk
              have HBX := Lib.hid hb
              obtain ⟨kq, rfl⟩ : ∃ kq : Nat, k = (kq : Int) := ⟨k.toNat, by omega⟩
              have TX := Lib.hid (boxText_any kq (by omega) 0 x y a0 a1 a2 a3 a4 hw hh hv w4 (itoaC (LCj.out.new N4)) joinC (LCj.out.new N4).kn)
              have ET : Hid (bxT [0, (kq : Int), x, y, a0, a1, a2, a3, a4] 0 = boxTx kq x y [a0, a1, a2, a3, a4]) := Lib.hid rfl
              have d0 := (N4.cells gb 0 hlt9).trans c0; have d1 := (N4.cells gb 1 hlt9).trans c1; have d2 := (N4.cells gb 2 hlt9).trans c2; have d3 := (N4.cells gb 3 hlt9).trans c3; have d4 := (N4.cells gb 4 hlt9).trans c4; have d5 := (N4.cells gb 5 hlt9).trans c5; have d6 := (N4.cells gb 6 hlt9).trans c6; have d7 := (N4.cells gb 7 hlt9).trans c7; have d8 := (N4.cells gb 8 hlt9).trans c8
              have RG4 := Lib.hid (RG.out.new N4)
              clear hok N4 c0 c1 c2 c3 c4 c5 c6 c7 c8 hb hv hw hh hk LCj RG RR NR
              go_wp2_with fail
              refine TX.out.mono ?_
              rintro e w5 ⟨rfl, N5⟩
              have RR5 := Lib.hid (RR4.out.new N5)
              have NR5 := Lib.hid (NR4.out.trans N5)
              have RG5 := Lib.hid (RG4.out.new N5)
              clear d0 d1 d2 d3 d4 d5 d6 d7 d8 N5 TX RG4 RR4 NR4
              generalize boxTx kq x y [a0, a1, a2, a3, a4] = TT at *
              by_cases he : TT = l
              · have NB : Hid (bxOk l) := Lib.hid ⟨by rw [HRD.out]; exact HBX.out, by rw [HRD.out, ET.out]; exact he⟩
                have EQ : (TT == l) = true := by simp [he]
                clear he ET HBX
                go_upto_region 16 with (fail)
                refine wp_region_lit ?_
                refine wpList_load_mid rfl 38 _ rfl gb 0 rfl [.int .i64 0, .int .i64 (kq : Int), .int .i64 x, .int .i64 y, .int .i64 a0, .int .i64 a1, .int .i64 a2, .int .i64 a3, .int .i64 a4] _ (box_range RG5.out) Tryz.underlying38 rfl (by kernel_rfl) ?_
                refine wpList_store_mid rfl 38 _ _ rfl w.heap.size 0 #[.int .i64 0, .int .i64 (kq : Int), .int .i64 x, .int .i64 y, .int .i64 a0, .int .i64 a1, .int .i64 a2, .int .i64 a3, .int .i64 a4] rfl rfl (box_there RR5.out rfl) (by kernel_rfl) (by simp [Value.oneCell']) ?_
                have b := box_set RR5.out rfl 0 (kq : Int) x y a0 a1 a2 a3 a4
                have N9 : Hid (New w (w5.setCells w.heap.size 0 #[.int .i64 0, .int .i64 (kq : Int), .int .i64 x, .int .i64 y, .int .i64 a0, .int .i64 a1, .int .i64 a2, .int .i64 a3, .int .i64 a4].toList)) := Lib.hid (NR5.out.setCells (Nat.le_refl _) _ _)
                generalize w5.setCells w.heap.size 0 #[.int .i64 0, .int .i64 (kq : Int), .int .i64 x, .int .i64 y, .int .i64 a0, .int .i64 a1, .int .i64 a2, .int .i64 a3, .int .i64 a4].toList = w9 at *
                have b0 := b 0 (by omega); have b1 := b 1 (by omega); have b2 := b 2 (by omega); have b3 := b 3 (by omega); have b4 := b 4 (by omega); have b5 := b 5 (by omega); have b6 := b 6 (by omega); have b7 := b 7 (by omega); have b8 := b 8 (by omega)
                simp only [List.getD_cons_zero, List.getD_cons_succ] at b0 b1 b2 b3 b4 b5 b6 b7 b8
                go_wp2
                refine bodyPost_ret (v := .tuple #[.agg #[.int .i64 0, .int .i64 (kq : Int), .int .i64 x, .int .i64 y, .int .i64 a0, .int .i64 a1, .int .i64 a2, .int .i64 a3, .int .i64 a4], .bool true]) (by simp [results, Tryz.results42, go_sem, b0, b1, b2, b3, b4, b5, b6, b7, b8]) rfl ?_
                exact ⟨N9.out, Or.inl ⟨NB.out, by rw [HRD.out]; rfl⟩⟩
              · have NB : Hid (¬ bxOk l) := Lib.hid (fun hb => by
                  have h2 := hb.2
                  rw [HRD.out, ET.out] at h2
                  exact he h2)
                have EQ : (TT == l) = false := by simp [he]
                clear he ET HBX RG5
                go_upto_region 15 with (fail)
                refine wp_region_lit ?_
                refine wpList_build rfl 38 _ rfl (by kernel_rfl) ?_
                refine wpList_store_mid rfl 38 _ _ rfl w.heap.size 0 #[.int .i64 0, .int .i64 0, .int .i64 0, .int .i64 0, .int .i64 0, .int .i64 0, .int .i64 0, .int .i64 0, .int .i64 0] rfl (by kernel_rfl) (box_there RR5.out rfl) (by kernel_rfl) (by kernel_rfl) ?_
                have b := box_set RR5.out rfl 0 0 0 0 0 0 0 0 0
                have N9 : Hid (New w (w5.setCells w.heap.size 0 #[.int .i64 0, .int .i64 0, .int .i64 0, .int .i64 0, .int .i64 0, .int .i64 0, .int .i64 0, .int .i64 0, .int .i64 0].toList)) := Lib.hid (NR5.out.setCells (Nat.le_refl _) _ _)
                generalize w5.setCells w.heap.size 0 #[.int .i64 0, .int .i64 0, .int .i64 0, .int .i64 0, .int .i64 0, .int .i64 0, .int .i64 0, .int .i64 0, .int .i64 0].toList = w9 at *
                have b0 := b 0 (by omega); have b1 := b 1 (by omega); have b2 := b 2 (by omega); have b3 := b 3 (by omega); have b4 := b 4 (by omega); have b5 := b 5 (by omega); have b6 := b 6 (by omega); have b7 := b 7 (by omega); have b8 := b 8 (by omega)
                simp only [List.getD_cons_zero, List.getD_cons_succ] at b0 b1 b2 b3 b4 b5 b6 b7 b8
                go_wp2
                refine bodyPost_ret (v := .tuple #[.agg #[.int .i64 0, .int .i64 0, .int .i64 0, .int .i64 0, .int .i64 0, .int .i64 0, .int .i64 0, .int .i64 0, .int .i64 0], .bool false]) (by simp [results, Tryz.results42, go_sem, b0, b1, b2, b3, b4, b5, b6, b7, b8]) rfl ?_
                exact ⟨N9.out, Or.inr ⟨NB.out, rfl⟩⟩
end Go.Proofs.YtffggmjhaaehlaaGreatDoor
