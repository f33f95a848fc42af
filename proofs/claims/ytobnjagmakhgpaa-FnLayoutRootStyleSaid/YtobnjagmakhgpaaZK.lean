/- Parts that belong together: ListV, ShareI, ShareR, ShareP, ShareW, ShareX, LawEShareSpace, ShareZ. Conditions: as each part says. -/
import Derived.Test.YtobnjagmakhgpaaZC
import Derived.Test.YtobnjagmakhgpaaZJ
import Derived.Test.YtobnjagmakhgpaaZA
/- The program's check of a list of numbers, walked: not too many numbers, each from 0 to a greatest one. Condition: the list can be read. -/
namespace Go.Proofs.Ytobnjagmakhgpaa
open Go.RowKit

/-- Not too many numbers, from 0 to a greatest one. -/
def listB (most hi : Int) (xs : List Int) : Bool := decide ((xs.length : Int) ≤ most) && allB 0 hi xs
set_option maxHeartbeats 1000000 in
theorem validList_any (A : Option Addr) (n c : Nat) (xs : List Int) (most hi : Int) (hn : n ≤ 1048576) (w : World) (hx : Ints w A n xs) :
    Calls Try.prog 90 #[.slice A n c, .int .i64 most, .int .i64 hi] w fun e w' => e = .returned (.bool (listB most hi xs)) ∧ w = w' := by
  have HX := Lib.hid hx
  have lx := hx.len
  have LX := Lib.hid lx
  clear hx
  by_cases hr : (n : Int) ≤ most
  · have E : Hid (listB most hi xs = allB 0 hi xs) := Lib.hid (by
      unfold listB
      rw [lx, decide_eq_true hr, Bool.true_and])
    clear lx
    go_enter Try.func90, Try.ntmps90
    go_wp2
    go_loop [15] (fun i => ∃ k : Nat, k ≤ n ∧ i = .int .i64 k ∧ Hid (∀ z ∈ xs.take k, 0 ≤ z ∧ z ≤ hi)) (fun i => n - (intOf i).toNat)
    case atStart => exact ⟨0, Nat.zero_le _, rfl, Lib.hid (by simp)⟩
    case round =>
      obtain ⟨k, hk, rfl, HA⟩ := hrel
      by_cases hlt : k < n
      · obtain ⟨b, off, rfl, hb, hc⟩ := HX.out.at_ (by omega)
        have g := hc k hlt
        clear hc
        have k0 : (0 : Int) ≤ (k : Int) := by omega
        have k1 : (k : Int) < (n : Int) := by omega
        by_cases hz : 0 ≤ xs.getD k 0 ∧ xs.getD k 0 ≤ hi
        · have HS := Lib.hid (allB_step (by rw [LX.out]; exact hlt) HA.out hz)
          generalize xs.getD k 0 = z at g hz
          have hzb : decide (0 ≤ z ∧ z ≤ hi) = true := decide_eq_true hz
          clear hz
          go_wp2_with (go_at_call 39; refine (within_any _ _ _ _).mono ?_; rw [hzb]; rintro e w' ⟨rfl, rfl⟩)
          go_round
          case rel => exact ⟨k + 1, by omega, by go_num, HS⟩
          case measure => simp [intOf]; omega
        · have HF := Lib.hid (allB_no (by rw [LX.out]; exact hlt) hz)
          generalize xs.getD k 0 = z at g hz
          have hzb : decide (0 ≤ z ∧ z ≤ hi) = false := by rw [decide_eq_false_iff_not]; exact hz
          clear hz
          go_wp2_with (go_at_call 39; refine (within_any _ _ _ _).mono ?_; rw [hzb]; rintro e w' ⟨rfl, rfl⟩)
          go_ret
          exact ⟨ret_bool (E.out.trans HF.out).symm, rfl⟩
      · have hk' : k = n := by omega
        subst hk'
        go_wp2
        go_ret
        exact ⟨ret_bool (by
          have h := HA.out
          rw [List.take_of_length_le (by rw [LX.out]; omega)] at h
          exact (E.out.trans (allB_iff.2 h)).symm), rfl⟩
  · have E : listB most hi xs = false := by
      unfold listB
      rw [lx, decide_eq_false hr, Bool.false_and]
    rw [E]
    have hr' : most < (n : Int) := by omega
    clear lx E hr
    go_enter Try.func90, Try.ntmps90
    go_wp2
    go_ret
    exact ⟨rfl, rfl⟩
end Go.Proofs.Ytobnjagmakhgpaa

/- The program's check of a row of numbers, walked: one to eight numbers, each from 0 to a greatest one; not too many numbers. Condition: the row can be read. -/
namespace Go.Proofs.Ytobnjagmakhgpaa
open Go.RowKit

/-- One to eight numbers from 0 to a greatest one. -/
def rowB (hi : Int) (xs : List Int) : Bool := decide (1 ≤ (xs.length : Int) ∧ (xs.length : Int) ≤ 8) && allB 0 hi xs
set_option maxHeartbeats 1000000 in
theorem validRow_any (A : Option Addr) (n c : Nat) (xs : List Int) (hi : Int) (hn : n ≤ 1048576) (w : World) (hx : Ints w A n xs) :
    Calls Try.prog 100 #[.slice A n c, .int .i64 hi] w fun e w' => e = .returned (.bool (rowB hi xs)) ∧ w = w' := by
  have HX := Lib.hid hx
  have lx := hx.len
  clear hx
  by_cases h0 : 0 < (n : Int)
  · have E : Hid (listB 8 hi xs = rowB hi xs) := Lib.hid (by
      unfold rowB listB
      rw [lx]
      congr 1
      rw [Bool.eq_iff_iff, decide_eq_true_eq, decide_eq_true_eq]
      omega)
    clear lx
    go_enter Try.func100, Try.ntmps100
    go_wp2_with (go_at_call 90; refine (validList_any A n c xs _ _ hn _ HX.out).mono ?_; rw [E.out]; rintro e w' ⟨rfl, rfl⟩)
    go_ret
    exact ⟨rfl, rfl⟩
  · have E : rowB hi xs = false := by
      unfold rowB
      rw [lx, decide_eq_false (by omega), Bool.false_and]
    rw [E]
    clear lx E HX
    go_enter Try.func100, Try.ntmps100
    go_wp2
    go_ret
    exact ⟨rfl, rfl⟩
end Go.Proofs.Ytobnjagmakhgpaa

/- Pairs in a row of their own, and what the sort leaves of the rest of the memory. No condition. -/
namespace Go.Proofs.Ytobnjagmakhgpaa
open Go.RowKit Go.Lib Go.Sort

/-- Pairs in a row of their own. -/
structure RowP (w : World) (g : Nat) (ps : Array (Int × Int)) : Prop where
  lt : g < w.heap.size
  c0 : ∀ i, i < ps.size → w.cell? ⟨g, i * 2, none⟩ = some (.int .i64 ps[i]!.1)
  c1 : ∀ i, i < ps.size → w.cell? ⟨g, i * 2 + 1, none⟩ = some (.int .i64 ps[i]!.2)
  f : ∀ t, t < ps.size * 2 → w.frozen? ⟨g, t, none⟩ = false
theorem RowP.holds {w : World} {g : Nat} {ps : Array (Int × Int)} (h : RowP w g ps) : HoldsK encD 2 w g 0 ps := fun t ht => by
  rw [size_flatK] at ht
  rw [get_flatK _ _ _ _ ht, Nat.zero_add]
  refine ⟨?_, h.f t ht⟩
  rcases Nat.mod_two_eq_zero_or_one t with e | e
  · rw [e]
    have := h.c0 (t / 2) (by omega)
    rw [show t / 2 * 2 = t by omega] at this
    exact this
  · rw [e]
    have := h.c1 (t / 2) (by omega)
    rw [show t / 2 * 2 + 1 = t by omega] at this
    exact this
theorem RowP.of_holds {w : World} {g : Nat} {ps : Array (Int × Int)} (h : HoldsK encD 2 w g 0 ps) (hl : g < w.heap.size) : RowP w g ps := by
  have key : ∀ t, t < ps.size * 2 → w.cell? ⟨g, t, none⟩ = some ((encD ps[t / 2]!)[t % 2]!) ∧ w.frozen? ⟨g, t, none⟩ = false := fun t ht => by
    have hh := h t (by rw [size_flatK]; exact ht)
    rw [get_flatK _ _ _ _ ht, Nat.zero_add] at hh
    exact hh
  refine ⟨hl, fun i hi => ?_, fun i hi => ?_, fun t ht => (key t ht).2⟩
  · have hh := (key (i * 2) (by omega)).1
    rw [show i * 2 / 2 = i by omega, show i * 2 % 2 = 0 by omega] at hh
    exact hh
  · have hh := (key (i * 2 + 1) (by omega)).1
    rw [show (i * 2 + 1) / 2 = i by omega, show (i * 2 + 1) % 2 = 1 by omega] at hh
    exact hh
theorem RowP.new {w w' : World} {g : Nat} {ps : Array (Int × Int)} (h : RowP w g ps) (hN : New w w') : RowP w' g ps :=
  ⟨by have := hN.le; have := h.lt; omega, fun i hi => (hN.cells g _ h.lt).trans (h.c0 i hi), fun i hi => (hN.cells g _ h.lt).trans (h.c1 i hi), fun t ht => (hN.marks g t h.lt).trans (h.f t ht)⟩
theorem RowP.far {w : World} {g : Nat} {ps : Array (Int × Int)} (h : RowP w g ps) {p : Addr} (hp : p.block ≠ g) (u : Value) : RowP (w.setCell p u) g ps :=
  ⟨by have := h.lt; simpa [World.setCell] using this,
    fun i hi => (World.cell?_of_block (Below.heap_setCell _ _ _ _ (by simp; omega))).trans (h.c0 i hi),
    fun i hi => (World.cell?_of_block (Below.heap_setCell _ _ _ _ (by simp; omega))).trans (h.c1 i hi),
    fun t ht => by rw [World.frozen?_setCell]; exact h.f t ht⟩
/-- What the sort leaves of a block that it does not sort. -/
theorem sort_block (w : World) (g n : Nat) (d : Array (Int × Int)) (os : Array Obj) (a : Addr) (ha : a.block < w.heap.size) (hne : a.block ≠ g) : (sortWorldK encD 2 w g 0 n d os).cell? a = w.cell? a := by
  unfold sortWorldK
  rw [cell?_grow _ _ _ (by rw [size_putRowK]; exact ha), cell?_putRowK_other _ _ _ _ _ _ _ hne]
  rfl
theorem sort_size (w : World) (g n : Nat) (d : Array (Int × Int)) (os : Array Obj) : w.heap.size ≤ (sortWorldK encD 2 w g 0 n d os).heap.size := by
  unfold sortWorldK
  rw [size_grow, size_putRowK]
  exact Nat.le_add_right _ _
theorem sort_marks (w : World) (g n : Nat) (d : Array (Int × Int)) (os : Array Obj) (a : Addr) (ha : a.block < w.heap.size) : (sortWorldK encD 2 w g 0 n d os).frozen? a = w.frozen? a := by
  unfold sortWorldK
  rw [frozen?_grow _ _ _ (by rw [size_putRowK]; exact ha)]
  unfold putRowK
  rw [frozen?_putRow]
  rfl
theorem sort_new {u w : World} (h : New u w) (g n : Nat) (d : Array (Int × Int)) (os : Array Obj) (hg : u.heap.size ≤ g) : New u (sortWorldK encD 2 w g 0 n d os) := by
  refine ⟨h.os, h.tape, h.output, Nat.le_trans h.size (sort_size w g n d os), fun k hk => ?_⟩
  have hk' : k < w.heap.size := Nat.lt_of_lt_of_le hk h.size
  rw [← h.block k hk]
  unfold sortWorldK
  rw [heap_grow_old _ _ (by rw [size_putRowK]; exact hk')]
  unfold putRowK putRow mapBlock
  simp only [heap_ahead]
  rw [Array.getElem?_modify, if_neg (by omega)]
theorem Row.sort {w : World} {s : Nat} {zs : List Int} (h : Row w s zs) (g n : Nat) (d : Array (Int × Int)) (os : Array Obj) (hne : s ≠ g) : Row (sortWorldK encD 2 w g 0 n d os) s zs :=
  ⟨Nat.lt_of_lt_of_le h.lt (sort_size w g n d os), fun k hk => (sort_block w g n d os _ h.lt hne).trans (h.c k hk), fun k hk => (sort_marks w g n d os _ h.lt).trans (h.f k hk)⟩
theorem RowP.sort {w : World} {g : Nat} {ps d : Array (Int × Int)} (h : RowP w g ps) (n : Nat) (os : Array Obj) (hs : d.size = ps.size) : RowP (sortWorldK encD 2 w g 0 n d os) g d := by
  refine RowP.of_holds ?_ (Nat.lt_of_lt_of_le h.lt (sort_size w g n d os))
  unfold sortWorldK
  refine holdsK_grow encD 2 _ os g 0 d (by rw [size_putRowK]; exact h.lt) ?_
  exact holdsK_putRowK encD 2 _ g 0 ps d (holdsK_ahead encD 2 w n g 0 ps h.holds) hs
end Go.Proofs.Ytobnjagmakhgpaa

/- Rows of pairs: made, and filled one by one. No condition. -/
namespace Go.Proofs.Ytobnjagmakhgpaa
open Go.RowKit Go.Lib Go.Sort

/-- A row of pairs is made. -/
theorem mk_div (n : Nat) (hn : n ≤ 8) (W : World) : (Instr.makeSlice 126 (.int .i64 (n : Int)) (.int .i64 (n : Int))).run Try.prog W = .ok (.slice (some ⟨W.heap.size, 0, none⟩) n n) (W.alloc (.cells (madeCells #[.int .i64 0, .int .i64 0] (n * 2)) 128)) := by
  have hinfo : (Try.prog.info? 128).map (fun i => (i.zero, i.size, i.bytes)) = some (some (.agg #[.int .i64 0, .int .i64 0]), 2, 16) := by kernel_rfl
  obtain ⟨i, hi, hzz⟩ := Option.map_eq_some_iff.1 hinfo
  simp only [Prod.mk.injEq] at hzz
  obtain ⟨hz, hs, hb⟩ := hzz
  have h := run_make (P := Try.prog) W 126 128 i (.agg #[.int .i64 0, .int .i64 0]) Try.underlying126 hi hz .i64 .i64 (n : Int) (n : Int) (by omega) (by omega) (by rw [hb]; omega) (by omega)
  rw [hs] at h
  exact h
theorem RowP.made (w : World) (n : Nat) (t : TypeId) : RowP (w.alloc (.cells (madeCells #[.int .i64 0, .int .i64 0] (n * 2)) t)) w.heap.size (Array.replicate n (0, 0)) := by
  have e : ∀ i, (w.alloc (.cells (madeCells #[.int .i64 0, .int .i64 0] (n * 2)) t)).cell? ⟨w.heap.size, i, none⟩ = (madeCells #[.int .i64 0, .int .i64 0] (n * 2))[i]? := fun i => World.cell?_alloc_new w _ t i
  refine ⟨by simp, fun i hi => ?_, fun i hi => ?_, fun i _ => by simp [go_sem]⟩
  · have hi' : i < n := by simpa using hi
    rw [e, getElem!_pos (Array.replicate n ((0 : Int), (0 : Int))) i hi]
    simp [madeCells, show i * 2 < n * 2 by omega]
  · have hi' : i < n := by simpa using hi
    rw [e, getElem!_pos (Array.replicate n ((0 : Int), (0 : Int))) i hi]
    simp [madeCells, show i * 2 + 1 < n * 2 by omega, show (i * 2 + 1) % 2 = 1 by omega]
theorem RowP.set_ {w : World} {g : Nat} {ps : Array (Int × Int)} (h : RowP w g ps) {k : Nat} (hk : k < ps.size) (x y : Int) : RowP ((w.setCell ⟨g, k * 2, none⟩ (.int .i64 x)).setCell ⟨g, k * 2 + 1, none⟩ (.int .i64 y)) g (ps.setIfInBounds k (x, y)) := by
  refine ⟨by simpa [World.setCell] using h.lt, fun i hi => ?_, fun i hi => ?_, fun t ht => ?_⟩
  · have hi' : i < ps.size := by simpa using hi
    rw [World.cell?_setCell_other _ _ _ _ (by first | omega | (simp; omega) | (simp; done))]
    by_cases e : i = k
    · subst e
      rw [getElem!_set_same _ _ _ hi']
      simp [go_sem, h.c0 i hi']
    · rw [getElem!_set_other _ _ _ _ e, World.cell?_setCell_other _ _ _ _ (by first | omega | (simp; omega) | (simp; done))]
      exact h.c0 i hi'
  · have hi' : i < ps.size := by simpa using hi
    by_cases e : i = k
    · subst e
      rw [getElem!_set_same _ _ _ hi']
      have h1 : (w.setCell ⟨g, i * 2, none⟩ (.int .i64 x)).cell? ⟨g, i * 2 + 1, none⟩ = some (.int .i64 ps[i]!.2) := (World.cell?_setCell_other _ _ _ _ (by simp)).trans (h.c1 i hi')
      simp [go_sem, h1]
    · rw [getElem!_set_other _ _ _ _ e, World.cell?_setCell_other _ _ _ _ (by first | omega | (simp; omega) | (simp; done)), World.cell?_setCell_other _ _ _ _ (by first | omega | (simp; omega) | (simp; done))]
      exact h.c1 i hi'
  · have := h.f t (by simpa using ht)
    simpa [go_sem] using this
/-- The first k pairs, then noughts. -/
def ppTo (k : Nat) (r : List Int) : Array (Int × Int) := ((pairsL r).take k ++ List.replicate (r.length - k) (0, 0)).toArray
theorem ppTo_size (k : Nat) (r : List Int) (h : k ≤ r.length) : (ppTo k r).size = r.length := by unfold ppTo; simp [pairsL_len]; omega
theorem ppTo_zero (r : List Int) : ppTo 0 r = Array.replicate r.length (0, 0) := by unfold ppTo; simp
theorem ppTo_all (r : List Int) : ppTo r.length r = (pairsL r).toArray := by
  unfold ppTo
  rw [List.take_of_length_le (by rw [pairsL_len]; omega)]
  simp
theorem ppTo_step (k : Nat) (r : List Int) (h : k < r.length) : (ppTo k r).setIfInBounds k ((k : Int), r.getD k 0) = ppTo (k + 1) r := by
  unfold ppTo
  have hk : k < (pairsL r).length := by rw [pairsL_len]; exact h
  have e : (pairsL r)[k] = ((k : Int), r.getD k 0) := by simp [pairsL]
  have l : ((pairsL r).take k).length = k := by rw [List.length_take]; omega
  rw [List.take_succ_eq_append_getElem hk, e, show r.length - k = (r.length - (k + 1)) + 1 by omega, List.replicate_succ]
  rw [List.setIfInBounds_toArray, List.set_append_right _ _ (by omega), l]
  simp
end Go.Proofs.Ytobnjagmakhgpaa

/- The program's ShareSpace, walked: a space in its range is split by weights in their range as the plain function says. Conditions: the weights can be read and are in their range. -/
namespace Go.Proofs.Ytobnjagmakhgpaa
open Go.RowKit

theorem rowB_iff {hi : Int} {xs : List Int} : rowB hi xs = true ↔ (1 ≤ (xs.length : Int) ∧ (xs.length : Int) ≤ 8) ∧ ∀ z ∈ xs, 0 ≤ z ∧ z ≤ hi := by
  unfold rowB
  rw [Bool.and_eq_true, decide_eq_true_eq, allB_iff]
theorem sortedP_fst (r : List Int) (i : Nat) (h : i < r.length) : ∃ p v, (turnsL r)[i]? = some p ∧ (sortedP r)[i]!.1 = (p : Int) ∧ (sortedP r)[i]!.2 = v ∧ p < r.length := by
  obtain ⟨h1, h2, h3⟩ := sortedP_at r i h
  exact ⟨_, _, h1, by conv => lhs; rw [h2], rfl, h3⟩
theorem handL_step (l : List Nat) (o : List Int) (j p : Nat) (h : l[j]? = some p) : handL (l.take (j + 1)) o = (handL (l.take j) o).set p ((handL (l.take j) o).getD p 0 + 1) := by
  rw [List.take_add_one, h]
  simp [handL]
theorem handL_len (l : List Nat) (o : List Int) : (handL l o).length = o.length := by
  unfold handL
  induction l generalizing o with
  | nil => rfl
  | cons a l ih => simp only [List.foldl_cons]; rw [ih]; simp
theorem rest_nonneg (a : Int) (ws : List Int) (hs : ¬ ws.sum = 0) : ∀ i, i < (restL a ws).length → 0 ≤ (restL a ws).getD i 0 := fun i hi => by
  rw [restL_at a ws i (by rw [restL_len] at hi; exact hi)]
  exact Int.emod_nonneg _ hs
/-- The rests are sorted. -/
theorem sortRest_any (u : World) (g n : Nat) (r : List Int) (hn : r.length = n) (h8 : n ≤ 8) (w : World) (h : RowP w g (pairsL r).toArray) (hg : u.heap.size ≤ g) (hN : New u w) :
    Calls Try.prog 102 #[.slice (some ⟨g, 0, none⟩) n n, .func (.func 103) #[] #[]] w fun e w' => e = .returned (.tuple #[]) ∧ RowP w' g (sortedP r) ∧ (∀ s zs, Row w s zs → s ≠ g → Row w' s zs) ∧ New u w' := by
  subst hn
  refine (sortStable_any g r.length (pairsL r).toArray (by simp [pairsL_len]) h8 w h.holds h.lt).mono ?_
  rintro e w' ⟨rfl, k, os, rfl⟩
  exact ⟨rfl, RowP.sort (d := sortedP r) h k os ((sortedP_perm r).1.trans (by simp [pairsL_len])), fun s zs hs hne => hs.sort g k _ os hne, sort_new hN g k _ os hg⟩
set_option maxHeartbeats 4000000 in
theorem ShareSpace_yes (A : Option Addr) (n c : Nat) (a : Int) (ws : List Int) (ha : 0 ≤ a ∧ a ≤ 200000) (hr : rowB 200000 ws = true) (w : World) (hx : Ints w A n ws) :
    Calls Try.prog 83 #[.int .i64 a, .slice A n c] w fun e w' => ∃ g, e = .returned (.slice (some ⟨g, 0, none⟩) n n) ∧ w.heap.size ≤ g ∧ Row w' g (shareL a ws) ∧ New w w' := by
  have lx := hx.len
  have LX := Lib.hid lx
  have HX := Lib.hid hx
  obtain ⟨⟨n1', n8'⟩, hw'⟩ := rowB_iff.1 hr
  have hw : Wts ws := hw'
  have n1 : 1 ≤ n := by omega
  have n8 : n ≤ 8 := by omega
  have HW := Lib.hid hw
  have HR := Lib.hid hr
  have HA := Lib.hid ha
  have hd : decide (0 ≤ a ∧ a ≤ 200000) = true := decide_eq_true ha
  have hmk := fun W => run_make_row' (P := Try.prog) 31 3 (.int .i64 0) 8 Try.underlying31 (by kernel_rfl) rfl .i64 .i64 n (by omega) (by omega) W
  have hmd := fun W => mk_div n n8 W
  have sb := sum_bd hw.sml n
  rw [List.take_of_length_le (by omega)] at sb
  have s0 := sum_nonneg (xs := ws) fun z hz => (hw z hz).1
  clear hx lx hw hw' hr n1' n8'
  by_cases hs : ws.sum = 0
  · have HS := Lib.hid hs
    clear hs sb s0 ha
    go_enter Try.func83, Try.ntmps83
    go_wp2_with (first
      | (go_at_call 39; refine (within_any _ _ _ _).mono ?_; rw [hd]; rintro e w' ⟨rfl, rfl⟩)
      | (go_at_call 100; refine (validRow_any A n c ws _ (by omega) _ (HX.out.new (by (repeat (first | exact New.refl _ | assumption | refine New.alloc ?_ _ | refine New.drew ?_ | refine New.drewN ?_ _ | refine New.setCell ?_ (by first | omega | (simp; omega) | (simp; done)) _ | refine New.trans ?_ (by assumption)))))).mono ?_; rw [HR.out]; rintro e w' ⟨rfl, rfl⟩)
      | (go_at_call 101; refine (sumOf_any A n c ws (by omega) _ (HX.out.new (by (repeat (first | exact New.refl _ | assumption | refine New.alloc ?_ _ | refine New.drew ?_ | refine New.drewN ?_ _ | refine New.setCell ?_ (by first | omega | (simp; omega) | (simp; done)) _ | refine New.trans ?_ (by assumption))))) HW.out.sml).mono ?_; rw [HS.out]; rintro e w' ⟨rfl, rfl⟩))
    go_ret
    refine ⟨w.heap.size, rfl, Nat.le_refl _, ?_, by (repeat (first | exact New.refl _ | assumption | refine New.alloc ?_ _ | refine New.drew ?_ | refine New.drewN ?_ _ | refine New.setCell ?_ (by first | omega | (simp; omega) | (simp; done)) _ | refine New.trans ?_ (by assumption)))⟩
    have h := Row.made w n 3
    unfold shareL
    rw [if_pos HS.out, LX.out]
    exact h.new (by (repeat (first | exact New.refl _ | assumption | refine New.alloc ?_ _ | refine New.drew ?_ | refine New.drewN ?_ _ | refine New.setCell ?_ (by first | omega | (simp; omega) | (simp; done)) _ | refine New.trans ?_ (by assumption))))
  · have hs1 : 1 ≤ ws.sum := by omega
    have HS := Lib.hid hs
    have hsb : (ws.sum == 0) = false := by simpa using hs
    clear hs s0 ha
    go_enter Try.func83, Try.ntmps83
    go_wp2_with (first
      | (go_at_call 39; refine (within_any _ _ _ _).mono ?_; rw [hd]; rintro e w' ⟨rfl, rfl⟩)
      | (go_at_call 100; refine (validRow_any A n c ws _ (by omega) _ (HX.out.new (by (repeat (first | exact New.refl _ | assumption | refine New.alloc ?_ _ | refine New.drew ?_ | refine New.drewN ?_ _ | refine New.setCell ?_ (by first | omega | (simp; omega) | (simp; done)) _ | refine New.trans ?_ (by assumption)))))).mono ?_; rw [HR.out]; rintro e w' ⟨rfl, rfl⟩)
      | (go_at_call 101; refine (sumOf_any A n c ws (by omega) _ (HX.out.new (by (repeat (first | exact New.refl _ | assumption | refine New.alloc ?_ _ | refine New.drew ?_ | refine New.drewN ?_ _ | refine New.setCell ?_ (by first | omega | (simp; omega) | (simp; done)) _ | refine New.trans ?_ (by assumption))))) HW.out.sml).mono ?_; rintro e w' ⟨rfl, rfl⟩))
    have R0 := (Row.made w n 3).new ((New.refl _).alloc (.cells (madeCells #[.int .i64 0, .int .i64 0] (n * 2)) 128))
    have R1 := RowP.made (w.alloc (.cells (madeCells #[.int .i64 0] n) 3)) n 128
    have N0 : New w ((w.alloc (.cells (madeCells #[.int .i64 0] n) 3)).alloc (.cells (madeCells #[.int .i64 0, .int .i64 0] (n * 2)) 128)) := by (repeat (first | exact New.refl _ | assumption | refine New.alloc ?_ _ | refine New.drew ?_ | refine New.drewN ?_ _ | refine New.setCell ?_ (by first | omega | (simp; omega) | (simp; done)) _ | refine New.trans ?_ (by assumption)))
    simp only [World.size_alloc] at R1
    have R0 := Lib.hid R0; have R1 := Lib.hid R1; have N0 := Lib.hid N0
    clear hmk hmd
    generalize hW : (w.alloc (.cells (madeCells #[Value.int .i64 0] n) 3)).alloc (.cells (madeCells #[.int .i64 0, .int .i64 0] (n * 2)) 128) = W at R0 R1 N0 ⊢
    clear hW
    have bb := base_bd a ws HA.out.1 HW.out HS.out
    have SB := Lib.hid (show Sml (baseL a ws) from fun z hz => by have := bb z hz; have := HA.out; omega)
    have BB := Lib.hid bb
    have LB := Lib.hid (baseL_len a ws); have LR := Lib.hid (restL_len a ws)
    clear bb
    obtain ⟨ha0, ha1⟩ := HA.out
    go_loopw [33] (fun i wr => ∃ k : Nat, k ≤ n ∧ i = .int .i64 k ∧ Hid (Row wr w.heap.size (upTo k (baseL a ws))) ∧ Hid (RowP wr (w.heap.size + 1) (ppTo k (restL a ws))) ∧ Hid (New w wr)) (fun i _ => n - (intOf i).toNat)
    case atStart => exact ⟨0, Nat.zero_le _, rfl, Lib.hid (by rw [upTo_zero, LB.out, LX.out]; exact R0.out), Lib.hid (by rw [ppTo_zero, LR.out, LX.out]; exact R1.out), N0⟩
    case round =>
      obtain ⟨k, hk, rfl, HG, HH, HN⟩ := hrel
      by_cases hlt : k < n
      · obtain ⟨b, off, rfl, hb, hc⟩ := HX.out.at_ (by omega)
        have g := (HN.out.cells b _ hb).trans (hc k hlt)
        have lG := upTo_len k (baseL a ws) (by rw [LB.out, LX.out]; omega)
        have lH := ppTo_size k (restL a ws) (by rw [LR.out, LX.out]; omega)
        have fG := HG.out.f k (by rw [lG, LB.out, LX.out]; exact hlt)
        have oG := HG.out.c k (by rw [lG, LB.out, LX.out]; exact hlt)
        have fH0 := HH.out.f (k * 2) (by rw [lH, LR.out, LX.out]; omega)
        have fH1 := HH.out.f (k * 2 + 1) (by rw [lH, LR.out, LX.out]; omega)
        have oH0 := HH.out.c0 k (by rw [lH, LR.out, LX.out]; exact hlt)
        have oH1 := HH.out.c1 k (by rw [lH, LR.out, LX.out]; exact hlt)
        have zb := HW.out.at_ k
        have mb := mul_bd ⟨ha0, ha1⟩ zb
        have eb := baseL_at a ws k (by rw [LX.out]; exact hlt)
        have er := restL_at a ws k (by rw [LX.out]; exact hlt)
        have SG := HG.out.set_ (k := k) (by rw [lG, LB.out, LX.out]; exact hlt) ((baseL a ws).getD k 0)
        rw [upTo_step k _ (by rw [LB.out, LX.out]; exact hlt), eb] at SG
        have SH := (HH.out.far (p := ⟨w.heap.size, k, none⟩) (by simp) (.int .i64 (a * ws.getD k 0 / ws.sum))).set_ (k := k) (by rw [lH, LR.out, LX.out]; exact hlt) (k : Int) ((restL a ws).getD k 0)
        rw [ppTo_step k _ (by rw [LR.out, LX.out]; exact hlt), er] at SH
        have SG2 := Lib.hid ((SG.far (p := ⟨w.heap.size + 1, k * 2, none⟩) (by simp) (.int .i64 (k : Int))).far (p := ⟨w.heap.size + 1, k * 2 + 1, none⟩) (by simp) (.int .i64 (a * ws.getD k 0 % ws.sum)))
        have SH := Lib.hid SH
        have k0 : (0 : Int) ≤ (k : Int) := by omega
        have k1 : (k : Int) < (n : Int) := by omega
        have k8 : (k : Int) ≤ 8 := by omega
        clear hc lG lH eb er SG
        generalize (upTo k (baseL a ws)).getD k 0 = y1 at oG
        generalize (ppTo k (restL a ws))[k]!.1 = y2 at oH0
        generalize (ppTo k (restL a ws))[k]!.2 = y3 at oH1
        generalize ws.getD k 0 = z at *
        generalize ws.sum = T at *
        go_wp2
        exact ⟨⟨k + 1, by omega, by go_num, SG2, SH, Lib.hid (((HN.out.setCell (by simp) _).setCell (by simp) _).setCell (by simp) _)⟩, by simp [intOf]; omega⟩
      · have hk' : k = n := by omega
        subst hk'
        have lB : (baseL a ws).length = k := LB.out.trans LX.out
        have lR : (restL a ws).length = k := LR.out.trans LX.out
        have G0 := HG.out; have H0 := HH.out
        have eG : upTo k (baseL a ws) = baseL a ws := by have h := upTo_all (baseL a ws); rw [lB] at h; exact h
        have eH : ppTo k (restL a ws) = (pairsL (restL a ws)).toArray := by have h := ppTo_all (restL a ws); rw [lR] at h; exact h
        rw [eG] at G0
        rw [eH] at H0
        have G0 := Lib.hid G0; have H0 := Lib.hid H0
        have bl := base_le a ws ha0 HW.out HS.out
        have b0 := sum_nonneg (xs := baseL a ws) fun z hz => (BB.out z hz).1
        have ll := left_le a ws HW.out HS.out
        have l0 : 0 ≤ leftL a ws := by unfold leftL; omega
        obtain ⟨L, hL⟩ := Int.eq_ofNat_of_zero_le l0
        have eS : (baseL a ws).sum = a - (L : Int) := by have : leftL a ws = a - (baseL a ws).sum := rfl; omega
        have Ln : L ≤ k := by have := LX.out; omega
        have EL := Lib.hid hL
        have hLL : a - (a - (L : Int)) = (L : Int) := by omega
        have La : (L : Int) ≤ a := by omega
        have L0 : (0 : Int) ≤ (L : Int) := by omega
        have Lk : (L : Int) ≤ (k : Int) := by omega
        have ES := Lib.hid eS
        have LBB := Lib.hid lB; have LRR := Lib.hid lR
        clear eG eH bl b0 ll l0 hL eS lB lR HG HH sb hs1 hsb hlt hk
        go_wp2_with (first
          | (go_at_call 102; refine (sortRest_any w (w.heap.size + 1) k (restL a ws) LRR.out n8 _ H0.out (by omega) HN.out).mono ?_; rintro e w2 ⟨rfl, H2, G2, N2⟩; (have G2 := Lib.hid (G2 _ _ G0.out (by omega))); (have H2 := Lib.hid H2); (have N2 := Lib.hid N2))
          | (go_at_call 101; refine (sumOf_any (some ⟨w.heap.size, 0, none⟩) k k (baseL a ws) (by omega) _ (LBB.out ▸ G2.out.ints) SB.out).mono ?_; rw [ES.out]; rintro e w' ⟨rfl, rfl⟩))
        have G2' := G2.out
        go_loopw [66] (fun i wq => ∃ j : Nat, j ≤ L ∧ i = .int .i64 j ∧ Hid (Row wq w.heap.size (handL ((turnsL (restL a ws)).take j) (baseL a ws))) ∧ Hid (RowP wq (w.heap.size + 1) (sortedP (restL a ws))) ∧ Hid (New w wq)) (fun i _ => L - (intOf i).toNat)
        case atStart => exact ⟨0, Nat.zero_le _, rfl, Lib.hid (by simpa [handL] using G2'), H2, N2⟩
        case round =>
          obtain ⟨j, hj, rfl, HG, HH, HN3⟩ := hrel
          by_cases hlt : j < L
          · have hjr : j < (restL a ws).length := by rw [LRR.out]; omega
            obtain ⟨p, v', t1, t2, t3, t4⟩ := sortedP_fst (restL a ws) j hjr
            have c0 := HH.out.c0 j (by rw [(sortedP_perm _).1]; exact hjr)
            have c1 := HH.out.c1 j (by rw [(sortedP_perm _).1]; exact hjr)
            rw [t2] at c0
            rw [t3] at c1
            rw [LRR.out] at t4
            have E1 := handL_step (turnsL (restL a ws)) (baseL a ws) j p t1
            have lh := Lib.hid ((handL_len ((turnsL (restL a ws)).take j) (baseL a ws)).trans LBB.out)
            have bo := spin_bd j (baseL a ws) (restL a ws) 200000 (fun i => by have h := getD_of_mem ⟨by omega, by omega⟩ BB.out i; omega) p
            rw [spin_turns _ _ (rest_nonneg a ws HS.out) j (by omega)] at bo
            have cs := HG.out.c p (by rw [lh.out]; exact t4)
            have fs := HG.out.f p (by rw [lh.out]; exact t4)
            have ls := HG.out.lt
            have lg := HH.out.lt
            have E1 := Lib.hid E1
            have j0 : (0 : Int) ≤ (j : Int) := by omega
            have j1 : (j : Int) < (L : Int) := by omega
            have jk : (j : Int) < (k : Int) := by omega
            have j8 : (j : Int) ≤ 8 := by omega
            have p0 : (0 : Int) ≤ (p : Int) := by omega
            have pk : (p : Int) < (k : Int) := by omega
            clear t1 t2 t3 hjr
            generalize handL ((turnsL (restL a ws)).take j) (baseL a ws) = o at *
            generalize o.getD p 0 = v at *
            go_wp2
            exact ⟨⟨j + 1, by omega, by go_num, Lib.hid (by rw [E1.out]; exact (HG.out.set_ (by rw [lh.out]; exact t4) (v + 1)).new ((New.refl _).alloc _)), Lib.hid ((HH.out.far (p := ⟨w.heap.size, p, none⟩) (by simp) _).new ((New.refl _).alloc _)), Lib.hid ((HN3.out.setCell (by simp) _).alloc _)⟩, by simp [intOf]; omega⟩
          · have hj' : j = L := by omega
            subst hj'
            go_wp2
            go_ret
            refine ⟨w.heap.size, rfl, Nat.le_refl _, ?_, HN3.out⟩
            unfold shareL
            rw [if_neg HS.out, EL.out, Int.toNat_natCast, spin_turns _ _ (rest_nonneg a ws HS.out) j (by rw [LRR.out]; omega)]
            exact HG.out
end Go.Proofs.Ytobnjagmakhgpaa

/- ShareSpace of the program and of the reference, whatever the arguments: both split alike, or both return nothing. Condition: the weights can be read. -/
namespace Go.Proofs.Ytobnjagmakhgpaa
open Go.RowKit

/-- The arguments are valid. -/
def shOk (a : Int) (ws : List Int) : Bool := decide (0 ≤ a ∧ a ≤ 200000) && rowB 200000 ws
/-- What a split leaves: a row of its own with the shares, or nothing. -/
def Split (w : World) (n : Nat) (a : Int) (ws : List Int) (e : Ending) (w' : World) : Prop :=
  if shOk a ws = true then ∃ g, e = .returned (.slice (some ⟨g, 0, none⟩) n n) ∧ w.heap.size ≤ g ∧ Row w' g (shareL a ws) ∧ New w w' else e = .returned (.slice none 0 0) ∧ New w w'
set_option maxHeartbeats 1000000 in
theorem ShareSpace_any (A : Option Addr) (n c : Nat) (a : Int) (ws : List Int) (hn : n ≤ 1048576) (w : World) (hx : Ints w A n ws) :
    Calls Try.prog 83 #[.int .i64 a, .slice A n c] w (Split w n a ws) := by
  unfold Split
  by_cases ha : 0 ≤ a ∧ a ≤ 200000
  · cases hr : rowB 200000 ws
    · have e : ¬ shOk a ws = true := by unfold shOk; rw [hr, Bool.and_false]; decide
      simp only [if_neg e]
      have hd : decide (0 ≤ a ∧ a ≤ 200000) = true := decide_eq_true ha
      have HX := Lib.hid hx
      have HR := Lib.hid hr
      clear hx ha hr e
      go_enter Try.func83, Try.ntmps83
      go_wp2_with (first
        | (go_at_call 39; refine (within_any _ _ _ _).mono ?_; rw [hd]; rintro e w' ⟨rfl, rfl⟩)
        | (go_at_call 100; refine (validRow_any A n c ws _ (by omega) _ (HX.out.new (by (repeat (first | exact New.refl _ | assumption | refine New.alloc ?_ _ | refine New.drew ?_ | refine New.drewN ?_ _ | refine New.setCell ?_ (by first | omega | (simp; omega) | (simp; done)) _ | refine New.trans ?_ (by assumption)))))).mono ?_; rw [HR.out]; rintro e w' ⟨rfl, rfl⟩))
      go_ret
      exact ⟨rfl, by (repeat (first | exact New.refl _ | assumption | refine New.alloc ?_ _ | refine New.drew ?_ | refine New.drewN ?_ _ | refine New.setCell ?_ (by first | omega | (simp; omega) | (simp; done)) _ | refine New.trans ?_ (by assumption)))⟩
    · have e : shOk a ws = true := by unfold shOk; rw [hr, decide_eq_true ha]; rfl
      simp only [if_pos e]
      exact ShareSpace_yes A n c a ws ha hr w hx
  · have hd : decide (0 ≤ a ∧ a ≤ 200000) = false := decide_eq_false ha
    have e : ¬ shOk a ws = true := by unfold shOk; rw [hd, Bool.false_and]; decide
    simp only [if_neg e]
    clear hx ha e
    go_enter Try.func83, Try.ntmps83
    go_wp2_with (go_at_call 39; refine (within_any _ _ _ _).mono ?_; rw [hd]; rintro e w' ⟨rfl, rfl⟩)
    go_ret
    exact ⟨rfl, by (repeat (first | exact New.refl _ | assumption | refine New.alloc ?_ _ | refine New.drew ?_ | refine New.drewN ?_ _ | refine New.setCell ?_ (by first | omega | (simp; omega) | (simp; done)) _ | refine New.trans ?_ (by assumption)))⟩
end Go.Proofs.Ytobnjagmakhgpaa

/- The law FnExactShareSpace, walked over what both functions do: whatever the space and the weights, both answers are the same, the arguments are left alone, and the answer shares no memory. Conditions: the arguments can be read; both functions answer alike. -/
namespace Go.Proofs.Ytobnjagmakhgpaa
open Go.RowKit

end Go.Proofs.Ytobnjagmakhgpaa

/- ShareSpace of the program and of the reference answer alike; the law FnExactShareSpace, walked. Condition: the weights can be read. -/
namespace Go.Proofs.Ytobnjagmakhgpaa
open Go.RowKit

/-- The shares, or nothing for arguments that are not valid. -/
def shareA (a : Int) (ws : List Int) : List Int := if shOk a ws = true then shareL a ws else []
theorem shareL_len (a : Int) (ws : List Int) : (shareL a ws).length = ws.length := by
  unfold shareL
  split
  · simp
  · rw [(spinTo_len _ _).1]
    exact baseL_len a ws
theorem split_ans {w w' : World} {n : Nat} {a : Int} {ws : List Int} {e : Ending} (hl : ws.length = n) (h : Split w n a ws e w') : Ans w (shareA a ws) e w' := by
  unfold Split at h
  unfold shareA
  split
  · next hk =>
    rw [if_pos hk] at h
    obtain ⟨g, he, hg, hR, hN⟩ := h
    exact Ans.row he ((shareL_len a ws).trans hl) hg hR hN
  · next hk =>
    rw [if_neg hk] at h
    exact Ans.none_ h.1 h.2
theorem ShareSpace_ans (a : Int) (ws : List Int) (B : Option Addr) (m d : Nat) (W : World) (hx : Ints W B m ws) (hm : m ≤ 1048576) :
    Calls Try.prog 83 #[.int .i64 a, .slice B m d] W (Ans W (shareA a ws)) :=
  (ShareSpace_any B m d a ws hm W hx).mono fun _ _ h => split_ans hx.len h
theorem rowB_len {hi : Int} {xs : List Int} (h : rowB hi xs = true) : 1 ≤ xs.length ∧ xs.length ≤ 8 := by
  unfold rowB at h
  rw [Bool.and_eq_true, decide_eq_true_eq] at h
  omega
theorem shareA_len (a : Int) (ws : List Int) : (shareA a ws).length ≤ 8 := by
  unfold shareA
  split
  · next hk =>
    unfold shOk at hk
    rw [Bool.and_eq_true] at hk
    rw [shareL_len]
    exact (rowB_len hk.2).2
  · simp
end Go.Proofs.Ytobnjagmakhgpaa
