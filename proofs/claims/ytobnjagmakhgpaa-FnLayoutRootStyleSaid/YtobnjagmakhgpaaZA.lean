/- Parts that belong together: Base, Ints, Own, Own2, Res, Sts. Conditions: as each part says. -/
import Derived.WalkKit
import Derived.WalkSpells
import Derived.WalkLawsBesides
import Derived.Handy
import Derived.Lib.Hide
import Derived.Test.YtobnjagmakhgpaaProg
import Derived.Deep.QuietTactic
import Derived.BigQuiet
import Derived.Deep.OwnRows
import Derived.Deep.Slices
import Derived.Deep.Fields
import Derived.ChangeSame
import Derived.StillTailTactics
/- Small facts that every walk of this seat uses: the greater and the smaller of two numbers; worlds with new blocks. No condition. -/
namespace Go.Proofs.Ytobnjagmakhgpaa
open Go.RowKit

/-- The greater and the smaller of two numbers. -/
def mx (a b : Int) : Int := max a b
def mn (a b : Int) : Int := min a b
theorem mx_bd {a b l u : Int} (h1 : l ≤ a ∧ a ≤ u) (h2 : l ≤ b ∧ b ≤ u) : l ≤ mx a b ∧ mx a b ≤ u := by unfold mx; omega
theorem mn_bd {a b l u : Int} (h1 : l ≤ a ∧ a ≤ u) (h2 : l ≤ b ∧ b ≤ u) : l ≤ mn a b ∧ mn a b ≤ u := by unfold mn; omega
theorem mx_if (a b : Int) : (if b > a then b else a) = mx a b := by unfold mx; omega
theorem mn_if (a b : Int) : (if b < a then b else a) = mn a b := by unfold mn; omega
/-- The world w' is w with new blocks (and stores into them). -/
def New (w w' : World) : Prop := Below w.heap.size w w'
theorem New.refl (w : World) : New w w := Below.refl _ _
theorem New.trans {a b c : World} (h : New a b) (k : New b c) : New a c := Below.trans h (Below.mono k h.size)
theorem New.alloc {a b : World} (h : New a b) (o : Obj) : New a (b.alloc o) := Below.alloc h h.size o
theorem New.setCell {a b : World} (h : New a b) {p : Addr} (hp : a.heap.size ≤ p.block) (u : Value) : New a (b.setCell p u) := Below.setCell h hp u
theorem New.drew {a b : World} (h : New a b) : New a b.drew := Below.drew h
theorem New.drewN {a b : World} (h : New a b) (n : Nat) : New a (b.drewN n) := ⟨h.os, h.tape, h.output, h.size, h.block⟩
theorem New.cells {a b : World} (h : New a b) : ∀ k o, k < a.heap.size → b.cell? ⟨k, o, none⟩ = a.cell? ⟨k, o, none⟩ := fun k o hk => Below.cell (p := ⟨k, o, none⟩) h hk
theorem New.marks {a b : World} (h : New a b) : ∀ k o, k < a.heap.size → b.frozen? ⟨k, o, none⟩ = a.frozen? ⟨k, o, none⟩ := fun k o hk => Below.frozen (p := ⟨k, o, none⟩) h hk
theorem New.le {a b : World} (h : New a b) : a.heap.size ≤ b.heap.size := h.size
/-- What a cell holds, whatever it is. -/
def cv (w : World) (a : Addr) : Value := (w.cell? a).getD undef
theorem cv_of {w : World} {a : Addr} (h : (w.cell? a).isSome = true) : w.cell? a = some (cv w a) := by
  unfold cv
  cases hx : w.cell? a with
  | none => rw [hx] at h; cases h
  | some v => rfl
theorem cv_set {w : World} {p a : Addr} {u v : Value} (h : w.cell? a = some v) : (w.setCell p u).cell? a = some (cv (w.setCell p u) a) := by
  obtain ⟨v', hv⟩ := cell?_setCell_some (w := w) (p := p) (x := u) (q := a) (v := v) h
  exact cv_of (by rw [hv]; rfl)
theorem run_mx (P : Program) (w : World) (ts : Array TypeId) (t : TypeId) (x y : Int) : (Builtin.max_ ts t #[.int .i64 x, .int .i64 y]).run P w = .ok (.int .i64 (mx x y)) w := by rw [run_max_int2, mx_if]
theorem run_mn (P : Program) (w : World) (ts : Array TypeId) (t : TypeId) (x y : Int) : (Builtin.min_ ts t #[.int .i64 x, .int .i64 y]).run P w = .ok (.int .i64 (mn x y)) w := by rw [run_min_int2, mn_if]
theorem ret_tb {a b : Bool} (v : Value) (h : a = b) : Ending.returned (.tuple #[v, .bool a]) = .returned (.tuple #[v, .bool b]) := by rw [h]
theorem ret_bool {a b : Bool} (h : a = b) : Ending.returned (.bool a) = .returned (.bool b) := by rw [h]

end Go.Proofs.Ytobnjagmakhgpaa

/- Slices of whole numbers: what it means that a slice reads as a list, and the helpers of the laws on such slices (equalInts, sum). Conditions: the slices can be read; the numbers are not too great for their sum. -/
namespace Go.Proofs.Ytobnjagmakhgpaa
open Go.RowKit

/-- The slice of n elements from A on reads as the list zs. -/
structure Ints (w : World) (A : Option Addr) (n : Nat) (zs : List Int) : Prop where
  len : zs.length = n
  at_ : 0 < n → ∃ b off : Nat, A = some ⟨b, off, none⟩ ∧ b < w.heap.size ∧ ∀ i, i < n → w.cell? ⟨b, off + i, none⟩ = some (.int .i64 (zs.getD i 0))
theorem Ints.new {w w' : World} {A : Option Addr} {n : Nat} {zs : List Int} (h : Ints w A n zs) (hN : New w w') : Ints w' A n zs :=
  ⟨h.len, fun h0 => by
    obtain ⟨b, off, e, hb, hc⟩ := h.at_ h0
    exact ⟨b, off, e, Nat.lt_of_lt_of_le hb hN.le, fun i hi => (hN.cells b _ hb).trans (hc i hi)⟩⟩
theorem Ints.drewN {w : World} {A : Option Addr} {n : Nat} {zs : List Int} (h : Ints w A n zs) (k : Nat) : Ints (w.drewN k) A n zs := ⟨h.len, h.at_⟩
theorem take_snoc_i {zs : List Int} {k : Nat} (h : k < zs.length) : zs.take (k + 1) = zs.take k ++ [zs.getD k 0] := by
  rw [List.take_succ_eq_append_getElem h]; simp [h]

/-- Lists are equal from the front on. -/
theorem take_eq_step {xs ys : List Int} {k : Nat} (hx : k < xs.length) (hy : k < ys.length) (h : xs.take k = ys.take k) (he : xs.getD k 0 = ys.getD k 0) : xs.take (k + 1) = ys.take (k + 1) := by
  rw [take_snoc_i hx, take_snoc_i hy, h, he]
theorem ne_of_getD {xs ys : List Int} {k : Nat} (he : xs.getD k 0 ≠ ys.getD k 0) : xs ≠ ys := fun e => he (by rw [e])

set_option maxHeartbeats 1000000 in
theorem equalInts_any (A B : Option Addr) (n m c d : Nat) (xs ys : List Int) (hn : n ≤ 1048576) (hm : m ≤ 1048576) (w : World) (hx : Ints w A n xs) (hy : Ints w B m ys) :
    Calls Try.prog 15 #[.slice A n c, .slice B m d] w fun e w' => e = .returned (.bool (decide (xs = ys))) ∧ New w w' := by
  by_cases hnm : n = m
  · subst hnm
    have HX := Lib.hid hx; have HY := Lib.hid hy
    have lx := hx.len; have ly := hy.len
    have LX := Lib.hid lx; have LY := Lib.hid ly
    clear hx hy lx ly
    go_enter Try.func15, Try.ntmps15
    go_wp2
    go_loopw [5] (fun i wr => ∃ k : Nat, k ≤ n ∧ i = .int .i64 k ∧ Hid (xs.take k = ys.take k) ∧ ∃ q, wr = w.drewN q) (fun i _ => n - (intOf i).toNat)
    case atStart => exact ⟨0, Nat.zero_le _, rfl, Lib.hid (by simp), 0, rfl⟩
    case round =>
      obtain ⟨k, hk, rfl, HE, q, rfl⟩ := hrel
      by_cases hlt : k < n
      · obtain ⟨b, off, rfl, hb, hc⟩ := HX.out.at_ (by omega)
        obtain ⟨b', off', rfl, hb', hc'⟩ := HY.out.at_ (by omega)
        have g := hc k hlt
        have g' := hc' k hlt
        clear hc hc'
        have k0 : (0 : Int) ≤ (k : Int) := by omega
        have k1 : (k : Int) < (n : Int) := by omega
        by_cases he : xs.getD k 0 = ys.getD k 0
        · have HS := Lib.hid (take_eq_step (by rw [LX.out]; exact hlt) (by rw [LY.out]; exact hlt) HE.out he)
          rw [← he] at g'
          clear he
          generalize xs.getD k 0 = z at g g'
          go_wp2
          go_quiet (fail)
          go_wp2
          go_roundw
          case rel => exact ⟨k + 1, by omega, by go_num, HS, _, rfl⟩
          case measure => simp [intOf]; omega
        · have hne := ne_of_getD he
          have HN := Lib.hid hne
          have hb1 : (xs.getD k 0 != ys.getD k 0) = true := by simpa using he
          have hb2 : (xs.getD k 0 == ys.getD k 0) = false := by simpa using he
          clear he hne
          generalize xs.getD k 0 = z at g hb1 hb2
          generalize ys.getD k 0 = z' at g' hb1 hb2
          go_wp2
          go_quiet (fail)
          go_wp2
          go_ret
          exact ⟨ret_bool (by simpa using HN.out), by (repeat (first | exact New.refl _ | assumption | refine New.alloc ?_ _ | refine New.drew ?_ | refine New.drewN ?_ _ | refine New.setCell ?_ (by first | omega | (simp; omega) | (simp; done)) _ | refine New.trans ?_ (by assumption)))⟩
      · have hk' : k = n := by omega
        subst hk'
        go_wp2
        go_ret
        refine ⟨ret_bool (by
          have h := HE.out
          rw [List.take_of_length_le (by rw [LX.out]; omega), List.take_of_length_le (by rw [LY.out]; omega)] at h
          simp [h]), by (repeat (first | exact New.refl _ | assumption | refine New.alloc ?_ _ | refine New.drew ?_ | refine New.drewN ?_ _ | refine New.setCell ?_ (by first | omega | (simp; omega) | (simp; done)) _ | refine New.trans ?_ (by assumption)))⟩
  · have hne : xs ≠ ys := fun e => hnm (by rw [← hx.len, ← hy.len, e])
    have hb : ((n : Int) != (m : Int)) = true := by simp; omega
    have HN := Lib.hid hne
    clear hx hy hne
    go_enter Try.func15, Try.ntmps15
    go_wp2
    go_ret
    exact ⟨ret_bool (by simpa using HN.out), by (repeat (first | exact New.refl _ | assumption | refine New.alloc ?_ _ | refine New.drew ?_ | refine New.drewN ?_ _ | refine New.setCell ?_ (by first | omega | (simp; omega) | (simp; done)) _ | refine New.trans ?_ (by assumption)))⟩

theorem ret_int {a b : Int} (h : a = b) : Ending.returned (.int .i64 a) = .returned (.int .i64 b) := by rw [h]
/-- Numbers whose sums stay far from where arithmetic goes round. -/
def Sml (xs : List Int) : Prop := ∀ z ∈ xs, -1000000000 ≤ z ∧ z ≤ 1000000000
theorem getD_bd {xs : List Int} (h : Sml xs) (k : Nat) : -1000000000 ≤ xs.getD k 0 ∧ xs.getD k 0 ≤ 1000000000 := by
  by_cases hk : k < xs.length
  · have e : xs.getD k 0 = xs[k] := by simp [hk]
    rw [e]; exact h _ (List.getElem_mem hk)
  · have e : xs.getD k 0 = 0 := by simp [Nat.le_of_not_lt hk]
    rw [e]; omega
theorem sum_snoc {zs : List Int} {k : Nat} (h : k < zs.length) : (zs.take (k + 1)).sum = (zs.take k).sum + zs.getD k 0 := by
  rw [take_snoc_i h, List.sum_append]; simp
theorem sum_bd {xs : List Int} (h : Sml xs) (k : Nat) : -1000000000 * (k : Int) ≤ (xs.take k).sum ∧ (xs.take k).sum ≤ 1000000000 * (k : Int) := by
  induction k with
  | zero => simp
  | succ k ih =>
    by_cases hk : k < xs.length
    · rw [sum_snoc hk]
      have := getD_bd h k
      omega
    · rw [List.take_of_length_le (by omega)]
      rw [List.take_of_length_le (by omega)] at ih
      omega

set_option maxHeartbeats 1000000 in
theorem ssum_any (A : Option Addr) (n c : Nat) (xs : List Int) (hn : n ≤ 100) (w : World) (hx : Ints w A n xs) (hz : Sml xs) :
    Calls Try.prog 108 #[.slice A n c] w fun e w' => e = .returned (.int .i64 xs.sum) ∧ w = w' := by
  have HX := Lib.hid hx
  have lx := hx.len
  have LX := Lib.hid lx
  clear hx lx
  have HZ := Lib.hid hz
  clear hz
  go_enter Try.func108, Try.ntmps108
  go_wp2
  go_loop [3, 4] (fun s i => ∃ k : Nat, k ≤ n ∧ i = .int .i64 k ∧ s = .int .i64 (xs.take k).sum) (fun _ i => n - (intOf i).toNat)
  case atStart => exact ⟨0, Nat.zero_le _, rfl, rfl⟩
  case round =>
    obtain ⟨k, hk, rfl, rfl⟩ := hrel
    have bd := sum_bd HZ.out k
    by_cases hlt : k < n
    · obtain ⟨b, off, rfl, hb, hc⟩ := HX.out.at_ (by omega)
      have g := hc k hlt
      clear hc
      have hs := Lib.hid (sum_snoc (zs := xs) (k := k) (by rw [LX.out]; exact hlt))
      have bz := getD_bd HZ.out k
      have k0 : (0 : Int) ≤ (k : Int) := by omega
      have k1 : (k : Int) < (n : Int) := by omega
      have kk : (k : Int) ≤ 100 := by omega
      generalize xs.getD k 0 = z at g bz hs
      generalize hS : (xs.take k).sum = S at bd hs ⊢
      clear hS
      go_wp2
      go_round
      case rel => exact ⟨k + 1, by omega, by go_num, by rw [hs.out]⟩
      case measure => simp [intOf]; omega
    · have hk' : k = n := by omega
      subst hk'
      go_wp2
      go_ret
      exact ⟨ret_int (by rw [List.take_of_length_le (by rw [LX.out]; omega)]), rfl⟩

set_option maxHeartbeats 1000000 in
theorem sumOf_any (A : Option Addr) (n c : Nat) (xs : List Int) (hn : n ≤ 100) (w : World) (hx : Ints w A n xs) (hz : Sml xs) :
    Calls Try.prog 101 #[.slice A n c] w fun e w' => e = .returned (.int .i64 xs.sum) ∧ w = w' := by
  have HX := Lib.hid hx
  have lx := hx.len
  have LX := Lib.hid lx
  clear hx lx
  have HZ := Lib.hid hz
  clear hz
  go_enter Try.func101, Try.ntmps101
  go_wp2
  go_loop [3, 8] (fun s i => ∃ k : Nat, k ≤ n ∧ i = .int .i64 k ∧ s = .int .i64 (xs.take k).sum) (fun _ i => n - (intOf i).toNat)
  case atStart => exact ⟨0, Nat.zero_le _, rfl, rfl⟩
  case round =>
    obtain ⟨k, hk, rfl, rfl⟩ := hrel
    have bd := sum_bd HZ.out k
    by_cases hlt : k < n
    · obtain ⟨b, off, rfl, hb, hc⟩ := HX.out.at_ (by omega)
      have g := hc k hlt
      clear hc
      have hs := Lib.hid (sum_snoc (zs := xs) (k := k) (by rw [LX.out]; exact hlt))
      have bz := getD_bd HZ.out k
      have k0 : (0 : Int) ≤ (k : Int) := by omega
      have k1 : (k : Int) < (n : Int) := by omega
      have kk : (k : Int) ≤ 100 := by omega
      generalize xs.getD k 0 = z at g bz hs
      generalize hS : (xs.take k).sum = S at bd hs ⊢
      clear hS
      go_wp2
      go_round
      case rel => exact ⟨k + 1, by omega, by go_num, by rw [hs.out]⟩
      case measure => simp [intOf]; omega
    · have hk' : k = n := by omega
      subst hk'
      go_wp2
      go_ret
      exact ⟨ret_int (by rw [List.take_of_length_le (by rw [LX.out]; omega)]), rfl⟩

end Go.Proofs.Ytobnjagmakhgpaa

/- Slices of whole numbers that a call makes itself, and the helpers of the exact laws on such slices (toIntS, eqIntS, markIntS, heldIntS). Conditions: the slices can be read, or lie in a block of the call's own. -/
namespace Go.Proofs.Ytobnjagmakhgpaa
open Go.RowKit

/-- Block g holds the numbers zs, and may be written. -/
structure Row (w : World) (g : Nat) (zs : List Int) : Prop where
  lt : g < w.heap.size
  c : ∀ i, i < zs.length → w.cell? ⟨g, i, none⟩ = some (.int .i64 (zs.getD i 0))
  f : ∀ i, i < zs.length → w.frozen? ⟨g, i, none⟩ = false
theorem Row.new {w w' : World} {g : Nat} {zs : List Int} (h : Row w g zs) (hN : New w w') : Row w' g zs :=
  ⟨Nat.lt_of_lt_of_le h.lt hN.le, fun i hi => (hN.cells g i h.lt).trans (h.c i hi), fun i hi => (hN.marks g i h.lt).trans (h.f i hi)⟩
theorem Row.drewN {w : World} {g : Nat} {zs : List Int} (h : Row w g zs) (k : Nat) : Row (w.drewN k) g zs := ⟨h.lt, h.c, h.f⟩
theorem Row.far {w : World} {g : Nat} {zs : List Int} (h : Row w g zs) {p : Addr} (hp : p.block ≠ g) (u : Value) : Row (w.setCell p u) g zs :=
  ⟨by simpa [World.setCell] using h.lt, fun i hi => (World.cell?_of_block (Below.heap_setCell _ _ _ _ (by simp; omega))).trans (h.c i hi), fun i hi => (World.frozen?_of_block (w := w) (Below.heap_setCell _ _ _ _ (by simp; omega))).trans (h.f i hi)⟩
theorem getD_set (zs : List Int) (k i : Nat) (v : Int) (hi : i < zs.length) : (zs.set k v).getD i 0 = if k = i then v else zs.getD i 0 := by
  have h1 : (zs.set k v).getD i 0 = (zs.set k v)[i]'(by simpa using hi) := by simp [hi]
  have h2 : zs.getD i 0 = zs[i] := by simp [hi]
  rw [h1, h2, List.getElem_set]
theorem Row.set_ {w : World} {g : Nat} {zs : List Int} (h : Row w g zs) {k : Nat} (hk : k < zs.length) (v : Int) : Row (w.setCell ⟨g, k, none⟩ (.int .i64 v)) g (zs.set k v) := by
  refine ⟨by simpa [World.setCell] using h.lt, fun i hi => ?_, fun i hi => ?_⟩
  · have hi' : i < zs.length := by simpa using hi
    rw [getD_set zs k i v hi']
    by_cases e : k = i
    · subst e
      rw [if_pos rfl]
      simp [go_sem, h.c k hk]
    · rw [if_neg e, World.cell?_setCell_other _ _ _ _ (by simp; first | done | omega)]
      exact h.c i hi'
  · have hi' : i < zs.length := by simpa using hi
    have := h.f i hi'
    simpa [go_sem] using this
theorem Row.ints {w : World} {g : Nat} {zs : List Int} (h : Row w g zs) : Ints w (some ⟨g, 0, none⟩) zs.length zs :=
  ⟨rfl, fun _ => ⟨g, 0, rfl, h.lt, fun i hi => by simpa using h.c i hi⟩⟩
/-- A row of noughts, just made. -/
theorem Row.made (w : World) (n : Nat) (t : TypeId) : Row (w.alloc (.cells (madeCells #[.int .i64 0] n) t)) w.heap.size (List.replicate n 0) := by
  refine ⟨by simp, fun i hi => ?_, fun i hi => by simp [go_sem]⟩
  have hi' : i < n := by simpa using hi
  have e : (w.alloc (.cells (madeCells #[.int .i64 0] n) t)).cell? ⟨w.heap.size, i, none⟩ = (madeCells #[.int .i64 0] n)[i]? := World.cell?_alloc_new w _ t i
  rw [e]
  simp [madeCells, hi', Nat.mod_one]
/-- The first k of a list, then noughts. -/
def upTo (k : Nat) (xs : List Int) : List Int := xs.take k ++ List.replicate (xs.length - k) 0
theorem upTo_len (k : Nat) (xs : List Int) (h : k ≤ xs.length) : (upTo k xs).length = xs.length := by unfold upTo; simp; omega
theorem upTo_zero (xs : List Int) : upTo 0 xs = List.replicate xs.length 0 := by unfold upTo; simp
theorem upTo_all (xs : List Int) : upTo xs.length xs = xs := by unfold upTo; simp
theorem upTo_step (k : Nat) (xs : List Int) (h : k < xs.length) : (upTo k xs).set k (xs.getD k 0) = upTo (k + 1) xs := by
  unfold upTo
  rw [take_snoc_i h, List.set_append_right _ _ (by rw [List.length_take]; omega)]
  have e1 : k - (xs.take k).length = 0 := by simp; omega
  have e2 : xs.length - k = (xs.length - (k + 1)) + 1 := by omega
  rw [e1, e2, List.replicate_succ]
  simp

end Go.Proofs.Ytobnjagmakhgpaa

/- The helpers of the exact laws that compare, mark and look at slices of whole numbers (eqIntS, markIntS, heldIntS). Conditions: the slices can be read; the marked slice lies in a block of the call's own. -/
namespace Go.Proofs.Ytobnjagmakhgpaa
open Go.RowKit

/-- The numbers k0, k0 + 1, .. -/
def marks (k0 : Int) (n : Nat) : List Int := (List.range n).map fun (i : Nat) => k0 + (i : Int)
theorem marks_len (k0 : Int) (n : Nat) : (marks k0 n).length = n := by simp [marks]
theorem marks_at (k0 : Int) (n i : Nat) (h : i < n) : (marks k0 n).getD i 0 = k0 + (i : Int) := by simp [marks, h]
/-- The first k are marked. -/
def markTo (k0 : Int) (k : Nat) (zs : List Int) : List Int := marks k0 k ++ zs.drop k
theorem markTo_len (k0 : Int) (k : Nat) (zs : List Int) (h : k ≤ zs.length) : (markTo k0 k zs).length = zs.length := by unfold markTo; rw [List.length_append, marks_len, List.length_drop]; omega
theorem markTo_all (k0 : Int) (zs : List Int) : markTo k0 zs.length zs = marks k0 zs.length := by unfold markTo; simp
theorem markTo_step (k0 : Int) (k : Nat) (zs : List Int) (h : k < zs.length) : (markTo k0 k zs).set k (k0 + (k : Int)) = markTo k0 (k + 1) zs := by
  unfold markTo
  rw [List.set_append_right _ _ (by rw [marks_len]; omega), marks_len, Nat.sub_self]
  have e : marks k0 (k + 1) = marks k0 k ++ [k0 + (k : Int)] := by unfold marks; rw [List.range_succ, List.map_append]; simp
  have e2 : zs.drop k = zs[k] :: zs.drop (k + 1) := List.drop_eq_getElem_cons h
  rw [e, List.append_assoc, e2]
  rfl
/-- Only block g has turned, and new blocks are there. -/
theorem own_set {w0 w : World} {g k : Nat} (h : w0.grownBy w (some g)) (u : Value) : w0.grownBy (w.setCell ⟨g, k, none⟩ u) (some g) :=
  ⟨h.os, h.tape, h.output, by simpa [World.setCell] using h.size, fun i hi hne => (Below.heap_setCell _ _ _ _ (fun e => hne (by rw [e]))).trans (h.block i hi hne)⟩

end Go.Proofs.Ytobnjagmakhgpaa

/- Rows of numbers that a call hands back, between two marks of the memory's size; what a change between two marks leaves of all others. Conditions: the slices can be read. -/
namespace Go.Proofs.Ytobnjagmakhgpaa
open Go.RowKit

/-- Only blocks between two marks have turned, and new blocks are there. -/
structure Chg (lo hi : Nat) (w w' : World) : Prop where
  os : w'.os = w.os
  tape : w'.tape = w.tape
  output : w'.output = w.output
  size : w.heap.size ≤ w'.heap.size
  block : ∀ k, k < w.heap.size → ¬ (lo ≤ k ∧ k < hi) → w'.heap[k]? = w.heap[k]?
section
variable {lo hi lo' hi' g n : Nat} {w w1 w2 : World} {A : Option Addr} {zs xs : List Int}
theorem New.chg (h : New w w1) (lo hi : Nat) : Chg lo hi w w1 := ⟨h.os, h.tape, h.output, h.size, fun k hk _ => h.block k hk⟩
theorem Chg.refl (lo hi : Nat) (w : World) : Chg lo hi w w := ⟨rfl, rfl, rfl, Nat.le_refl _, fun _ _ _ => rfl⟩
theorem Chg.trans (h : Chg lo hi w w1) (k : Chg lo hi w1 w2) : Chg lo hi w w2 :=
  ⟨k.os.trans h.os, k.tape.trans h.tape, k.output.trans h.output, Nat.le_trans h.size k.size, fun i hi' hn => (k.block i (Nat.lt_of_lt_of_le hi' h.size) hn).trans (h.block i hi' hn)⟩
theorem Chg.of_grown (h : w.grownBy w1 (some g)) (h1 : lo ≤ g) (h2 : g < hi) : Chg lo hi w w1 :=
  ⟨h.os, h.tape, h.output, h.size, fun k hk hn => h.block k hk (fun e => hn (by have := Option.some.inj e; omega))⟩
theorem Chg.new (h : Chg lo hi w1 w2) (k : New w w1) (hl : w.heap.size ≤ lo) : New w w2 :=
  ⟨h.os.trans k.os, h.tape.trans k.tape, h.output.trans k.output, Nat.le_trans k.size h.size, fun i hi' => (h.block i (Nat.lt_of_lt_of_le hi' k.size) (by omega)).trans (k.block i hi')⟩
theorem Row.chg (h : Row w g zs) (k : Chg lo hi w w1) (hn : ¬ (lo ≤ g ∧ g < hi)) : Row w1 g zs :=
  ⟨Nat.lt_of_lt_of_le h.lt k.size, fun i hi' => (World.cell?_of_block (k.block g h.lt hn)).trans (h.c i hi'), fun i hi' => (World.frozen?_of_block (w := w) (k.block g h.lt hn)).trans (h.f i hi')⟩
/-- The numbers zs lie in a block between two marks, from its beginning on; where there are none, nothing is said. -/
def Res (lo hi : Nat) (w : World) (A : Option Addr) (zs : List Int) : Prop :=
  hi ≤ w.heap.size ∧ (0 < zs.length → ∃ g, A = some ⟨g, 0, none⟩ ∧ lo ≤ g ∧ g < hi ∧ Row w g zs)
theorem Res.le (h : Res lo hi w A zs) : hi ≤ w.heap.size := h.1
theorem Res.new (h : Res lo hi w A zs) (k : New w w1) : Res lo hi w1 A zs :=
  ⟨Nat.le_trans h.1 k.le, fun hz => by obtain ⟨g, e, h1, h2, hR⟩ := h.2 hz; exact ⟨g, e, h1, h2, hR.new k⟩⟩
theorem Res.chg (h : Res lo hi w A zs) (k : Chg lo' hi' w w1) (hd : hi ≤ lo' ∨ hi' ≤ lo) : Res lo hi w1 A zs :=
  ⟨Nat.le_trans h.1 k.size, fun hz => by obtain ⟨g, e, h1, h2, hR⟩ := h.2 hz; exact ⟨g, e, h1, h2, hR.chg k (by omega)⟩⟩
theorem Res.ints (h : Res lo hi w A zs) (hn : zs.length = n) : Ints w A n zs := by
  subst hn
  refine ⟨rfl, fun hz => ?_⟩
  obtain ⟨g, rfl, _, _, hR⟩ := h.2 hz
  exact ⟨g, 0, rfl, hR.lt, fun i hi' => by simpa using hR.c i hi'⟩
theorem Res.of_row (h : Row w1 g zs) (hg : lo ≤ g) : Res lo w1.heap.size w1 (some ⟨g, 0, none⟩) zs := ⟨Nat.le_refl _, fun _ => ⟨g, rfl, hg, h.lt, h⟩⟩
theorem Res.nil (lo : Nat) (w : World) (A : Option Addr) : Res lo w.heap.size w A [] := ⟨Nat.le_refl _, fun h => absurd h (by simp)⟩
end
/-- An answer that is a row of its own. -/
def Ans (w : World) (zs : List Int) (e : Ending) (w' : World) : Prop :=
  ∃ (A : Option Addr) (n c : Nat), e = .returned (.slice A n c) ∧ zs.length = n ∧ Res w.heap.size w'.heap.size w' A zs ∧ New w w'
theorem Ans.row {w w' : World} {g n c : Nat} {zs : List Int} {e : Ending} (he : e = .returned (.slice (some ⟨g, 0, none⟩) n c)) (hn : zs.length = n) (hg : w.heap.size ≤ g) (h : Row w' g zs) (hN : New w w') : Ans w zs e w' :=
  ⟨_, n, c, he, hn, Res.of_row h hg, hN⟩
theorem Ans.none_ {w w' : World} {e : Ending} (he : e = .returned (.slice none 0 0)) (hN : New w w') : Ans w [] e w' := ⟨_, 0, 0, he, rfl, Res.nil _ _ _, hN⟩
end Go.Proofs.Ytobnjagmakhgpaa

/- Slices of structs whose fields are numbers: they read as the list of all their numbers, one element's behind another's. Conditions: the slices can be read. -/
namespace Go.Proofs.Ytobnjagmakhgpaa
open Go.RowKit

/-- The slice of n structs of m numbers each, from A on, reads as the list zs of their numbers. -/
structure Sts (m : Nat) (w : World) (A : Option Addr) (n : Nat) (zs : List Int) : Prop where
  len : zs.length = n * m
  at_ : 0 < n → ∃ b off, A = some ⟨b, off, none⟩ ∧ b < w.heap.size ∧ ∀ i, i < n * m → w.cell? ⟨b, off + i, none⟩ = some (.int .i64 (zs.getD i 0))
section
variable {m n : Nat} {w w' : World} {A : Option Addr} {zs : List Int}
theorem Sts.new (h : Sts m w A n zs) (hN : New w w') : Sts m w' A n zs :=
  ⟨h.len, fun hn => by obtain ⟨b, off, e, hb, hc⟩ := h.at_ hn; exact ⟨b, off, e, Nat.lt_of_lt_of_le hb hN.le, fun i hi => (hN.cells b _ hb).trans (hc i hi)⟩⟩
theorem Sts.drewN (h : Sts m w A n zs) (k : Nat) : Sts m (w.drewN k) A n zs := ⟨h.len, h.at_⟩
theorem Sts.of_res' {lo hi : Nat} (h : Res lo hi w A zs) (hm : zs.length = n * m) (h0 : 0 < m) : Sts m w A n zs := by
  refine ⟨hm, fun hn => ?_⟩
  have hp : 0 < n * m := Nat.mul_pos hn h0
  obtain ⟨g, rfl, _, _, hR⟩ := h.2 (by omega)
  exact ⟨g, 0, rfl, hR.lt, fun i hi => by simpa using hR.c i (by omega)⟩
theorem Sts.of_res {lo hi : Nat} (h : Res lo hi w A zs) (hm : zs.length = n * (m + 1)) : Sts (m + 1) w A n zs := Sts.of_res' h hm (Nat.succ_pos m)
theorem idx_lt {k n m j : Nat} (hk : k < n) (hj : j < m) : k * m + j < n * m := by
  have h : (k + 1) * m ≤ n * m := Nat.mul_le_mul_right m hk
  rw [Nat.add_mul, Nat.one_mul] at h
  omega
end
theorem Row.zeros (w : World) (z : Array Value) (n : Nat) (t : TypeId) (hz : ∀ i, z[i % z.size]! = .int .i64 0) : Row (w.alloc (.cells (madeCells z n) t)) w.heap.size (List.replicate n 0) := by
  refine ⟨by simp, fun i hi => ?_, fun i hi => by simp [go_sem]⟩
  have hi' : i < n := by simpa using hi
  have e : (w.alloc (.cells (madeCells z n) t)).cell? ⟨w.heap.size, i, none⟩ = (madeCells z n)[i]? := World.cell?_alloc_new w _ t i
  rw [e]
  simp [madeCells, hi', hz]
/-- An answer that is a row of structs of its own. -/
def AnsS (m : Nat) (w : World) (zs : List Int) (e : Ending) (w' : World) : Prop :=
  ∃ (A : Option Addr) (n c : Nat), e = .returned (.slice A n c) ∧ zs.length = n * m ∧ Res w.heap.size w'.heap.size w' A zs ∧ New w w'
theorem AnsS.row {m : Nat} {w w' : World} {g n c : Nat} {zs : List Int} {e : Ending} (he : e = .returned (.slice (some ⟨g, 0, none⟩) n c)) (hn : zs.length = n * m) (hg : w.heap.size ≤ g) (h : Row w' g zs) (hN : New w w') : AnsS m w zs e w' :=
  ⟨_, n, c, he, hn, Res.of_row h hg, hN⟩
end Go.Proofs.Ytobnjagmakhgpaa
