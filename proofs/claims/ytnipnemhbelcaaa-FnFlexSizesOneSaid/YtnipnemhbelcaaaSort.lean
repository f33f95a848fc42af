/- The sort of the shares' rests, walked: up to eight pairs are sorted by the library's insertion sort. Condition: the row of pairs lies where the slice says. -/
import Derived.Test.YtnipnemhbelcaaaShareO
import Derived.Shelf.SlSortCmp.InsertionK
namespace Go.Proofs.Ytnipnemhbelcaaa
open Go.Shelf Go.RowKit Go.Lib Go.Sort

/-- The numbers of the sort's body and types in this program. -/
def rnm : Ren := ⟨fun x => if x = 20 then 77 else x, fun x => if x = 22 then 80 else if x = 24 then 82 else if x = 25 then 85 else x, fun x => x⟩
theorem sortLays : SlLaysF0.n20 Try.prog rnm where
  mixed := by kernel_rfl
  f20 := ⟨"slices.insertionSortCmpFunc[loop.example/flexlayout/impl.division]", by kernel_rfl, by kernel_rfl⟩
  t0 := Try.underlying0
  a0 := Try.isAgg0
  z0 := Try.sizeOf0
  v0 := Try.zeroValue0
  t3 := Try.underlying3
  a3 := Try.isAgg3
  z3 := Try.sizeOf3
  v3 := Try.zeroValue3
  t4 := Try.underlying4
  a4 := Try.isAgg4
  z4 := Try.sizeOf4
  v4 := Try.zeroValue4
  t22 := Try.underlying80
  a22 := Try.isAgg80
  z22 := Try.sizeOf80
  v22 := Try.zeroValue80
  t25 := Try.underlying85
  a25 := Try.isAgg85
  z25 := Try.sizeOf85
  v25 := Try.zeroValue85
/-- A pair's two cells. -/
def encD (x : Int × Int) : List Value := [.int .i64 x.1, .int .i64 x.2]
/-- What the comparison of two numbers returns. -/
def cmpI (x y : Int) : Int := if x < y then -1 else if y < x then 1 else 0
def cfR (x y : Int × Int) : Int := cmpI y.2 x.2
theorem ltOf_cfR : ltOf cfR = ltR := by
  funext x y
  unfold ltOf ltR cfR cmpI
  rw [decide_eq_decide]
  split
  · omega
  · split <;> omega
theorem isNaN_any (x : Int) (w : World) : Calls Try.prog 76 #[.int .i64 x] w fun e w' => e = .returned (.bool false) ∧ w' = w := by
  go_enter Try.func76, Try.ntmps76
  go_wp2
  go_ret
  exact ⟨rfl, rfl⟩
theorem compare_any (x y : Int) (w : World) : Calls Try.prog 71 #[.int .i64 x, .int .i64 y] w fun e w' => e = .returned (.int .i64 (cmpI x y)) ∧ w' = w := by
  go_enter Try.func71, Try.ntmps71
  by_cases h1 : x < y
  · have e : cmpI x y = -1 := by unfold cmpI; rw [if_pos h1]
    rw [e]
    go_wp2_with (go_at_call 76; refine (isNaN_any _ _).mono ?_; rintro e w' ⟨rfl, rfl⟩)
    go_ret
    exact ⟨rfl, rfl⟩
  · by_cases h2 : y < x
    · have e : cmpI x y = 1 := by unfold cmpI; rw [if_neg h1, if_pos h2]
      rw [e]
      go_wp2_with (go_at_call 76; refine (isNaN_any _ _).mono ?_; rintro e w' ⟨rfl, rfl⟩)
      go_ret
      exact ⟨rfl, rfl⟩
    · have e : cmpI x y = 0 := by unfold cmpI; rw [if_neg h1, if_neg h2]
      rw [e]
      go_wp2_with (go_at_call 76; refine (isNaN_any _ _).mono ?_; rintro e w' ⟨rfl, rfl⟩)
      go_ret
      exact ⟨rfl, rfl⟩
/-- The comparison that the sort is given. -/
theorem closure_any (x y : Int × Int) (W : World) : Calls Try.prog 70 #[.agg #[.int .i64 x.1, .int .i64 x.2], .agg #[.int .i64 y.1, .int .i64 y.2]] W fun e w' => e = .returned (.int .i64 (cfR x y)) ∧ ∃ q os', w' = grow (W.drewN q) os' := by
  unfold cfR
  go_enter Try.func70, Try.ntmps70
  go_wp2_with (go_at_call 71; refine (compare_any _ _ _).mono ?_; rintro e w' ⟨rfl, rfl⟩)
  go_ret
  exact ⟨rfl, 0, _, by rw [alloc_eq_grow, alloc_eq_grow, grow_grow]; rfl⟩
theorem insertion_any (g n : Nat) (d : Array (Int × Int)) (hn : d.size = n) (h8 : n ≤ 8) (w : World) (hH : HoldsK encD 2 w g 0 d) (hg : g < w.heap.size) :
    Calls Try.prog 77 #[.slice (some ⟨g, 0, none⟩) n n, .int .i64 0, .int .i64 n, .func (.func 70) #[] #[]] w fun e w' => e = .returned (.tuple #[]) ∧ ∃ k os, w' = sortWorldK encD 2 w g 0 k (Go.Sort.insertionSort ltR d 0 n) os := by
  subst hn
  have eg : ∀ args w, (callFunc 70 args).run Try.prog w = .ok (.enter 70 args) w := enters_of Try.func70 (by kernel_rfl) rfl
  have hcon := AnyQ.insertionSortCmpFunc sortLays 2 Try.isAgg82 Try.sizeOf82 encD (fun _ => rfl) (fun x v hv => by simp [encD] at hv; rcases hv with rfl | rfl <;> rfl) cfR 70 #[] g 0 d.size 0 d.size d w eg (fun _ _ _ _ x y => closure_any x y _) hH hg (Nat.zero_le _) (Nat.le_refl _) (by omega)
  rw [ltOf_cfR] at hcon
  exact hcon
theorem stableCmp_any (g n : Nat) (d : Array (Int × Int)) (hn : d.size = n) (h8 : n ≤ 8) (w : World) (hH : HoldsK encD 2 w g 0 d) (hg : g < w.heap.size) :
    Calls Try.prog 75 #[.slice (some ⟨g, 0, none⟩) n n, .int .i64 n, .func (.func 70) #[] #[]] w fun e w' => e = .returned (.tuple #[]) ∧ ∃ k os, w' = sortWorldK encD 2 w g 0 k (Go.Sort.insertionSort ltR d 0 n) os := by
  have hcon := insertion_any g n d hn h8 w hH hg
  have h20 : ¬ ((20 : Int) ≤ (n : Int)) := by omega
  have h21 : ¬ ((20 : Int) < (n : Int)) := by omega
  clear hH
  go_enter Try.func75, Try.ntmps75
  go_wp2
  go_loopw [7, 8] (fun a b wr => a = .int .i64 0 ∧ b = .int .i64 20 ∧ wr = w) (fun _ _ _ => 0)
  case atStart => exact ⟨rfl, rfl, rfl⟩
  case round =>
    obtain ⟨rfl, rfl, rfl⟩ := hrel
    go_wp2_with (go_at_call 77; refine hcon.mono ?_; rintro e w' ⟨rfl, k, os, rfl⟩)
    go_loopw [6] (fun b wq => b = .int .i64 20 ∧ wq = sortWorldK encD 2 wr g 0 k (Go.Sort.insertionSort ltR d 0 n) os) (fun _ _ => 0)
    case atStart => exact ⟨rfl, rfl⟩
    case round =>
      obtain ⟨rfl, rfl⟩ := hrel
      go_wp2
      go_end0
      exact ⟨rfl, k, os, rfl⟩
theorem sortStable_any (g n : Nat) (d : Array (Int × Int)) (hn : d.size = n) (h8 : n ≤ 8) (w : World) (hH : HoldsK encD 2 w g 0 d) (hg : g < w.heap.size) :
    Calls Try.prog 69 #[.slice (some ⟨g, 0, none⟩) n n, .func (.func 70) #[] #[]] w fun e w' => e = .returned (.tuple #[]) ∧ ∃ k os, w' = sortWorldK encD 2 w g 0 k (Go.Sort.insertionSort ltR d 0 n) os := by
  have hcon := stableCmp_any g n d hn h8 w hH hg
  clear hH
  go_enter Try.func69, Try.ntmps69
  go_wp2_with (go_at_call 75; refine hcon.mono ?_; rintro e w' ⟨rfl, k, os, rfl⟩)
  go_end0
  exact ⟨rfl, k, os, rfl⟩
end Go.Proofs.Ytnipnemhbelcaaa
