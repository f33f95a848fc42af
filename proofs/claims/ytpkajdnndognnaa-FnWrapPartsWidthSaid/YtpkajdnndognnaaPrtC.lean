/- How many parts each line has, and how high it is, in the program, walked. Condition: the parts can be read, and are no more than their room. -/
import Derived.Test.YtpkajdnndognnaaPrtL
namespace Go.Proofs.Ytpkajdnndognnaa
open Go.RowKit Go.Shelf
attribute [local go_sem] Oper.semAt_some

theorem ownsRow_mono {w : World} {lo lo' : Nat} {e : TypeId} {m k : Nat} {v : Value} {xs : List Value} (h : w.ownsRow lo e m v k xs) (hl : lo' ≤ lo) : w.ownsRow lo' e m v k xs :=
  ⟨h.1, h.2.imp id fun ⟨g, cap, cur, h1, h2, h3⟩ => ⟨g, cap, cur, h1, Nat.le_trans hl h2, h3⟩⟩
theorem ownsRow_low {w : World} {lo : Nat} {e : TypeId} {m k : Nat} {v : Value} {xs : List Value} (h : w.ownsRow lo e m v k xs) {g : Nat} (hg : v.ownBlock = some g) : lo ≤ g := by
  rcases h.2 with ⟨rfl, _⟩ | ⟨g', _, _, rfl, h2, _⟩
  · simp [Value.ownBlock] at hg
  · have : g' = g := by simpa [Value.ownBlock] using hg
    omega
/-- A round's append: the list in its box, and what it keeps. -/
theorem box_app {W w1 : World} {n₀ : Nat} {t e : TypeId} {m : Nat} {v v' : Value} {k k' : Nat} {xs ys : List Value} {tmp : Obj} (hte : t ≠ e) (hv : Boxed W n₀ t v) (hrow : W.ownsRow (n₀ + 4) e m v k xs) (hs : n₀ + 4 ≤ W.heap.size)
    (hown' : w1.ownsRow (n₀ + 4) e m v' k' ys) (hgrow : (W.alloc tmp).grownBy w1 v.ownBlock) :
    Boxed w1 n₀ t v ∧ Boxed (w1.setCell ⟨n₀, 0, none⟩ v') n₀ t v' ∧ (w1.setCell ⟨n₀, 0, none⟩ v').ownsRow (n₀ + 4) e m v' k' ys ∧ KeepsOthers W (w1.setCell ⟨n₀, 0, none⟩ v') ∧ Below n₀ W (w1.setCell ⟨n₀, 0, none⟩ v') ∧ Keep3 n₀ (n₀ + 1) W (w1.setCell ⟨n₀, 0, none⟩ v') := by
  obtain ⟨h1, h2, _, h4, h5⟩ := hv.appended hte (ownsRow_mono hrow (by omega)) (by omega) (Nat.le_refl _) (ownsRow_mono hown' (by omega)) hgrow
  refine ⟨h1, h2, hown'.kept (grownBy_setCell' w1 n₀ v') (.inr (h1.not_row hte hown').symm), h4, h5, ⟨h5.size, fun i hi hc => ?_⟩⟩
  rcases hc with hc | hc
  · exact h5.block i hc
  · have a1 : (W.alloc tmp).heap[i]? = W.heap[i]? := ((New.refl W).alloc tmp).block i hi
    have a2 : w1.heap[i]? = (W.alloc tmp).heap[i]? := hgrow.block i (by rw [World.size_alloc]; omega) (fun e => by have := ownsRow_low hrow e.symm; omega)
    have a3 : (w1.setCell ⟨n₀, 0, none⟩ v').heap[i]? = w1.heap[i]? := (grownBy_setCell' w1 n₀ v').block i (by have := hgrow.size; rw [World.size_alloc] at this; omega) (fun e => by have := Option.some.inj e; omega)
    exact a3.trans (a2.trans a1)
theorem ownFrom_size {β : Type} (B m : Nat) : OwnFrom B (fun (_ : β) W => m ≤ W.heap.size) := fun _ _ _ _ h hg _ => Nat.le_trans h hg.size
theorem ans_box {w w' : World} {v : Value} {zs : List Int} {e : Ending} (he : e = .returned v) (h : w'.ownsRow (w.heap.size + 4) 3 1 v zs.length (zs.map (Value.int .i64))) (hN : New w w') : Ans w zs e w' := by
  have h2 : Own w.heap.size w' v zs := ownsRow_mono h (by omega)
  obtain ⟨A, c, rfl, _, hR⟩ := h2.res
  exact ⟨A, zs.length, c, he, rfl, hR, hN⟩
/-- How many parts the lines have that came. -/
def cntP (zs : List Int) (n : Nat) (wd gap : Int) (pre : List { k : Nat // k < nl zs n wd gap }) : List Int := pre.map fun x => ((ln zs n wd gap (st zs n wd gap x.1) : Nat) : Int)
theorem cntP_snoc (zs : List Int) (n : Nat) (wd gap : Int) (pre : List { k : Nat // k < nl zs n wd gap }) (x : { k : Nat // k < nl zs n wd gap }) : cntP zs n wd gap (pre ++ [x]) = cntP zs n wd gap pre ++ [((ln zs n wd gap (st zs n wd gap x.1) : Nat) : Int)] := by simp [cntP]
theorem cntP_len (zs : List Int) (n : Nat) (wd gap : Int) (pre : List { k : Nat // k < nl zs n wd gap }) : (cntP zs n wd gap pre).length = pre.length := by simp [cntP]
set_option maxRecDepth 100000 in
set_option maxHeartbeats 4000000 in
theorem LineCounts_yes (b off n c : Nat) (zs : List Int) (wd gap : Int) (hok : wrOk zs n wd gap = true) (h0 : 0 < n) (hnc : n ≤ c) (w : World) (hx : Sts 2 w (some ⟨b, off, none⟩) n zs) :
    CallsIn Fence.wide 6 Try.prog 23 #[.slice (some ⟨b, off, none⟩) n c, .int .i64 wd, .int .i64 gap] w (Ans w (cnL zs n wd gap (nl zs n wd gap))) := by
  obtain ⟨i0, hi, hz0, hz1, hz2⟩ := info_parts info_int
  have n12 := n_le (wrOk_iff.1 hok).1
  have NL := nl_le (zs := zs) (n := n) (wd := wd) (gap := gap)
  have blt : b < w.heap.size := by obtain ⟨b', off', e, hb', _⟩ := hx.at_ h0; simp only [Option.some.injEq, Addr.mk.injEq, and_true] at e; obtain ⟨rfl, rfl⟩ := e; exact hb'
  refine callsIn_of_wp_marks Try.func23 rfl trivial ?_ rfl
  simp only [Try.ntmps23, List.size_toArray, List.length_cons, List.length_nil, Nat.reduceAdd, Nat.reduceSub, Array.replicate_succ, Array.replicate_zero, List.push_toArray, List.append_toArray, List.nil_append, List.cons_append]
  gi_wp2_with (first | (refine ⟨trivial, ?_⟩; gi_at_call 43; refine (callsIn_wide.2 (linesOf_any _ n c wd gap _)).mono ?_; rintro e w' ⟨rfl, rfl⟩))
  have bO := (((Boxed.new w 36 (.slice none 0 0)).alloc (.cells #[.slice (some ⟨b, off, none⟩) n c] 26)).alloc (.cells #[.int .i64 wd] 3)).alloc (.cells #[.int .i64 gap] 3)
  have N0 : New w ((((w.alloc (.cells #[.slice none 0 0] 36)).alloc (.cells #[.slice (some ⟨b, off, none⟩) n c] 26)).alloc (.cells #[.int .i64 wd] 3)).alloc (.cells #[.int .i64 gap] 3)) := by (repeat (first | exact New.refl _ | assumption | refine New.alloc ?_ _ | refine New.drew ?_ | refine New.drewN ?_ _ | refine New.setCell ?_ (by first | omega | (simp; omega) | (simp; done)) _ | refine New.trans ?_ (by assumption)))
  have cl : ((((w.alloc (.cells #[.slice none 0 0] 36)).alloc (.cells #[.slice (some ⟨b, off, none⟩) n c] 26)).alloc (.cells #[.int .i64 wd] 3)).alloc (.cells #[.int .i64 gap] 3)).cell? ⟨w.heap.size + 1, 0, none⟩ = some (.slice (some ⟨b, off, none⟩) n c) := by simp [go_sem]
  have cw : ((((w.alloc (.cells #[.slice none 0 0] 36)).alloc (.cells #[.slice (some ⟨b, off, none⟩) n c] 26)).alloc (.cells #[.int .i64 wd] 3)).alloc (.cells #[.int .i64 gap] 3)).cell? ⟨w.heap.size + 1 + 1, 0, none⟩ = some (.int .i64 wd) := by simp [go_sem]
  have cg : ((((w.alloc (.cells #[.slice none 0 0] 36)).alloc (.cells #[.slice (some ⟨b, off, none⟩) n c] 26)).alloc (.cells #[.int .i64 wd] 3)).alloc (.cells #[.int .i64 gap] 3)).cell? ⟨w.heap.size + 1 + 2, 0, none⟩ = some (.int .i64 gap) := by simp [go_sem]
  have sz : ((((w.alloc (.cells #[.slice none 0 0] 36)).alloc (.cells #[.slice (some ⟨b, off, none⟩) n c] 26)).alloc (.cells #[.int .i64 wd] 3)).alloc (.cells #[.int .i64 gap] 3)).heap.size = w.heap.size + 4 := by simp
  refine wpIn_rangeFunc_ownG rfl (by omega) (gf := 63) (lb := #[.pointer (some ⟨w.heap.size + 1, 0, none⟩), .pointer (some ⟨w.heap.size + 2, 0, none⟩), .pointer (some ⟨w.heap.size + 3, 0, none⟩)]) rfl trivial (enters_of Try.func63 (by kernel_rfl) rfl)
    (lines_stops w.heap.size (w.heap.size + 1) b off n c zs wd gap hok h0 hnc blt _ (hx.new N0) cl cw cg) Keep3.trans (Keep3.b (by rw [sz]; omega) (by rw [sz]; omega)) (Below.refl _ _) (fun _ => rfl)
    (fun pre W => ((∃ v, Boxed W w.heap.size 36 v ∧ W.ownsRow (w.heap.size + 4) 3 1 v (cntP zs n wd gap pre).length ((cntP zs n wd gap pre).map (Value.int .i64)) ∧ True) ∧ Below w.heap.size w W) ∧ w.heap.size + 4 ≤ W.heap.size)
    (fun _ _ _ => False)
    (OwnFrom.and (OwnFrom.and (Go.Own.from (holdsRow_own (w.heap.size + 4) w.heap.size 36 3 1 (fun pre => (cntP zs n wd gap pre).length) (fun pre => (cntP zs n wd gap pre).map (Value.int .i64)) (fun _ _ => True)) _) (ownFrom_below (Nat.le_refl _) (by rw [sz]; omega))) (ownFrom_size _ _))
    (fun _ _ _ _ _ hs _ _ => hs)
    ⟨⟨⟨_, bO, World.ownsRow_nil _ _ _ _, trivial⟩, N0⟩, by rw [sz]; omega⟩
    (fun x => { tmps := #[.slice (some ⟨b, off, none⟩) n c, .int .i64 wd, .int .i64 gap, undef, undef, undef, .slice none 0 0, .pointer (some ⟨w.heap.size, 0, none⟩), .slice (some ⟨b, off + st zs n wd gap x.1 * 2, none⟩) (ln zs n wd gap (st zs n wd gap x.1)) (c - st zs n wd gap x.1), .slice (some ⟨b, off, none⟩) n c, .int .i64 wd, .int .i64 gap, .func (.func 63) #[] #[.pointer (some ⟨w.heap.size + 1, 0, none⟩), .pointer (some ⟨w.heap.size + 2, 0, none⟩), .pointer (some ⟨w.heap.size + 3, 0, none⟩)], .slice (some ⟨b, off + st zs n wd gap x.1 * 2, none⟩) (ln zs n wd gap (st zs n wd gap x.1)) (c - st zs n wd gap x.1), undef, undef, undef, undef, undef, undef], defers := [] }) ?assign ?body ?done ?stop
  case assign =>
    intro l x W K hK
    dsimp only [encL]
    gi_wp2
    exact hK
  case body =>
    rintro l pre x W ⟨⟨⟨v, hv, hrow, _⟩, hB⟩, hS⟩ hlt
    have hc := hv.cell
    have PL := Lib.hid (cntP_len zs n wd gap pre)
    have ln16 : ((ln zs n wd gap (st zs n wd gap x.1) : Nat) : Int) ≤ 12 := by have := line_in x.2; omega
    generalize hL : ln zs n wd gap (st zs n wd gap x.1) = L at *
    have CS := cntP_snoc zs n wd gap pre x
    rw [hL] at CS
    gi_wp2_with (gi_at_builtin; refine wpListIn_append_own _ rfl _ _ 36 rfl (w.heap.size + 4) 3 i0 (.int .i64 0) 1 8 Try.underlying36 hi hz0 hz1 hz2 rfl (by decide) _ _ _ rfl (hrow.alloc _) ⟨W.heap.size, 0, none⟩ 1 1 [.int .i64 (L : Int)] rfl rfl (cell_one_new _ _ _) (by simp [Value.oneCell']) (by have := PL.out; unfold maxLen; omega) (by have := PL.out; omega) (by simp; omega) ?_; intro v' w1 hown' hgrow _; obtain ⟨g', cap', rfl⟩ := ownsRow_succ hown'; obtain ⟨hv1, hv2, hr2, hk2, hb2, hk3⟩ := box_app (by decide) hv hrow hS hown' hgrow; have hc1 := hv1.cell; have hf1 := hv1.frozen)
    exact ⟨hk2.from _, hk3, ⟨⟨_, hv2, by rw [CS]; simpa using hr2, trivial⟩, hB.trans hb2⟩, Nat.le_trans hS hk3.size⟩
  case done =>
    rintro D ys W hD rfl ⟨⟨⟨v, hv, hrow, _⟩, hB⟩, hS⟩ hK
    have hc := hv.cell
    have e : cntP zs n wd gap (upN (nl zs n wd gap) (nl zs n wd gap) (Nat.le_refl _)) = cnL zs n wd gap (nl zs n wd gap) := upN_map _ (fun k => ((ln zs n wd gap (st zs n wd gap k) : Nat) : Int)) _ _
    rw [e] at hrow
    gi_wp2
    refine ⟨by simp, .inl ⟨_, _, rfl, run_takeDeferred hK, ?_⟩⟩
    exact ⟨_, results_tmp rfl _ _ _, ans_box rfl (ownsRow_putObj hrow _ hK rfl) (hB.trans (belowK_b (w := w) (Nat.le_refl _) W D _ _ (by rw [sz] at hD; omega) hK rfl rfl))⟩
  case stop =>
    rintro D c pre W _ _ h _
    exact h.elim
set_option maxRecDepth 100000 in
set_option maxHeartbeats 4000000 in
theorem LineCounts_no (A : Option Addr) (b off c2 n c : Nat) (zs : List Int) (wd gap : Int) (hn : n ≤ 1048576) (hok : wrOk zs n wd gap = false ∨ n = 0) (w : World) (hx : Sts 2 w A n zs) :
    CallsIn Fence.wide 6 Try.prog 23 #[.slice A n c, .int .i64 wd, .int .i64 gap] w (Ans w []) := by
  obtain ⟨i0, hi, hz0, hz1, hz2⟩ := info_parts info_int
  refine callsIn_of_wp_marks Try.func23 rfl trivial ?_ rfl
  simp only [Try.ntmps23, List.size_toArray, List.length_cons, List.length_nil, Nat.reduceAdd, Nat.reduceSub, Array.replicate_succ, Array.replicate_zero, List.push_toArray, List.append_toArray, List.nil_append, List.cons_append]
  gi_wp2_with (first | (refine ⟨trivial, ?_⟩; gi_at_call 43; refine (callsIn_wide.2 (linesOf_any _ n c wd gap _)).mono ?_; rintro e w' ⟨rfl, rfl⟩))
  have bO := (((Boxed.new w 36 (.slice none 0 0)).alloc (.cells #[.slice A n c] 26)).alloc (.cells #[.int .i64 wd] 3)).alloc (.cells #[.int .i64 gap] 3)
  have N0 : New w ((((w.alloc (.cells #[.slice none 0 0] 36)).alloc (.cells #[.slice A n c] 26)).alloc (.cells #[.int .i64 wd] 3)).alloc (.cells #[.int .i64 gap] 3)) := by (repeat (first | exact New.refl _ | assumption | refine New.alloc ?_ _ | refine New.drew ?_ | refine New.drewN ?_ _ | refine New.setCell ?_ (by first | omega | (simp; omega) | (simp; done)) _ | refine New.trans ?_ (by assumption)))
  have cl : ((((w.alloc (.cells #[.slice none 0 0] 36)).alloc (.cells #[.slice A n c] 26)).alloc (.cells #[.int .i64 wd] 3)).alloc (.cells #[.int .i64 gap] 3)).cell? ⟨w.heap.size + 1, 0, none⟩ = some (.slice A n c) := by simp [go_sem]
  have cw : ((((w.alloc (.cells #[.slice none 0 0] 36)).alloc (.cells #[.slice A n c] 26)).alloc (.cells #[.int .i64 wd] 3)).alloc (.cells #[.int .i64 gap] 3)).cell? ⟨w.heap.size + 1 + 1, 0, none⟩ = some (.int .i64 wd) := by simp [go_sem]
  have cg : ((((w.alloc (.cells #[.slice none 0 0] 36)).alloc (.cells #[.slice A n c] 26)).alloc (.cells #[.int .i64 wd] 3)).alloc (.cells #[.int .i64 gap] 3)).cell? ⟨w.heap.size + 1 + 2, 0, none⟩ = some (.int .i64 gap) := by simp [go_sem]
  have sz : ((((w.alloc (.cells #[.slice none 0 0] 36)).alloc (.cells #[.slice A n c] 26)).alloc (.cells #[.int .i64 wd] 3)).alloc (.cells #[.int .i64 gap] 3)).heap.size = w.heap.size + 4 := by simp
  refine wpIn_rangeFunc_ownG rfl (by omega) (gf := 63) (lb := #[.pointer (some ⟨w.heap.size + 1, 0, none⟩), .pointer (some ⟨w.heap.size + 2, 0, none⟩), .pointer (some ⟨w.heap.size + 3, 0, none⟩)]) rfl trivial (enters_of Try.func63 (by kernel_rfl) rfl)
    (lines_none w.heap.size (w.heap.size + 1) n c A zs wd gap b off c2 hok hn _ (hx.new N0) cl cw cg) Keep3.trans (Keep3.b (by rw [sz]; omega) (by rw [sz]; omega)) (Below.refl _ _) (fun _ => rfl)
    (fun pre W => ((∃ v, Boxed W w.heap.size 36 v ∧ W.ownsRow (w.heap.size + 4) 3 1 v (cntP zs n wd gap pre).length ((cntP zs n wd gap pre).map (Value.int .i64)) ∧ True) ∧ Below w.heap.size w W) ∧ w.heap.size + 4 ≤ W.heap.size)
    (fun _ _ _ => False)
    (OwnFrom.and (OwnFrom.and (Go.Own.from (holdsRow_own (w.heap.size + 4) w.heap.size 36 3 1 (fun pre => (cntP zs n wd gap pre).length) (fun pre => (cntP zs n wd gap pre).map (Value.int .i64)) (fun _ _ => True)) _) (ownFrom_below (Nat.le_refl _) (by rw [sz]; omega))) (ownFrom_size _ _))
    (fun _ _ _ _ _ hs _ _ => hs)
    ⟨⟨⟨_, bO, World.ownsRow_nil _ _ _ _, trivial⟩, N0⟩, by rw [sz]; omega⟩
    (fun x => { tmps := #[.slice A n c, .int .i64 wd, .int .i64 gap, undef, undef, undef, .slice none 0 0, .pointer (some ⟨w.heap.size, 0, none⟩), .slice (some ⟨b, off + st zs n wd gap x.1 * 2, none⟩) (ln zs n wd gap (st zs n wd gap x.1)) (c2 - st zs n wd gap x.1), .slice A n c, .int .i64 wd, .int .i64 gap, .func (.func 63) #[] #[.pointer (some ⟨w.heap.size + 1, 0, none⟩), .pointer (some ⟨w.heap.size + 2, 0, none⟩), .pointer (some ⟨w.heap.size + 3, 0, none⟩)], .slice (some ⟨b, off + st zs n wd gap x.1 * 2, none⟩) (ln zs n wd gap (st zs n wd gap x.1)) (c2 - st zs n wd gap x.1), undef, undef, undef, undef, undef, undef], defers := [] }) ?assign ?body ?done ?stop
  case assign =>
    intro l x W K hK
    dsimp only [encL]
    gi_wp2
    exact hK
  case body =>
    rintro l pre x W _ hlt
    exact absurd hlt (Nat.not_lt_zero _)
  case done =>
    rintro D ys W hD rfl ⟨⟨⟨v, hv, hrow, _⟩, hB⟩, hS⟩ hK
    have hc := hv.cell
    have e : cntP zs n wd gap [] = [] := rfl
    rw [e] at hrow
    gi_wp2
    refine ⟨by simp, .inl ⟨_, _, rfl, run_takeDeferred hK, ?_⟩⟩
    exact ⟨_, results_tmp rfl _ _ _, ans_box rfl (ownsRow_putObj hrow _ hK rfl) (hB.trans (belowK_b (w := w) (Nat.le_refl _) W D _ _ (by rw [sz] at hD; omega) hK rfl rfl))⟩
  case stop =>
    rintro D c pre W _ _ h _
    exact h.elim
theorem LineCounts_any (A : Option Addr) (n c : Nat) (zs : List Int) (wd gap : Int) (hn : n ≤ 1048576) (hnc : n ≤ c) (w : World) (hx : Sts 2 w A n zs) :
    Calls Try.prog 23 #[.slice A n c, .int .i64 wd, .int .i64 gap] w (Ans w (lcA zs n wd gap)) := by
  refine (callsIn_wide (n := 6)).1 ?_
  cases hok : wrOk zs n wd gap
  · rw [lcA, hok]
    exact LineCounts_no A 0 0 0 n c zs wd gap hn (.inl hok) w hx
  · rcases Nat.eq_zero_or_pos n with rfl | h0
    · have e : lcA zs 0 wd gap = [] := by rw [lcA, if_pos hok]; rfl
      rw [e]
      exact LineCounts_no A 0 0 0 0 c zs wd gap hn (.inr rfl) w hx
    · obtain ⟨b, off, rfl, _⟩ := hx.at_ h0
      rw [lcA, if_pos hok]
      exact LineCounts_yes b off n c zs wd gap hok h0 hnc w hx
end Go.Proofs.Ytpkajdnndognnaa
