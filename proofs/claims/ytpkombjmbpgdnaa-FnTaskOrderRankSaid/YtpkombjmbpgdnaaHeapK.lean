/- slices.SortFunc over byId on a queue of the call's own, walked. Conditions: at most 10 tasks; their numbers differ. -/
import Derived.Test.YtpkombjmbpgdnaaHeapR
namespace Go.Proofs.Ytpkombjmbpgdnaa
open Go.RowKit

/-- The first k tasks ascend. -/
def AscF (f : Nat → Tk) (k : Nat) : Prop := ∀ a b, a < b → b < k → (f a).1 < (f b).1
/-- The first i + 1 tasks ascend, but task j, which is before all behind it. -/
def SInv (f : Nat → Tk) (i j : Nat) : Prop := j ≤ i ∧ (∀ a b, a < b → b ≤ i → a ≠ j → b ≠ j → (f a).1 < (f b).1) ∧ ∀ b, j < b → b ≤ i → (f j).1 < (f b).1
section
variable {f : Nat → Tk} {i j n : Nat} {t : Tk}
theorem sinv_start (h : AscF f i) : SInv f i i := ⟨Nat.le_refl _, fun a b hab hb _ hn => h a b hab (by omega), fun b h1 h2 => by omega⟩
theorem sinv_done (h : SInv f i j) (hj : j = 0 ∨ (f (j - 1)).1 < (f j).1) : AscF f (i + 1) := fun a b hab hb => by
  by_cases e1 : a = j
  · subst e1; exact h.2.2 b hab (by omega)
  · by_cases e2 : b = j
    · subst e2
      rcases hj with h0 | h0
      · omega
      · by_cases e3 : a = b - 1
        · subst e3; exact h0
        · have := h.2.1 a (b - 1) (by omega) (by omega) e1 (by omega); omega
    · exact h.2.1 a b hab (by omega) e1 e2
theorem sinv_step (h : SInv f i j) (h0 : 0 < j) (hl : (f j).1 < (f (j - 1)).1) : SInv (swp f j (j - 1)) i (j - 1) := by
  refine ⟨by have := h.1; omega, fun a b hab hb ha hn => ?_, fun b h1 h2 => ?_⟩
  · by_cases e1 : a = j
    · rw [e1, swp_l, swp_o (by omega) hn]
      exact h.2.1 (j - 1) b (by omega) hb (by omega) (by omega)
    · rw [swp_o e1 ha]
      by_cases e2 : b = j
      · rw [e2, swp_l]
        exact h.2.1 a (j - 1) (by omega) (by have := h.1; omega) e1 (by omega)
      · rw [swp_o e2 hn]
        exact h.2.1 a b hab hb e1 e2
  · rw [swp_r]
    by_cases e : b = j
    · rw [e, swp_l]; exact hl
    · rw [swp_o e (by omega)]
      exact h.2.2 b (by omega) h2
end
/-- What sorting leaves. -/
def Sorted (lo P g c n k : Nat) (f : Nat → Tk) (w w' : World) : Prop := ∃ f', Qu lo w' P g c n f' ∧ AscF f' k ∧ Inj f' n ∧ (∀ t, Mem f' n t ↔ Mem f n t) ∧ w.grownBy w' (some g)
/-- In the midst of it. -/
def Sorting (lo P g c n i j : Nat) (f : Nat → Tk) (w w' : World) (f' : Nat → Tk) : Prop := Qu lo w' P g c n f' ∧ SInv f' i j ∧ Inj f' n ∧ (∀ t, Mem f' n t ↔ Mem f n t) ∧ w.grownBy w' (some g)
set_option maxRecDepth 100000 in
set_option maxHeartbeats 1000000 in
theorem insSort_any (lo P g c n : Nat) (f : Nat → Tk) (hn : n ≤ 10) (w : World) (h : Qu lo w P g c n f) (hi : Inj f n) :
    Calls Try.prog 39 #[.slice (some ⟨g, 0, none⟩) n c, .int .i64 0, .int .i64 n, .func (.func 22) #[] #[]] w fun e w' => e = .returned (.tuple #[]) ∧ Sorted lo P g c n n f w w' := by
  have H0 : Hid (Sorted lo P g c n 1 f w w) := Lib.hid ⟨f, h, fun a b h1 h2 => by omega, hi, fun _ => Iff.rfl, World.grownBy.refl _ _⟩
  have ni : (n : Int) ≤ 10 := by omega
  clear h hi
  go_enter Try.func39, Try.ntmps39
  go_wp2
  go_loopw [8] (fun i wr => ∃ k : Nat, 1 ≤ k ∧ k ≤ n + 1 ∧ i = .int .i64 k ∧ Hid (Sorted lo P g c n k f w wr)) (fun i _ => n + 1 - (intOf i).toNat)
  case atStart => exact ⟨1, by omega, by omega, rfl, H0⟩
  case round =>
    clear H0
    obtain ⟨k, k1, kn, rfl, HS⟩ := hrel
    have kz : (0 : Int) ≤ (k : Int) := by omega
    by_cases hlt : k < n
    · have kl : (k : Int) < (n : Int) := by omega
      obtain ⟨f1, hQ, hA, hI, hM, hG⟩ := HS.out
      have HT : Hid (Sorting lo P g c n k k f w wr f1) := Lib.hid ⟨hQ, sinv_start hA, hI, hM, hG⟩
      clear hQ hA hI hM hG HS
      obtain ⟨wo, hwo⟩ : ∃ x, x = wr := ⟨wr, rfl⟩
      rw [← hwo] at HT ⊢
      clear hwo
      go_wp2
      go_loopw [9] (fun j wq => ∃ (m : Nat) (z : Int) (f2 : Nat → Tk), m ≤ k ∧ j = .int .i64 z ∧ Hid (z = (m : Int)) ∧ Hid (Sorting lo P g c n k m f w wq f2)) (fun j _ => (intOf j).toNat)
      case atStart => exact ⟨k, _, f1, by omega, rfl, Lib.hid rfl, HT⟩
      case round =>
        clear HT
        obtain ⟨m, z, f2, hm, rfl, HZ, HT⟩ := hrel
        cases m with
        | zero =>
          obtain rfl : z = 0 := by simpa using HZ.out
          have FIN : Hid (Sorted lo P g c n (k + 1) f w wr.drew) := Lib.hid (by
            obtain ⟨hQ, hA, hI, hM, hG⟩ := HT.out
            exact ⟨f2, hQ.new (New.refl _).drew, sinv_done hA (.inl rfl), hI, hM, only_drew hG⟩)
          go_wp2
          refine wp_region_noPanic ?_
          refine wp_region_held_drew (S := fun _ => True) (by kernel_rfl) (trivial) (fun hHeld => ?_)
          refine wpAnyH_take (i := 0) (oi := _) (v := ?_) rfl (by kernel_rfl) (by kernel_rfl) (by kernel_rfl) (fun _ _ _ h => h) (Or.inl ⟨by kernel_rfl, ?_⟩) (by assumption) ?_
          rotate_left; (intro w' hSw; (try dsimp only at hSw); go_split_ands; go_simp; (try with_reducible rfl))
          try dsimp only [Act.put]
          refine wpAnyH_take (i := 1) (oi := _) (v := ?_) rfl (by kernel_rfl) (by kernel_rfl) (by kernel_rfl) (fun _ _ _ h => h) (Or.inl ⟨by kernel_rfl, ?_⟩) (by assumption) ?_
          rotate_left; (intro w' hSw; (try dsimp only at hSw); go_split_ands; go_simp; (try with_reducible rfl))
          try dsimp only [Act.put]
          refine wpAnyH_take (i := 2) (oi := _) (v := ?_) rfl (by kernel_rfl) (by kernel_rfl) (by kernel_rfl) (fun _ _ _ h => h) (Or.inl ⟨by kernel_rfl, ?_⟩) (by assumption) ?_
          rotate_left; (intro w' hSw; (try dsimp only at hSw); go_split_ands; go_simp; (try with_reducible rfl))
          try dsimp only [Act.put]
          refine wpAnyH_take (i := 3) (oi := _) (v := ?_) rfl (by kernel_rfl) (by kernel_rfl) (by kernel_rfl) (fun _ _ _ h => h) (Or.inl ⟨by kernel_rfl, ?_⟩) (by assumption) ?_
          rotate_left; (intro w' hSw; (try dsimp only at hSw); go_split_ands; go_simp; (try with_reducible rfl))
          try dsimp only [Act.put]
          refine wpAnyH_take (i := 4) (oi := _) (v := undef) rfl (by kernel_rfl) (by kernel_rfl) (by kernel_rfl) (fun _ _ _ h => h) (Or.inr ⟨by kernel_rfl, rfl⟩) (by assumption) ?_
          try dsimp only [Act.put]
          refine wpAnyH_take (i := 5) (oi := _) (v := undef) rfl (by kernel_rfl) (by kernel_rfl) (by kernel_rfl) (fun _ _ _ h => h) (Or.inr ⟨by kernel_rfl, rfl⟩) (by assumption) ?_
          try dsimp only [Act.put]
          refine wpAnyH_take (i := 6) (oi := _) (v := undef) rfl (by kernel_rfl) (by kernel_rfl) (by kernel_rfl) (fun _ _ _ h => h) (Or.inr ⟨by kernel_rfl, rfl⟩) (by assumption) ?_
          try dsimp only [Act.put]
          refine wpAnyH_take (i := 7) (oi := _) (v := undef) rfl (by kernel_rfl) (by kernel_rfl) (by kernel_rfl) (fun _ _ _ h => h) (Or.inr ⟨by kernel_rfl, rfl⟩) (by assumption) ?_
          try dsimp only [Act.put]
          refine wpAnyH_take (i := 8) (oi := _) (v := undef) rfl (by kernel_rfl) (by kernel_rfl) (by kernel_rfl) (fun _ _ _ h => h) (Or.inr ⟨by kernel_rfl, rfl⟩) (by assumption) ?_
          try dsimp only [Act.put]
          refine wpAnyH_take (i := 9) (oi := _) (v := undef) rfl (by kernel_rfl) (by kernel_rfl) (by kernel_rfl) (fun _ _ _ h => h) (Or.inr ⟨by kernel_rfl, rfl⟩) (by assumption) ?_
          try dsimp only [Act.put]
          refine wpAnyH_take (i := 10) (oi := _) (v := undef) rfl (by kernel_rfl) (by kernel_rfl) (by kernel_rfl) (fun _ _ _ h => h) (Or.inr ⟨by kernel_rfl, rfl⟩) (by assumption) ?_
          try dsimp only [Act.put]
          refine wpAnyH_take (i := 11) (oi := _) (v := undef) rfl (by kernel_rfl) (by kernel_rfl) (by kernel_rfl) (fun _ _ _ h => h) (Or.inr ⟨by kernel_rfl, rfl⟩) (by assumption) ?_
          try dsimp only [Act.put]
          refine wpAnyH_take (i := 12) (oi := _) (v := undef) rfl (by kernel_rfl) (by kernel_rfl) (by kernel_rfl) (fun _ _ _ h => h) (Or.inr ⟨by kernel_rfl, rfl⟩) (by assumption) ?_
          try dsimp only [Act.put]
          refine wpAnyH_take (i := 13) (oi := _) (v := undef) rfl (by kernel_rfl) (by kernel_rfl) (by kernel_rfl) (fun _ _ _ h => h) (Or.inr ⟨by kernel_rfl, rfl⟩) (by assumption) ?_
          try dsimp only [Act.put]
          refine wpAnyH_take (i := 14) (oi := _) (v := undef) rfl (by kernel_rfl) (by kernel_rfl) (by kernel_rfl) (fun _ _ _ h => h) (Or.inr ⟨by kernel_rfl, rfl⟩) (by assumption) ?_
          try dsimp only [Act.put]
          refine wpAnyH_take (i := 15) (oi := _) (v := undef) rfl (by kernel_rfl) (by kernel_rfl) (by kernel_rfl) (fun _ _ _ h => h) (Or.inr ⟨by kernel_rfl, rfl⟩) (by assumption) ?_
          try dsimp only [Act.put]
          refine wpAnyH_take (i := 16) (oi := _) (v := ?_) rfl (by kernel_rfl) (by kernel_rfl) (by kernel_rfl) (fun _ _ _ h => h) (Or.inl ⟨by kernel_rfl, ?_⟩) (by assumption) ?_
          rotate_left; (intro w' hSw; (try dsimp only at hSw); go_split_ands; go_simp; (try with_reducible rfl))
          try dsimp only [Act.put]
          refine wpAnyH_done (by kernel_rfl) ?_ _
          refine NoPanic.normal ?_
          go_simp
          go_wp2
          go_roundw
          case rel => exact ⟨k + 1, by omega, by omega, by go_num, FIN⟩
          case measure => simp [intOf]; omega
        | succ q =>
          obtain rfl : z = (q : Int) + 1 := by have := HZ.out; omega
          have qz : (0 : Int) ≤ (q : Int) := by omega
          have ql : (q : Int) < (n : Int) := by omega
          have ml : (q : Int) + 1 < (n : Int) := by omega
          have qs : (q : Int) + 1 - 1 = (q : Int) := by omega
          have qp : (0 : Int) < (q : Int) + 1 := by omega
          have qp0 : (0 : Int) ≤ (q : Int) + 1 := by omega
          have qw2 : IntKind.i64.wrap (q : Int) = (q : Int) := IntWalk.i64_in _ (by omega)
          have tn : ((q : Int) + 1).toNat = q + 1 := by omega
          have qw : IntKind.i64.wrap ((q : Int) + 1 - 1) = (q : Int) := by rw [qs]; exact IntWalk.i64_in _ (by omega)
          obtain ⟨hQ, hA, hI, hM, hG⟩ := HT.out
          obtain ⟨e0, e1, e2⟩ := hQ.at_ (k := q + 1) (by omega)
          obtain ⟨d0, d1, d2⟩ := hQ.at_ (k := q) (by omega)
          have gl := hQ.row.2.1
          have ne_ : (f2 (q + 1)).1 ≠ (f2 q).1 := fun e => by have := hI (q + 1) q (by omega) (by omega) e; omega
          have STEP : Hid ((f2 (q + 1)).1 < (f2 q).1 → ∀ X, Sorting lo P g c n k (q + 1) f w X f2 → (∀ Y, X.grownBy Y (some g) → Qu lo Y P g c n (swp f2 (q + 1) q) → Sorting lo P g c n k q f w Y (swp f2 (q + 1) q))) := Lib.hid (fun hl X hX Y hXY hY => by
            obtain ⟨_, a2, a3, a4, a5⟩ := hX
            exact ⟨hY, sinv_step (j := q + 1) a2 (by omega) hl, swp_inj (by omega) (by omega) a3, fun t => (swp_mem (by omega) (by omega)).trans (a4 t), World.grownBy.trans a5 hXY⟩)
          have DONE : Hid (¬ (f2 (q + 1)).1 < (f2 q).1 → ∀ X, New wr X → Sorted lo P g c n (k + 1) f w X) := Lib.hid (fun hl X hX => ⟨f2, hQ.new hX, sinv_done hA (.inr (by show (f2 q).1 < (f2 (q + 1)).1; omega)), hI, hM, World.grownBy.trans hG (hX.grown _)⟩)
          have KEEP : Hid (∀ X, New wr X → Sorting lo P g c n k (q + 1) f w X f2) := Lib.hid (fun X hX => ⟨hQ.new hX, hA, hI, hM, World.grownBy.trans hG (hX.grown _)⟩)
          have MK := Lib.hid (fun X (hX : New wr X) => (⟨(hQ.new hX).at_ (k := q + 1) (by omega), (hQ.new hX).at_ (k := q) (by omega), (hQ.new hX).marks_ (k := q + 1) (by omega), (hQ.new hX).marks_ (k := q) (by omega)⟩ : (X.cell? ⟨g, (q + 1) * 3, none⟩ = some (.int .i64 (f2 (q + 1)).1) ∧ X.cell? ⟨g, (q + 1) * 3 + 1, none⟩ = some (.int .i64 (f2 (q + 1)).2.1) ∧ X.cell? ⟨g, (q + 1) * 3 + 2, none⟩ = some (.int .i64 (f2 (q + 1)).2.2)) ∧ (X.cell? ⟨g, q * 3, none⟩ = some (.int .i64 (f2 q).1) ∧ X.cell? ⟨g, q * 3 + 1, none⟩ = some (.int .i64 (f2 q).2.1) ∧ X.cell? ⟨g, q * 3 + 2, none⟩ = some (.int .i64 (f2 q).2.2)) ∧ (X.frozen? ⟨g, (q + 1) * 3, none⟩ = false ∧ X.frozen? ⟨g, (q + 1) * 3 + 1, none⟩ = false ∧ X.frozen? ⟨g, (q + 1) * 3 + 2, none⟩ = false) ∧ X.frozen? ⟨g, q * 3, none⟩ = false ∧ X.frozen? ⟨g, q * 3 + 1, none⟩ = false ∧ X.frozen? ⟨g, q * 3 + 2, none⟩ = false))
          have SW := Lib.hid (fun X (hX : New wr X) => (show Qu lo _ P g c n (swp f2 (q + 1) q) ∧ X.grownBy _ (some g) from ⟨((hQ.new hX).swp (q + 1) q).new (New.refl _).drew, only6 (w := X) (g := g) ((q + 1) * 3) ((q + 1) * 3 + 1) ((q + 1) * 3 + 2) (q * 3) (q * 3 + 1) (q * 3 + 2) (.int .i64 (f2 q).1) (.int .i64 (f2 q).2.1) (.int .i64 (f2 q).2.2) (.int .i64 (f2 (q + 1)).1) (.int .i64 (f2 (q + 1)).2.1) (.int .i64 (f2 (q + 1)).2.2)⟩))
          have CB := Lib.hid (fun X => byId_any (f2 (q + 1)).1 (f2 (q + 1)).2.1 (f2 (q + 1)).2.2 (f2 q).1 (f2 q).2.1 (f2 q).2.2 X)
          clear hQ hA hI hM hG
          generalize hf' : swp f2 (q + 1) q = f3 at *
          clear hf'
          generalize (f2 (q + 1)).1 = x0 at *
          generalize (f2 (q + 1)).2.1 = x1 at *
          generalize (f2 (q + 1)).2.2 = x2 at *
          generalize (f2 q).1 = y0 at *
          generalize (f2 q).2.1 = y1 at *
          generalize (f2 q).2.2 = y2 at *
          have ND := Lib.hid (New.refl wr).drew
          by_cases hxy : x0 < y0
          · have ci : cmpI x0 y0 = -1 := if_pos hxy
            have ST := Lib.hid (STEP.out hxy)
            clear e0 e1 e2 d0 d1 d2 hxy ne_
            go_wp2
            refine wp_region_noPanic ?_
            refine wp_region_held_drew (S := fun w' => (w'.cell? ⟨g, (q + 1) * 3, none⟩ = some (.int .i64 x0) ∧ w'.cell? ⟨g, (q + 1) * 3 + 1, none⟩ = some (.int .i64 x1) ∧ w'.cell? ⟨g, (q + 1) * 3 + 2, none⟩ = some (.int .i64 x2)) ∧ w'.cell? ⟨g, q * 3, none⟩ = some (.int .i64 y0) ∧ w'.cell? ⟨g, q * 3 + 1, none⟩ = some (.int .i64 y1) ∧ w'.cell? ⟨g, q * 3 + 2, none⟩ = some (.int .i64 y2)) (by kernel_rfl) (⟨(MK.out _ ND.out).1, (MK.out _ ND.out).2.1⟩) (fun hHeld => ?_)
            generalize wr.drew = Vd at ND hHeld ⊢
            refine wpAnyH_take (i := 0) (oi := _) (v := ?_) rfl (by kernel_rfl) (by kernel_rfl) (by kernel_rfl) (fun _ _ _ h => h) (Or.inl ⟨by kernel_rfl, ?_⟩) (by assumption) ?_
            rotate_left; (intro w' hSw; (try dsimp only at hSw); go_split_ands; go_simp; (try with_reducible rfl))
            try dsimp only [Act.put]
            refine wpAnyH_take (i := 1) (oi := _) (v := ?_) rfl (by kernel_rfl) (by kernel_rfl) (by kernel_rfl) (fun _ _ _ h => h) (Or.inl ⟨by kernel_rfl, ?_⟩) (by assumption) ?_
            rotate_left; (intro w' hSw; (try dsimp only at hSw); go_split_ands; go_simp; (try with_reducible rfl))
            try dsimp only [Act.put]
            refine wpAnyH_take (i := 2) (oi := _) (v := ?_) rfl (by kernel_rfl) (by kernel_rfl) (by kernel_rfl) (fun _ _ _ h => h) (Or.inl ⟨by kernel_rfl, ?_⟩) (by assumption) ?_
            rotate_left; (intro w' hSw; (try dsimp only at hSw); go_split_ands; go_simp; (try with_reducible rfl))
            try dsimp only [Act.put]
            refine wpAnyH_take (i := 3) (oi := _) (v := ?_) rfl (by kernel_rfl) (by kernel_rfl) (by kernel_rfl) (fun _ _ _ h => h) (Or.inl ⟨by kernel_rfl, ?_⟩) (by assumption) ?_
            rotate_left; (intro w' hSw; (try dsimp only at hSw); go_split_ands; go_simp; (try with_reducible rfl))
            try dsimp only [Act.put]
            refine wpAnyH_take (i := 4) (oi := _) (v := ?_) rfl (by kernel_rfl) (by kernel_rfl) (by kernel_rfl) (fun _ _ _ h => h) (Or.inl ⟨by kernel_rfl, ?_⟩) (by assumption) ?_
            rotate_left; (intro w' hSw; (try dsimp only at hSw); go_split_ands; go_simp; (try with_reducible rfl))
            try dsimp only [Act.put]
            refine wpAnyH_take (i := 5) (oi := _) (v := ?_) rfl (by kernel_rfl) (by kernel_rfl) (by kernel_rfl) (fun _ _ _ h => h) (Or.inl ⟨by kernel_rfl, ?_⟩) (by assumption) ?_
            rotate_left; (intro w' hSw; (try dsimp only at hSw); go_split_ands; go_simp; (try with_reducible rfl))
            try dsimp only [Act.put]
            refine wpAnyH_take (i := 6) (oi := _) (v := ?_) rfl (by kernel_rfl) (by kernel_rfl) (by kernel_rfl) (fun _ _ _ h => h) (Or.inl ⟨by kernel_rfl, ?_⟩) (by assumption) ?_
            rotate_left; (intro w' hSw; (try dsimp only at hSw); go_split_ands; go_simp; (try with_reducible rfl))
            try dsimp only [Act.put]
            refine wpAnyH_take (i := 7) (oi := _) (v := ?_) rfl (by kernel_rfl) (by kernel_rfl) (by kernel_rfl) (fun _ _ _ h => h) (Or.inl ⟨by kernel_rfl, ?_⟩) (by assumption) ?_
            rotate_left; (intro w' hSw; (try dsimp only at hSw); go_split_ands; go_simp; (try with_reducible rfl))
            try dsimp only [Act.put]
            refine wpAnyH_take (i := 8) (oi := _) (v := ?_) rfl (by kernel_rfl) (by kernel_rfl) (by kernel_rfl) (fun _ _ _ h => h) (Or.inl ⟨by kernel_rfl, ?_⟩) (by assumption) ?_
            rotate_left; (intro w' hSw; (try dsimp only at hSw); go_split_ands; go_simp; (try with_reducible rfl))
            try dsimp only [Act.put]
            refine wpAnyH_take (i := 9) (oi := _) (v := ?_) rfl (by kernel_rfl) (by kernel_rfl) (by kernel_rfl) (fun _ _ _ h => h) (Or.inl ⟨by kernel_rfl, ?_⟩) (by assumption) ?_
            rotate_left; (intro w' hSw; (try dsimp only at hSw); go_split_ands; go_simp; (try with_reducible rfl))
            try dsimp only [Act.put]
            refine wpAnyH_take (i := 10) (oi := _) (v := ?_) rfl (by kernel_rfl) (by kernel_rfl) (by kernel_rfl) (fun _ _ _ h => h) (Or.inl ⟨by kernel_rfl, ?_⟩) (by assumption) ?_
            rotate_left; (intro w' hSw; (try dsimp only at hSw); go_split_ands; go_simp; (try with_reducible rfl))
            try dsimp only [Act.put]
            refine wpAnyH_take (i := 11) (oi := _) (v := ?_) rfl (by kernel_rfl) (by kernel_rfl) (by kernel_rfl) (fun _ _ _ h => h) (Or.inl ⟨by kernel_rfl, ?_⟩) (by assumption) ?_
            rotate_left; (intro w' hSw; (try dsimp only at hSw); go_split_ands; go_simp; (try with_reducible rfl))
            try dsimp only [Act.put]
            refine wpAnyH_take (i := 12) (oi := _) (v := ?_) rfl (by kernel_rfl) (by kernel_rfl) (by kernel_rfl) (fun _ _ _ h => h) (Or.inl ⟨by kernel_rfl, ?_⟩) (by assumption) ?_
            rotate_left; (intro w' hSw; (try dsimp only at hSw); go_split_ands; go_simp; (try with_reducible rfl))
            try dsimp only [Act.put]
            refine wpAnyH_take (i := 13) (oi := _) (v := ?_) rfl (by kernel_rfl) (by kernel_rfl) (by kernel_rfl) (fun _ _ _ h => h) (Or.inl ⟨by kernel_rfl, ?_⟩) (by assumption) ?_
            rotate_left; (intro w' hSw; (try dsimp only at hSw); go_split_ands; go_simp; (try with_reducible rfl))
            try dsimp only [Act.put]
            refine wpAnyH_ready (rs := [14]) (by kernel_rfl) (by simp) ?_
            refine AllReadyH.cons (o := _) rfl (fun K hK => ?_) AllReadyH.nil
            go_simp
            go_at_call 22
            refine (CB.out _).mono ?_
            rintro e W ⟨rfl, NW⟩
            rw [ci]
            replace NW := Lib.hid (ND.out.trans NW)
            go_wp2_with fail
            refine hK.out _ _ (⟨(MK.out _ NW.out).1, (MK.out _ NW.out).2.1⟩) (fun hH14 => ?_)
            clear hK K
            try dsimp only [Act.put]
            refine wpAnyH_take (i := 15) (oi := _) (v := ?_) rfl (by kernel_rfl) (by kernel_rfl) (by kernel_rfl) (fun _ _ _ h => h) (Or.inl ⟨by kernel_rfl, ?_⟩) (by assumption) ?_
            rotate_left; (intro w' hSw; (try dsimp only at hSw); go_split_ands; go_simp; (try with_reducible rfl))
            try dsimp only [Act.put]
            refine wpAnyH_take (i := 16) (oi := _) (v := ?_) rfl (by kernel_rfl) (by kernel_rfl) (by kernel_rfl) (fun _ _ _ h => h) (Or.inl ⟨by kernel_rfl, ?_⟩) (by assumption) ?_
            rotate_left; (intro w' hSw; (try dsimp only at hSw); go_split_ands; go_simp; (try with_reducible rfl))
            try dsimp only [Act.put]
            refine wpAnyH_done (by kernel_rfl) ?_ _
            refine NoPanic.normal ?_
            go_simp
            obtain ⟨⟨e0, e1, e2⟩, ⟨d0, d1, d2⟩, ⟨m0, m1, m2⟩, k0, k1', k2⟩ := MK.out W NW.out
            go_wp2
            go_region
            have FS := Lib.hid (SW.out W NW.out)
            have FT := Lib.hid (ST.out W (KEEP.out W NW.out) _ FS.out.2 FS.out.1)
            go_wp2
            go_roundw
            case rel => exact ⟨q, _, f3, by omega, by go_num, Lib.hid rfl, FT⟩
            case measure => simp [intOf]
          · have ci : cmpI x0 y0 = 1 := by unfold cmpI; rw [if_neg hxy, if_pos (by omega)]
            have ST := Lib.hid (DONE.out hxy)
            clear e0 e1 e2 d0 d1 d2 hxy ne_
            go_wp2
            refine wp_region_noPanic ?_
            refine wp_region_held_drew (S := fun w' => (w'.cell? ⟨g, (q + 1) * 3, none⟩ = some (.int .i64 x0) ∧ w'.cell? ⟨g, (q + 1) * 3 + 1, none⟩ = some (.int .i64 x1) ∧ w'.cell? ⟨g, (q + 1) * 3 + 2, none⟩ = some (.int .i64 x2)) ∧ w'.cell? ⟨g, q * 3, none⟩ = some (.int .i64 y0) ∧ w'.cell? ⟨g, q * 3 + 1, none⟩ = some (.int .i64 y1) ∧ w'.cell? ⟨g, q * 3 + 2, none⟩ = some (.int .i64 y2)) (by kernel_rfl) (⟨(MK.out _ ND.out).1, (MK.out _ ND.out).2.1⟩) (fun hHeld => ?_)
            generalize wr.drew = Vd at ND hHeld ⊢
            refine wpAnyH_take (i := 0) (oi := _) (v := ?_) rfl (by kernel_rfl) (by kernel_rfl) (by kernel_rfl) (fun _ _ _ h => h) (Or.inl ⟨by kernel_rfl, ?_⟩) (by assumption) ?_
            rotate_left; (intro w' hSw; (try dsimp only at hSw); go_split_ands; go_simp; (try with_reducible rfl))
            try dsimp only [Act.put]
            refine wpAnyH_take (i := 1) (oi := _) (v := ?_) rfl (by kernel_rfl) (by kernel_rfl) (by kernel_rfl) (fun _ _ _ h => h) (Or.inl ⟨by kernel_rfl, ?_⟩) (by assumption) ?_
            rotate_left; (intro w' hSw; (try dsimp only at hSw); go_split_ands; go_simp; (try with_reducible rfl))
            try dsimp only [Act.put]
            refine wpAnyH_take (i := 2) (oi := _) (v := ?_) rfl (by kernel_rfl) (by kernel_rfl) (by kernel_rfl) (fun _ _ _ h => h) (Or.inl ⟨by kernel_rfl, ?_⟩) (by assumption) ?_
            rotate_left; (intro w' hSw; (try dsimp only at hSw); go_split_ands; go_simp; (try with_reducible rfl))
            try dsimp only [Act.put]
            refine wpAnyH_take (i := 3) (oi := _) (v := ?_) rfl (by kernel_rfl) (by kernel_rfl) (by kernel_rfl) (fun _ _ _ h => h) (Or.inl ⟨by kernel_rfl, ?_⟩) (by assumption) ?_
            rotate_left; (intro w' hSw; (try dsimp only at hSw); go_split_ands; go_simp; (try with_reducible rfl))
            try dsimp only [Act.put]
            refine wpAnyH_take (i := 4) (oi := _) (v := ?_) rfl (by kernel_rfl) (by kernel_rfl) (by kernel_rfl) (fun _ _ _ h => h) (Or.inl ⟨by kernel_rfl, ?_⟩) (by assumption) ?_
            rotate_left; (intro w' hSw; (try dsimp only at hSw); go_split_ands; go_simp; (try with_reducible rfl))
            try dsimp only [Act.put]
            refine wpAnyH_take (i := 5) (oi := _) (v := ?_) rfl (by kernel_rfl) (by kernel_rfl) (by kernel_rfl) (fun _ _ _ h => h) (Or.inl ⟨by kernel_rfl, ?_⟩) (by assumption) ?_
            rotate_left; (intro w' hSw; (try dsimp only at hSw); go_split_ands; go_simp; (try with_reducible rfl))
            try dsimp only [Act.put]
            refine wpAnyH_take (i := 6) (oi := _) (v := ?_) rfl (by kernel_rfl) (by kernel_rfl) (by kernel_rfl) (fun _ _ _ h => h) (Or.inl ⟨by kernel_rfl, ?_⟩) (by assumption) ?_
            rotate_left; (intro w' hSw; (try dsimp only at hSw); go_split_ands; go_simp; (try with_reducible rfl))
            try dsimp only [Act.put]
            refine wpAnyH_take (i := 7) (oi := _) (v := ?_) rfl (by kernel_rfl) (by kernel_rfl) (by kernel_rfl) (fun _ _ _ h => h) (Or.inl ⟨by kernel_rfl, ?_⟩) (by assumption) ?_
            rotate_left; (intro w' hSw; (try dsimp only at hSw); go_split_ands; go_simp; (try with_reducible rfl))
            try dsimp only [Act.put]
            refine wpAnyH_take (i := 8) (oi := _) (v := ?_) rfl (by kernel_rfl) (by kernel_rfl) (by kernel_rfl) (fun _ _ _ h => h) (Or.inl ⟨by kernel_rfl, ?_⟩) (by assumption) ?_
            rotate_left; (intro w' hSw; (try dsimp only at hSw); go_split_ands; go_simp; (try with_reducible rfl))
            try dsimp only [Act.put]
            refine wpAnyH_take (i := 9) (oi := _) (v := ?_) rfl (by kernel_rfl) (by kernel_rfl) (by kernel_rfl) (fun _ _ _ h => h) (Or.inl ⟨by kernel_rfl, ?_⟩) (by assumption) ?_
            rotate_left; (intro w' hSw; (try dsimp only at hSw); go_split_ands; go_simp; (try with_reducible rfl))
            try dsimp only [Act.put]
            refine wpAnyH_take (i := 10) (oi := _) (v := ?_) rfl (by kernel_rfl) (by kernel_rfl) (by kernel_rfl) (fun _ _ _ h => h) (Or.inl ⟨by kernel_rfl, ?_⟩) (by assumption) ?_
            rotate_left; (intro w' hSw; (try dsimp only at hSw); go_split_ands; go_simp; (try with_reducible rfl))
            try dsimp only [Act.put]
            refine wpAnyH_take (i := 11) (oi := _) (v := ?_) rfl (by kernel_rfl) (by kernel_rfl) (by kernel_rfl) (fun _ _ _ h => h) (Or.inl ⟨by kernel_rfl, ?_⟩) (by assumption) ?_
            rotate_left; (intro w' hSw; (try dsimp only at hSw); go_split_ands; go_simp; (try with_reducible rfl))
            try dsimp only [Act.put]
            refine wpAnyH_take (i := 12) (oi := _) (v := ?_) rfl (by kernel_rfl) (by kernel_rfl) (by kernel_rfl) (fun _ _ _ h => h) (Or.inl ⟨by kernel_rfl, ?_⟩) (by assumption) ?_
            rotate_left; (intro w' hSw; (try dsimp only at hSw); go_split_ands; go_simp; (try with_reducible rfl))
            try dsimp only [Act.put]
            refine wpAnyH_take (i := 13) (oi := _) (v := ?_) rfl (by kernel_rfl) (by kernel_rfl) (by kernel_rfl) (fun _ _ _ h => h) (Or.inl ⟨by kernel_rfl, ?_⟩) (by assumption) ?_
            rotate_left; (intro w' hSw; (try dsimp only at hSw); go_split_ands; go_simp; (try with_reducible rfl))
            try dsimp only [Act.put]
            refine wpAnyH_ready (rs := [14]) (by kernel_rfl) (by simp) ?_
            refine AllReadyH.cons (o := _) rfl (fun K hK => ?_) AllReadyH.nil
            go_simp
            go_at_call 22
            refine (CB.out _).mono ?_
            rintro e W ⟨rfl, NW⟩
            rw [ci]
            replace NW := Lib.hid (ND.out.trans NW)
            go_wp2_with fail
            refine hK.out _ _ (⟨(MK.out _ NW.out).1, (MK.out _ NW.out).2.1⟩) (fun hH14 => ?_)
            clear hK K
            try dsimp only [Act.put]
            refine wpAnyH_take (i := 15) (oi := _) (v := ?_) rfl (by kernel_rfl) (by kernel_rfl) (by kernel_rfl) (fun _ _ _ h => h) (Or.inl ⟨by kernel_rfl, ?_⟩) (by assumption) ?_
            rotate_left; (intro w' hSw; (try dsimp only at hSw); go_split_ands; go_simp; (try with_reducible rfl))
            try dsimp only [Act.put]
            refine wpAnyH_take (i := 16) (oi := _) (v := ?_) rfl (by kernel_rfl) (by kernel_rfl) (by kernel_rfl) (fun _ _ _ h => h) (Or.inl ⟨by kernel_rfl, ?_⟩) (by assumption) ?_
            rotate_left; (intro w' hSw; (try dsimp only at hSw); go_split_ands; go_simp; (try with_reducible rfl))
            try dsimp only [Act.put]
            refine wpAnyH_done (by kernel_rfl) ?_ _
            refine NoPanic.normal ?_
            go_simp
            have FT := Lib.hid (ST.out W NW.out)
            go_wp2
            go_roundw
            case rel => exact ⟨k + 1, by omega, by omega, by go_num, FT⟩
            case measure => simp [intOf]; omega
    · have FIN : Hid (Sorted lo P g c n n f w wr) := Lib.hid (by
        obtain ⟨f1, hQ, hA, hI, hM, hG⟩ := HS.out
        exact ⟨f1, hQ, fun a b h1 h2 => hA a b h1 (by omega), hI, hM, hG⟩)
      have kl : ¬ (k : Int) < (n : Int) := by omega
      go_wp2
      go_end0
      exact ⟨rfl, FIN.out⟩
end Go.Proofs.Ytpkombjmbpgdnaa
