/- Plain facts on the roots of one marked box, and of a box and one around it. No condition. -/
import Derived.Test.YtobnjagmakhgpaaDirtyL
import Derived.Test.YtobnjagmakhgpaaYD
namespace Go.Proofs.Ytobnjagmakhgpaa
open Go.RowKit

section
variable {zs ms : List Int} {n a u : Nat}
theorem filter_only {p : Nat → Bool} (hu : u < n) (h : ∀ i, i < n → p i = (i == u)) : (List.range n).filter p = [u] := by
  rw [List.filter_congr (q := fun i => i == u) fun i hi => h i (List.mem_range.1 hi)]
  obtain ⟨d, rfl⟩ : ∃ d, n = u + (1 + d) := ⟨n - u - 1, by omega⟩
  rw [List.range_add, List.range_add, List.filter_append]
  have h1 : (List.range u).filter (fun i => i == u) = [] := List.filter_eq_nil_iff.2 fun x hx => by have := List.mem_range.1 hx; simp; omega
  have h2 : (List.map (u + ·) (List.range 1 ++ List.map (1 + ·) (List.range d))).filter (fun i => i == u) = [u] := by
    rw [List.map_append, List.filter_append]
    have h3 : ((List.map (1 + ·) (List.range d)).map (u + ·)).filter (fun i => i == u) = [] := List.filter_eq_nil_iff.2 fun x hx => by
      obtain ⟨y, hy, rfl⟩ := List.mem_map.1 hx
      obtain ⟨z, _, rfl⟩ := List.mem_map.1 hy
      simp
    rw [h3]
    simp
  rw [h1, h2]; rfl
/-- A box and one around it have the one around as their root. -/
theorem root_two (hv : vtB n zs = true) (ha : a < n) (h : anc zs u a = true) : drA n zs [(a : Int), (u : Int)] = [(u : Int)] := by
  have hu := anc_le h
  have hb : ∀ z ∈ [(a : Int), (u : Int)], 0 ≤ z ∧ z < (n : Int) := fun z hz => by
    simp at hz; omega
  rw [drA_yes (mks_mk hv (by simp) hb)]
  have e : rootL n zs [(a : Int), (u : Int)] = [u] := filter_only (by omega) fun i hi => by
    rw [Bool.eq_iff_iff, beq_iff_eq, beq_iff_eq, root_iff (fun z hz => (hb z hz).1)]
    constructor
    · rintro ⟨h1, h2⟩
      have h3 := mk_iff.1 h1
      rcases h2 (u : Int) (by simp) with h4 | h4
      · omega
      · rw [Int.toNat_natCast] at h4
        simp at h3
        rcases h3 with h3 | h3
        · obtain rfl : i = a := by omega
          rw [h] at h4; cases h4
        · omega
    · rintro rfl
      refine ⟨mk_iff.2 (by simp), fun z hz => ?_⟩
      simp at hz
      rcases hz with hz | hz
      · rw [hz, Int.toNat_natCast]
        cases h5 : anc zs a i with
        | false => exact .inr rfl
        | true => have := anc_le h5; exact .inl (by omega)
      · exact .inl hz
  rw [e]; rfl
/-- One box is its own root. -/
theorem root_one (hv : vtB n zs = true) (ha : a < n) : drA n zs [(a : Int)] = [(a : Int)] := by
  have hb : ∀ z ∈ [(a : Int)], 0 ≤ z ∧ z < (n : Int) := fun z hz => by simp at hz; omega
  rw [drA_yes (mks_mk hv (by simp) hb)]
  have e : rootL n zs [(a : Int)] = [a] := filter_only ha fun i hi => by
    rw [Bool.eq_iff_iff, beq_iff_eq, beq_iff_eq, root_iff (fun z hz => (hb z hz).1)]
    constructor
    · rintro ⟨h1, _⟩
      have h3 := mk_iff.1 h1
      simp at h3; omega
    · rintro rfl
      exact ⟨mk_iff.2 (by simp), fun z hz => by simp at hz; exact .inl hz⟩
  rw [e]; rfl
theorem marks_some (h : marksB n zs ms = true) (hz : 0 < (drA n zs ms).length) : 0 < ms.length := by
  have h1 := mk_iff.1 (root_marked h hz)
  exact List.length_pos_of_mem h1
theorem lit2i (w : World) (a b : Int) (t : TypeId) : Ints (w.alloc (.cells #[.int .i64 a, .int .i64 b] t)) (some ⟨w.heap.size, 0, none⟩) 2 [a, b] :=
  ⟨rfl, fun _ => ⟨w.heap.size, 0, rfl, by simp, fun i hi => by
    match i, hi with
    | 0, _ => simp [go_sem]
    | 1, _ => simp [go_sem]⟩⟩
end
end Go.Proofs.Ytobnjagmakhgpaa
