/- Cleaning the first of the roots that are left leaves the others. No condition. -/
import Derived.Test.YtkaagpfgpacfcaaCleanL
namespace Go.Proofs.Ytkaagpfgpacfcaa
open Go.RowKit
variable {n : Nat} {zs ms : List Int} {at_ : Int}

theorem filt_sub {l L : List Nat} (h : l.Sublist L) (hd : L.Pairwise (· ≠ ·)) : (L.filter fun i => decide (i ∈ l)) = l := by
  induction h with
  | slnil => rfl
  | @cons l L a h ih =>
    obtain ⟨h1, h2⟩ := List.pairwise_cons.1 hd
    rw [List.filter_cons_of_neg (by simpa using fun hm => h1 a (h.subset hm) rfl)]
    exact ih h2
  | @cons_cons l L a h ih =>
    obtain ⟨h1, h2⟩ := List.pairwise_cons.1 hd
    rw [List.filter_cons_of_pos (by simp)]
    congr 1
    exact (List.filter_congr fun x hx => by have := h1 x hx; simp [Ne.symm this]).trans (ih h2)
/-- Some of the roots, from one on, are their own roots. -/
theorem root_drop (h : marksB n zs ms = true) (k : Nat) : marksB n zs ((drA n zs ms).drop k) = true ∧ drA n zs ((drA n zs ms).drop k) = (drA n zs ms).drop k := by
  have hm : marksB n zs ((drA n zs ms).drop k) = true := by
    obtain ⟨hv, hl, hb⟩ := mks_at (mks_again h)
    exact mks_mk hv (by rw [List.length_drop]; omega) fun z hz => hb z (List.mem_of_mem_drop hz)
  refine ⟨hm, ?_⟩
  rw [drA_yes hm, drA_yes h, ← List.map_drop]
  congr 1
  have key : ∀ i, mk (((rootL n zs ms).drop k).map Int.ofNat) i = true ↔ i ∈ (rootL n zs ms).drop k := fun i => by
    rw [mk_iff, List.mem_map]
    exact ⟨fun ⟨r, hr, e⟩ => (Int.ofNat.inj e : r = i) ▸ hr, fun hi => ⟨i, hi, rfl⟩⟩
  have hs : ((rootL n zs ms).drop k).Sublist (List.range n) := (List.drop_sublist _ _).trans List.filter_sublist
  conv => rhs; rw [← filt_sub hs (List.nodup_range (n := n))]
  unfold rootL
  refine List.filter_congr fun i hi => ?_
  rw [Bool.eq_iff_iff, beq_iff_eq, decide_eq_true_eq]
  constructor
  · intro hd
    exact (key i).1 (drt_some hd).1
  · intro hi
    have h1 := root_mem (List.mem_of_mem_drop hi)
    refine drt_is ((key i).2 hi) (anc_self _ _) fun a h4 h5 => ?_
    have h2 := root_mem (List.mem_of_mem_drop ((key a).1 h4))
    exact (drt_some h1.2.1).2.2 a h2.2.2 h5
theorem clean_step {k u : Nat} (h : marksB n zs ms = true) (hk : k < (drA n zs ms).length) (hu : (drA n zs ms).getD k 0 = (u : Int)) :
    cleanOk n zs ((drA n zs ms).drop k) (u : Int) = true ∧ cleanA n zs ((drA n zs ms).drop k) (u : Int) = (drA n zs ms).drop (k + 1) := by
  obtain ⟨hm, hd⟩ := root_drop h k
  have hv := (mks_at h).1
  obtain ⟨u', hu', hun⟩ := drA_at h hk
  obtain rfl : u = u' := by rw [hu] at hu'; exact Int.ofNat.inj hu'
  have ho : cleanOk n zs ((drA n zs ms).drop k) (u : Int) = true := cleanOk_iff.2 ⟨nodeOk_iff.2 ⟨hv, u, rfl, hun⟩, hm⟩
  refine ⟨ho, ?_⟩
  have eu : (drA n zs ms)[k] = (u : Int) := by
    rw [List.getD_eq_getElem?_getD, List.getElem?_eq_getElem hk] at hu; exact hu
  rw [cleanA_yes ho, hd, List.drop_eq_getElem_cons hk, eu, List.filter_cons_of_neg (by rw [arA_at hv hun hun, anc_self]; simp)]
  refine List.filter_eq_self.2 fun x hx => ?_
  obtain ⟨t, ht, rfl⟩ := List.getElem_of_mem hx
  rw [List.length_drop] at ht
  rw [List.getElem_drop]
  obtain ⟨v, hv2, hvn⟩ := drA_at h (show k + 1 + t < (drA n zs ms).length by omega)
  have ra := root_apart h hk (show k + 1 + t < (drA n zs ms).length by omega) (by omega)
  rw [hu, hv2, Int.toNat_natCast, Int.toNat_natCast] at ra
  rw [List.getD_eq_getElem?_getD, List.getElem?_eq_getElem (by omega)] at hv2
  have e : (drA n zs ms)[k + 1 + t] = (v : Int) := hv2
  rw [e, arA_at hv hun hvn, ra]
  rfl
end Go.Proofs.Ytkaagpfgpacfcaa
