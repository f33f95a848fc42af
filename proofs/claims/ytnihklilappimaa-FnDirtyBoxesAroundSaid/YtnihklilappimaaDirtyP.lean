/- Plain facts on marked boxes and paths. No condition. -/
import Derived.Test.YtnihklilappimaaDirtyL
import Derived.Test.YtnihklilappimaaPathP
namespace Go.Proofs.Ytnihklilappimaa
open Go.RowKit

theorem cov_path {zs ms : List Int} {i : Nat} (hb : ∀ z ∈ ms, 0 ≤ z) : (drt (mk ms) zs i).isSome = (pathL zs i).any (mk ms) := by
  rw [Bool.eq_iff_iff, cov_iff hb, List.any_eq_true]
  constructor
  · rintro ⟨z, hz, ha⟩
    have h0 := hb z hz
    exact ⟨z.toNat, path_mem.2 ha, mk_iff.2 (by rwa [Int.toNat_of_nonneg h0])⟩
  · rintro ⟨x, hx, hm⟩
    exact ⟨(x : Int), mk_iff.1 hm, by rw [Int.toNat_natCast]; exact path_mem.1 hx⟩
theorem mk_cov {n i : Nat} {zs ms : List Int} (hi : i < n) : mk ((covL n zs ms).map Int.ofNat) i = (drt (mk ms) zs i).isSome := by
  rw [Bool.eq_iff_iff, mk_iff, List.mem_map]
  unfold covL
  constructor
  · rintro ⟨r, hr, e⟩
    obtain rfl : r = i := Int.ofNat.inj e
    exact (List.mem_filter.1 hr).2
  · exact fun h => ⟨i, List.mem_filter.2 ⟨List.mem_range.2 hi, h⟩, rfl⟩
theorem any_take_nat {p : Nat → Bool} {l : List Nat} {k : Nat} (hk : k < l.length) : (l.take (k + 1)).any p = ((l.take k).any p || p (l.getD k 0)) := by
  have e : l.take (k + 1) = l.take k ++ [l.getD k 0] := by
    rw [List.take_succ_eq_append_getElem hk]
    simp [hk]
  rw [e, List.any_append]
  simp
end Go.Proofs.Ytnihklilappimaa
