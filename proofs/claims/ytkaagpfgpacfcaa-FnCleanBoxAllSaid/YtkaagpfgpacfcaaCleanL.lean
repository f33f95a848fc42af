/- What CleanBox answers: the dirty roots that are not in the box. No condition. -/
import Derived.Test.YtkaagpfgpacfcaaCleanZ
import Derived.Test.YtkaagpfgpacfcaaDirtyL
namespace Go.Proofs.Ytkaagpfgpacfcaa
open Go.RowKit
variable {n : Nat} {zs ms : List Int} {at_ : Int}

theorem cleanOk_iff : cleanOk n zs ms at_ = true ↔ nodeOk n zs at_ = true ∧ marksB n zs ms = true := by unfold cleanOk; rw [Bool.and_eq_true]
theorem cleanA_no (h : cleanOk n zs ms at_ = false) : cleanA n zs ms at_ = [] := by unfold cleanA; rw [h]; rfl
theorem cleanA_yes (h : cleanOk n zs ms at_ = true) : cleanA n zs ms at_ = (drA n zs ms).filter fun x => !arA n zs at_ x := by
  unfold cleanA drA; rw [if_pos h, if_pos (cleanOk_iff.1 h).2]
theorem cleanA_le (h : cleanOk n zs ms at_ = true) : (cleanA n zs ms at_).length ≤ (drA n zs ms).length := by
  rw [cleanA_yes h]; exact List.length_filter_le _ _
theorem clean_is {t u : Nat} (h : cleanOk n zs ms at_ = true) (ht : t < (drA n zs ms).length) (hu : (drA n zs ms).getD t 0 = (u : Int)) : mk (cleanA n zs ms at_) u = !arA n zs at_ (u : Int) := by
  rw [cleanA_yes h, Bool.eq_iff_iff, mk_iff, List.mem_filter]
  have hm := getD_in ht
  rw [hu] at hm
  exact ⟨fun h => h.2, fun h => ⟨hm, h⟩⟩
theorem clean_zero_ok (h : marksB n zs ms = true) : cleanOk n zs ms 0 = true := by
  have hv := (mks_at h).1
  have h1 := (vtB_iff.1 hv).1
  exact cleanOk_iff.2 ⟨nodeOk_iff.2 ⟨hv, 0, rfl, by omega⟩, h⟩
theorem clean_zero (h : marksB n zs ms = true) : cleanA n zs ms 0 = [] := by
  rw [cleanA_yes (clean_zero_ok h), List.filter_eq_nil_iff]
  intro x hx
  obtain ⟨t, ht, rfl⟩ := List.getElem_of_mem hx
  obtain ⟨u, hu, hun⟩ := drA_at h ht
  have hv := (mks_at h).1
  have h1 := (vtB_iff.1 hv).1
  rw [List.getD_eq_getElem?_getD, List.getElem?_eq_getElem ht] at hu
  have e : (drA n zs ms)[t] = (u : Int) := hu
  rw [e, show (0 : Int) = ((0 : Nat) : Int) from rfl, arA_at hv (by omega) hun, (link_vt hv).root_anc hun]
  simp
end Go.Proofs.Ytkaagpfgpacfcaa
