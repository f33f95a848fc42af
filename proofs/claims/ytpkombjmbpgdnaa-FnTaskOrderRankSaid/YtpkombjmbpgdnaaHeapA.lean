/- The program's TakeTask: what stays, and whether a task was taken. Condition: the list can be read. -/
import Derived.Test.YtpkombjmbpgdnaaHeapJ
import Derived.Test.YtpkombjmbpgdnaaHeapZ
namespace Go.Proofs.Ytpkombjmbpgdnaa
open Go.RowKit

theorem flL_range (f : Nat → Tk) : ∀ n, flL ((List.range n).map f) = flatF f n
  | 0 => rfl
  | n + 1 => by rw [List.range_succ, List.map_append, List.map_singleton, flL_snoc, flL_range f n]; rfl
theorem flL_len (l : List Tk) : (flL l).length = l.length * 3 := by
  induction l with
  | nil => rfl
  | cons t l ih => show (flL l).length + 1 + 1 + 1 = _; rw [ih, List.length_cons]; omega
theorem tkA_len (n : Nat) (zs : List Int) : (tkA n zs).length ≤ 1048576 := by
  unfold tkA
  split
  · next h =>
    unfold tkOk at h
    rw [Bool.and_eq_true] at h
    have h1 := (vtk_at h.1).1
    have h2 := stk_len zs (nx zs (n - 1)) n
    rw [flL_len]
    omega
  · exact Nat.zero_le _
/-- Sorted tasks are the list that ascends. -/
theorem sorted_flat {f f' : Nat → Tk} {n : Nat} {l : List Tk} (h : Same f n l) (ha : AscF f' n) (hm : ∀ t, Mem f' n t ↔ Mem f n t) : flatF f' n = flL l := by
  have e : l = (List.range n).map f' := by
    refine asc_eq h.asc ?_ fun t => ?_
    · unfold Asc
      rw [List.pairwise_map]
      exact List.pairwise_lt_range.imp_of_mem fun {a b} _ hb hab => ha a b hab (List.mem_range.1 hb)
    · rw [h.mem, ← hm]
      simp [Mem]
  rw [e, flL_range]
set_option maxHeartbeats 1000000 in
theorem TakeTask_ansT (A : Option Addr) (n c : Nat) (zs : List Int) (hn : n ≤ 1048576) (w : World) (hx : Sts 3 w A n zs) :
    Calls Try.prog 12 #[.slice A n c] w (AnsT 3 w (tkOk n zs) (tkA n zs)) := by
  have HC := Lib.hid (queueOf_any A n c zs hn w hx)
  clear hx
  cases ho : tkOk n zs
  · have EA : Hid (tkA n zs = []) := Lib.hid (by unfold tkA; rw [ho]; rfl)
    have EL : tkL n zs = [] := by
      unfold tkL
      split
      · next h =>
        obtain rfl : n = 0 := by
          unfold tkOk at ho
          rw [h, Bool.true_and] at ho
          have := of_decide_eq_false ho
          omega
        rfl
      · rfl
    clear ho
    go_enter Try.func12, Try.ntmps12
    go_wp2_with fail
    refine HC.out.mono ?_
    rintro e w1 ⟨P, rfl, h⟩
    rw [EL] at h
    obtain ⟨g, c1, f, hQ, hV, hS, hF, hN⟩ := h
    have c0 := hQ.cell
    rw [List.length_nil] at c0
    have NN := Lib.hid hN
    clear hQ hV hS hF hN EL
    go_wp2_with fail
    refine (Len_any _ _ _ _).mono ?_
    rintro e w' ⟨rfl, rfl⟩
    go_wp2
    go_ret2
    rw [EA.out]
    exact AnsT.no rfl NN.out
  · obtain ⟨hv, h0⟩ : vtk n zs = true ∧ 0 < n := by unfold tkOk at ho; rw [Bool.and_eq_true, decide_eq_true_eq] at ho; exact ho
    have EA : Hid (tkA n zs = flL (stk zs (nx zs (n - 1)) n)) := Lib.hid (by unfold tkA; rw [if_pos ho])
    have EL : tkL n zs = tks zs n := if_pos hv
    obtain ⟨q, rfl⟩ : ∃ q, n = q + 1 := ⟨n - 1, by omega⟩
    have HV := Lib.hid hv
    have n10 := (vtk_at hv).1
    have q10 : (q : Int) ≤ 9 := by omega
    have q0 : (0 : Int) ≤ (q : Int) := by omega
    have nb : ((q : Int) + 1 == 0) = false := by simp; omega
    have nc : ((q + 1 : Nat) : Int) = (q : Int) + 1 := by omega
    clear hv ho
    go_enter Try.func12, Try.ntmps12
    go_wp2_with fail
    refine HC.out.mono ?_
    rintro e w1 ⟨P, rfl, h⟩
    rw [EL, tks_len] at h
    have H1 := Lib.hid h
    obtain ⟨g, c1, f, hQ, hV, hS, hF, hN⟩ := h
    have c0 := hQ.cell
    clear hQ hV hS hF hN EL
    go_wp2_with fail
    refine (Len_any _ _ _ _).mono ?_
    rintro e w' ⟨rfl, rfl⟩
    clear c0
    go_wp2_with fail
    refine (take_any w.heap.size P q _ (by omega) w w1 H1.out (Nat.le_refl _)).mono ?_
    rintro e w2 ⟨t, rfl, ht, hm, _, g2, c2, f2, hQ, hV, hS, hF, hN⟩
    have ET : t = tkOf zs (nx zs q) := nx_is HV.out (by omega) ht hm
    have SM : Hid (Same f2 q (stk zs (nx zs q) (q + 1))) := Lib.hid (by rw [stk_eq HV.out (Nat.lt_succ_of_le (nx_le zs q)) (q + 1) (Nat.le_refl _), ← ET]; exact hS)
    have SC := Lib.hid (SortFunc_any w.heap.size P g2 c2 q f2 (by omega) w2 hQ hS.inj)
    have c0 := hQ.cell
    have PL := Lib.hid hQ.lt
    have N2 := Lib.hid hN
    clear hQ hV hS hF hN ht hm ET
    go_wp2_with fail
    refine SC.out.mono ?_
    rintro e w3 ⟨rfl, f3, hQ, hA, hI, hM, hG⟩
    have FL : Hid (flatF f3 q = flL (stk zs (nx zs q) (q + 1))) := Lib.hid (sorted_flat SM.out hA hM)
    have N3 := Lib.hid (new_only N2.out hQ.row.1 hG)
    have R3 := Lib.hid hQ.row
    clear c0
    have c0 := hQ.cell
    clear hQ hA hI hM hG
    go_wp2
    go_ret2
    rw [EA.out]
    refine ⟨_, q, c2, rfl, ?_, ?_, N3.out⟩
    · rw [show q + 1 - 1 = q by omega, ← FL.out]; exact flatF_len f3 q
    · rw [show q + 1 - 1 = q by omega, ← FL.out]; exact Res.of_row R3.out.2.2.2 R3.out.1
end Go.Proofs.Ytpkombjmbpgdnaa
