/- Plain facts: a row without weights, and one with a size more that grows without a bound. No condition. -/
import Derived.Test.YtnipnemhbelcaaaFlexE
import Derived.Test.YtnipnemhbelcaaaFlexB
import Derived.Test.YtnipnemhbelcaaaFlexT
namespace Go.Proofs.Ytnipnemhbelcaaa
open Go.RowKit
theorem getD_app1 {xs ys : List Int} {i : Nat} (h : i < xs.length) : (xs ++ ys).getD i 0 = xs.getD i 0 := by simp [List.getD_eq_getElem?_getD, List.getElem?_append_left h]
theorem getD_app2 {xs ys : List Int} {i : Nat} : (xs ++ ys).getD (xs.length + i) 0 = ys.getD i 0 := by simp [List.getD_eq_getElem?_getD, List.getElem?_append_right]
theorem step_appFlexN {w : World} {ops : Array Oper} {o : Oper} {a : Act} {K : Act → World → Prop} {Q : Exit → Act → World → Prop} {E : Prop} (hgd : o.guard = none) (s x : Operand)
    (ho : o.op = .call { callee := .builtin .append, args := #[s, x], argTypes := #[33, 33] }) (lo : Nat) (v : Value) (n : Nat) (zs : List Int) (hs : a.eval s = v) (hown : OwnFlex lo w v n zs)
    (A : Option Addr) (k c : Nat) (xs : List Int) (hx : a.eval x = .slice A k c) (hr : Sts 5 w A k xs) (hn : n + k ≤ 1000000) (hlo : lo ≤ w.heap.size)
    (h : ∀ v' w', OwnFlex lo w' v' (n + k) (zs ++ xs) → w.grownBy w' v.ownBlock → K (a.put o.dst v') w') :
    if Region.wanted o (yielded ops a.tmps) = true then Oper.wp Try.prog o a w K Q else E := by
  have hw : Region.wanted o (yielded ops a.tmps) = true := by simp [Region.wanted, hgd]
  rw [if_pos hw]
  obtain ⟨v', w', hrun, h2, h3, _⟩ := run_appFlex w o.type lo v n zs hown A k c xs hr hn hlo
  unfold Oper.wp execOp
  simp only [ho, resolve, invoke, builtin, Sem.run_bind, Sem.run_pure, Result.andThen_ok, List.map_toArray, List.map_cons, List.map_nil, hs, hx, hrun]
  exact h v' w' h2 h3
theorem Row.sts5 {m : Nat} {w : World} {g : Nat} {zs : List Int} (h : Row w g zs) (hm : zs.length = 1 * m) : Sts m w (some ⟨g, 0, none⟩) 1 zs :=
  ⟨hm, fun _ => ⟨g, 0, rfl, h.lt, fun i hi => by simpa using h.c i (by omega)⟩⟩
/-- The first k sizes without their weights. -/
def Stf (ys : List Int) (k : Nat) (sl : List Int) : Prop := sl.length = k * 5 ∧ ∀ i, i < k → sl.getD (i * 5) 0 = ys.getD (i * 5) 0 ∧ sl.getD (i * 5 + 1) 0 = ys.getD (i * 5 + 1) 0 ∧ sl.getD (i * 5 + 2) 0 = ys.getD (i * 5 + 2) 0 ∧ sl.getD (i * 5 + 3) 0 = 0 ∧ sl.getD (i * 5 + 4) 0 = 0
theorem Stf.nil (ys : List Int) : Stf ys 0 [] := ⟨rfl, fun i hi => absurd hi (by omega)⟩
theorem Stf.snoc {ys sl : List Int} {k : Nat} (h : Stf ys k sl) : Stf ys (k + 1) (sl ++ [ys.getD (k * 5) 0, ys.getD (k * 5 + 1) 0, ys.getD (k * 5 + 2) 0, 0, 0]) := by
  obtain ⟨hl, h⟩ := h
  refine ⟨by simp [hl]; omega, fun i hi => ?_⟩
  by_cases hk : i < k
  · obtain ⟨a, b, c, d, e⟩ := h i hk
    rw [getD_app1 (by omega), getD_app1 (by omega), getD_app1 (by omega), getD_app1 (by omega), getD_app1 (by omega)]
    exact ⟨a, b, c, d, e⟩
  · obtain rfl : i = k := by omega
    generalize ys.getD (i * 5) 0 = a; generalize ys.getD (i * 5 + 1) 0 = b; generalize ys.getD (i * 5 + 2) 0 = c
    rw [← hl]
    have e0 : (sl ++ [a, b, c, 0, 0]).getD sl.length 0 = a := by simp
    rw [getD_app2, getD_app2, getD_app2, getD_app2]
    exact ⟨e0, rfl, rfl, rfl, rfl⟩
theorem Stf.valid {ys sl : List Int} {n : Nat} (h : Stf ys n sl) (hv : flsB n ys = true) : flsB n sl = true := by
  rw [flsB_iff] at hv ⊢
  refine ⟨hv.1, fun k hk => ?_⟩
  have h1 := flOk_iff.1 (hv.2 k hk)
  obtain ⟨a, b, c, d, e⟩ := h.2 k hk
  rw [flOk_iff, a, b, c, d, e]
  omega
theorem Stf.flex {ys sl : List Int} {n : Nat} {s : Int} (h : Stf ys n sl) (hv : flsB n ys = true) (hs : 0 ≤ s ∧ s ≤ 200000) : flexA n sl s = colL n ys 0 := by
  unfold flexA
  rw [if_pos (flOkA_iff.2 ⟨h.valid hv, hs⟩), flex_stiff (h.valid hv) hs (fun i hi => ⟨(h.2 i hi).2.2.2.1, (h.2 i hi).2.2.2.2⟩)]
  refine list_ext (by rw [colL_len, colL_len]) (fun i hi => ?_)
  rw [colL_len] at hi
  rw [colL_at hi, colL_at hi]
  exact (h.2 i hi).1
/-- Who grows without a bound takes all. -/
theorem left_grow {ys : List Int} {n : Nat} {s : Int} (hl : ys.length = n * 5) (hv : flsB n ys = true) (hn : n < 8) (hs : 0 ≤ s ∧ s ≤ 10000) : leftO (n + 1) (ys ++ [0, 0, 10000, 1, 0]) s ≤ 0 := by
  have hv2 : flsB (n + 1) (ys ++ [0, 0, 10000, 1, 0]) = true := by
    rw [flsB_iff] at hv ⊢
    refine ⟨by omega, fun k hk => ?_⟩
    by_cases h : k < n
    · have h1 := flOk_iff.1 (hv.2 k h)
      rw [flOk_iff, getD_app1 (by omega), getD_app1 (by omega), getD_app1 (by omega), getD_app1 (by omega), getD_app1 (by omega)]
      exact h1
    · obtain rfl : k = n := by omega
      rw [flOk_iff, ← hl, getD_app2, getD_app2, getD_app2, getD_app2]
      have e0 : (ys ++ [0, 0, 10000, 1, 0]).getD ys.length 0 = 0 := by simp
      rw [e0]
      decide
  have hs2 : 0 ≤ s ∧ s ≤ 200000 := by omega
  unfold leftO
  rw [if_pos (flOkA_iff.2 ⟨hv2, hs2⟩)]
  by_cases hg : 0 ≤ s - (colL (n + 1) (ys ++ [0, 0, 10000, 1, 0]) 0).sum
  · obtain ⟨_, a2, a3, _⟩ := flex_grow hv2 hs2 hg
    by_cases hf : (flexL (n + 1) (ys ++ [0, 0, 10000, 1, 0]) s).sum < s
    · have h1 := a3 hf n (by omega) (by rw [← hl, getD_app2]; decide)
      rw [← hl, getD_app2] at h1
      have hb := fun i hi => flexL_bd hv2 hs2 i hi
      have hln := flexL_len (n + 1) (ys ++ [0, 0, 10000, 1, 0]) s
      have h2 := mem_le_sum (xs := flexL (n + 1) (ys ++ [0, 0, 10000, 1, 0]) s) (all_at (P := fun z => 0 ≤ z) fun i hi => by
        rw [hln] at hi
        have h3 := flOk_iff.1 ((flsB_iff.1 hv2).2 i hi)
        have h4 := (hb i hi).1
        omega) (y := (flexL (n + 1) (ys ++ [0, 0, 10000, 1, 0]) s).getD n 0) (by
        have hi2 : n < (flexL (n + 1) (ys ++ [0, 0, 10000, 1, 0]) s).length := by rw [hln]; omega
        have e : (flexL (n + 1) (ys ++ [0, 0, 10000, 1, 0]) s).getD n 0 = (flexL (n + 1) (ys ++ [0, 0, 10000, 1, 0]) s)[n] := by simp [hi2]
        rw [e]; exact List.getElem_mem hi2)
      have e2 : ([0, 0, 10000, 1, 0] : List Int).getD 2 0 = 10000 := rfl
      rw [e2] at h1
      omega
    · omega
  · obtain ⟨_, a2, _, _⟩ := flex_shrink hv2 hs2 hg
    omega
end Go.Proofs.Ytnipnemhbelcaaa
