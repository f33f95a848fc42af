/- Lists of parts: several are appended at once; an append as one operation of a drawing region; a list without one part. Conditions: the lists are short. -/
import Derived.Test.YtpkajdnndognnaaPrtA
import Derived.Test.YtpkajdnndognnaaPrtO
namespace Go.Proofs.Ytpkajdnndognnaa
open Go.RowKit

theorem run_appPart (w : World) (ty : TypeId) (lo : Nat) (v : Value) (n : Nat) (zs : List Int) (hown : OwnPart lo w v n zs) (A : Option Addr) (k c : Nat) (xs : List Int) (hx : Sts 2 w A k xs) (hn : n + k ≤ 1000000) (hlo : lo ≤ w.heap.size) :
    ∃ v' w', (Builtin.append_ #[26, 26] ty #[v, .slice A k c]).run Try.prog w = .ok v' w' ∧ OwnPart lo w' v' (n + k) (zs ++ xs) ∧ w.grownBy w' v.ownBlock ∧ (v'.ownBlock = v.ownBlock ∨ v'.ownBlock = some w.heap.size) := by
  obtain ⟨i0, hi, hz0, hz1, hz2⟩ := info_parts info_Part
  have hl := hx.len
  rcases A with _ | ad
  · have h0 : k = 0 := by
      rcases Nat.eq_zero_or_pos k with h | h
      · exact h
      · obtain ⟨b, off, e, _⟩ := hx.at_ h
        cases e
    subst h0
    obtain rfl : xs = [] := List.eq_nil_of_length_eq_zero (by omega)
    refine ⟨v, w, ?_, by simpa using hown, World.grownBy.refl w _, .inl rfl⟩
    rcases hown.1.2 with ⟨rfl, _⟩ | ⟨g, cap, cur, rfl, _, _, hnc, _⟩
    · simp [Builtin.append_, run_underlying Try.underlying26, sizeOf, typeInfo, hi, Builtin.lenOf, Builtin.firstCells]
    · simp [Builtin.append_, run_underlying Try.underlying26, sizeOf, typeInfo, hi, Builtin.lenOf, Builtin.firstCells, hnc, storeCells]
  · have each : ∀ j, j < xs.length → w.cell? (ad.add j) = some (.int .i64 (xs.getD j 0)) := fun j hj => by
      obtain ⟨b, off, e, hb, hc⟩ := hx.at_ (by omega)
      obtain rfl := Option.some.inj e
      rw [Go.WideShapes.add_plain]
      exact hc j (by omega)
    obtain ⟨v', w', hr, h2, h3, _, h5⟩ := run_append_own_at (P := Try.prog) w lo 26 ty 41 i0 (.agg #[Value.int .i64 0, Value.int .i64 0]) 2 16 Try.underlying26 hi hz0 hz1 hz2 rfl (by decide) v n (zs.map (Value.int .i64)) hown.1 ad k c (xs.map (Value.int .i64)) (by simpa using hl) (fun j u hu => by
      have hj : j < xs.length := by
        rcases Nat.lt_or_ge j xs.length with h1 | h1
        · exact h1
        · rw [List.getElem?_eq_none (by simpa using h1)] at hu; cases hu
      have e : u = .int .i64 (xs.getD j 0) := by
        simp [hj] at hu ⊢
        exact hu.symm
      rw [e]
      exact each j hj) (fun u hu => by
      obtain ⟨z, _, rfl⟩ := List.mem_map.1 hu
      rfl) (by unfold maxLen; omega) (by omega) hlo
    refine ⟨v', w', hr, ⟨?_, by rw [List.length_append, hown.2, hl, Nat.add_mul]⟩, h3, h5⟩
    rw [List.map_append]
    exact h2
theorem step_appPartG {w : World} {ops : Array Oper} {o : Oper} {a : Act} {K : Act → World → Prop} {Q : Exit → Act → World → Prop} {E : Prop} (hw : Region.wanted o (yielded ops a.tmps) = true) (s x : Operand)
    (ho : o.op = .call { callee := .builtin .append, args := #[s, x], argTypes := #[26, 26] }) (lo : Nat) (v : Value) (n : Nat) (zs : List Int) (hs : a.eval s = v) (hown : OwnPart lo w v n zs)
    (A : Option Addr) (k c : Nat) (xs : List Int) (hx : a.eval x = .slice A k c) (hr : Sts 2 w A k xs) (hn : n + k ≤ 1000000) (hlo : lo ≤ w.heap.size)
    (h : ∀ v' w', OwnPart lo w' v' (n + k) (zs ++ xs) → w.grownBy w' v.ownBlock → (v'.ownBlock = v.ownBlock ∨ v'.ownBlock = some w.heap.size) → K (a.put o.dst v') w') :
    if Region.wanted o (yielded ops a.tmps) = true then Oper.wp Try.prog o a w K Q else E := by
  rw [if_pos hw]
  obtain ⟨v', w', hrun, h2, h3, h4⟩ := run_appPart w o.type lo v n zs hown A k c xs hr hn hlo
  unfold Oper.wp execOp
  simp only [ho, resolve, invoke, builtin, Sem.run_bind, Sem.run_pure, Result.andThen_ok, List.map_toArray, List.map_cons, List.map_nil, hs, hx, hrun]
  exact h v' w' h2 h3 h4
theorem stsFore {m n e : Nat} {w : World} {A : Option Addr} {zs : List Int} (h : Sts m w A n zs) (he : e ≤ n) : Sts m w A e (zs.take (e * m)) := by
  have h1 : e * m ≤ n * m := Nat.mul_le_mul_right m he
  refine ⟨by rw [List.length_take, h.len]; omega, fun hn => ?_⟩
  obtain ⟨b, off, ha, hb, hc⟩ := h.at_ (by omega)
  exact ⟨b, off, ha, hb, fun i hi => by rw [List.getD_eq_getElem?_getD, List.getElem?_take_of_lt hi, ← List.getD_eq_getElem?_getD]; exact hc i (by omega)⟩
theorem stsAft {m n e : Nat} {w : World} {b off : Nat} {A : Option Addr} {zs : List Int} (h : Sts m w (some ⟨b, off, none⟩) n zs) (he : e ≤ n) (hA : e < n → A = some ⟨b, off + e * m, none⟩) : Sts m w A (n - e) (zs.drop (e * m)) := by
  have h1 : n * m = (n - e) * m + e * m := by rw [← Nat.add_mul]; congr 1; omega
  refine ⟨by rw [List.length_drop, h.len]; omega, fun hn => ?_⟩
  obtain ⟨b', off', ha, hb, hc⟩ := h.at_ (by omega)
  obtain ⟨rfl, rfl⟩ : b = b' ∧ off = off' := by simpa using ha
  exact ⟨b, off + e * m, hA (by omega), hb, fun i hi => by rw [List.getD_eq_getElem?_getD, List.getElem?_drop, ← List.getD_eq_getElem?_getD, Nat.add_assoc]; exact hc (e * m + i) (by omega)⟩
section
variable {n q : Nat} {zs : List Int}
theorem getD_del {m i : Nat} (hl : q * m ≤ zs.length) : (zs.take (q * m) ++ zs.drop ((q + 1) * m)).getD i 0 = zs.getD (if i < q * m then i else i + m) 0 := by
  have e : (zs.take (q * m)).length = q * m := by rw [List.length_take]; omega
  have e1 : (q + 1) * m = q * m + m := by rw [Nat.add_mul, Nat.one_mul]
  simp only [List.getD_eq_getElem?_getD]
  by_cases h : i < q * m
  · rw [List.getElem?_append_left (by omega), List.getElem?_take_of_lt h, if_pos h]
  · rw [List.getElem?_append_right (by omega), List.getElem?_drop, e, if_neg h]
    congr 2; omega
/-- Without one part, the parts are valid. -/
theorem prsB_del (h : prsB n zs = true) (hl : zs.length = n * 2) (hq : q < n) : prsB (q + (n - (q + 1))) (zs.take (q * 2) ++ zs.drop ((q + 1) * 2)) = true := by
  rw [prsB_iff] at h ⊢
  refine ⟨by omega, fun k hk => ?_⟩
  unfold prOk
  rw [getD_del (m := 2) (by omega), getD_del (m := 2) (by omega)]
  by_cases hk2 : k < q
  · rw [if_pos (by omega), if_pos (by omega)]
    exact h.2 k (by omega)
  · rw [if_neg (by omega), if_neg (by omega)]
    have := h.2 (k + 1) (by omega)
    unfold prOk at this
    rw [show k * 2 + 2 = (k + 1) * 2 by omega, show k * 2 + 1 + 2 = (k + 1) * 2 + 1 by omega]
    exact this
theorem prsB_none : prsB 0 [] = true := by decide
end
end Go.Proofs.Ytpkajdnndognnaa
