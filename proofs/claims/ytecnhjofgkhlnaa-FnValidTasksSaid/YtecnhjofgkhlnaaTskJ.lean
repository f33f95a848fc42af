/- Lists of tasks: an append as one operation of a drawing region; a queue without one task. Conditions: the lists are short. -/
import Derived.Test.YtecnhjofgkhlnaaPshM
import Derived.Test.YtecnhjofgkhlnaaTaskB
namespace Go.Proofs.Ytecnhjofgkhlnaa
open Go.RowKit

theorem step_appTaskG {w : World} {ops : Array Oper} {o : Oper} {a : Act} {K : Act → World → Prop} {Q : Exit → Act → World → Prop} {E : Prop} (hw : Region.wanted o (yielded ops a.tmps) = true) (s x : Operand)
    (ho : o.op = .call { callee := .builtin .append, args := #[s, x], argTypes := #[25, 25] }) (lo : Nat) (v : Value) (n : Nat) (zs : List Int) (hs : a.eval s = v) (hown : OwnTask lo w v n zs)
    (A : Option Addr) (k c : Nat) (xs : List Int) (hx : a.eval x = .slice A k c) (hr : Sts 3 w A k xs) (hn : n + k ≤ 1000000) (hlo : lo ≤ w.heap.size)
    (h : ∀ v' w', OwnTask lo w' v' (n + k) (zs ++ xs) → w.grownBy w' v.ownBlock → (v'.ownBlock = v.ownBlock ∨ v'.ownBlock = some w.heap.size) → K (a.put o.dst v') w') :
    if Region.wanted o (yielded ops a.tmps) = true then Oper.wp Try.prog o a w K Q else E := by
  rw [if_pos hw]
  obtain ⟨v', w', hrun, h2, h3, h4⟩ := run_appTask w o.type lo v n zs hown A k c xs hr hn hlo
  unfold Oper.wp execOp
  simp only [ho, resolve, invoke, builtin, Sem.run_bind, Sem.run_pure, Result.andThen_ok, List.map_toArray, List.map_cons, List.map_nil, hs, hx, hrun]
  exact h v' w' h2 h3 h4
theorem stsFore {m n e : Nat} {w : World} {A : Option Addr} {zs : List Int} (h : Sts m w A n zs) (he : e ≤ n) : Sts m w A e (zs.take (e * m)) := by
  have h1 : e * m ≤ n * m := Nat.mul_le_mul_right m he
  refine ⟨by rw [List.length_take, h.len]; omega, fun hn => ?_⟩
  obtain ⟨b, off, ha, hb, hc⟩ := h.at_ (by omega)
  exact ⟨b, off, ha, hb, fun i hi => by rw [List.getD_eq_getElem?_getD, List.getElem?_take_of_lt hi, ← List.getD_eq_getElem?_getD]; exact hc i (by omega)⟩
theorem stsAft {m n e : Nat} {w : World} {b off : Nat} {A : Option Addr} {zs : List Int} (h : Sts m w (some ⟨b, off, none⟩) n zs) (he : e ≤ n) (hA : e < n → A = some ⟨b, off + e * m, none⟩) : Sts m w A (n - e) (zs.drop (e * m)) := by
  have h1 : n * m = (n - e) * m + e * m := by rw [← Nat.add_mul]; congr 1; omega
  refine ⟨by rw [List.length_drop, h.len]; omega, fun hn => ?_⟩
  obtain ⟨b', off', ha, hb, hc⟩ := h.at_ (by omega)
  obtain ⟨rfl, rfl⟩ : b = b' ∧ off = off' := by simpa using ha
  exact ⟨b, off + e * m, hA (by omega), hb, fun i hi => by rw [List.getD_eq_getElem?_getD, List.getElem?_drop, ← List.getD_eq_getElem?_getD, Nat.add_assoc]; exact hc (e * m + i) (by omega)⟩
/-- Without one task, a queue is a queue. -/
theorem vtk_del {n q : Nat} {zs : List Int} (h : vtk n zs = true) (hl : zs.length = n * 3) (hq : q < n) : vtk (q + (n - (q + 1))) (zs.take (q * 3) ++ zs.drop ((q + 1) * 3)) = true := by
  have n10 := (vtk_at h).1
  have e : zs.take (q * 3) ++ zs.drop ((q + 1) * 3) = flL ((tks zs n).take q ++ (tks zs n).drop (q + 1)) := by
    rw [flL_app, (flL_take hl (Nat.le_of_lt hq)).1, (flL_take hl (show q + 1 ≤ n by omega)).2]
  have ll : ((tks zs n).take q ++ (tks zs n).drop (q + 1)).length = q + (n - (q + 1)) := by
    rw [List.length_append, List.length_take, List.length_drop, tks_len]; omega
  have sub : ((tks zs n).take q ++ (tks zs n).drop (q + 1)).Sublist (tks zs n) := by
    have h1 : (tks zs n).take q ++ (tks zs n).drop q = tks zs n := List.take_append_drop q _
    have h2 : ((tks zs n).drop (q + 1)).Sublist ((tks zs n).drop q) := by
      rw [show q + 1 = q + 1 from rfl, ← List.drop_drop]
      exact List.drop_sublist _ _
    have h3 := List.Sublist.append (List.Sublist.refl ((tks zs n).take q)) h2
    rw [h1] at h3
    exact h3
  rw [e, ← ll]
  refine vtk_flL (by rw [ll]; omega) (fun t ht => ?_) ((tks_asc h).sublist sub)
  obtain ⟨k, hk, rfl⟩ := tks_mem.1 (sub.subset ht)
  exact ((vtk_at h).2 k hk).1
end Go.Proofs.Ytecnhjofgkhlnaa
