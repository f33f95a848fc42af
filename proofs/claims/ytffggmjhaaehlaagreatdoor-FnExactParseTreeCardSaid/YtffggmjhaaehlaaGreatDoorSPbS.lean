/- splitAt of the reference: lists of texts that grow. Condition: the text is not too long. -/
import Derived.Test.YtffggmjhaaehlaaGreatDoorPbM
import Derived.Test.YtffggmjhaaehlaaGreatDoorTxtJ
import Derived.Test.YtffggmjhaaehlaaGreatDoorApp
namespace Go.Proofs.YtffggmjhaaehlaaGreatDoor
open Go.RowKit

/-- A list of texts of the call's own. -/
def OwnT (lo : Nat) (w : World) (v : Value) (xs : List (List UInt8)) : Prop := w.ownsRow lo 9 1 v xs.length (xs.map str)
section
variable {lo : Nat} {w w' w0 : World} {v : Value} {xs : List (List UInt8)}
theorem OwnT.form (h : OwnT lo w v xs) : (v = .slice none 0 0 ∧ xs = []) ∨ ∃ g c, v = .slice (some ⟨g, 0, none⟩) xs.length c ∧ lo ≤ g ∧ SRow w g (fun i => xs.getD i []) xs.length ∧ xs.length ≤ c ∧ v.ownBlock = some g := by
  rcases h.2 with ⟨hv, hn⟩ | ⟨g, cap, cur, hv, hg, hh, hc, hm, hs, ht⟩
  · exact .inl ⟨hv, List.eq_nil_of_length_eq_zero hn⟩
  · refine .inr ⟨g, cap, hv, hg, ?_, hc, by rw [hv]; rfl⟩
    have hlt : g < w.heap.size := by
      rcases Nat.lt_or_ge g w.heap.size with h1 | h1
      · exact h1
      · rw [Array.getElem?_eq_none h1] at hh; cases hh
    have hcell : ∀ i, w.cell? ⟨g, i, none⟩ = cur[i]? := fun i => cell_of_row w g i cur 9 (0, 0) hh
    refine ⟨hlt, fun i hi => ?_, fun i _ => by simp [World.frozen?, hh]⟩
    rw [hcell i]
    have e : cur[i]? = (cur.toList.take (xs.length * 1))[i]? := by
      rw [List.getElem?_take_of_lt (by omega)]
      simp
    rw [e, ht]
    simp [hi]
theorem OwnT.below (h : OwnT lo w v xs) {g : Nat} (hg : v.ownBlock = some g) : lo ≤ g := by
  rcases h.form with ⟨rfl, rfl⟩ | ⟨g', c, rfl, hg', _, _, e⟩
  · simp [Value.ownBlock] at hg
  · rw [e] at hg; have := Option.some.inj hg; omega
theorem OwnT.kept (h : OwnT lo w v xs) {r : Option Nat} (k : w.grownBy w' r) (hr : ∀ g, r = some g → g < lo) : OwnT lo w' v xs := by
  refine ⟨h.1, ?_⟩
  rcases h.2 with hn | ⟨g, cap, cur, hv, hg, hh, hc, hm, hs, ht⟩
  · exact .inl hn
  · have hlt : g < w.heap.size := by
      rcases Nat.lt_or_ge g w.heap.size with h1 | h1
      · exact h1
      · rw [Array.getElem?_eq_none h1] at hh; cases hh
    exact .inr ⟨g, cap, cur, hv, hg, (k.block g hlt (fun e => by have := hr g e.symm; omega)).trans hh, hc, hm, hs, ht⟩
theorem OwnT.new (h : OwnT lo w v xs) (k : New w w') : OwnT lo w' v xs := h.kept (k.grown none) (fun _ e => by cases e)
theorem OwnT.empty (w : World) (hl : lo ≤ w.heap.size) : OwnT lo (w.alloc (.cells #[] 9)) (.slice (some ⟨w.heap.size, 0, none⟩) 0 0) [] :=
  ⟨rfl, .inr ⟨w.heap.size, 0, #[], rfl, hl, heap_alloc_new w _, Nat.le_refl _, Nat.zero_le _, rfl, rfl⟩⟩
theorem new_ownT (h : New w0 w) (k : w.grownBy w' v.ownBlock) (ho : OwnT lo w v xs) (hl : w0.heap.size ≤ lo) : New w0 w' :=
  ⟨k.os.trans h.os, k.tape.trans h.tape, k.output.trans h.output, Nat.le_trans h.size k.size, fun i hi => (k.block i (Nat.lt_of_lt_of_le hi h.size) (fun e => by have := ho.below e.symm; omega)).trans (h.block i hi)⟩
end
theorem info_str : (Tryz.prog.info? 9).map (fun i => (i.zero, i.size, i.bytes)) = some (some (Value.string ByteArray.empty), 1, 16) := by kernel_rfl
theorem wp_appT {w : World} {ops : Array Oper} {rest : List Oper} {o : Oper} {a : Act} {Q : Exit → Act → World → Prop} (hgd : o.guard = none) (s x : Operand)
    (ho : o.op = .call { callee := .builtin .append, args := #[s, x], argTypes := #[34, 34] }) (lo : Nat) (v : Value) (xs : List (List UInt8)) (hs : a.eval s = v) (hown : OwnT lo w v xs)
    (g : Nat) (z : List UInt8) (hx : a.eval x = .slice (some ⟨g, 0, none⟩) 1 1) (hr : w.cell? ⟨g, 0, none⟩ = some (str z)) (hn : xs.length + 1 ≤ 3000000) (hlo : lo ≤ w.heap.size)
    (h : ∀ v' w', OwnT lo w' v' (xs ++ [z]) → w.grownBy w' v.ownBlock → wpList Tryz.prog ops Q rest (a.put o.dst v') w') : wpList Tryz.prog ops Q (o :: rest) a w :=
  wpList_plain hgd fun K hK => by
    obtain ⟨i0, hi, hz0, hz1, hz2⟩ := info_parts info_str
    obtain ⟨v', w', hrun, h2, h3, _, _⟩ := run_append_own_at (P := Tryz.prog) w lo 34 o.type 9 i0 (.string ByteArray.empty) 1 16 Tryz.underlying34 hi hz0 hz1 hz2 rfl (by decide) v xs.length (xs.map str) hown ⟨g, 0, none⟩ 1 1 [str z] rfl (fun j u hu => by
      match j, hu with
      | 0, hu => simp at hu; subst hu; simpa [Addr.add] using hr) (fun u hu => by simp at hu; subst hu; rfl) (by unfold maxLen; omega) (by omega) hlo
    unfold Oper.wp execOp
    simp only [ho, resolve, invoke, builtin, Sem.run_bind, Sem.run_pure, Result.andThen_ok, List.map_toArray, List.map_cons, List.map_nil, hs, hx, hrun]
    refine hK _ _ (h v' w' ?_ h3)
    unfold OwnT
    rw [List.length_append, List.map_append]
    exact h2
theorem drop_split {l : List UInt8} {fr k : Nat} (hf : fr ≤ k) (hk : k < l.length) : l.drop fr = (l.drop fr).take (k - fr) ++ l.getD k 0 :: l.drop (k + 1) := by
  have e1 := (List.take_append_drop (k - fr) (l.drop fr)).symm
  rw [List.drop_drop, show fr + (k - fr) = k by omega, List.drop_eq_getElem_cons hk] at e1
  rw [List.getD_eq_getElem?_getD, List.getElem?_eq_getElem hk]
  exact e1
theorem take_more {l : List UInt8} {fr k : Nat} (hf : fr ≤ k) (hk : k < l.length) : (l.drop fr).take (k + 1 - fr) = (l.drop fr).take (k - fr) ++ [l.getD k 0] := by
  rw [show k + 1 - fr = (k - fr) + 1 by omega, List.take_add_one, List.getElem?_drop, show fr + (k - fr) = k by omega, List.getElem?_eq_getElem hk, List.getD_eq_getElem?_getD, List.getElem?_eq_getElem hk]
  rfl
set_option maxRecDepth 100000 in
set_option maxHeartbeats 2000000 in
theorem splitAt_any (c : UInt8) (l : List UInt8) (hl : l.length ≤ 2000000) (w : World) :
    Calls Tryz.prog 17 #[str l, .int .u8 (c.toNat : Int)] w fun e w' => ∃ g d, e = .returned (.slice (some ⟨g, 0, none⟩) (pcs c l).length d) ∧ (pcs c l).length ≤ d ∧ New w w' ∧ SRow w' g (fun i => (pcs c l).getD i []) (pcs c l).length ∧ w.heap.size ≤ g := by
  obtain ⟨L, hL⟩ : ∃ L, l.length = L := ⟨_, rfl⟩
  have HL := Lib.hid hL
  rw [hL] at hl
  have L0 : (0 : Int) ≤ (L : Int) := by omega
  have L1 : (L : Int) ≤ 2000000 := by omega
  have OE := Lib.hid (OwnT.empty (lo := w.heap.size) w (Nat.le_refl _))
  go_enter Tryz.func17, Tryz.ntmps17
  go_wp2
  go_loopw [5, 6, 7] (fun o f i wr => ∃ (k fr : Nat) (xs : List (List UInt8)), k ≤ L ∧ fr ≤ k ∧ xs.length ≤ k ∧ i = .int .i64 (k : Int) ∧ f = .int .i64 (fr : Int) ∧ Hid (OwnT w.heap.size wr o xs) ∧ Hid (New w wr) ∧ Hid (pcs c l = xs ++ pcs c (l.drop fr)) ∧ Hid (∀ b ∈ (l.drop fr).take (k - fr), b ≠ c)) (fun _ _ i _ => L - (intOf i).toNat)
  case atStart => exact ⟨0, 0, [], by omega, by omega, by simp, rfl, rfl, OE, Lib.hid (by (repeat (first | exact New.refl _ | assumption | refine New.alloc ?_ _ | refine New.drew ?_ | refine New.drewN ?_ _ | refine New.setCell ?_ (by first | omega | (simp; omega) | (simp; done)) _ | refine New.trans ?_ (by assumption)))), Lib.hid rfl, Lib.hid (fun b hb => by simp at hb)⟩
  case round =>
    obtain ⟨k, fr, xs, hk, hf, hxs, rfl, rfl, HO, HN, HP, HF⟩ := hrel
    have k0 : (0 : Int) ≤ (k : Int) := by omega
    have f0 : (0 : Int) ≤ (fr : Int) := by omega
    have fk : (fr : Int) ≤ (k : Int) := by omega
    by_cases hlt : k < L
    · have kL : (k : Int) ≤ (L : Int) := by omega
      have kM : (k : Int) < (L : Int) := by omega
      have IX := fun W => run_str_at 9 Tryz.underlying9 l k (by rw [HL.out]; exact hlt) W
      obtain ⟨b, hb⟩ : ∃ b, l.getD k 0 = b := ⟨_, rfl⟩
      rw [hb] at IX
      have HB := Lib.hid hb
      by_cases hc : b = c
      · subst hc
        clear hb
        have EX : (⟨l.toArray⟩ : ByteArray).extract fr k = ⟨((l.drop fr).take (k - fr)).toArray⟩ := Lib.extract_mk l fr k
        go_wp2_with (refine wp_appT rfl _ _ rfl w.heap.size _ xs rfl (HO.out.new ((New.refl wr).alloc _)) wr.heap.size ((l.drop fr).take (k - fr)) rfl (by simp [go_sem]) (by omega) (by have := HN.out.le; simp; omega) ?_; intro v9 w9 O9 G9)
        have N9 := Lib.hid (new_ownT (HN.out.alloc _) G9 (HO.out.new ((New.refl wr).alloc _)) (Nat.le_refl _))
        have P9 : Hid (pcs b l = (xs ++ [(l.drop fr).take (k - fr)]) ++ pcs b (l.drop (k + 1))) := Lib.hid (by
          have e := drop_split hf (show k < l.length by rw [HL.out]; exact hlt)
          rw [HP.out]
          conv => lhs; rw [e, HB.out, pcs_hit _ HF.out]
          simp)
        exact ⟨⟨k + 1, k + 1, _, by omega, by omega, by simp; omega, rfl, rfl, Lib.hid O9, N9, P9, Lib.hid (fun b hb => by simp at hb)⟩, by simp [intOf]; omega⟩
      · have hu : ¬ ((b.toNat : Int) = (c.toNat : Int)) := fun h => hc (UInt8.toNat_inj.1 (by omega))
        have hu2 : ((b.toNat : Int) == (c.toNat : Int)) = false := by simpa using hu
        have F9 : Hid (∀ b ∈ (l.drop fr).take (k + 1 - fr), b ≠ c) := Lib.hid (fun x hx => by
          rw [take_more hf (by rw [HL.out]; exact hlt), HB.out] at hx
          rcases List.mem_append.1 hx with hx | hx
          · exact HF.out x hx
          · rw [List.mem_singleton.1 hx]; exact hc)
        clear hb hc hu
        generalize (b.toNat : Int) = u at *
        generalize (c.toNat : Int) = u' at *
        go_wp2
        exact ⟨⟨k + 1, fr, xs, by omega, by omega, by omega, rfl, rfl, HO, HN, HP, F9⟩, by simp [intOf]; omega⟩
    · obtain rfl : k = L := by omega
      have EX : (⟨l.toArray⟩ : ByteArray).extract fr k = ⟨((l.drop fr).take (k - fr)).toArray⟩ := Lib.extract_mk l fr k
      have ET : Hid ((l.drop fr).take (k - fr) = l.drop fr) := Lib.hid (by rw [List.take_of_length_le]; rw [List.length_drop, HL.out]; omega)
      have PE : Hid (pcs c l = xs ++ [l.drop fr]) := Lib.hid (by
        rw [HP.out, pcs_none]
        intro b hb
        exact HF.out b (by rw [ET.out]; exact hb))
      rw [ET.out] at EX
      go_wp2_with (refine wp_appT rfl _ _ rfl w.heap.size _ xs rfl (HO.out.new ((New.refl wr).alloc _)) wr.heap.size (l.drop fr) rfl (by simp [go_sem]) (by omega) (by have := HN.out.le; simp; omega) ?_; intro v9 w9 O9 G9)
      have N9 := Lib.hid (new_ownT (HN.out.alloc _) G9 (HO.out.new ((New.refl wr).alloc _)) (Nat.le_refl _))
      rw [← PE.out] at O9
      rcases O9.form with ⟨_, h0⟩ | ⟨g, d, rfl, hg, SR, hd, _⟩
      · obtain ⟨a, t, e⟩ := pcs_ne c l
        rw [e] at h0; cases h0
      · go_ret
        exact ⟨g, d, rfl, hd, N9.out, SR, hg⟩
end Go.Proofs.YtffggmjhaaehlaaGreatDoor
