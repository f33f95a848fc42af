/- The methods of a node that only read, walked: depth, outTo, kids, hasRoom. Conditions: the nodes are linked. -/
import Derived.Test.YtffggmjhaaehlaaGreatDoorTreeN
import Derived.Test.YtffggmjhaaehlaaGreatDoorInts2
namespace Go.Proofs.YtffggmjhaaehlaaGreatDoor
open Go.RowKit

/-- The nodes of a linked tree. -/
structure Lnk (lo : Nat) (w : World) (nb : Nat → Nat) (zs : List Int) (k : Nat) (ar fi la ne : Nat → Option Nat) : Prop where
  nd : Nds lo w nb zs k ar fi la ne
  rg : Rng k ar fi la ne
  ar : Arnd zs k ar
  sh : Shape zs k fi la ne
  lk : Link zs k
  kb : k ≤ 1000
theorem dep_le (zs : List Int) (i : Nat) : dep zs i ≤ i := by
  induction i using Nat.strongRecOn with
  | ind i ih =>
    rcases par_cases zs i with ⟨p, e, hp⟩ | h
    · rw [dep_par e hp]; have := ih p hp; omega
    · rw [dep, dif_neg h]; omega
def depO (zs : List Int) : Option Nat → Nat
  | none => 0
  | some j => dep zs j + 1
/-- The box with a number that is around a box, or is it. -/
def outO (zs : List Int) (t : Int) : Option Nat → Option Nat
  | none => none
  | some i => if 0 ≤ t ∧ anc zs t.toNat i = true then some t.toNat else none
section
variable {lo : Nat} {w w' : World} {nb : Nat → Nat} {zs : List Int} {k i j : Nat} {ar fi la ne : Nat → Option Nat}
theorem Lnk.new (h : Lnk lo w nb zs k ar fi la ne) (hN : New w w') : Lnk lo w' nb zs k ar fi la ne := ⟨h.nd.new hN, h.rg, h.ar, h.sh, h.lk, h.kb⟩
theorem Lnk.dep_step (h : Lnk lo w nb zs k ar fi la ne) (hi : i < k) : dep zs i = depO zs (ar i) := by
  rw [h.ar i hi]
  rcases Nat.eq_zero_or_pos i with h0 | h0
  · subst h0
    rw [if_pos rfl]
    exact dep_top (by have := h.lk.root (by omega); omega)
  · obtain ⟨p, e, hp, _⟩ := h.lk.up i h0 hi
    rw [if_neg (by omega), dep_par e hp, e]
    simp [depO]
theorem Lnk.out_step (h : Lnk lo w nb zs k ar fi la ne) (hi : i < k) {t : Int} (ht : (i : Int) ≠ t) : outO zs t (some i) = outO zs t (ar i) := by
  rw [h.ar i hi]
  rcases Nat.eq_zero_or_pos i with h0 | h0
  · subst h0
    rw [if_pos rfl]
    unfold outO
    refine if_neg fun hh => ?_
    have hr := h.lk.root (by omega)
    rw [anc_top (by omega) (by omega)] at hh
    exact absurd hh.2 (by decide)
  · obtain ⟨p, e, hp, _⟩ := h.lk.up i h0 hi
    rw [if_neg (by omega), e]
    simp only [outO, Int.toNat_natCast]
    by_cases h1 : 0 ≤ t
    · rw [anc_par (a := t.toNat) e hp (by omega)]
    · rw [if_neg (fun hh => h1 hh.1), if_neg (fun hh => h1 hh.1)]
end
set_option maxHeartbeats 1000000 in
theorem depth_any (lo : Nat) (nb : Nat → Nat) (zs : List Int) (k i : Nat) (ar fi la ne : Nat → Option Nat) (hi : i < k) (w : World) (h : Lnk lo w nb zs k ar fi la ne) :
    Calls Tryz.prog 28 #[.pointer (some ⟨nb i, 0, none⟩)] w fun e w' => e = .returned (.int .i64 (dep zs i : Int)) ∧ w = w' := by
  have HL := Lib.hid h
  have g0 := h.nd.ar i hi
  have hd := h.dep_step hi
  have db := dep_le zs i
  have kb := h.kb
  have RG := Lib.hid (fun j hj => h.rg.ar i j hi hj)
  clear h
  go_enter Tryz.func28, Tryz.ntmps28
  go_wp2
  go_loopw [3, 4] (fun d p wr => wr = w ∧ ∃ (x : Nat) (o : Option Nat), d = .int .i64 (x : Int) ∧ p = pv nb o ∧ Hid (∀ j, o = some j → j < k) ∧ x + depO zs o = dep zs i) (fun _ p wr => numOf wr p)
  case atStart => exact ⟨rfl, 0, ar i, rfl, rfl, RG, by omega⟩
  case round =>
    obtain ⟨rfl, x, o, rfl, rfl, ro, hx⟩ := hrel
    cases o with
    | none =>
      simp only [pv_none]
      simp only [depO] at hx
      obtain rfl : x = dep zs i := by omega
      go_wp2
      go_ret
      exact ⟨rfl, rfl⟩
    | some j =>
      have hj := ro.out j rfl
      have g1 := HL.out.nd.ar j hj
      have nj := HL.out.nd.numOf_some hj
      have e1 := HL.out.dep_step hj
      have d1 := dep_le zs j
      have R1 := Lib.hid (fun j' hj' => HL.out.rg.ar j j' hj hj')
      have ns : numOf wr (pv nb (ar j)) < j + 1 := by
        rw [HL.out.ar j hj]
        rcases Nat.eq_zero_or_pos j with h0 | h0
        · subst h0; rw [if_pos rfl]; exact Nat.succ_pos _
        · obtain ⟨p, e, hp, _⟩ := HL.out.lk.up j h0 hj
          rw [if_neg (by omega), e]
          have := HL.out.nd.numOf_some (i := p) (by omega)
          simp only [pv_some, Int.toNat_natCast]
          omega
      simp only [depO] at hx
      simp only [pv_some]
      have x0 : (x : Int) ≤ 1000 := by omega
      have x1 : (0 : Int) ≤ (x : Int) := by omega
      go_wp2
      go_roundw
      case rel => exact ⟨trivial, x + 1, ar j, by go_num, rfl, R1, by omega⟩
      case measure => rw [nj]; exact ns
set_option maxHeartbeats 1000000 in
theorem outTo_any (lo : Nat) (nb : Nat → Nat) (zs : List Int) (k : Nat) (o : Option Nat) (t : Int) (ar fi la ne : Nat → Option Nat) (ho : ∀ j, o = some j → j < k) (w : World) (h : Lnk lo w nb zs k ar fi la ne) :
    Calls Tryz.prog 47 #[pv nb o, .int .i64 t] w fun e w' => e = .returned (pv nb (outO zs t o)) ∧ w = w' := by
  have HL := Lib.hid h
  have HO := Lib.hid ho
  clear h ho
  go_enter Tryz.func47, Tryz.ntmps47
  go_wp2
  go_loopw [0] (fun p wr => wr = w ∧ ∃ (o' : Option Nat), p = pv nb o' ∧ Hid (∀ j, o' = some j → j < k) ∧ outO zs t o' = outO zs t o) (fun p wr => numOf wr p)
  case atStart => exact ⟨rfl, o, rfl, HO, rfl⟩
  case round =>
    obtain ⟨rfl, o', rfl, ro, hx⟩ := hrel
    have HX := Lib.hid hx
    clear hx
    cases o' with
    | none =>
      simp only [pv_none]
      go_wp2
      go_ret
      exact ⟨by rw [← HX.out]; rfl, rfl⟩
    | some j =>
      have hj := ro.out j rfl
      have g1 := HL.out.nd.ar j hj
      have g2 := HL.out.nd.num j hj
      have nj := HL.out.nd.numOf_some hj
      have R1 := Lib.hid (fun j' hj' => HL.out.rg.ar j j' hj hj')
      have ns : numOf wr (pv nb (ar j)) < j + 1 := by
        rw [HL.out.ar j hj]
        rcases Nat.eq_zero_or_pos j with h0 | h0
        · subst h0; rw [if_pos rfl]; exact Nat.succ_pos _
        · obtain ⟨p, e, hp, _⟩ := HL.out.lk.up j h0 hj
          rw [if_neg (by omega), e]
          have := HL.out.nd.numOf_some (i := p) (by omega)
          simp only [pv_some, Int.toNat_natCast]
          omega
      by_cases ht : (j : Int) = t
      · have e1 : outO zs t (some j) = some j := by
          subst ht
          simp [outO, anc_self]
        have E1 := Lib.hid (HX.out.symm.trans e1)
        simp only [pv_some]
        have hb : ((j : Int) != t) = false := by simpa using ht
        clear ht e1
        go_wp2
        go_ret
        exact ⟨by rw [E1.out]; rfl, rfl⟩
      · have e1 := HL.out.out_step hj ht
        have hb : ((j : Int) != t) = true := by simpa using ht
        have E1 := Lib.hid (e1.symm.trans HX.out)
        simp only [pv_some]
        clear ht e1
        go_wp2
        go_roundw
        case rel => exact ⟨trivial, ar j, rfl, R1, E1.out⟩
        case measure => rw [nj]; exact ns
set_option maxHeartbeats 1000000 in
theorem kids_any (lo : Nat) (nb : Nat → Nat) (zs : List Int) (k i : Nat) (ar fi la ne : Nat → Option Nat) (hi : i < k) (w : World) (h : Lnk lo w nb zs k ar fi la ne) :
    Calls Tryz.prog 73 #[.pointer (some ⟨nb i, 0, none⟩)] w fun e w' => ∃ v, e = .returned v ∧ Own w.heap.size w' v ((kidL zs k i).map Int.ofNat) ∧ New w w' := by
  have HL := Lib.hid h
  have g0 := h.nd.fi i hi
  have kb := h.kb
  have hf := h.sh.fi i hi
  clear h
  rw [hf] at g0
  go_enter Tryz.func73, Tryz.ntmps73
  go_wp2
  go_loopw [3, 4] (fun v p wr => ∃ (done rest : List Nat), Hid (kidL zs k i = done ++ rest) ∧ p = pv nb rest.head? ∧ Hid (Own w.heap.size wr v (done.map Int.ofNat)) ∧ Hid (New w wr)) (fun _ p wr => upOf k wr p)
  case atStart => exact ⟨[], kidL zs k i, Lib.hid rfl, rfl, Lib.hid (Own.nil _ _), Lib.hid (New.refl _)⟩
  case round =>
    obtain ⟨done, rest, HK, rfl, HO, HN⟩ := hrel
    have dl : done.length ≤ k := by
      have h1 : (kidL zs k i).length ≤ k := by unfold kidL; have := List.length_filter_le (fun j => decide (par zs j = (i : Int))) (List.range k); simpa using this
      rw [HK.out, List.length_append] at h1
      omega
    cases rest with
    | nil =>
      simp only [List.head?_nil, pv_none]
      have HO2 := HO.out
      have e1 := HK.out
      rw [List.append_nil] at e1
      rw [← e1] at HO2
      replace HO2 := Lib.hid HO2
      clear HO HK e1
      obtain ⟨v, hv⟩ : ∃ v, v = u3 := ⟨_, rfl⟩
      rw [← hv] at HO2 ⊢
      clear hv
      go_wp2
      go_ret
      exact ⟨v, rfl, HO2.out, HN.out⟩
    | cons j rest =>
      have HN' := HL.out.nd.new HN.out
      have hjm := HL.out.lk.kid_in (j := j) (a := i) (by rw [HK.out]; simp)
      have g1 := HN'.ne j hjm.2.2
      have g2 := HN'.num j hjm.2.2
      have nj := HN'.upOf_some hjm.2.2
      have en_ := HL.out.sh.ne i done j rest hi HK.out
      rw [en_] at g1
      have hnx : ∀ r, rest.head? = some r → j < r ∧ r < k := fun r hr => by
        cases rest with
        | nil => cases hr
        | cons r' rest' =>
          obtain rfl : r' = r := by simpa using hr
          have hs := kid_sorted zs k i
          rw [HK.out] at hs
          obtain ⟨_, hs2, _⟩ := List.pairwise_append.1 hs
          exact ⟨(List.pairwise_cons.1 hs2).1 _ List.mem_cons_self, (HL.out.lk.kid_in (j := r') (a := i) (by rw [HK.out]; simp)).2.2⟩
      have NX := Lib.hid hnx
      have HND := Lib.hid HN'
      have HK2 : Hid (kidL zs k i = (done ++ [j]) ++ rest) := Lib.hid (by rw [HK.out]; simp)
      have hjk := hjm.2.2
      have sz := HN.out.le
      clear HN' hjm en_ hnx HK
      simp only [List.head?_cons, pv_some]
      have j0 : (0 : Int) ≤ (j : Int) := by omega
      have LD : Hid ((done.map Int.ofNat).length ≤ 1000) := Lib.hid (by simp; omega)
      go_wp2_with (at_builtin; refine wp_app rfl _ _ rfl w.heap.size _ _ rfl (HO.out.alloc _) (some ⟨wr.heap.size, 0, none⟩) 1 1 [(j : Int)] rfl (Ints.one wr _ _) (by have := LD.out; omega) (by simp; omega) ?_; intro v6 w6 O6 G6; (have N6 := Lib.hid (new_own (HN.out.alloc _) G6 (HO.out.alloc _) (Nat.le_refl _))); (have g3 : w6.cell? ⟨nb j, 13, none⟩ = some (pv nb rest.head?) := (((HL.out.nd.new N6.out).ne j hjk).trans (by rw [HL.out.sh.ne i done j rest hi (by rw [HK2.out]; simp)])));  (have O6 := Lib.hid O6); clear G6)
      go_wp2
      go_roundw
      case rel => exact ⟨done ++ [j], rest, HK2, rfl, Lib.hid (by rw [List.map_append]; exact O6.out), N6⟩
      case measure =>
        have n6 := (HL.out.nd.new N6.out)
        rw [nj]
        cases hh : rest.head? with
        | none => rw [pv_none, upOf_nil]; omega
        | some r =>
          have h1 := NX.out r hh
          rw [pv_some, n6.upOf_some h1.2]
          omega
end Go.Proofs.YtffggmjhaaehlaaGreatDoor
