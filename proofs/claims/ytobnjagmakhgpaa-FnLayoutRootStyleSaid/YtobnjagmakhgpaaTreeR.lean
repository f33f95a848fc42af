/- The box from which on the layout has to be done anew: the function of the program and that of the reference, walked. Conditions: the tree can be read. -/
import Derived.Test.YtobnjagmakhgpaaZF
namespace Go.Proofs.Ytobnjagmakhgpaa
open Go.RowKit

/-- The nearest box around a box that is no block, or the first one. -/
def lrt (zs : List Int) (i : Nat) : Nat := if _h : 0 ≤ par zs i ∧ (par zs i).toNat < i then (if knd zs (par zs i).toNat = 1 then lrt zs (par zs i).toNat else (par zs i).toNat) else 0
termination_by i
decreasing_by omega
def lrtO (zs : List Int) : Option Nat → Nat
  | none => 0
  | some j => if knd zs j = 1 then lrt zs j else j
def lrtA (n : Nat) (zs : List Int) (at_ : Int) : Int := if nodeOk n zs at_ = true then (lrt zs at_.toNat : Int) else -1
section
variable {zs : List Int} {i j k n p : Nat}
theorem lrt_par (h : par zs i = (p : Int)) (hp : p < i) : lrt zs i = if knd zs p = 1 then lrt zs p else p := by
  rw [lrt, dif_pos ⟨by omega, by omega⟩, h]
  simp
theorem lrt_top (h : par zs i < 0) : lrt zs i = 0 := by rw [lrt, dif_neg (by omega)]
theorem lrt_le (zs : List Int) (i : Nat) : lrt zs i ≤ i := by
  induction i using Nat.strongRecOn with
  | ind i ih =>
    rcases par_cases zs i with ⟨p, e, hp⟩ | h
    · rw [lrt_par e hp]; have := ih p hp; split <;> omega
    · rw [lrt, dif_neg h]; omega
theorem par_knd (h : vtB n zs = true) (hi : i < n) (e : par zs i = (p : Int)) : knd zs p ≠ 0 ∧ p < i := by
  rcases Nat.eq_zero_or_pos i with h0 | h0
  · subst h0; have := par_root h hi; omega
  · obtain ⟨q, e2, hq, _, h3, _⟩ := ((vtB_iff.1 h).2 i hi).2.pos h0
    obtain rfl : q = p := by omega
    exact ⟨h3, hq⟩
theorem knd_bd (h : vtB n zs = true) (hi : i < n) : 0 ≤ knd zs i ∧ knd zs i ≤ 3 := ((vtB_iff.1 h).2 i hi).1.1
end
section
variable {lo : Nat} {w w' : World} {nb : Nat → Nat} {zs : List Int} {k i j n : Nat} {ar fi la ne : Nat → Option Nat}
theorem Lnk.lrt_step (h : Lnk lo w nb zs k ar fi la ne) (hi : i < k) : lrt zs i = lrtO zs (ar i) := by
  rw [h.ar i hi]
  rcases Nat.eq_zero_or_pos i with h0 | h0
  · subst h0
    rw [if_pos rfl]
    exact lrt_top (by have := h.lk.root (by omega); omega)
  · obtain ⟨p, e, hp, _⟩ := h.lk.up i h0 hi
    rw [if_neg (by omega), lrt_par e hp, e]
    simp [lrtO]
theorem Lnk.ar_knd (h : Lnk lo w nb zs k ar fi la ne) (hv : vtB k zs = true) (hi : i < k) (hj : ar i = some j) : (1 ≤ knd zs j ∧ knd zs j ≤ 3) ∧ j < i := by
  rw [h.ar i hi] at hj
  split at hj
  · cases hj
  · have e := Option.some.inj hj
    obtain ⟨p, e2, hp, _⟩ := h.lk.up i (by omega) hi
    rw [e2, Int.toNat_natCast] at e
    subst e
    obtain ⟨h1, _⟩ := par_knd hv hi e2
    have := knd_bd hv (show p < k by omega)
    exact ⟨by omega, hp⟩
end
set_option maxHeartbeats 1000000 in
theorem LayoutRoot_any (A : Option Addr) (n c : Nat) (zs : List Int) (at_ : Int) (hn : n ≤ 1048576) (w : World) (hx : Sts 9 w A n zs) :
    Calls Try.prog 29 #[.slice A n c, .int .i64 at_] w fun e w' => e = .returned (.int .i64 (lrtA n zs at_)) ∧ New w w' := by
  cases hok : nodeOk n zs at_
  · have e1 : lrtA n zs at_ = -1 := by unfold lrtA; rw [hok]; rfl
    have E1 := Lib.hid e1
    have CT := Lib.hid (nodeAt_no A n c zs at_ hn hok w hx)
    clear hok e1 hx
    go_enter Try.func29, Try.ntmps29
    go_wp2_with (go_at_call 44; refine CT.out.mono ?_; rintro e w1 ⟨rfl, h1⟩; (have N1 := Lib.hid h1); clear h1)
    go_ret
    exact ⟨by rw [E1.out]; rfl, N1.out⟩
  · obtain ⟨hv, i, rfl, hi⟩ := nodeOk_iff.1 hok
    have hn16 := (vtB_iff.1 hv).1
    have e1 : lrtA n zs (i : Int) = (lrt zs i : Int) := by unfold lrtA; rw [if_pos hok, Int.toNat_natCast]
    have E1 := Lib.hid e1; have HV := Lib.hid hv
    have CT := Lib.hid (nodeAt_yes A n c i zs hv hi w hx)
    clear hok e1 hx hv
    go_enter Try.func29, Try.ntmps29
    go_wp2_with fail
    refine CT.out.mono ?_
    rintro e w1 ⟨h1, nb, ar, fi, la, ne, rfl, h2⟩
    have N1 := Lib.hid h1; have L1 := Lib.hid h2
    have g0 := h2.nd.ar i hi
    have LS := Lib.hid (h2.lrt_step hi)
    have RG := Lib.hid (fun j hj => h2.ar_knd HV.out hi (j := j) hj)
    clear h1 h2
    go_wp2
    go_loopw [6] (fun p wr => wr = w1 ∧ ∃ (o : Option Nat), p = pv nb o ∧ Hid (∀ j, o = some j → (1 ≤ knd zs j ∧ knd zs j ≤ 3) ∧ j < n) ∧ lrtO zs o = lrt zs i) (fun p wr => numOf wr p)
    case atStart => exact ⟨rfl, ar i, rfl, Lib.hid (fun j hj => ⟨(RG.out j hj).1, by have := (RG.out j hj).2; omega⟩), LS.out.symm⟩
    case round =>
      obtain ⟨rfl, o, rfl, ro, hx⟩ := hrel
      cases o with
      | none =>
        simp only [pv_none]
        simp only [lrtO] at hx
        have HX := Lib.hid hx
        clear hx
        go_wp2
        go_ret
        exact ⟨by rw [E1.out, ← HX.out]; rfl, N1.out⟩
      | some j =>
        obtain ⟨⟨k1, k2⟩, hj⟩ := ro.out j rfl
        have g1 := L1.out.nd.ar j hj
        have g2 := L1.out.nd.num j hj
        have g3 : wr.cell? ⟨nb j, 1, none⟩ = some (.int .i64 (knd zs j)) := L1.out.nd.box j hj 1 (by omega)
        have nj := L1.out.nd.numOf_some hj
        have LJ := L1.out.lrt_step hj
        have RJ := Lib.hid (fun j' hj' => L1.out.ar_knd HV.out hj (j := j') hj')
        have ns : numOf wr (pv nb (ar j)) < j + 1 := by
          cases hh : ar j with
          | none => rw [pv_none, numOf_nil]; omega
          | some p =>
            have h1 := (RJ.out p hh).2
            rw [pv_some, L1.out.nd.numOf_some (by omega)]
            omega
        simp only [lrtO] at hx
        simp only [pv_some]
        obtain ⟨kj, hkj⟩ : ∃ kj, knd zs j = kj := ⟨_, rfl⟩
        rw [hkj] at k1 k2 g3 hx
        clear hkj
        by_cases h1 : kj = 1
        · subst h1
          rw [if_pos rfl, LJ] at hx
          have HX := Lib.hid hx
          clear hx LJ k1 k2
          go_wp2
          go_roundw
          case rel => exact ⟨trivial, ar j, rfl, Lib.hid (fun j' hj' => ⟨(RJ.out j' hj').1, by have := (RJ.out j' hj').2; omega⟩), HX.out⟩
          case measure => rw [nj]; exact ns
        · rw [if_neg h1] at hx
          have HX := Lib.hid hx
          clear hx LJ
          by_cases h2 : kj = 2
          · subst h2
            clear h1 k1 k2
            go_wp2
            go_ret
            exact ⟨by rw [E1.out, ← HX.out]; rfl, N1.out⟩
          · obtain rfl : kj = 3 := by omega
            clear h1 h2 k1 k2
            go_wp2
            go_ret
            exact ⟨by rw [E1.out, ← HX.out]; rfl, N1.out⟩
end Go.Proofs.Ytobnjagmakhgpaa
