/- Plain laws of common parts and hulls: order, regrouping, what is inside what. No condition. -/
import Derived.Test.YtadoemojppkmpaaPlain
namespace Go.Proofs.Ytadoemojppkmpaa
open Go.RowKit

section
variable {ax ay aw ah bx by' bw bh : Int}
theorem m_of (h : mOk ax ay aw ah bx by' bw bh = true) : mA ax ay aw ah bx by' bw bh = mx ax bx ∧ mB ax ay aw ah bx by' bw bh = mx ay by' ∧ mC ax ay aw ah bx by' bw bh = mW ax aw bx bw ∧ mD ax ay aw ah bx by' bw bh = mW ay ah by' bh := by
  unfold mA mB mC mD; rw [ifB_yes h, ifB_yes h, ifB_yes h, ifB_yes h]; exact ⟨rfl, rfl, rfl, rfl⟩
theorem m_no (h : mOk ax ay aw ah bx by' bw bh = false) : mA ax ay aw ah bx by' bw bh = 0 ∧ mB ax ay aw ah bx by' bw bh = 0 ∧ mC ax ay aw ah bx by' bw bh = 0 ∧ mD ax ay aw ah bx by' bw bh = 0 := by
  unfold mA mB mC mD; rw [ifB_no h, ifB_no h, ifB_no h, ifB_no h]; exact ⟨rfl, rfl, rfl, rfl⟩
theorem u_of (h : uOk ax ay aw ah bx by' bw bh = true) : uA ax ay aw ah bx by' bw bh = mn ax bx ∧ uB ax ay aw ah bx by' bw bh = mn ay by' ∧ uC ax ay aw ah bx by' bw bh = uW ax aw bx bw ∧ uD ax ay aw ah bx by' bw bh = uW ay ah by' bh := by
  unfold uA uB uC uD; rw [ifB_yes h, ifB_yes h, ifB_yes h, ifB_yes h]; exact ⟨rfl, rfl, rfl, rfl⟩
theorem bool_eq {a b : Bool} (h : a = true ↔ b = true) : a = b := by rw [Bool.eq_iff_iff]; exact h
theorem mx_comm (a b : Int) : mx a b = mx b a := by unfold mx; omega
theorem mn_comm (a b : Int) : mn a b = mn b a := by unfold mn; omega
theorem mW_comm (a s b t : Int) : mW a s b t = mW b t a s := by unfold mW mx mn; omega
theorem uW_comm (a s b t : Int) : uW a s b t = uW b t a s := by unfold uW mx mn; omega
theorem mOk_comm : mOk bx by' bw bh ax ay aw ah = mOk ax ay aw ah bx by' bw bh := by
  apply bool_eq; rw [mOk_iff, mOk_iff, mW_comm bx, mW_comm by']; constructor <;> (rintro ⟨h1, h2, h3, h4⟩; exact ⟨h2, h1, h3, h4⟩)
theorem uOk_comm : uOk bx by' bw bh ax ay aw ah = uOk ax ay aw ah bx by' bw bh := by
  apply bool_eq; rw [uOk_iff, uOk_iff, uW_comm bx, uW_comm by', mn_comm bx, mn_comm by']; constructor <;> (rintro ⟨h1, h2, h3⟩; exact ⟨h2, h1, h3⟩)
theorem meet_comm : mA bx by' bw bh ax ay aw ah = mA ax ay aw ah bx by' bw bh ∧ mB bx by' bw bh ax ay aw ah = mB ax ay aw ah bx by' bw bh ∧ mC bx by' bw bh ax ay aw ah = mC ax ay aw ah bx by' bw bh ∧ mD bx by' bw bh ax ay aw ah = mD ax ay aw ah bx by' bw bh := by
  unfold mA mB mC mD; rw [mOk_comm, mx_comm bx, mx_comm by', mW_comm bx, mW_comm by']; exact ⟨rfl, rfl, rfl, rfl⟩
theorem hull_comm : uA bx by' bw bh ax ay aw ah = uA ax ay aw ah bx by' bw bh ∧ uB bx by' bw bh ax ay aw ah = uB ax ay aw ah bx by' bw bh ∧ uC bx by' bw bh ax ay aw ah = uC ax ay aw ah bx by' bw bh ∧ uD bx by' bw bh ax ay aw ah = uD ax ay aw ah bx by' bw bh := by
  unfold uA uB uC uD; rw [uOk_comm, mn_comm bx, mn_comm by', uW_comm bx, uW_comm by']; exact ⟨rfl, rfl, rfl, rfl⟩
theorem meet_own (hv : vR ax ay aw ah = true) (h1 : 0 < aw) (h2 : 0 < ah) : mOk ax ay aw ah ax ay aw ah = true ∧ mA ax ay aw ah ax ay aw ah = ax ∧ mB ax ay aw ah ax ay aw ah = ay ∧ mC ax ay aw ah ax ay aw ah = aw ∧ mD ax ay aw ah ax ay aw ah = ah := by
  have e : mOk ax ay aw ah ax ay aw ah = true := mOk_iff.2 ⟨hv, hv, by unfold mW mx mn; omega, by unfold mW mx mn; omega⟩
  obtain ⟨e1, e2, e3, e4⟩ := m_of e
  exact ⟨e, by rw [e1]; unfold mx; omega, by rw [e2]; unfold mx; omega, by rw [e3]; unfold mW mx mn; omega, by rw [e4]; unfold mW mx mn; omega⟩
theorem meet_own_no (h : ¬ (0 < aw ∧ 0 < ah)) : mOk ax ay aw ah ax ay aw ah = false := by
  rw [Bool.eq_false_iff]; intro h'
  obtain ⟨_, _, h1, h2⟩ := mOk_iff.1 h'
  unfold mW mx mn at h1 h2; omega
/-- A rectangle in another one is the common part, if it has points. -/
theorem meet_in (ha : vR ax ay aw ah = true) (hb : vR bx by' bw bh = true) (hi : insB bx by' bw bh ax ay aw ah = true) (h1 : 0 < bw) (h2 : 0 < bh) :
    mOk ax ay aw ah bx by' bw bh = true ∧ mA ax ay aw ah bx by' bw bh = bx ∧ mB ax ay aw ah bx by' bw bh = by' ∧ mC ax ay aw ah bx by' bw bh = bw ∧ mD ax ay aw ah bx by' bw bh = bh := by
  have g := of_decide_eq_true hi
  have e : mOk ax ay aw ah bx by' bw bh = true := mOk_iff.2 ⟨ha, hb, by unfold mW mx mn; omega, by unfold mW mx mn; omega⟩
  obtain ⟨e1, e2, e3, e4⟩ := m_of e
  exact ⟨e, by rw [e1]; unfold mx; omega, by rw [e2]; unfold mx; omega, by rw [e3]; unfold mW mx mn; omega, by rw [e4]; unfold mW mx mn; omega⟩
theorem meet_in_no (hi : insB bx by' bw bh ax ay aw ah = true) (h : ¬ (0 < bw ∧ 0 < bh)) : mOk ax ay aw ah bx by' bw bh = false := by
  have g := of_decide_eq_true hi
  rw [Bool.eq_false_iff]; intro h'
  obtain ⟨_, _, h1, h2⟩ := mOk_iff.1 h'
  unfold mW mx mn at h1 h2; omega
/-- The hull of a rectangle and one in it. -/
theorem hull_in (ha : vR ax ay aw ah = true) (hb : vR bx by' bw bh = true) (hi : insB bx by' bw bh ax ay aw ah = true) :
    uOk ax ay aw ah bx by' bw bh = true ∧ uA ax ay aw ah bx by' bw bh = ax ∧ uB ax ay aw ah bx by' bw bh = ay ∧ uC ax ay aw ah bx by' bw bh = aw ∧ uD ax ay aw ah bx by' bw bh = ah := by
  have g := of_decide_eq_true hi
  have g1 := vR_iff.1 ha
  have g2 := vR_iff.1 hb
  have e1 : mn ax bx = ax := by unfold mn; omega
  have e2 : mn ay by' = ay := by unfold mn; omega
  have e3 : uW ax aw bx bw = aw := by unfold uW mx mn; omega
  have e4 : uW ay ah by' bh = ah := by unfold uW mx mn; omega
  have e : uOk ax ay aw ah bx by' bw bh = true := uOk_iff.2 ⟨ha, hb, by rw [e1, e2, e3, e4]; exact ha⟩
  obtain ⟨f1, f2, f3, f4⟩ := u_of e
  exact ⟨e, f1.trans e1, f2.trans e2, f3.trans e3, f4.trans e4⟩
/-- The hull of a rectangle and a hull that it is in. -/
theorem hull_out (ha : vR ax ay aw ah = true) (hb : vR bx by' bw bh = true) (hi : insB ax ay aw ah bx by' bw bh = true) :
    uOk ax ay aw ah bx by' bw bh = true ∧ uA ax ay aw ah bx by' bw bh = bx ∧ uB ax ay aw ah bx by' bw bh = by' ∧ uC ax ay aw ah bx by' bw bh = bw ∧ uD ax ay aw ah bx by' bw bh = bh := by
  obtain ⟨e, e1, e2, e3, e4⟩ := hull_in hb ha hi
  obtain ⟨c1, c2, c3, c4⟩ := hull_comm (ax := ax) (ay := ay) (aw := aw) (ah := ah) (bx := bx) (by' := by') (bw := bw) (bh := bh)
  exact ⟨uOk_comm ▸ e, c1 ▸ e1, c2 ▸ e2, c3 ▸ e3, c4 ▸ e4⟩
theorem insB_refl : insB ax ay aw ah ax ay aw ah = true := insB_yes (by omega)
theorem meet_facts (h : mOk ax ay aw ah bx by' bw bh = true) : vR ax ay aw ah = true ∧ vR bx by' bw bh = true ∧
    vR (mA ax ay aw ah bx by' bw bh) (mB ax ay aw ah bx by' bw bh) (mC ax ay aw ah bx by' bw bh) (mD ax ay aw ah bx by' bw bh) = true ∧
    insB (mA ax ay aw ah bx by' bw bh) (mB ax ay aw ah bx by' bw bh) (mC ax ay aw ah bx by' bw bh) (mD ax ay aw ah bx by' bw bh) ax ay aw ah = true ∧
    insB (mA ax ay aw ah bx by' bw bh) (mB ax ay aw ah bx by' bw bh) (mC ax ay aw ah bx by' bw bh) (mD ax ay aw ah bx by' bw bh) bx by' bw bh = true := by
  obtain ⟨ha, hb, h1, h2⟩ := mOk_iff.1 h
  obtain ⟨e1, e2, e3, e4⟩ := m_of h
  have g1 := vR_iff.1 ha
  have g2 := vR_iff.1 hb
  rw [e1, e2, e3, e4]
  unfold mW mx mn at h1 h2
  refine ⟨ha, hb, vR_iff.2 ?_, insB_yes ?_, insB_yes ?_⟩ <;> (unfold mW mx mn; omega)
theorem hull_facts (h : uOk ax ay aw ah bx by' bw bh = true) : vR ax ay aw ah = true ∧ vR bx by' bw bh = true ∧
    vR (uA ax ay aw ah bx by' bw bh) (uB ax ay aw ah bx by' bw bh) (uC ax ay aw ah bx by' bw bh) (uD ax ay aw ah bx by' bw bh) = true ∧
    insB ax ay aw ah (uA ax ay aw ah bx by' bw bh) (uB ax ay aw ah bx by' bw bh) (uC ax ay aw ah bx by' bw bh) (uD ax ay aw ah bx by' bw bh) = true ∧
    insB bx by' bw bh (uA ax ay aw ah bx by' bw bh) (uB ax ay aw ah bx by' bw bh) (uC ax ay aw ah bx by' bw bh) (uD ax ay aw ah bx by' bw bh) = true := by
  obtain ⟨ha, hb, h1⟩ := uOk_iff.1 h
  obtain ⟨e1, e2, e3, e4⟩ := u_of h
  rw [e1, e2, e3, e4]
  refine ⟨ha, hb, h1, insB_yes ?_, insB_yes ?_⟩ <;> (unfold uW mx mn; omega)
/-- Each side of a hull is that of one of the two. -/
theorem hull_sides (h : uOk ax ay aw ah bx by' bw bh = true) :
    ((uA ax ay aw ah bx by' bw bh == ax) = true ∨ ((uA ax ay aw ah bx by' bw bh == ax) = false ∧ (uA ax ay aw ah bx by' bw bh == bx) = true)) ∧
    ((uB ax ay aw ah bx by' bw bh == ay) = true ∨ ((uB ax ay aw ah bx by' bw bh == ay) = false ∧ (uB ax ay aw ah bx by' bw bh == by') = true)) ∧
    ((uA ax ay aw ah bx by' bw bh + uC ax ay aw ah bx by' bw bh == ax + aw) = true ∨ ((uA ax ay aw ah bx by' bw bh + uC ax ay aw ah bx by' bw bh == ax + aw) = false ∧ (uA ax ay aw ah bx by' bw bh + uC ax ay aw ah bx by' bw bh == bx + bw) = true)) ∧
    ((uB ax ay aw ah bx by' bw bh + uD ax ay aw ah bx by' bw bh == ay + ah) = true ∨ ((uB ax ay aw ah bx by' bw bh + uD ax ay aw ah bx by' bw bh == ay + ah) = false ∧ (uB ax ay aw ah bx by' bw bh + uD ax ay aw ah bx by' bw bh == by' + bh) = true)) := by
  obtain ⟨e1, e2, e3, e4⟩ := u_of h
  rw [e1, e2, e3, e4]
  simp only [beq_iff_eq, beq_eq_false_iff_ne]
  unfold uW mx mn
  omega
end

/-- Hulls of three. -/
theorem hull_three {ax ay aw ah bx by' bw bh cx cy cw ch : Int} (h : uOk ax ay aw ah bx by' bw bh = true)
    (h1 : uOk (uA ax ay aw ah bx by' bw bh) (uB ax ay aw ah bx by' bw bh) (uC ax ay aw ah bx by' bw bh) (uD ax ay aw ah bx by' bw bh) cx cy cw ch = true)
    (h2 : uOk bx by' bw bh cx cy cw ch = true)
    (h3 : uOk ax ay aw ah (uA bx by' bw bh cx cy cw ch) (uB bx by' bw bh cx cy cw ch) (uC bx by' bw bh cx cy cw ch) (uD bx by' bw bh cx cy cw ch) = true) :
    uA (uA ax ay aw ah bx by' bw bh) (uB ax ay aw ah bx by' bw bh) (uC ax ay aw ah bx by' bw bh) (uD ax ay aw ah bx by' bw bh) cx cy cw ch = uA ax ay aw ah (uA bx by' bw bh cx cy cw ch) (uB bx by' bw bh cx cy cw ch) (uC bx by' bw bh cx cy cw ch) (uD bx by' bw bh cx cy cw ch) ∧
    uB (uA ax ay aw ah bx by' bw bh) (uB ax ay aw ah bx by' bw bh) (uC ax ay aw ah bx by' bw bh) (uD ax ay aw ah bx by' bw bh) cx cy cw ch = uB ax ay aw ah (uA bx by' bw bh cx cy cw ch) (uB bx by' bw bh cx cy cw ch) (uC bx by' bw bh cx cy cw ch) (uD bx by' bw bh cx cy cw ch) ∧
    uC (uA ax ay aw ah bx by' bw bh) (uB ax ay aw ah bx by' bw bh) (uC ax ay aw ah bx by' bw bh) (uD ax ay aw ah bx by' bw bh) cx cy cw ch = uC ax ay aw ah (uA bx by' bw bh cx cy cw ch) (uB bx by' bw bh cx cy cw ch) (uC bx by' bw bh cx cy cw ch) (uD bx by' bw bh cx cy cw ch) ∧
    uD (uA ax ay aw ah bx by' bw bh) (uB ax ay aw ah bx by' bw bh) (uC ax ay aw ah bx by' bw bh) (uD ax ay aw ah bx by' bw bh) cx cy cw ch = uD ax ay aw ah (uA bx by' bw bh cx cy cw ch) (uB bx by' bw bh cx cy cw ch) (uC bx by' bw bh cx cy cw ch) (uD bx by' bw bh cx cy cw ch) := by
  obtain ⟨p1, p2, p3, p4⟩ := u_of h1
  obtain ⟨q1, q2, q3, q4⟩ := u_of h3
  obtain ⟨r1, r2, r3, r4⟩ := u_of h
  obtain ⟨s1, s2, s3, s4⟩ := u_of h2
  rw [p1, p2, p3, p4, q1, q2, q3, q4, r1, r2, r3, r4, s1, s2, s3, s4]
  unfold uW mx mn
  omega

/-- An inset by e and then by 1 is an inset by e + 1, if there is room. -/
theorem inset_twice {x y w h e : Int} (hi : iOk x y w h e = true) (he : e ≠ 50) (hw : ¬ w < 2 * e + 2) (hh : ¬ h < 2 * e + 2) :
    iOk (nA x y w h e) (nB x y w h e) (nC x y w h e) (nD x y w h e) 1 = iOk x y w h (e + 1) ∧
    nA (nA x y w h e) (nB x y w h e) (nC x y w h e) (nD x y w h e) 1 = nA x y w h (e + 1) ∧ nB (nA x y w h e) (nB x y w h e) (nC x y w h e) (nD x y w h e) 1 = nB x y w h (e + 1) ∧
    nC (nA x y w h e) (nB x y w h e) (nC x y w h e) (nD x y w h e) 1 = nC x y w h (e + 1) ∧ nD (nA x y w h e) (nB x y w h e) (nC x y w h e) (nD x y w h e) 1 = nD x y w h (e + 1) := by
  obtain ⟨hv, he', hn⟩ := iOk_iff.1 hi
  obtain ⟨e1, e2, e3, e4⟩ := n_of hi
  have a1 : nL (nL x w e) (nW w e) 1 = nL x w (e + 1) := by unfold nL nW mn mx; omega
  have a2 : nL (nL y h e) (nW h e) 1 = nL y h (e + 1) := by unfold nL nW mn mx; omega
  have a3 : nW (nW w e) 1 = nW w (e + 1) := by unfold nW mx; omega
  have a4 : nW (nW h e) 1 = nW h (e + 1) := by unfold nW mx; omega
  have ok : iOk (nL x w e) (nL y h e) (nW w e) (nW h e) 1 = iOk x y w h (e + 1) := by
    apply bool_eq; rw [iOk_iff, iOk_iff, a1, a2, a3, a4]
    constructor
    · rintro ⟨_, _, g⟩; exact ⟨hv, by omega, g⟩
    · rintro ⟨_, _, g⟩; exact ⟨hn, by omega, g⟩
  rw [e1, e2, e3, e4]
  refine ⟨ok, ?_⟩
  unfold nA nB nC nD
  rw [ok, a1, a2, a3, a4]
  exact ⟨rfl, rfl, rfl, rfl⟩
end Go.Proofs.Ytadoemojppkmpaa
