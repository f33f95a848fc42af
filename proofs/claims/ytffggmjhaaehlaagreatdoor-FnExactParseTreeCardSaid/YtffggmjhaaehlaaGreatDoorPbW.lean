/- What the listed package-level variables give a walk: the words for the kinds, the table of the powers of ten, the two errors of strconv; and what the world's shape gives: a number of the library's. Condition: they read as the program's own text lays them. -/
import Derived.Test.YtffggmjhaaehlaaGreatDoorTxtX
import Derived.Test.YtffggmjhaaehlaaGreatDoorShf
import Derived.Test.YtffggmjhaaehlaaGreatDoorRows
import Derived.ProofKit
import Derived.LaidMore
import Derived.OpenShut
import Derived.ChangeVars
import Derived.WalkSmall
import Derived.Lib.LaidTab
import Derived.Stop.LaidErr
import Derived.Lib.SmallJoins
import Derived.Sort.Grow
namespace Go.Proofs.YtffggmjhaaehlaaGreatDoor
open Go.ChangeShapes Go.WideShapes Go.ChangeAt Go.RowKit

theorem gKn : Tryz.prog.globalNamed knName = some 0 := by kernel_rfl
theorem tKn : (Tryz.prog.globals[0]?).map (·.type) = some 88 := by kernel_rfl
theorem gP10 : Tryz.prog.globalNamed p10Name = some 4 := by kernel_rfl
theorem tP10 : (Tryz.prog.globals[4]?).map (·.type) = some 149 := by kernel_rfl
theorem str_of {s : ByteArray} {l : List UInt8} (h : s.data.toList = l) : Value.string s = str l := by
  subst h
  cases s
  simp [str]
theorem knC_of {W : World} {r : List (String × DataW Unit)} (h : laidMet Tryz.prog ((knName, Rows.laid_loop_example_flexlayout_impl_kindNames) :: r) W) : KnC W := by
  obtain ⟨ps, ⟨g0, t0, cs0, f0, p0, q0, hg0, ht0, hv0, hd0, _, _⟩, _, _⟩ := h
  obtain rfl := Option.some.inj (gKn.symm.trans hg0)
  obtain rfl := Option.some.inj (tKn.symm.trans ht0)
  have c1 : Tryz.prog.cellsOf 9 = 1 := by kernel_rfl
  have hcell := fun j => World.var?_cell hg0 hv0 j
  obtain ⟨xs, m1, rfl, hx1, hlen, hn3, hel⟩ := DataW.trod_array Tryz.underlying88 hd0
  rw [c1] at hel
  have hx2 : [DataW.lit (.string (kn 0)), .lit (.string (kn 1)), .lit (.string (kn 2)), .lit (.string (kn 3))] = xs.map (·.1) := by
    have := congrArg Prod.fst hx1
    exact DataW.agg.inj this
  have at_ : ∀ j, j < 4 → cs0[j]? = some (str (kn j)) := by
    intro j hj
    have h1 := hel j hj
    have hxj : j < xs.length := by omega
    rw [List.getElem?_eq_getElem hxj] at h1
    obtain ⟨s, e, z, _⟩ := DataW.trod_string Tryz.underlying9 h1
    have h2 : (xs.map (·.1))[j]? = some (DataW.lit (.string s.data.toList)) := by
      rw [List.getElem?_map, List.getElem?_eq_getElem hxj, z]; rfl
    rw [← hx2] at h2
    have h3 : s.data.toList = kn j := by
      rcases (show j = 0 ∨ j = 1 ∨ j = 2 ∨ j = 3 by omega) with rfl | rfl | rfl | rfl <;>
        simp only [List.getElem?_cons_zero, List.getElem?_cons_succ, Option.some.injEq, DataW.lit.injEq, Lit.string.injEq] at h2 <;> exact h2.symm
    have h4 := congrArg (·[0]?) e
    simp only [List.getElem?_take, List.getElem?_drop] at h4
    have h5 : cs0.toList[j]? = some (.string s) := by simpa using h4
    rw [← str_of h3, ← h5, Array.getElem?_toList]
  refine ⟨?_, fun j hj => by rw [hcell j, at_ j hj]⟩
  have := (hcell 0).trans (at_ 0 (by omega))
  exact World.block_lt_of_cell? _ _ this
/-- An error variable's cell holds nil or an error. -/
theorem iface_of {H : Type} {enc : TypeId × Value → H} {w : World} {b : Nat} {sp : Nat → Bool} {held : Bool} {fuel : Nat} {t : TypeId} {cs : List Value} {x : DataW H × List MemPlace} {ms : Array (String × TypeId)} (hi : Tryz.prog.underlying t = some (.interface ms))
    (h : DataW.trod enc Tryz.prog w b sp held fuel t cs = some x) : cs = [.nilIface] ∨ ∃ u v, cs = [.iface u v] := by
  cases fuel with
  | zero => simp [DataW.trod] at h
  | succ n =>
    unfold DataW.trod at h
    rw [hi] at h
    split at h <;> simp_all
theorem err_of {W : World} {nm : String} {d : DataW Unit} {r : List (String × DataW Unit)} {g : Nat} (hg : Tryz.prog.globalNamed nm = some g) (ht : (Tryz.prog.globals[g]?).map (·.type) = some 85) (h : laidMet Tryz.prog ((nm, d) :: r) W) :
    ∃ ev, W.cell? ⟨g, 0, none⟩ = some ev ∧ (ev = .nilIface ∨ ∃ te pe, ev = .iface te pe) ∧ g < W.heap.size := by
  obtain ⟨ps, ⟨g0, t0, cs0, f0, p0, q0, hg0, ht0, hv0, hd0, _, _⟩, _, _⟩ := h
  obtain rfl := Option.some.inj (hg.symm.trans hg0)
  obtain rfl := Option.some.inj (ht.symm.trans ht0)
  have hcell := World.var?_cell hg0 hv0 0
  rcases iface_of Tryz.underlying85 hd0 with e | ⟨u, v, e⟩
  · have e0 : cs0[0]? = some .nilIface := by rw [← Array.getElem?_toList, e]; rfl
    rw [e0] at hcell
    exact ⟨_, hcell, Or.inl rfl, World.block_lt_of_cell? _ _ hcell⟩
  · have e0 : cs0[0]? = some (.iface u v) := by rw [← Array.getElem?_toList, e]; rfl
    rw [e0] at hcell
    exact ⟨_, hcell, Or.inr ⟨_, _, rfl⟩, World.block_lt_of_cell? _ _ hcell⟩
/-- What the library wants to find. -/
structure LibC (w : World) : Prop where
  kn : KnC w
  tab : Lib.TabIs Tryz.prog w p10Name .u64 Lib.pow10Tab
  len : ∃ m, w.cell? ⟨3, 0, none⟩ = some (.int .i64 m)
  syn : ∃ ev, w.cell? ⟨5, 0, none⟩ = some ev ∧ (ev = .nilIface ∨ ∃ te pe, ev = .iface te pe)
  ran : ∃ ev, w.cell? ⟨6, 0, none⟩ = some ev ∧ (ev = .nilIface ∨ ∃ te pe, ev = .iface te pe)
theorem LibC.new {w w' : World} (h : LibC w) (hN : New w w') : LibC w' := by
  obtain ⟨h1, h2, ⟨m, h3⟩, ⟨e4, h4, k4⟩, ⟨e5, h5, k5⟩⟩ := h
  exact ⟨h1.new hN, Go.Joins.tab_stays gP10 h2 hN (Nat.le_refl _), ⟨m, (hN.cells _ _ (World.block_lt_of_cell? _ _ h3)).trans h3⟩, ⟨e4, (hN.cells _ _ (World.block_lt_of_cell? _ _ h4)).trans h4, k4⟩, ⟨e5, (hN.cells _ _ (World.block_lt_of_cell? _ _ h5)).trans h5, k5⟩⟩
theorem of_laid {W : World} (h : laidMetH Tryz.prog laids W) (hsh : W.ShapedOpen Tryz.prog) : LibC W := by
  rw [MakeChecks.laidMetH_plain _ _ _ (by kernel_rfl)] at h
  have h2 : laidMet Tryz.prog ((p10Name, Lib.tabData .u64 Lib.pow10Tab) :: (laids.drop 3)) W := h.tail.tail
  have h4 : laidMet Tryz.prog (("strconv.ErrRange", Rows.laid_strconv_ErrRange) :: (laids.drop 5)) W := h.tail.tail.tail.tail
  have h5 : laidMet Tryz.prog (("strconv.ErrSyntax", Rows.laid_strconv_ErrSyntax) :: (laids.drop 6)) W := h.tail.tail.tail.tail.tail
  have h6 : laidMet Tryz.prog ((knName, Rows.laid_loop_example_flexlayout_impl_kindNames) :: (laids.drop 7)) W := h.tail.tail.tail.tail.tail.tail
  obtain ⟨ev4, c4, k4, _⟩ := err_of (g := 6) (by kernel_rfl) (by kernel_rfl) h4
  obtain ⟨ev5, c5, k5, _⟩ := err_of (g := 5) (by kernel_rfl) (by kernel_rfl) h5
  exact ⟨knC_of h6, Lib.tabIs_of_head gP10 tP10 Tryz.underlying149 Tryz.underlying114 (by kernel_rfl) (by kernel_rfl) h2, Shf.laysM146.s1_3 W hsh, ⟨ev5, c5, k5⟩, ⟨ev4, c4, k4⟩⟩
theorem New.grow {a b : World} (h : New a b) (os : Array Obj) : New a (Go.Sort.grow b os) :=
  ⟨h.os, h.tape, h.output, by have := h.size; simp only [Go.Sort.grow, Array.size_append]; omega, fun g hg => by
    have h1 := h.block g hg
    have h2 := h.size
    show (b.heap ++ os)[g]? = _
    rw [Array.getElem?_append_left (by omega)]
    exact h1⟩
/-- Itoa of whatever number that is not negative. -/
theorem itoaN {w : World} (h : LibC w) (n : Nat) (hn : n ≤ 9223372036854775807) : Calls Tryz.prog 58 #[.int .i64 (n : Int)] w fun e w' => e = .returned (str (Lib.decDigits n)) ∧ New w w' := by
  refine (Shf.strconv_Itoa (n : Int) (by omega) (by omega) w h.tab).mono fun e w' ⟨he, k, os, hw⟩ => ⟨?_, ?_⟩
  · have e1 : Lib.itoa (n : Int) = Lib.decDigits n := by unfold Lib.itoa; rw [if_neg (by omega), Int.toNat_natCast]
    rw [he, e1]
  · rw [hw]; exact (New.refl w).drewN k |>.grow os
theorem itoaC {w : World} (h : LibC w) : ItoaC w := fun u hu W hW => itoaN (h.new hW) u (by omega)
end Go.Proofs.YtffggmjhaaehlaaGreatDoor
