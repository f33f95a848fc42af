/- The reference's place and LayoutTree, walked: both put each box where the plain function says. Conditions: the tree can be read. -/
import Derived.Test.YtobnjagmakhgpaaLayS
import Derived.Test.YtobnjagmakhgpaaZV
import Derived.Test.YtobnjagmakhgpaaZU
import Derived.Test.YtobnjagmakhgpaaZX
import Derived.Deep.Cut
import Derived.Deep.CutRange
namespace Go.Proofs.Ytobnjagmakhgpaa
open Go.RowKit

/-- Box i and all boxes in the first t boxes directly in it have their rectangles. -/
def inTo (zs : List Int) (n i t j : Nat) : Bool := decide (j = i) || ((kidL zs n i).take t).any fun x => anc zs x j
def PlTo (zs : List Int) (n : Nat) (f : Nat → Rq) (i t : Nat) (qs qs' : List Rq) : Prop :=
  qs'.length = n ∧ ∀ j, j < n → qs'.getD j rq0 = if inTo zs n i t j = true then f j else qs.getD j rq0
section
variable {zs : List Int} {n i t j : Nat} {f : Nat → Rq} {qs qs1 qs2 : List Rq}
theorem inTo_all (hL : Link zs n) (hj : j < n) (ht : (kidL zs n i).length ≤ t) : inTo zs n i t j = anc zs i j := by
  unfold inTo
  rw [List.take_of_length_le ht, Bool.eq_iff_iff, Bool.or_eq_true, decide_eq_true_eq, List.any_eq_true]
  constructor
  · rintro (rfl | ⟨x, hx, h⟩)
    · exact anc_self _ _
    · exact anc_trans (hL.kid_in hx).1 h
  · intro h
    by_cases e : j = i
    · exact .inl e
    · exact .inr (kid_above h e hj)
theorem PlTo.start (h : qs.length = n) : PlTo zs n f i 0 qs (qs.set i (f i)) := by
  refine ⟨by simpa using h, fun j hj => ?_⟩
  rw [getD_setq (by omega)]
  unfold inTo
  by_cases e : i = j
  · subst e; simp
  · rw [if_neg e]; simp [show ¬ j = i from fun h => e h.symm]
theorem PlTo.step (hL : Link zs n) (h : PlTo zs n f i t qs qs1) (ht : t < (kidL zs n i).length) (h2 : PlTo zs n f ((kidL zs n i).getD t 0) n qs1 qs2) : PlTo zs n f i (t + 1) qs qs2 := by
  obtain ⟨l2, h2⟩ := h2
  obtain ⟨_, h1⟩ := h
  refine ⟨l2, fun j hj => ?_⟩
  have hl : (kidL zs n ((kidL zs n i).getD t 0)).length ≤ n := by
    generalize (kidL zs n i).getD t 0 = x
    unfold kidL
    exact Nat.le_trans (List.length_filter_le _ _) (by simp)
  rw [h2 j hj, h1 j hj, inTo_all hL hj hl]
  have e : inTo zs n i (t + 1) j = (inTo zs n i t j || anc zs ((kidL zs n i).getD t 0) j) := by
    unfold inTo
    rw [List.take_succ_eq_append_getElem ht, List.any_append, show (kidL zs n i).getD t 0 = (kidL zs n i)[t] by simp [ht]]
    simp [Bool.or_assoc]
  rw [e]
  cases inTo zs n i t j <;> cases anc zs ((kidL zs n i).getD t 0) j <;> rfl
theorem PlTo.full (h : PlTo zs n f i t qs qs1) (ht : (kidL zs n i).length ≤ t) : PlTo zs n f i n qs qs1 := by
  have hl : (kidL zs n i).length ≤ n := by unfold kidL; exact Nat.le_trans (List.length_filter_le _ _) (by simp)
  refine ⟨h.1, fun j hj => ?_⟩
  rw [h.2 j hj]
  unfold inTo
  rw [List.take_of_length_le ht, List.take_of_length_le hl]
end
/-- What place does at a box. -/
def SPlAt (A : Option Addr) (n c : Nat) (zs : List Int) (W H : Int) (i : Nat) : Prop :=
  ∀ (g d : Nat) (qs : List Rq) (w : World), qs.length = n → Sts 9 w A n zs → (∀ b off, A = some ⟨b, off, none⟩ → b ≠ g) → Row w g (flat4 qs) →
    Calls Try.prog 80 #[.slice A n c, .int .i64 (i : Int), qv (layR zs n W H i), .slice (some ⟨g, 0, none⟩) n d] w fun e w' => e = .returned (.tuple #[]) ∧ w.grownBy w' (some g) ∧ ∃ qs', Row w' g (flat4 qs') ∧ PlTo zs n (layR zs n W H) i n qs qs'
theorem grown_new {w0 w w' : World} {r : Option Nat} (h : w0.grownBy w r) (k : New w w') : w0.grownBy w' r :=
  ⟨k.os.trans h.os, k.tape.trans h.tape, k.output.trans h.output, Nat.le_trans h.size k.size, fun i hi hne => (k.block i (Nat.lt_of_lt_of_le hi h.size)).trans (h.block i hi hne)⟩
theorem grown_trans {w0 w w' : World} {r : Option Nat} (h : w0.grownBy w r) (k : w.grownBy w' r) : w0.grownBy w' r :=
  ⟨k.os.trans h.os, k.tape.trans h.tape, k.output.trans h.output, Nat.le_trans h.size k.size, fun i hi hne => (k.block i (Nat.lt_of_lt_of_le hi h.size) hne).trans (h.block i hi hne)⟩
theorem grown_cell {w w' : World} {r : Option Nat} (h : w.grownBy w' r) {k o : Nat} (hk : k < w.heap.size) (hr : some k ≠ r) : w'.cell? ⟨k, o, none⟩ = w.cell? ⟨k, o, none⟩ := World.cell?_of_block (h.block k hk hr)
theorem Sts.grown {m n : Nat} {w w' : World} {A : Option Addr} {zs : List Int} {g : Nat} (h : Sts m w A n zs) (k : w.grownBy w' (some g)) (hA : ∀ b off, A = some ⟨b, off, none⟩ → b ≠ g) : Sts m w' A n zs :=
  ⟨h.len, fun hn => by obtain ⟨b, off, e, hb, hc⟩ := h.at_ hn; exact ⟨b, off, e, Nat.lt_of_lt_of_le hb k.size, fun i hi => (grown_cell k hb (fun e' => hA b off e (Option.some.inj e'))).trans (hc i hi)⟩⟩
set_option maxRecDepth 100000 in
set_option maxHeartbeats 8000000 in
theorem splace_any (A : Option Addr) (n c : Nat) (zs : List Int) (W H : Int) (hv : vtB n zs = true) (hW : 0 ≤ W ∧ W ≤ 10000) (hH : 0 ≤ H ∧ H ≤ 10000) (m0 : Nat) : ∀ i, n - i = m0 → i < n → SPlAt A n c zs W H i := by
  induction m0 using Nat.strongRecOn with
  | ind m0 ih =>
    intro i hm hi g d qs w hl hx hA hR
    have IH := Lib.hid (fun j (hj : j ∈ kidL zs n i) => (show SPlAt A n c zs W H j by
      obtain ⟨_, h2, h3⟩ := (link_vt hv).kid_in hj
      exact ih (n - j) (by omega) j rfl h3))
    have n16 := (vtB_iff.1 hv).1
    have HX := Lib.hid hx; have HAA := Lib.hid hA; have HQL := Lib.hid hl; have HLk := Lib.hid (link_vt hv)
    have F4 := Lib.hid (show (flat4 qs).length = n * 4 by rw [flat4_len, hl])
    obtain ⟨b, off, rfl, hbw, hc⟩ := hx.at_ (by omega)
    have hbg := hA b off rfl
    obtain ⟨z0, z1, z2, z3, z4, z5, z6, z7, z8⟩ := (show w.cell? ⟨b, off + i * 9, none⟩ = some (.int .i64 (zs.getD (i * 9) 0)) ∧ w.cell? ⟨b, off + i * 9 + 1, none⟩ = some (.int .i64 (zs.getD (i * 9 + 1) 0)) ∧ w.cell? ⟨b, off + i * 9 + 2, none⟩ = some (.int .i64 (zs.getD (i * 9 + 2) 0)) ∧ w.cell? ⟨b, off + i * 9 + 3, none⟩ = some (.int .i64 (zs.getD (i * 9 + 3) 0)) ∧ w.cell? ⟨b, off + i * 9 + 4, none⟩ = some (.int .i64 (zs.getD (i * 9 + 4) 0)) ∧ w.cell? ⟨b, off + i * 9 + 5, none⟩ = some (.int .i64 (zs.getD (i * 9 + 5) 0)) ∧ w.cell? ⟨b, off + i * 9 + 6, none⟩ = some (.int .i64 (zs.getD (i * 9 + 6) 0)) ∧ w.cell? ⟨b, off + i * 9 + 7, none⟩ = some (.int .i64 (zs.getD (i * 9 + 7) 0)) ∧ w.cell? ⟨b, off + i * 9 + 8, none⟩ = some (.int .i64 (zs.getD (i * 9 + 8) 0)) from ⟨hc (i * 9) (by omega), hc (i * 9 + 1) (by omega), hc (i * 9 + 2) (by omega), hc (i * 9 + 3) (by omega), hc (i * 9 + 4) (by omega), hc (i * 9 + 5) (by omega), hc (i * 9 + 6) (by omega), hc (i * 9 + 7) (by omega), hc (i * 9 + 8) (by omega)⟩)
    obtain ⟨o0, o1, o2, o3⟩ := (⟨hR.c (i * 4) (by rw [F4.out]; omega), hR.c (i * 4 + 1) (by rw [F4.out]; omega), hR.c (i * 4 + 2) (by rw [F4.out]; omega), hR.c (i * 4 + 3) (by rw [F4.out]; omega)⟩ : _ ∧ _ ∧ _ ∧ _)
    obtain ⟨f0, f1, f2, f3⟩ := (⟨hR.f (i * 4) (by rw [F4.out]; omega), hR.f (i * 4 + 1) (by rw [F4.out]; omega), hR.f (i * 4 + 2) (by rw [F4.out]; omega), hR.f (i * 4 + 3) (by rw [F4.out]; omega)⟩ : _ ∧ _ ∧ _ ∧ _)
    have rlt := hR.lt
    have gs0 : g ≠ w.heap.size := by omega
    have gs1 : g ≠ w.heap.size + 1 := by omega
    have rb := lay_bd hv hW hH i hi
    have vr := rb.vR (by have := dep_le5 hv hi; omega)
    have pb := pad_bd hv hi
    have ib := inQ_bd (zs := zs) (i := i) pb rb
    have gb := gap_bd hv hi
    have jb := just_bd hv hi
    have HV := Lib.hid hv
    have k8 := kids_le (a := i) hv
    have rb2 := rb
    unfold RqB at rb2
    have d5 := dep_le5 hv hi
    have i0 : (0 : Int) ≤ (i : Int) := by omega
    have i1 : (i : Int) < (n : Int) := by omega
    have SK := Lib.hid (fun W1 (h1 : Sts 9 W1 (some ⟨b, off, none⟩) n zs) => skids_any (some ⟨b, off, none⟩) n c i zs (by omega) hi (fun j hj e => by
      have h2 := (link_vt hv).not_kid (i := j) (a := i) (by omega) e; omega) W1 h1)
    have RS := Lib.hid (fun (w2 : World) (h2 : New w w2) => (hR.new h2).setQ (k := i) (by rw [hl]; exact hi) (layR zs n W H i))
    have IN := Lib.hid (fun W1 => sinset_any (layR zs n W H i).1 (layR zs n W H i).2.1 (layR zs n W H i).2.2.1 (layR zs n W H i).2.2.2 (zs.getD (i * 9 + 4) 0) W1 vr pb.1 pb.2)
    have PS := Lib.hid (PlTo.start (zs := zs) (i := i) (f := layR zs n W H) hl)
    have LKD := Lib.hid (fun j (done rest : List Nat) (e : kidL zs n i = done ++ j :: rest) => lay_kid (W := W) (H := H) (link_vt hv) e)
    have PQ2 := Lib.hid (fun (h2 : knd zs i = 2) q => (show plcL zs n i q = lineL (fun j => (natL zs n j).1) zs (kidL zs n i) (zs.getD (i * 9 + 5) 0) (zs.getD (i * 9 + 8) 0) (inQ zs i q) by unfold plcL; rw [if_pos h2]))
    have PQ3 := Lib.hid (fun (h3 : knd zs i = 3) q => (show plcL zs n i q = (lineL (fun j => (natL zs n j).2) zs (kidL zs n i) (zs.getD (i * 9 + 5) 0) (zs.getD (i * 9 + 8) 0) (turnQ (inQ zs i q))).map turnQ by unfold plcL; rw [if_neg (by omega), if_pos h3]))
    have PQ1 := Lib.hid (fun (h2 : knd zs i ≠ 2) (h3 : knd zs i ≠ 3) q => (show plcL zs n i q = blkL (fun j => (natL zs n j).2) (kidL zs n i) (zs.getD (i * 9 + 5) 0) (inQ zs i q) by unfold plcL; rw [if_neg h2, if_neg h3]))
    have LP := Lib.hid (fun (g : Nat → Int) (h0 : kidL zs n i ≠ []) (hg : (∀ j, g j = (natL zs n j).1) ∨ ∀ j, g j = (natL zs n j).2) => kids_in (g := g) hv hi h0 hg)
    obtain ⟨q, hq⟩ : ∃ q, layR zs n W H i = q := ⟨_, rfl⟩
    rw [hq] at rb2 ib LKD IN PS ⊢
    have HQ := Lib.hid hq
    obtain ⟨r, hr⟩ : ∃ r, inQ zs i q = r := ⟨_, rfl⟩
    rw [hr] at ib
    have HRQ := Lib.hid hr
    have hr2 := hr
    unfold inQ at hr2
    obtain ⟨q0, q1, q2, q3⟩ := q
    dsimp only at hr2 IN rb2 ib
    rw [show nL q0 q2 (zs.getD (i * 9 + 4) 0) = r.1 by rw [← hr2], show nL q1 q3 (zs.getD (i * 9 + 4) 0) = r.2.1 by rw [← hr2], show nW q2 (zs.getD (i * 9 + 4) 0) = r.2.2.1 by rw [← hr2], show nW q3 (zs.getD (i * 9 + 4) 0) = r.2.2.2 by rw [← hr2]] at IN
    obtain ⟨r0, r1, r2, r3⟩ := r
    dsimp only at IN ib
    have KN := Lib.hid (show knd zs i = zs.getD (i * 9 + 1) 0 from rfl)
    have RS := Lib.hid (show Row ((((w.setCell ⟨g, i * 4, none⟩ (.int .i64 q0)).setCell ⟨g, i * 4 + 1, none⟩ (.int .i64 q1)).setCell ⟨g, i * 4 + 2, none⟩ (.int .i64 q2)).setCell ⟨g, i * 4 + 3, none⟩ (.int .i64 q3)) g (flat4 (qs.set i (q0, q1, q2, q3))) from hR.setQ (by rw [hl]; exact hi) (q0, q1, q2, q3))
    clear hq hr hr2 hm ih hx hA hc hl rb vr pb hR hW hH
    generalize zs.getD (i * 9) 0 = y0 at *
    generalize zs.getD (i * 9 + 1) 0 = y1 at *
    generalize zs.getD (i * 9 + 2) 0 = y2 at *
    generalize zs.getD (i * 9 + 3) 0 = y3 at *
    generalize zs.getD (i * 9 + 4) 0 = y4 at *
    generalize zs.getD (i * 9 + 5) 0 = y5 at *
    generalize zs.getD (i * 9 + 6) 0 = y6 at *
    generalize zs.getD (i * 9 + 7) 0 = y7 at *
    generalize zs.getD (i * 9 + 8) 0 = y8 at *
    have GR := Lib.hid (grown_new (own_set (own_set (own_set (own_set (World.grownBy.refl w (some g)) (k := i * 4) (.int .i64 q0)) (k := i * 4 + 1) (.int .i64 q1)) (k := i * 4 + 2) (.int .i64 q2)) (k := i * 4 + 3) (.int .i64 q3)) (((New.refl _).alloc (.cells #[.int .i64 q0, .int .i64 q1, .int .i64 q2, .int .i64 q3] 39)).alloc (.cells #[.int .i64 y0, .int .i64 y1, .int .i64 y2, .int .i64 y3, .int .i64 y4, .int .i64 y5, .int .i64 y6, .int .i64 y7, .int .i64 y8] 30)))
    have R9 := Lib.hid (show Row ((((((w.setCell ⟨g, i * 4, none⟩ (.int .i64 q0)).setCell ⟨g, i * 4 + 1, none⟩ (.int .i64 q1)).setCell ⟨g, i * 4 + 2, none⟩ (.int .i64 q2)).setCell ⟨g, i * 4 + 3, none⟩ (.int .i64 q3)).alloc (.cells #[.int .i64 q0, .int .i64 q1, .int .i64 q2, .int .i64 q3] 39)).alloc (.cells #[.int .i64 y0, .int .i64 y1, .int .i64 y2, .int .i64 y3, .int .i64 y4, .int .i64 y5, .int .i64 y6, .int .i64 y7, .int .i64 y8] 30)) (w.heap.size + 1) [y0, y1, y2, y3, y4, y5, y6, y7, y8] by
      have h := Row.oneBox (((((w.setCell ⟨g, i * 4, none⟩ (.int .i64 q0)).setCell ⟨g, i * 4 + 1, none⟩ (.int .i64 q1)).setCell ⟨g, i * 4 + 2, none⟩ (.int .i64 q2)).setCell ⟨g, i * 4 + 3, none⟩ (.int .i64 q3)).alloc (.cells #[.int .i64 q0, .int .i64 q1, .int .i64 q2, .int .i64 q3] 39)) y0 y1 y2 y3 y4 y5 y6 y7 y8 30
      simpa using h)
    replace RS := Lib.hid (RS.out.new (((New.refl _).alloc (.cells #[.int .i64 q0, .int .i64 q1, .int .i64 q2, .int .i64 q3] 39)).alloc (.cells #[.int .i64 y0, .int .i64 y1, .int .i64 y2, .int .i64 y3, .int .i64 y4, .int .i64 y5, .int .i64 y6, .int .i64 y7, .int .i64 y8] 30)))
    go_enter Try.func80, Try.ntmps80
    go_wp2_with fail
    generalize ((((((w.setCell ⟨g, i * 4, none⟩ (.int .i64 q0)).setCell ⟨g, i * 4 + 1, none⟩ (.int .i64 q1)).setCell ⟨g, i * 4 + 2, none⟩ (.int .i64 q2)).setCell ⟨g, i * 4 + 3, none⟩ (.int .i64 q3)).alloc (.cells #[.int .i64 q0, .int .i64 q1, .int .i64 q2, .int .i64 q3] 39)).alloc (.cells #[.int .i64 y0, .int .i64 y1, .int .i64 y2, .int .i64 y3, .int .i64 y4, .int .i64 y5, .int .i64 y6, .int .i64 y7, .int .i64 y8] 30)) = W1 at RS GR R9 ⊢
    clear z0 z1 z2 z3 z4 z5 z6 z7 z8 o0 o1 o2 o3 f0 f1 f2 f3 gs0 gs1
    refine (IN.out W1).mono ?_
    rintro e w2 ⟨rfl, N2⟩
    have R4 := Lib.hid (Row.oneRect w2 r0 r1 r2 r3 39)
    have s12 := N2.le
    have N2 := Lib.hid (N2.alloc (.cells #[.int .i64 r0, .int .i64 r1, .int .i64 r2, .int .i64 r3] 39))
    go_wp2_with fail
    have G2 := Lib.hid (grown_new GR.out N2.out)
    refine (SK.out _ (HX.out.grown G2.out HAA.out)).mono ?_
    rintro e w3 ⟨v3, rfl, OK, N3⟩
    obtain ⟨A3, c3, hv3, _, Z3⟩ := OK.res
    subst hv3
    obtain ⟨m, hm⟩ : ∃ m, (kidL zs n i).length = m := ⟨_, rfl⟩
    rw [List.length_map, hm]
    have HM := Lib.hid hm
    have LM : Hid (((kidL zs n i).map Int.ofNat).length = m) := Lib.hid (by rw [List.length_map, hm])
    have NB3 := Lib.hid (N2.out.trans N3)
    have s11 := R9.out.lt
    have s13 := NB3.out.le
    have s14 := N3.le
    have s15 : (w2.alloc (.cells #[.int .i64 r0, .int .i64 r1, .int .i64 r2, .int .i64 r3] 39)).heap.size = w2.heap.size + 1 := by simp
    rw [s15] at s14
    have s16 : w2.heap.size < w3.heap.size := by omega
    have s17 : w.heap.size + 1 < w3.heap.size := by omega
    have gw2 : g < w2.heap.size := by omega
    have G3 := Lib.hid (grown_new GR.out NB3.out)
    have RQ := Lib.hid (RS.out.new NB3.out)
    have R43 := Lib.hid (R4.out.new N3)
    have R93 := Lib.hid (R9.out.new NB3.out)
    have HX3 := Lib.hid (HX.out.grown G3.out HAA.out)
    have gne1 : w.heap.size + 1 ≠ g := by omega
    have gne2 : w2.heap.size ≠ g := by omega
    have KF := Lib.hid (fun (W : World) (hW : w3.grownBy W (some g)) => (show (W.cell? ⟨w.heap.size + 1, 1, none⟩ = some (.int .i64 y1) ∧ W.cell? ⟨w.heap.size + 1, 5, none⟩ = some (.int .i64 y5) ∧ W.cell? ⟨w.heap.size + 1, 8, none⟩ = some (.int .i64 y8)) ∧ W.cell? ⟨w2.heap.size, 0, none⟩ = some (.int .i64 r0) ∧ W.cell? ⟨w2.heap.size, 1, none⟩ = some (.int .i64 r1) ∧ W.cell? ⟨w2.heap.size, 2, none⟩ = some (.int .i64 r2) ∧ W.cell? ⟨w2.heap.size, 3, none⟩ = some (.int .i64 r3) from
      ⟨⟨(grown_cell hW s17 (by simpa using gne1)).trans (R93.out.c 1 (by simp)), (grown_cell hW s17 (by simpa using gne1)).trans (R93.out.c 5 (by simp)), (grown_cell hW s17 (by simpa using gne1)).trans (R93.out.c 8 (by simp))⟩, (grown_cell hW s16 (by simpa using gne2)).trans (R43.out.c 0 (by simp)), (grown_cell hW s16 (by simpa using gne2)).trans (R43.out.c 1 (by simp)), (grown_cell hW s16 (by simpa using gne2)).trans (R43.out.c 2 (by simp)), (grown_cell hW s16 (by simpa using gne2)).trans (R43.out.c 3 (by simp))⟩))
    clear NB3 N2 N3 GR RS R4 R9 IN SK s11 s12 s13 s15 G2
    rw [hm] at k8
    rcases Nat.eq_zero_or_pos m with h0 | h0
    · have PF := Lib.hid (PS.out.full (by rw [HM.out, h0]; exact Nat.le_refl _))
      clear hm OK Z3
      subst h0
      go_wp2
      exact bodyPost_ret (v := .tuple #[]) (by simp [results, Try.results80, go_sem]) rfl ⟨rfl, G3.out, _, RQ.out, PF.out⟩
    obtain ⟨b3, rfl, t1, _, RK⟩ := Z3.2 (by rw [LM.out]; exact h0)
    have HK3 := Lib.hid RK
    have bg3 : b3 ≠ g := by simp at t1; omega
    have bl3 := RK.lt
    have hne : kidL zs n i ≠ [] := fun e => by rw [e] at hm; simp at hm; omega
    have IK := Lib.hid (fun (W : World) (hW : w3.grownBy W (some g)) t (ht : t < m) => (show W.cell? ⟨b3, t, none⟩ = some (.int .i64 (((kidL zs n i).getD t 0 : Nat) : Int)) by
      have h1 := (grown_cell (o := t) hW bl3 (by simpa using bg3)).trans (HK3.out.c t (by rw [LM.out]; exact ht))
      rw [kid_at] at h1; exact h1))
    have LKT := Lib.hid (fun t (ht : t < m) => (show layR zs n W H ((kidL zs n i).getD t 0) = (plcL zs n i (q0, q1, q2, q3)).getD t rq0 ∧ (kidL zs n i).getD t 0 ∈ kidL zs n i ∧ (kidL zs n i).getD t 0 < n by
      have hk : t < (kidL zs n i).length := by rw [HM.out]; exact ht
      have e : kidL zs n i = (kidL zs n i).take t ++ (kidL zs n i).getD t 0 :: (kidL zs n i).drop (t + 1) := by
        rw [show (kidL zs n i).getD t 0 = (kidL zs n i)[t] by simp [hk], ← List.drop_eq_getElem_cons hk, List.take_append_drop]
      have h1 := LKD.out _ _ _ e
      rw [List.length_take, Nat.min_eq_left (Nat.le_of_lt hk)] at h1
      exact ⟨h1, kid_get hk, (kid_mem.1 (kid_get hk)).1⟩))
    have IHT := Lib.hid (fun t (ht : t < m) qs1 (W : World) (hW : w3.grownBy W (some g)) (hl1 : qs1.length = n) (hR1 : Row W g (flat4 qs1)) => IH.out _ (LKT.out t ht).2.1 g d qs1 W hl1 (HX3.out.grown hW HAA.out) HAA.out hR1)
    have PST := Lib.hid (fun t (ht : t < m) qs1 qs2 (h1 : PlTo zs n (layR zs n W H) i t qs qs1) (h2 : PlTo zs n (layR zs n W H) ((kidL zs n i).getD t 0) n qs1 qs2) => PlTo.step HLk.out h1 (by rw [HM.out]; exact ht) h2)
    have PFU := Lib.hid (fun qs1 (h1 : PlTo zs n (layR zs n W H) i m qs qs1) => h1.full (by rw [HM.out]; exact Nat.le_refl _))
    have m0i : 0 ≤ (m : Int) - 1 ∧ (m : Int) - 1 ≤ 7 := by omega
    have mi8 : (m : Int) ≤ 8 := by omega
    have p0 : 0 ≤ y5 * ((m : Int) - 1) := Int.mul_nonneg gb.1 m0i.1
    have p1 : y5 * ((m : Int) - 1) ≤ 350 := by have := Int.mul_le_mul gb.2 m0i.2 m0i.1 (by omega : (0 : Int) ≤ 50); omega
    have NEM := Lib.hid hne
    have hmb : ((m : Int) == 0) = false := by simp; omega
    have h0b : ¬ m = 0 := by omega
    obtain ⟨jb0, jb1⟩ := jb
    obtain ⟨gb0, gb1⟩ := gb
    have ek : IntKind.i64.wrap ((m : Int) - 1) = (m : Int) - 1 := IntWalk.i64_in _ (by omega)
    have mxe : mx 0 ((m : Int) - 1) = (m : Int) - 1 := by unfold mx; omega
    have MXE := Lib.hid mxe
    obtain ⟨P, hP⟩ : ∃ P, y5 * ((m : Int) - 1) = P := ⟨_, rfl⟩
    have HP := Lib.hid hP
    rw [hP] at p0 p1
    have pw : wrap64 (y5 * ((m : Int) - 1)) = P := by rw [hP]; exact w64s _ (IntWalk.i64_in _ (by omega))
    have hmx := fun (W : World) (ts : Array TypeId) (t : TypeId) (x y : Int) => run_mx Try.prog W ts t x y
    clear hm OK Z3 RK hne t1 m0i ek mxe hP
    by_cases hk2 : y1 = 2
    · subst hk2
      have P0 := Lib.hid (LP.out (fun j => (natL zs n j).1) NEM.out (.inl fun _ => rfl))
      have hsp : 0 ≤ r2 ∧ r2 ≤ 10000 := by omega
      have LO := Lib.hid (P0.out.o (just := y8) hsp ⟨jb0, jb1⟩)
      have FE := Lib.hid (show (fun j => if true = true then (natL zs n j).1 else (natL zs n j).2) = (fun j => (natL zs n j).1) from rfl)
      have FX := Lib.hid (fun (W1 : World) (hW : New w3 W1) => sflexes_any (some ⟨b, off, none⟩) n c zs HV.out i true (some ⟨b3, 0, none⟩) m c3 HM.out W1 (HX3.out.new hW) (by have h1 := (HK3.out.new hW).ints; rw [LM.out] at h1; exact h1))
      rw [FE.out] at FX
      have SPE := Lib.hid (show spO (kidL zs n i) y5 r2 = mx 0 (r2 - P) by unfold spO; rw [HM.out, MXE.out, HP.out])
      have SPB := P0.out.spo hsp
      rw [SPE.out] at SPB
      have FL := Lib.hid (fun A1 c1 (W1 : World) (h1 : Sts 5 W1 A1 m (flxL (fun j => (natL zs n j).1) zs (kidL zs n i))) => sflex_any A1 m c1 (flxL (fun j => (natL zs n j).1) zs (kidL zs n i)) (mx 0 (r2 - P)) (by have h2 := P0.out.ok; rw [HM.out] at h2; exact h2) (by omega) W1 h1)
      rw [show flexL m (flxL (fun j => (natL zs n j).1) zs (kidL zs n i)) (mx 0 (r2 - P)) = szL (fun j => (natL zs n j).1) zs (kidL zs n i) y5 r2 by have h2 := P0.out.sz hsp; rw [SPE.out, HM.out] at h2; exact h2.symm] at FL
      have OFF := Lib.hid (fun A1 c1 (W1 : World) (h1 : Ints W1 A1 m (szL (fun j => (natL zs n j).1) zs (kidL zs n i) y5 r2)) => soffs_any A1 m c1 (szL (fun j => (natL zs n j).1) zs (kidL zs n i) y5 r2) r2 y5 y8 (P0.out.row hsp) (by omega) (by omega) W1 h1)
      rw [show offsL y5 (frontL (leftA (szL (fun j => (natL zs n j).1) zs (kidL zs n i) y5 r2) r2 y5) (szL (fun j => (natL zs n j).1) zs (kidL zs n i) y5 r2).length y8) (szL (fun j => (natL zs n j).1) zs (kidL zs n i) y5 r2) = ofL (fun j => (natL zs n j).1) zs (kidL zs n i) y5 r2 y8 by rw [P0.out.of hsp ⟨jb0, jb1⟩, P0.out.sz_len hsp]] at OFF
      have LS : Hid ((szL (fun j => (natL zs n j).1) zs (kidL zs n i) y5 r2).length = m) := Lib.hid (by rw [LO.out.ls, HM.out])
      have LF : Hid ((ofL (fun j => (natL zs n j).1) zs (kidL zs n i) y5 r2 y8).length = m) := Lib.hid (by rw [LO.out.lo, HM.out])
      have SB := Lib.hid (fun t (ht : t < m) => And.intro (LO.out.sb t (by rw [HM.out]; exact ht)) (LO.out.ob t (by rw [HM.out]; exact ht)))
      have LJ := Lib.hid (fun t (ht : t < m) => (show layR zs n W H ((kidL zs n i).getD t 0) = (fun (os ss : List Int) => ((r0 + os.getD t 0, r1, ss.getD t 0, r3) : Rq)) (ofL (fun j => (natL zs n j).1) zs (kidL zs n i) y5 r2 y8) (szL (fun j => (natL zs n j).1) zs (kidL zs n i) y5 r2) by
        rw [(LKT.out t ht).1, PQ2.out (KN.out) (q0, q1, q2, q3), HRQ.out, lineL_at (by rw [HM.out]; exact ht)]))
      have pd : IntKind.i64.wrap (r2 - P) = r2 - P := IntWalk.i64_in _ (by omega)
      have pd2 : wrap64 (r2 - P) = r2 - P := w64s _ pd
      have OFE : Hid ((flxL (fun j => (natL zs n j).1) zs (kidL zs n i)).length = m * 5) := Lib.hid (by rw [flxL_len, HM.out])
      generalize ofL (fun j => (natL zs n j).1) zs (kidL zs n i) y5 r2 y8 = os at *
      generalize szL (fun j => (natL zs n j).1) zs (kidL zs n i) y5 r2 = ss at *
      generalize flxL (fun j => (natL zs n j).1) zs (kidL zs n i) = fx at *
      have ibx : -1000000 ≤ r0 ∧ r0 ≤ 1000000 := by omega
      obtain ⟨ibx0, ibx1⟩ := ibx
      clear LO P0 SPB LP FE SPE
      obtain ⟨⟨k1, k5, k8_⟩, kr0, kr1, kr2, kr3⟩ := KF.out w3 (World.grownBy.refl _ _)
      go_wp2
      have NC := Lib.hid (New.refl w3).drew
      have KK := (KF.out w3.drew (NC.out.grown _)).2.2.2.1
      clear k1 k5 k8_ kr0 kr1 kr2 kr3
      go_region_held3 (fun w' => w'.cell? ⟨w2.heap.size, 2, none⟩ = some (.int .i64 r2))
        (first | exact KK | assumption)
        (first
          | (go_at_call 98; refine (FX.out _ NC.out).mono ?_; rintro e wk ⟨v, rfl, O1, Nk⟩; (obtain ⟨A1, c1, rfl, _, Z1⟩ := O1.res); (have I1 := Lib.hid (Sts.of_res (m := 4) Z1 OFE.out)); (have KK := (KF.out wk ((NC.out.trans Nk).grown _)).2.2.2.1); (replace NC := Lib.hid (NC.out.trans Nk)); clear O1 Nk Z1)
          | (go_at_call 97; refine (FL.out A1 c1 _ I1.out).mono ?_; rintro e wk ⟨A2, n2, c2, rfl, l2, rr2, Nk⟩; (obtain rfl : m = n2 := by have := LS.out; omega); (have I2 := Lib.hid (rr2.ints LS.out)); (have KK := (KF.out wk ((NC.out.trans Nk).grown _)).2.2.2.1); (have zk := NC.out.le); (have RR2 := Lib.hid rr2); (replace NC := Lib.hid (NC.out.trans Nk)); clear Nk l2 rr2))
      all_goals
        obtain ⟨⟨k1, k5, k8_⟩, kr0, kr1, kr2, kr3⟩ := KF.out wk (NC.out.grown _)
        go_wp2_with (go_at_call 99; refine (OFF.out A2 c2 _ I2.out).mono ?_; rintro e wq ⟨A4, n4, c4, rfl, l4, rr4, Nk⟩; (obtain rfl : m = n4 := by have := LF.out; omega); (have I4 := Lib.hid (rr4.ints LF.out)); (have I2 := Lib.hid (I2.out.new Nk)); (have zq := NC.out.le); (have RR4 := Lib.hid rr4); (have RR2 := Lib.hid (RR2.out.new Nk)); (replace NC := Lib.hid (NC.out.trans Nk)); clear Nk l4 rr4)
        obtain ⟨b4, rfl, u4, _, Z4⟩ := RR4.out.2 (by rw [LF.out]; exact h0)
        obtain ⟨b2, rfl, u2, _, Z2⟩ := RR2.out.2 (by rw [LS.out]; exact h0)
        have Z4 := Lib.hid Z4; have Z2 := Lib.hid Z2
        have b4g : b4 ≠ g := by omega
        have b2g : b2 ≠ g := by omega
        have KG := Lib.hid (fun (W : World) (hW : wq.grownBy W (some g)) t (ht : t < m) => (show W.cell? ⟨b4, t, none⟩ = some (.int .i64 (os.getD t 0)) ∧ W.cell? ⟨b2, t, none⟩ = some (.int .i64 (ss.getD t 0)) from
          ⟨(grown_cell (o := t) hW Z4.out.lt (by simpa using b4g)).trans (Z4.out.c t (by rw [LF.out]; exact ht)), (grown_cell (o := t) hW Z2.out.lt (by simpa using b2g)).trans (Z2.out.c t (by rw [LS.out]; exact ht))⟩))
        have RQ5 := Lib.hid (RQ.out.new NC.out)
        clear k1 k5 k8_ kr0 kr1 kr2 kr3 RR4 RR2 I2 I4 I1 KK FX FL OFF u4 u2 zk zq
        go_loopw [14] (fun x wr => ∃ (t : Nat) (qs1 : List Rq), t ≤ m ∧ x = .int .i64 t ∧ Hid (Row wr g (flat4 qs1)) ∧ Hid (PlTo zs n (layR zs n W H) i t qs qs1) ∧ Hid (wq.grownBy wr (some g))) (fun x _ => m - (intOf x).toNat)
        case atStart => exact ⟨0, _, Nat.zero_le _, rfl, RQ5, PS, Lib.hid (World.grownBy.refl _ _)⟩
        case round =>
          obtain ⟨t, qs1, ht, rfl, HR, HPl, HG⟩ := hrel
          have HG3 := Lib.hid (grown_trans (NC.out.grown _) HG.out)
          have t0 : (0 : Int) ≤ (t : Int) := by omega
          by_cases hlt : t < m
          · have t1 : (t : Int) < (m : Int) := by omega
            obtain ⟨_, kr0, kr1, kr2, kr3⟩ := KF.out wr HG3.out
            have gk := IK.out wr HG3.out t hlt
            obtain ⟨go, gs⟩ := KG.out wr HG.out t hlt
            have ihc := Lib.hid (fun (W1 : World) (hW : New wr W1) => IHT.out t hlt qs1 W1 (grown_new HG3.out hW) HPl.out.1 (HR.out.new hW))
            rw [LJ.out t hlt] at ihc
            have sb := SB.out t hlt
            have PT := Lib.hid (fun qs2 h2 => PST.out t hlt qs1 qs2 HPl.out h2)
            generalize (kidL zs n i).getD t 0 = u at *
            generalize os.getD t 0 = z at *
            generalize ss.getD t 0 = y at *
            obtain ⟨⟨sb0, sb1⟩, sb2, sb3⟩ := sb
            have px : IntKind.i64.wrap (r0 + z) = r0 + z := IntWalk.i64_in _ (by omega)
            have px2 : wrap64 (r0 + z) = r0 + z := w64s _ px
            go_wp2
            go_still_tail 22, (by kernel_rfl)
            change wpList _ _ _ _ _ wr.drew
            have ND := Lib.hid (New.refl wr).drew
            obtain ⟨wd, hwd⟩ : ∃ wd, wr.drew = wd := ⟨_, rfl⟩
            rw [hwd] at ND ⊢
            clear hwd
            go_wp2_with fail
            refine (ihc.out wd ND.out).mono ?_
            rintro e w6 ⟨rfl, G6, qs2, R6, P6⟩
            have G6 := Lib.hid (grown_trans (grown_new HG.out ND.out) G6)
            have R6 := Lib.hid R6
            have P6 := Lib.hid (PT.out qs2 P6)
            clear kr0 kr1 kr2 kr3 gk go gs ihc PT
            go_wp2
            go_roundw
            case rel => exact ⟨t + 1, qs2, by omega, by go_num, R6, P6, G6⟩
            case measure => simp [intOf]; omega
          · obtain rfl : t = m := by omega
            have PE := Lib.hid (PFU.out qs1 HPl.out)
            clear HPl
            go_wp2
            go_end0
            exact ⟨rfl, grown_trans (grown_trans G3.out (NC.out.grown _)) HG.out, qs1, HR.out, PE.out⟩
    · by_cases hk3 : y1 = 3
      · subst hk3
        have P0 := Lib.hid (LP.out (fun j => (natL zs n j).2) NEM.out (.inr fun _ => rfl))
        have hsp : 0 ≤ r3 ∧ r3 ≤ 10000 := by omega
        have LO := Lib.hid (P0.out.o (just := y8) hsp ⟨jb0, jb1⟩)
        have FE := Lib.hid (show (fun j => if false = true then (natL zs n j).1 else (natL zs n j).2) = (fun j => (natL zs n j).2) from rfl)
        have FX := Lib.hid (fun (W1 : World) (hW : New w3 W1) => sflexes_any (some ⟨b, off, none⟩) n c zs HV.out i false (some ⟨b3, 0, none⟩) m c3 HM.out W1 (HX3.out.new hW) (by have h1 := (HK3.out.new hW).ints; rw [LM.out] at h1; exact h1))
        rw [FE.out] at FX
        have SPE := Lib.hid (show spO (kidL zs n i) y5 r3 = mx 0 (r3 - P) by unfold spO; rw [HM.out, MXE.out, HP.out])
        have SPB := P0.out.spo hsp
        rw [SPE.out] at SPB
        have FL := Lib.hid (fun A1 c1 (W1 : World) (h1 : Sts 5 W1 A1 m (flxL (fun j => (natL zs n j).2) zs (kidL zs n i))) => sflex_any A1 m c1 (flxL (fun j => (natL zs n j).2) zs (kidL zs n i)) (mx 0 (r3 - P)) (by have h2 := P0.out.ok; rw [HM.out] at h2; exact h2) (by omega) W1 h1)
        rw [show flexL m (flxL (fun j => (natL zs n j).2) zs (kidL zs n i)) (mx 0 (r3 - P)) = szL (fun j => (natL zs n j).2) zs (kidL zs n i) y5 r3 by have h2 := P0.out.sz hsp; rw [SPE.out, HM.out] at h2; exact h2.symm] at FL
        have OFF := Lib.hid (fun A1 c1 (W1 : World) (h1 : Ints W1 A1 m (szL (fun j => (natL zs n j).2) zs (kidL zs n i) y5 r3)) => soffs_any A1 m c1 (szL (fun j => (natL zs n j).2) zs (kidL zs n i) y5 r3) r3 y5 y8 (P0.out.row hsp) (by omega) (by omega) W1 h1)
        rw [show offsL y5 (frontL (leftA (szL (fun j => (natL zs n j).2) zs (kidL zs n i) y5 r3) r3 y5) (szL (fun j => (natL zs n j).2) zs (kidL zs n i) y5 r3).length y8) (szL (fun j => (natL zs n j).2) zs (kidL zs n i) y5 r3) = ofL (fun j => (natL zs n j).2) zs (kidL zs n i) y5 r3 y8 by rw [P0.out.of hsp ⟨jb0, jb1⟩, P0.out.sz_len hsp]] at OFF
        have LS : Hid ((szL (fun j => (natL zs n j).2) zs (kidL zs n i) y5 r3).length = m) := Lib.hid (by rw [LO.out.ls, HM.out])
        have LF : Hid ((ofL (fun j => (natL zs n j).2) zs (kidL zs n i) y5 r3 y8).length = m) := Lib.hid (by rw [LO.out.lo, HM.out])
        have SB := Lib.hid (fun t (ht : t < m) => And.intro (LO.out.sb t (by rw [HM.out]; exact ht)) (LO.out.ob t (by rw [HM.out]; exact ht)))
        have LJ := Lib.hid (fun t (ht : t < m) => (show layR zs n W H ((kidL zs n i).getD t 0) = (fun (os ss : List Int) => ((r0, r1 + os.getD t 0, r2, ss.getD t 0) : Rq)) (ofL (fun j => (natL zs n j).2) zs (kidL zs n i) y5 r3 y8) (szL (fun j => (natL zs n j).2) zs (kidL zs n i) y5 r3) by
          rw [(LKT.out t ht).1, PQ3.out (KN.out) (q0, q1, q2, q3), HRQ.out, lineT_at (by rw [HM.out]; exact ht)]; rfl))
        have pd : IntKind.i64.wrap (r3 - P) = r3 - P := IntWalk.i64_in _ (by omega)
        have pd2 : wrap64 (r3 - P) = r3 - P := w64s _ pd
        have OFE : Hid ((flxL (fun j => (natL zs n j).2) zs (kidL zs n i)).length = m * 5) := Lib.hid (by rw [flxL_len, HM.out])
        generalize ofL (fun j => (natL zs n j).2) zs (kidL zs n i) y5 r3 y8 = os at *
        generalize szL (fun j => (natL zs n j).2) zs (kidL zs n i) y5 r3 = ss at *
        generalize flxL (fun j => (natL zs n j).2) zs (kidL zs n i) = fx at *
        have ibx : -1000000 ≤ r1 ∧ r1 ≤ 1000000 := by omega
        obtain ⟨ibx0, ibx1⟩ := ibx
        clear LO P0 SPB LP FE SPE
        obtain ⟨⟨k1, k5, k8_⟩, kr0, kr1, kr2, kr3⟩ := KF.out w3 (World.grownBy.refl _ _)
        go_wp2
        have NC := Lib.hid (New.refl w3).drew
        have KK := (KF.out w3.drew (NC.out.grown _)).2.2.2.2
        clear k1 k5 k8_ kr0 kr1 kr2 kr3
        go_region_held3 (fun w' => w'.cell? ⟨w2.heap.size, 3, none⟩ = some (.int .i64 r3))
          (first | exact KK | assumption)
          (first
            | (go_at_call 98; refine (FX.out _ NC.out).mono ?_; rintro e wk ⟨v, rfl, O1, Nk⟩; (obtain ⟨A1, c1, rfl, _, Z1⟩ := O1.res); (have I1 := Lib.hid (Sts.of_res (m := 4) Z1 OFE.out)); (have KK := (KF.out wk ((NC.out.trans Nk).grown _)).2.2.2.2); (replace NC := Lib.hid (NC.out.trans Nk)); clear O1 Nk Z1)
            | (go_at_call 97; refine (FL.out A1 c1 _ I1.out).mono ?_; rintro e wk ⟨A2, n2, c2, rfl, l2, rr2, Nk⟩; (obtain rfl : m = n2 := by have := LS.out; omega); (have I2 := Lib.hid (rr2.ints LS.out)); (have KK := (KF.out wk ((NC.out.trans Nk).grown _)).2.2.2.2); (have zk := NC.out.le); (have RR2 := Lib.hid rr2); (replace NC := Lib.hid (NC.out.trans Nk)); clear Nk l2 rr2))
        all_goals
          obtain ⟨⟨k1, k5, k8_⟩, kr0, kr1, kr2, kr3⟩ := KF.out wk (NC.out.grown _)
          go_wp2_with (go_at_call 99; refine (OFF.out A2 c2 _ I2.out).mono ?_; rintro e wq ⟨A4, n4, c4, rfl, l4, rr4, Nk⟩; (obtain rfl : m = n4 := by have := LF.out; omega); (have I4 := Lib.hid (rr4.ints LF.out)); (have I2 := Lib.hid (I2.out.new Nk)); (have zq := NC.out.le); (have RR4 := Lib.hid rr4); (have RR2 := Lib.hid (RR2.out.new Nk)); (replace NC := Lib.hid (NC.out.trans Nk)); clear Nk l4 rr4)
          obtain ⟨b4, rfl, u4, _, Z4⟩ := RR4.out.2 (by rw [LF.out]; exact h0)
          obtain ⟨b2, rfl, u2, _, Z2⟩ := RR2.out.2 (by rw [LS.out]; exact h0)
          have Z4 := Lib.hid Z4; have Z2 := Lib.hid Z2
          have b4g : b4 ≠ g := by omega
          have b2g : b2 ≠ g := by omega
          have KG := Lib.hid (fun (W : World) (hW : wq.grownBy W (some g)) t (ht : t < m) => (show W.cell? ⟨b4, t, none⟩ = some (.int .i64 (os.getD t 0)) ∧ W.cell? ⟨b2, t, none⟩ = some (.int .i64 (ss.getD t 0)) from
            ⟨(grown_cell (o := t) hW Z4.out.lt (by simpa using b4g)).trans (Z4.out.c t (by rw [LF.out]; exact ht)), (grown_cell (o := t) hW Z2.out.lt (by simpa using b2g)).trans (Z2.out.c t (by rw [LS.out]; exact ht))⟩))
          have RQ5 := Lib.hid (RQ.out.new NC.out)
          clear k1 k5 k8_ kr0 kr1 kr2 kr3 RR4 RR2 I2 I4 I1 KK FX FL OFF u4 u2 zk zq
          go_loopw [17] (fun x wr => ∃ (t : Nat) (qs1 : List Rq), t ≤ m ∧ x = .int .i64 t ∧ Hid (Row wr g (flat4 qs1)) ∧ Hid (PlTo zs n (layR zs n W H) i t qs qs1) ∧ Hid (wq.grownBy wr (some g))) (fun x _ => m - (intOf x).toNat)
          case atStart => exact ⟨0, _, Nat.zero_le _, rfl, RQ5, PS, Lib.hid (World.grownBy.refl _ _)⟩
          case round =>
            obtain ⟨t, qs1, ht, rfl, HR, HPl, HG⟩ := hrel
            have HG3 := Lib.hid (grown_trans (NC.out.grown _) HG.out)
            have t0 : (0 : Int) ≤ (t : Int) := by omega
            by_cases hlt : t < m
            · have t1 : (t : Int) < (m : Int) := by omega
              obtain ⟨_, kr0, kr1, kr2, kr3⟩ := KF.out wr HG3.out
              have gk := IK.out wr HG3.out t hlt
              obtain ⟨go, gs⟩ := KG.out wr HG.out t hlt
              have ihc := Lib.hid (fun (W1 : World) (hW : New wr W1) => IHT.out t hlt qs1 W1 (grown_new HG3.out hW) HPl.out.1 (HR.out.new hW))
              rw [LJ.out t hlt] at ihc
              have sb := SB.out t hlt
              have PT := Lib.hid (fun qs2 h2 => PST.out t hlt qs1 qs2 HPl.out h2)
              generalize (kidL zs n i).getD t 0 = u at *
              generalize os.getD t 0 = z at *
              generalize ss.getD t 0 = y at *
              obtain ⟨⟨sb0, sb1⟩, sb2, sb3⟩ := sb
              have px : IntKind.i64.wrap (r1 + z) = r1 + z := IntWalk.i64_in _ (by omega)
              have px2 : wrap64 (r1 + z) = r1 + z := w64s _ px
              go_wp2
              go_still_tail 22, (by kernel_rfl)
              change wpList _ _ _ _ _ wr.drew
              have ND := Lib.hid (New.refl wr).drew
              obtain ⟨wd, hwd⟩ : ∃ wd, wr.drew = wd := ⟨_, rfl⟩
              rw [hwd] at ND ⊢
              clear hwd
              go_wp2_with fail
              refine (ihc.out wd ND.out).mono ?_
              rintro e w6 ⟨rfl, G6, qs2, R6, P6⟩
              have G6 := Lib.hid (grown_trans (grown_new HG.out ND.out) G6)
              have R6 := Lib.hid R6
              have P6 := Lib.hid (PT.out qs2 P6)
              clear kr0 kr1 kr2 kr3 gk go gs ihc PT
              go_wp2
              go_roundw
              case rel => exact ⟨t + 1, qs2, by omega, by go_num, R6, P6, G6⟩
              case measure => simp [intOf]; omega
            · obtain rfl : t = m := by omega
              have PE := Lib.hid (PFU.out qs1 HPl.out)
              clear HPl
              go_wp2
              go_end0
              exact ⟨rfl, grown_trans (grown_trans G3.out (NC.out.grown _)) HG.out, qs1, HR.out, PE.out⟩
      · have P0 := Lib.hid (LP.out (fun j => (natL zs n j).2) NEM.out (.inr fun _ => rfl))
        have TB := Lib.hid (fun t (ht : t ≤ m) => (show 0 ≤ topL (fun j => (natL zs n j).2) y5 (kidL zs n i) t ∧ topL (fun j => (natL zs n j).2) y5 (kidL zs n i) t ≤ 10000 by
          have h1 := topL_bd P0.out (t := t) (by rw [HM.out]; exact ht); have h2 := P0.out.gs; have h3 := P0.out.l8; rw [HM.out] at h3; omega))
        have TS := Lib.hid (fun t (ht : t < m) => topL_succ (g := (fun j => (natL zs n j).2)) (gap := y5) (l := kidL zs n i) (t := t) (by rw [HM.out]; exact ht))
        have T0 := Lib.hid (show topL (fun j => (natL zs n j).2) y5 (kidL zs n i) 0 = 0 by simp [topL])
        have NA := Lib.hid (fun t (ht : t < m) => (show SNatAt (some ⟨b, off, none⟩) n c zs ((kidL zs n i).getD t 0) from snatural_any (some ⟨b, off, none⟩) n c zs HV.out (n - (kidL zs n i).getD t 0) _ rfl (LKT.out t ht).2.2))
        have LJ := Lib.hid (fun t (ht : t < m) => (show layR zs n W H ((kidL zs n i).getD t 0) = (r0, r1 + topL (fun j => (natL zs n j).2) y5 (kidL zs n i) t, r2, (natL zs n ((kidL zs n i).getD t 0)).2) by
          rw [(LKT.out t ht).1, PQ1.out (by rw [KN.out]; exact hk2) (by rw [KN.out]; exact hk3) (q0, q1, q2, q3), HRQ.out, blkL_at (by rw [HM.out]; exact ht)]))
        have SM := Lib.hid (fun t (ht : t < m) => (nat_sm HV.out (LKT.out t ht).2.2).2)
        have bk2 : (y1 == 2) = false := by simpa using hk2
        have bk3 : (y1 == 3) = false := by simpa using hk3
        generalize topL (fun j => (natL zs n j).2) y5 (kidL zs n i) = tp at *
        have ibx : -1000000 ≤ r1 ∧ r1 ≤ 1000000 := by omega
        obtain ⟨ibx0, ibx1⟩ := ibx
        clear P0 LP PQ1 PQ2 PQ3 hk2 hk3
        obtain ⟨⟨k1, k5, k8_⟩, kr0, kr1, kr2, kr3⟩ := KF.out w3 (World.grownBy.refl _ _)
        go_wp2
        rw [pw]
        clear k1 k5 k8_ kr0 kr1 kr2 kr3 bk2 bk3
        go_loopw [18, 19] (fun yv x wr => ∃ (t : Nat) (qs1 : List Rq), t ≤ m ∧ x = .int .i64 t ∧ yv = .int .i64 (r1 + tp t) ∧ Hid (Row wr g (flat4 qs1)) ∧ Hid (PlTo zs n (layR zs n W H) i t qs qs1) ∧ Hid (w3.grownBy wr (some g))) (fun _ x _ => m - (intOf x).toNat)
        case atStart => exact ⟨0, _, Nat.zero_le _, rfl, by rw [T0.out, Int.add_zero], RQ, PS, Lib.hid (World.grownBy.refl _ _)⟩
        case round =>
          obtain ⟨t, qs1, ht, rfl, rfl, HR, HPl, HG⟩ := hrel
          have t0 : (0 : Int) ≤ (t : Int) := by omega
          by_cases hlt : t < m
          · have t1 : (t : Int) < (m : Int) := by omega
            have gk := IK.out wr HG.out t hlt
            have nat := Lib.hid (NA.out t hlt wr (HX3.out.grown HG.out HAA.out))
            have IKU := Lib.hid (fun W1 (hW : w3.grownBy W1 (some g)) => IK.out W1 hW t hlt)
            have ihc := Lib.hid (fun (W1 : World) (hW : New wr W1) => IHT.out t hlt qs1 W1 (grown_new HG.out hW) HPl.out.1 (HR.out.new hW))
            rw [LJ.out t hlt] at ihc
            have T1 := TS.out t hlt
            have tb := TB.out t ht
            have sm := SM.out t hlt
            have PT := Lib.hid (fun qs2 h2 => PST.out t hlt qs1 qs2 HPl.out h2)
            generalize (natL zs n ((kidL zs n i).getD t 0)).1 = nx at *
            generalize (natL zs n ((kidL zs n i).getD t 0)).2 = ny at *
            generalize (kidL zs n i).getD t 0 = u at *
            have T1 := Lib.hid T1
            obtain ⟨tb0, tb1⟩ := tb
            obtain ⟨sm0, sm1⟩ := sm
            obtain ⟨ty, hty⟩ : ∃ ty, r1 + tp t = ty := ⟨_, rfl⟩
            have HT := Lib.hid hty
            rw [hty] at ihc ⊢
            have ty0 : -1000000 ≤ ty := by omega
            have ty1 : ty ≤ 1010000 := by omega
            clear hty
            go_wp2_with (go_at_call 62; refine nat.out.mono ?_; rintro e w5 ⟨rfl, N5⟩; (obtain ⟨_, kr0, kr1, kr2, kr3⟩ := KF.out w5 (grown_new HG.out N5)); (have gk5 := IKU.out w5 (grown_new HG.out N5)); (have N5 := Lib.hid N5))
            go_still_tail 13, (by kernel_rfl)
            change wpList _ _ _ _ _ w5.drew
            have ND := Lib.hid N5.out.drew
            obtain ⟨wd, hwd⟩ : ∃ wd, w5.drew = wd := ⟨_, rfl⟩
            rw [hwd] at ND ⊢
            clear hwd
            go_wp2_with fail
            refine (ihc.out wd ND.out).mono ?_
            rintro e w6 ⟨rfl, G6, qs2, R6, P6⟩
            have G6 := Lib.hid (grown_trans (grown_new HG.out ND.out) G6)
            have R6 := Lib.hid R6
            have P6 := Lib.hid (PT.out qs2 P6)
            clear kr0 kr1 kr2 kr3 gk gk5 ihc PT
            obtain ⟨⟨k1, k5, k8_⟩, _⟩ := KF.out w6 G6.out
            have e1 : IntKind.i64.wrap (ty + ny) = ty + ny := IntWalk.i64_in _ (by omega)
            have e2 : IntKind.i64.wrap (ty + ny + y5) = ty + ny + y5 := IntWalk.i64_in _ (by omega)
            go_wp2
            go_roundw
            case rel => exact ⟨t + 1, qs2, by omega, by go_num, by rw [T1.out, ← HT.out]; congr 1; omega, R6, P6, G6⟩
            case measure => simp [intOf]; omega
          · obtain rfl : t = m := by omega
            have PE := Lib.hid (PFU.out qs1 HPl.out)
            clear HPl
            go_wp2
            go_end0
            exact ⟨rfl, grown_trans G3.out HG.out, qs1, HR.out, PE.out⟩
end Go.Proofs.Ytobnjagmakhgpaa
