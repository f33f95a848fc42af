/- The rectangles of wrapped parts, in the program, walked. Condition: the parts can be read, and are no more than their room. -/
import Derived.Test.YtpkajdnndognnaaPrtU
import Derived.Test.YtpkajdnndognnaaPrtR
import Derived.Shelf.RegionOpen
import Derived.RangeFuncCalls
namespace Go.Proofs.Ytpkajdnndognnaa
open Go.RowKit Go.Shelf
attribute [local go_sem] Oper.semAt_some

theorem row_news {w : World} {g : Nat} {y0 y1 y2 y3 : Int} (h : Row w g [y0, y1, y2, y3]) : ∀ j u, [Value.int .i64 y0, Value.int .i64 y1, Value.int .i64 y2, Value.int .i64 y3][j]? = some u → w.cell? ((⟨g, 0, none⟩ : Addr).add j) = some u := fun j u hu => by
  have hj : j < 4 := by
    rcases Nat.lt_or_ge j 4 with h1 | h1
    · exact h1
    · rw [List.getElem?_eq_none (by simpa using h1)] at hu; cases hu
  have hc := h.c j (by simpa using hj)
  have e : u = .int .i64 ([y0, y1, y2, y3].getD j 0) := by
    match j, hj with
    | 0, _ => simp at hu; exact hu.symm
    | 1, _ => simp at hu; exact hu.symm
    | 2, _ => simp at hu; exact hu.symm
    | 3, _ => simp at hu; exact hu.symm
    | j + 4, hj => omega
  rw [e, Go.WideShapes.add_plain, Nat.zero_add]
  exact hc
theorem p_kept {W w1 : World} {o o' : Obj} {u : Value} {B : Nat} {x : Value} {r : Option Nat} (hg : ((W.alloc o).alloc o').grownBy w1 r) (hr : r ≠ some W.heap.size) (hB : B < W.heap.size) (hx : (W.alloc o).cell? ⟨W.heap.size, 0, none⟩ = some x) : (w1.setCell ⟨B, 0, none⟩ u).cell? ⟨W.heap.size, 0, none⟩ = some x := by
  have h1 := (grownBy_setCell' w1 B u).block W.heap.size (Nat.lt_of_lt_of_le (by simp; omega) hg.size) (fun e => by have := Option.some.inj e; omega)
  have h2 := hg.block W.heap.size (by simp; omega) (fun e => hr e.symm)
  have h3 : ((W.alloc o).alloc o').cell? ⟨W.heap.size, 0, none⟩ = some x := by
    rw [World.cell?_of_block (((New.refl (W.alloc o)).alloc o').block W.heap.size (by simp))]
    exact hx
  exact (World.cell?_of_block (h1.trans h2)).trans h3
theorem ownFrom_ws {w : World} {gap : Int} {β : Type} (f : β → Nat × List Int × Int) : OwnFrom (w.heap.size + 6) (fun (s : β) W => ∃ v, WS w W gap v (f s).1 (f s).2.1 (f s).2.2) := by
  rintro s X Y row ⟨v, h⟩ hg hrow
  refine ⟨v, h.grown hg (fun i e => ⟨(hrow i e).1, fun e2 => ?_⟩)⟩
  obtain ⟨o, ho, hc⟩ := (hrow i e).2
  rcases h.row.1.2 with ⟨rfl, _⟩ | ⟨g, cap, cur, rfl, _, hgb, _⟩
  · simp [Value.ownBlock] at e2
  · obtain rfl : g = i := by simpa [Value.ownBlock] using e2
    rw [hgb] at ho; cases ho; cases hc
set_option maxRecDepth 100000 in
set_option maxHeartbeats 4000000 in
theorem WrapParts_yes (b off n c : Nat) (zs : List Int) (wd gap : Int) (hok : wrOk zs n wd gap = true) (h0 : 0 < n) (hnc : n ≤ c) (w : World) (hx : Sts 2 w (some ⟨b, off, none⟩) n zs) :
    CallsIn Fence.wide 6 Try.prog 15 #[.slice (some ⟨b, off, none⟩) n c, .int .i64 wd, .int .i64 gap] w (AnsC 4 w (rcs zs n wd gap (nl zs n wd gap))) := by
  have n12 := n_le (wrOk_iff.1 hok).1
  have NL := nl_le (zs := zs) (n := n) (wd := wd) (gap := gap)
  have blt : b < w.heap.size := by obtain ⟨b', off', e, hb', _⟩ := hx.at_ h0; simp only [Option.some.injEq, Addr.mk.injEq, and_true] at e; obtain ⟨rfl, rfl⟩ := e; exact hb'
  obtain ⟨i0, hi, hz0, hz1, hz2⟩ := info_parts info_Rect
  refine callsIn_of_wp_marks Try.func15 rfl trivial ?_ rfl
  simp only [Try.ntmps15, List.size_toArray, List.length_cons, List.length_nil, Nat.reduceAdd, Nat.reduceSub, Array.replicate_succ, Array.replicate_zero, List.push_toArray, List.append_toArray, List.nil_append, List.cons_append]
  gi_wp2_with (first | (refine ⟨trivial, ?_⟩; gi_at_call 43; refine (callsIn_wide.2 (linesOf_any _ n c wd gap _)).mono ?_; rintro e w' ⟨rfl, rfl⟩))
  have gi_ : Boxed (((((((w.alloc (.cells #[.int .i64 gap] 3)).alloc (.cells #[.slice none 0 0] 24)).alloc (.cells #[.int .i64 0] 3)).alloc (.cells #[.slice (some ⟨b, off, none⟩) n c] 26)).alloc (.cells #[.int .i64 wd] 3)).alloc (.cells #[.int .i64 gap] 3))) w.heap.size 3 (.int .i64 gap) := (((((Boxed.new w 3 (.int .i64 gap)).alloc _).alloc _).alloc _).alloc _).alloc _
  have gr_ : Boxed (((((((w.alloc (.cells #[.int .i64 gap] 3)).alloc (.cells #[.slice none 0 0] 24)).alloc (.cells #[.int .i64 0] 3)).alloc (.cells #[.slice (some ⟨b, off, none⟩) n c] 26)).alloc (.cells #[.int .i64 wd] 3)).alloc (.cells #[.int .i64 gap] 3))) (w.heap.size + 1) 24 (.slice none 0 0) := by have h := Boxed.new (w.alloc (.cells #[.int .i64 gap] 3)) 24 (.slice none 0 0); simp at h; exact (((h.alloc _).alloc _).alloc _).alloc _
  have gt_ : Boxed (((((((w.alloc (.cells #[.int .i64 gap] 3)).alloc (.cells #[.slice none 0 0] 24)).alloc (.cells #[.int .i64 0] 3)).alloc (.cells #[.slice (some ⟨b, off, none⟩) n c] 26)).alloc (.cells #[.int .i64 wd] 3)).alloc (.cells #[.int .i64 gap] 3))) (w.heap.size + 2) 3 (.int .i64 0) := by have h := Boxed.new ((w.alloc (.cells #[.int .i64 gap] 3)).alloc (.cells #[.slice none 0 0] 24)) 3 (.int .i64 0); simp at h; exact ((h.alloc _).alloc _).alloc _
  have N0 : New w (((((((w.alloc (.cells #[.int .i64 gap] 3)).alloc (.cells #[.slice none 0 0] 24)).alloc (.cells #[.int .i64 0] 3)).alloc (.cells #[.slice (some ⟨b, off, none⟩) n c] 26)).alloc (.cells #[.int .i64 wd] 3)).alloc (.cells #[.int .i64 gap] 3))) := by (repeat (first | exact New.refl _ | assumption | refine New.alloc ?_ _ | refine New.drew ?_ | refine New.drewN ?_ _ | refine New.setCell ?_ (by first | omega | (simp; omega) | (simp; done)) _ | refine New.trans ?_ (by assumption)))
  have cl : (((((((w.alloc (.cells #[.int .i64 gap] 3)).alloc (.cells #[.slice none 0 0] 24)).alloc (.cells #[.int .i64 0] 3)).alloc (.cells #[.slice (some ⟨b, off, none⟩) n c] 26)).alloc (.cells #[.int .i64 wd] 3)).alloc (.cells #[.int .i64 gap] 3))).cell? ⟨w.heap.size + 3, 0, none⟩ = some (.slice (some ⟨b, off, none⟩) n c) := by simp [go_sem]
  have cw : (((((((w.alloc (.cells #[.int .i64 gap] 3)).alloc (.cells #[.slice none 0 0] 24)).alloc (.cells #[.int .i64 0] 3)).alloc (.cells #[.slice (some ⟨b, off, none⟩) n c] 26)).alloc (.cells #[.int .i64 wd] 3)).alloc (.cells #[.int .i64 gap] 3))).cell? ⟨w.heap.size + 3 + 1, 0, none⟩ = some (.int .i64 wd) := by simp [go_sem]
  have cg : (((((((w.alloc (.cells #[.int .i64 gap] 3)).alloc (.cells #[.slice none 0 0] 24)).alloc (.cells #[.int .i64 0] 3)).alloc (.cells #[.slice (some ⟨b, off, none⟩) n c] 26)).alloc (.cells #[.int .i64 wd] 3)).alloc (.cells #[.int .i64 gap] 3))).cell? ⟨w.heap.size + 3 + 2, 0, none⟩ = some (.int .i64 gap) := by simp [go_sem]
  have sz : (((((((w.alloc (.cells #[.int .i64 gap] 3)).alloc (.cells #[.slice none 0 0] 24)).alloc (.cells #[.int .i64 0] 3)).alloc (.cells #[.slice (some ⟨b, off, none⟩) n c] 26)).alloc (.cells #[.int .i64 wd] 3)).alloc (.cells #[.int .i64 gap] 3))).heap.size = w.heap.size + 6 := by simp
  have S0 : WS w (((((((w.alloc (.cells #[.int .i64 gap] 3)).alloc (.cells #[.slice none 0 0] 24)).alloc (.cells #[.int .i64 0] 3)).alloc (.cells #[.slice (some ⟨b, off, none⟩) n c] 26)).alloc (.cells #[.int .i64 wd] 3)).alloc (.cells #[.int .i64 gap] 3))) gap (.slice none 0 0) 0 [] 0 := ⟨gi_, gr_, gt_, ⟨World.ownsRow_nil _ _ _ _, rfl⟩, N0, by rw [sz]; omega⟩
  clear gi_ gr_ gt_
  refine wpIn_rangeFunc_ownG rfl (by omega) (gf := 63) (lb := #[.pointer (some ⟨w.heap.size + 3, 0, none⟩), .pointer (some ⟨w.heap.size + 4, 0, none⟩), .pointer (some ⟨w.heap.size + 5, 0, none⟩)]) rfl trivial (enters_of Try.func63 (by kernel_rfl) rfl)
    (lines_stops (w.heap.size + 1) (w.heap.size + 3) b off n c zs wd gap hok h0 hnc (by omega) _ (hx.new N0) cl cw cg) Keep3.trans (Keep3.b (by rw [sz]; omega) (by rw [sz]; omega)) (Below.refl _ _) (fun _ => rfl)
    (fun pre W => ∃ v, WS w W gap v (wpP zs n wd gap pre).2.2 (wpP zs n wd gap pre).2.1 (wpP zs n wd gap pre).1)
    (fun _ _ _ => False)
    (by rw [sz]; exact ownFrom_ws (fun pre => ((wpP zs n wd gap pre).2.2, (wpP zs n wd gap pre).2.1, (wpP zs n wd gap pre).1)))
    (fun _ _ _ _ _ hs _ _ => hs)
    ⟨_, S0⟩
    (fun x => { tmps := #[.slice (some ⟨b, off, none⟩) n c, .int .i64 wd, .int .i64 gap, undef, undef, .pointer (some ⟨w.heap.size, 0, none⟩), .slice none 0 0, .pointer (some ⟨w.heap.size + 1, 0, none⟩), .pointer (some ⟨w.heap.size + 2, 0, none⟩), .slice (some ⟨b, off + st zs n wd gap x.1 * 2, none⟩) (ln zs n wd gap (st zs n wd gap x.1)) (c - st zs n wd gap x.1), undef, undef, undef, .slice (some ⟨b, off, none⟩) n c, .int .i64 wd, .int .i64 gap, .func (.func 63) #[] #[.pointer (some ⟨w.heap.size + 3, 0, none⟩), .pointer (some ⟨w.heap.size + 4, 0, none⟩), .pointer (some ⟨w.heap.size + 5, 0, none⟩)], .slice (some ⟨b, off + st zs n wd gap x.1 * 2, none⟩) (ln zs n wd gap (st zs n wd gap x.1)) (c - st zs n wd gap x.1), undef, undef, undef, undef, undef, undef, undef, undef, undef, undef, undef, undef, undef, undef, undef, undef, undef, undef, undef, undef, undef, undef, undef, undef, undef, undef, undef, undef, undef, undef], defers := [] }) ?assign ?body ?done ?stop
  case assign =>
    intro l x W K hK
    dsimp only [encL]
    gi_wp2
    exact hK
  case body =>
    rintro l pre x W ⟨v, HS⟩ hlt
    obtain ⟨hv1, hw, hg⟩ := wrOk_iff.1 hok
    have BD := wpP_bd hv1 hg pre.length pre rfl
    have LI := line_in x.2
    have L1 := ln_ge (zs := zs) (n := n) (wd := wd) (gap := gap) (st zs n wd gap x.1)
    have HBD := lnH_bd hv1 x.2
    have LH : Hid (∀ W', New w W' → Calls Try.prog 44 #[.slice (some ⟨b, off + st zs n wd gap x.1 * 2, none⟩) (ln zs n wd gap (st zs n wd gap x.1)) (c - st zs n wd gap x.1)] W' fun e w' => e = .returned (.int .i64 (lnH zs n wd gap x.1)) ∧ New W' w') := Lib.hid (fun W' hW' => lineHeight_any b off _ _ _ n zs hv1 LI L1 W' (hx.new hW'))
    have CS := Lib.hid (wpP_snoc pre x)
    have FB := Lib.hid (fun j (h : st zs n wd gap x.1 + j ≤ n) => lf_bd (zs := zs) (n := n) (gap := gap) hv1 hg (a := st zs n wd gap x.1) j h)
    have WB := Lib.hid (fun k (hk : k < n) => (pr_bd hv1 hk).1)
    obtain ⟨b', off', e', hb, hc⟩ := hx.at_ h0
    simp only [Option.some.injEq, Addr.mk.injEq, and_true] at e'
    obtain ⟨rfl, rfl⟩ := e'
    have GC : Hid (∀ j, st zs n wd gap x.1 + j < n → w.cell? ⟨b, off + st zs n wd gap x.1 * 2 + j * 2, none⟩ = some (.int .i64 (pw zs (st zs n wd gap x.1 + j))) ∧ w.cell? ⟨b, off + st zs n wd gap x.1 * 2 + j * 2 + 1, none⟩ = some (.int .i64 (ph zs (st zs n wd gap x.1 + j)))) := Lib.hid (fun j hj => by
      have h0 := hc ((st zs n wd gap x.1 + j) * 2) (by omega)
      have h1 := hc ((st zs n wd gap x.1 + j) * 2 + 1) (by omega)
      rw [show off + (st zs n wd gap x.1 + j) * 2 = off + st zs n wd gap x.1 * 2 + j * 2 by omega] at h0
      rw [show off + ((st zs n wd gap x.1 + j) * 2 + 1) = off + st zs n wd gap x.1 * 2 + j * 2 + 1 by omega] at h1
      exact ⟨h0, h1⟩)
    obtain ⟨hg0, hg1⟩ := hg
    clear hc hv1 hw
    generalize lnH zs n wd gap x.1 = H at *
    generalize ln zs n wd gap (st zs n wd gap x.1) = L at *
    generalize st zs n wd gap x.1 = S at *
    generalize (wpP zs n wd gap pre).1 = Y at *
    generalize (wpP zs n wd gap pre).2.1 = R at *
    generalize (wpP zs n wd gap pre).2.2 = q at *
    generalize off + S * 2 = O at *
    generalize pre.length = pl at *
    have L0 : (0 : Int) ≤ (L : Int) := by omega
    have hmx : Try.prog.follows .mixedOrders = true := by kernel_rfl
    replace HS := Lib.hid HS
    gi_wp2
    gi_loopw [10, 20] (fun f i W' => ∃ j : Nat, j ≤ L ∧ i = .int .i64 j ∧ f = .int .i64 (lf zs gap S j) ∧ ∃ v', Hid (WS w W' gap v' (q + j) (R ++ rcl zs gap S Y j) Y) ∧ Hid (KeepsOthers W W') ∧ Hid (Keep3 (w.heap.size + 1) (w.heap.size + 3) W W')) (fun _ i _ => L - (intOf i).toNat)
    case atStart => exact ⟨0, Nat.zero_le _, rfl, rfl, v, Lib.hid (by simpa [rcl] using HS.out), Lib.hid (KeepsOthers.refl _), Lib.hid (Keep3.refl _ _ _)⟩
    case round =>
      obtain ⟨j, hj, rfl, rfl, v', HT, HK, HL⟩ := hrel
      have j0 : (0 : Int) ≤ (j : Int) := by omega
      by_cases hjl : j < L
      · have j1 : (j : Int) < (L : Int) := by omega
        obtain ⟨q0, q1⟩ := GC.out j (by omega)
        have g0 := (World.cell?_of_block (HT.out.b.block b hb)).trans q0
        have g1 := (World.cell?_of_block (HT.out.b.block b hb)).trans q1
        have fb := FB.out j (by omega)
        have wb := WB.out (S + j) (by omega)
        have fs := Lib.hid (lf_step (zs := zs) (gap := gap) S j)
        have rs := Lib.hid (rcl_step (zs := zs) (gap := gap) R S Y j)
        clear q0 q1
        generalize R ++ rcl zs gap S Y j = RR at *
        generalize lf zs gap S j = X at *
        generalize pw zs (S + j) = p at *
        generalize ph zs (S + j) = z at *
        have s5 : IntKind.i64.wrap (X + (p + gap)) = X + (p + gap) := IntWalk.i64_in _ (by omega)
        have s6 : IntKind.i64.wrap (p + gap) = p + gap := IntWalk.i64_in _ (by omega)
        have W1 := HT.out.alloc (.cells #[.int .i64 p, .int .i64 z] 41)
        have c1 := W1.r.cell
        have c2 := W1.t.cell
        have W2 := Lib.hid (W1.alloc (.cells #[.int .i64 X, .int .i64 Y, .int .i64 p, .int .i64 z] 44))
        have RW := Lib.hid (Row.oneRect (wr.alloc (.cells #[.int .i64 p, .int .i64 z] 41)) X Y p z 44)
        rw [show (wr.alloc (.cells #[.int .i64 p, .int .i64 z] 41)).heap.size = wr.heap.size + 1 by simp] at RW
        have z6 := HT.out.sz
        clear W1
        gi_wp2_with (gi_at_builtin; refine wpListIn_append_own _ rfl _ _ 24 rfl (w.heap.size + 6) 44 i0 (.agg #[Value.int .i64 0, Value.int .i64 0, Value.int .i64 0, Value.int .i64 0]) 4 32 Try.underlying24 hi hz0 hz1 hz2 rfl (by decide) v' _ _ rfl W2.out.row.1 ⟨wr.heap.size + 1, 0, none⟩ 1 1 [.int .i64 X, .int .i64 Y, .int .i64 p, .int .i64 z] rfl rfl (row_news RW.out) (by simp [Value.oneCell']) (by unfold maxLen; omega) (by omega) (by simp; omega) ?_)
        intro v2 w1 hown' hgrow _
        obtain ⟨g', cap', rfl⟩ := ownsRow_succ hown'
        have O2 : OwnRect (w.heap.size + 6) w1 (.slice (some ⟨g', 0, none⟩) (q + j + 1) cap') (q + (j + 1)) (RR ++ [X, Y, p, z]) := ⟨by rw [List.map_append]; exact hown', by rw [List.length_append, W2.out.row.2]; simp; omega⟩
        obtain ⟨S3, k3, l3, r3⟩ := W2.out.app O2 hgrow
        have hc1 := r3.cell
        have hf1 := r3.frozen
        have gp3 := S3.g.cell
        have c3 : (w1.setCell ⟨w.heap.size + 1, 0, none⟩ (.slice (some ⟨g', 0, none⟩) (q + j + 1) cap')).cell? ⟨wr.heap.size, 0, none⟩ = some (.int .i64 p) := p_kept hgrow (fun e => by have := HT.out.row.lt e; omega) (by omega) (by simp [go_sem])
        replace S3 := Lib.hid S3
        have K3 := Lib.hid ((KeepsOthers.alloc _ _).trans ((KeepsOthers.alloc _ _).trans k3))
        have L3 := Lib.hid ((Keep3.new ((New.refl _).alloc _)).trans ((Keep3.new ((New.refl _).alloc _)).trans l3))
        clear hown' hgrow O2 k3 l3 r3
        gi_wp2
        go_roundw
        case rel => exact ⟨j + 1, by omega, by go_num, by rw [fs.out, Int.add_assoc], _, Lib.hid (by rw [rs.out]; exact S3.out), Lib.hid (HK.out.trans K3.out), Lib.hid (HL.out.trans L3.out)⟩
        case measure => simp [intOf]; omega
      · obtain rfl : j = L := by omega
        have s1 : IntKind.i64.wrap (H + gap) = H + gap := IntWalk.i64_in _ (by omega)
        have s2 : IntKind.i64.wrap (Y + (H + gap)) = Y + (H + gap) := IntWalk.i64_in _ (by omega)
        have ND : New w wr.drew := New.trans HT.out.b (New.refl _).drew
        have TD := HT.out.new ((New.refl wr).drew)
        have d1 := TD.t.cell
        have d2 := TD.g.cell
        have d3 := TD.t.frozen
        replace TD := Lib.hid TD
        gi_wp2
        gi_region_with_o (refine ⟨trivial, ?_⟩; gi_at_call 44; refine (CallsIn.inRound l (callsIn_wide.2 (LH.out _ ND))).mono ?_; rintro e w1 ⟨rfl, N1⟩; have T1 := TD.out.new N1; have e1 := T1.t.cell; have e2 := T1.g.cell; have e3 := T1.t.frozen; obtain ⟨T2, k2, l2⟩ := T1.put (Y + (H + gap)); have T2 := Lib.hid T2; have k2 := Lib.hid k2; have l2 := Lib.hid l2; have N1 := Lib.hid N1)
        all_goals
          have KO := (HK.out.trans ((KeepsOthers.of_grownBy (((New.refl wr).drew).grown none) (fun _ _ h => by cases h)).trans ((KeepsOthers.of_grownBy (N1.out.grown none) (fun _ _ h => by cases h)).trans k2.out)))
          have KP := (HL.out.trans ((Keep3.new ((New.refl wr).drew)).trans ((Keep3.new N1.out).trans l2.out)))
          refine ⟨KO.from _, KP, ⟨v', ?_⟩⟩
          rw [CS.out]
          exact T2.out
  case done =>
    rintro D ys W hD rfl ⟨v, HS⟩ hK
    have hc := HS.r.cell
    rw [wpP_up] at HS
    have SN := st_nl (zs := zs) (n := n) (wd := wd) (gap := gap)
    have NF := HS.b.trans (belowK_b (w := w) (Nat.le_refl _) W D _ (.deferred none) (by rw [sz] at hD; omega) hK rfl rfl)
    have OF : OwnRect w.heap.size (W.putObj D (.deferred none)) v (st zs n wd gap (nl zs n wd gap)) (rcs zs n wd gap (nl zs n wd gap)) := ⟨ownsRow_mono (ownsRow_putObj HS.row.1 (.deferred none) hK rfl) (by omega), HS.row.2⟩
    have L8 := OF.2
    gi_wp2
    refine ⟨by simp, .inl ⟨_, _, rfl, run_takeDeferred hK, ?_⟩⟩
    refine ⟨_, results_tmp rfl _ _ _, ?_⟩
    obtain ⟨A8, c8, rfl, hc8, R8⟩ := OF.res
    exact ⟨A8, _, c8, rfl, L8, hc8, R8, NF⟩
  case stop =>
    rintro D c pre W _ _ h _
    exact h.elim
set_option maxRecDepth 100000 in
set_option maxHeartbeats 4000000 in
theorem WrapParts_no (A : Option Addr) (b off c2 n c : Nat) (zs : List Int) (wd gap : Int) (hn : n ≤ 1048576) (hok : wrOk zs n wd gap = false ∨ n = 0) (w : World) (hx : Sts 2 w A n zs) :
    CallsIn Fence.wide 6 Try.prog 15 #[.slice A n c, .int .i64 wd, .int .i64 gap] w (AnsC 4 w []) := by
  obtain ⟨i0, hi, hz0, hz1, hz2⟩ := info_parts info_Rect
  refine callsIn_of_wp_marks Try.func15 rfl trivial ?_ rfl
  simp only [Try.ntmps15, List.size_toArray, List.length_cons, List.length_nil, Nat.reduceAdd, Nat.reduceSub, Array.replicate_succ, Array.replicate_zero, List.push_toArray, List.append_toArray, List.nil_append, List.cons_append]
  gi_wp2_with (first | (refine ⟨trivial, ?_⟩; gi_at_call 43; refine (callsIn_wide.2 (linesOf_any _ n c wd gap _)).mono ?_; rintro e w' ⟨rfl, rfl⟩))
  have gi_ : Boxed (((((((w.alloc (.cells #[.int .i64 gap] 3)).alloc (.cells #[.slice none 0 0] 24)).alloc (.cells #[.int .i64 0] 3)).alloc (.cells #[.slice A n c] 26)).alloc (.cells #[.int .i64 wd] 3)).alloc (.cells #[.int .i64 gap] 3))) w.heap.size 3 (.int .i64 gap) := (((((Boxed.new w 3 (.int .i64 gap)).alloc _).alloc _).alloc _).alloc _).alloc _
  have gr_ : Boxed (((((((w.alloc (.cells #[.int .i64 gap] 3)).alloc (.cells #[.slice none 0 0] 24)).alloc (.cells #[.int .i64 0] 3)).alloc (.cells #[.slice A n c] 26)).alloc (.cells #[.int .i64 wd] 3)).alloc (.cells #[.int .i64 gap] 3))) (w.heap.size + 1) 24 (.slice none 0 0) := by have h := Boxed.new (w.alloc (.cells #[.int .i64 gap] 3)) 24 (.slice none 0 0); simp at h; exact (((h.alloc _).alloc _).alloc _).alloc _
  have gt_ : Boxed (((((((w.alloc (.cells #[.int .i64 gap] 3)).alloc (.cells #[.slice none 0 0] 24)).alloc (.cells #[.int .i64 0] 3)).alloc (.cells #[.slice A n c] 26)).alloc (.cells #[.int .i64 wd] 3)).alloc (.cells #[.int .i64 gap] 3))) (w.heap.size + 2) 3 (.int .i64 0) := by have h := Boxed.new ((w.alloc (.cells #[.int .i64 gap] 3)).alloc (.cells #[.slice none 0 0] 24)) 3 (.int .i64 0); simp at h; exact ((h.alloc _).alloc _).alloc _
  have N0 : New w (((((((w.alloc (.cells #[.int .i64 gap] 3)).alloc (.cells #[.slice none 0 0] 24)).alloc (.cells #[.int .i64 0] 3)).alloc (.cells #[.slice A n c] 26)).alloc (.cells #[.int .i64 wd] 3)).alloc (.cells #[.int .i64 gap] 3))) := by (repeat (first | exact New.refl _ | assumption | refine New.alloc ?_ _ | refine New.drew ?_ | refine New.drewN ?_ _ | refine New.setCell ?_ (by first | omega | (simp; omega) | (simp; done)) _ | refine New.trans ?_ (by assumption)))
  have cl : (((((((w.alloc (.cells #[.int .i64 gap] 3)).alloc (.cells #[.slice none 0 0] 24)).alloc (.cells #[.int .i64 0] 3)).alloc (.cells #[.slice A n c] 26)).alloc (.cells #[.int .i64 wd] 3)).alloc (.cells #[.int .i64 gap] 3))).cell? ⟨w.heap.size + 3, 0, none⟩ = some (.slice A n c) := by simp [go_sem]
  have cw : (((((((w.alloc (.cells #[.int .i64 gap] 3)).alloc (.cells #[.slice none 0 0] 24)).alloc (.cells #[.int .i64 0] 3)).alloc (.cells #[.slice A n c] 26)).alloc (.cells #[.int .i64 wd] 3)).alloc (.cells #[.int .i64 gap] 3))).cell? ⟨w.heap.size + 3 + 1, 0, none⟩ = some (.int .i64 wd) := by simp [go_sem]
  have cg : (((((((w.alloc (.cells #[.int .i64 gap] 3)).alloc (.cells #[.slice none 0 0] 24)).alloc (.cells #[.int .i64 0] 3)).alloc (.cells #[.slice A n c] 26)).alloc (.cells #[.int .i64 wd] 3)).alloc (.cells #[.int .i64 gap] 3))).cell? ⟨w.heap.size + 3 + 2, 0, none⟩ = some (.int .i64 gap) := by simp [go_sem]
  have sz : (((((((w.alloc (.cells #[.int .i64 gap] 3)).alloc (.cells #[.slice none 0 0] 24)).alloc (.cells #[.int .i64 0] 3)).alloc (.cells #[.slice A n c] 26)).alloc (.cells #[.int .i64 wd] 3)).alloc (.cells #[.int .i64 gap] 3))).heap.size = w.heap.size + 6 := by simp
  have S0 : WS w (((((((w.alloc (.cells #[.int .i64 gap] 3)).alloc (.cells #[.slice none 0 0] 24)).alloc (.cells #[.int .i64 0] 3)).alloc (.cells #[.slice A n c] 26)).alloc (.cells #[.int .i64 wd] 3)).alloc (.cells #[.int .i64 gap] 3))) gap (.slice none 0 0) 0 [] 0 := ⟨gi_, gr_, gt_, ⟨World.ownsRow_nil _ _ _ _, rfl⟩, N0, by rw [sz]; omega⟩
  clear gi_ gr_ gt_
  refine wpIn_rangeFunc_ownG rfl (by omega) (gf := 63) (lb := #[.pointer (some ⟨w.heap.size + 3, 0, none⟩), .pointer (some ⟨w.heap.size + 4, 0, none⟩), .pointer (some ⟨w.heap.size + 5, 0, none⟩)]) rfl trivial (enters_of Try.func63 (by kernel_rfl) rfl)
    (lines_none (w.heap.size + 1) (w.heap.size + 3) n c A zs wd gap b off c2 hok hn _ (hx.new N0) cl cw cg) Keep3.trans (Keep3.b (by rw [sz]; omega) (by rw [sz]; omega)) (Below.refl _ _) (fun _ => rfl)
    (fun pre W => ∃ v, WS w W gap v (wpP zs n wd gap pre).2.2 (wpP zs n wd gap pre).2.1 (wpP zs n wd gap pre).1)
    (fun _ _ _ => False)
    (by rw [sz]; exact ownFrom_ws (fun pre => ((wpP zs n wd gap pre).2.2, (wpP zs n wd gap pre).2.1, (wpP zs n wd gap pre).1)))
    (fun _ _ _ _ _ hs _ _ => hs)
    ⟨_, S0⟩
    (fun x => { tmps := #[.slice A n c, .int .i64 wd, .int .i64 gap, undef, undef, .pointer (some ⟨w.heap.size, 0, none⟩), .slice none 0 0, .pointer (some ⟨w.heap.size + 1, 0, none⟩), .pointer (some ⟨w.heap.size + 2, 0, none⟩), .slice (some ⟨b, off + st zs n wd gap x.1 * 2, none⟩) (ln zs n wd gap (st zs n wd gap x.1)) (c2 - st zs n wd gap x.1), undef, undef, undef, .slice A n c, .int .i64 wd, .int .i64 gap, .func (.func 63) #[] #[.pointer (some ⟨w.heap.size + 3, 0, none⟩), .pointer (some ⟨w.heap.size + 4, 0, none⟩), .pointer (some ⟨w.heap.size + 5, 0, none⟩)], .slice (some ⟨b, off + st zs n wd gap x.1 * 2, none⟩) (ln zs n wd gap (st zs n wd gap x.1)) (c2 - st zs n wd gap x.1), undef, undef, undef, undef, undef, undef, undef, undef, undef, undef, undef, undef, undef, undef, undef, undef, undef, undef, undef, undef, undef, undef, undef, undef, undef, undef, undef, undef, undef, undef], defers := [] }) ?assign ?body ?done ?stop
  case assign =>
    intro l x W K hK
    dsimp only [encL]
    gi_wp2
    exact hK
  case body =>
    rintro l pre x W _ hlt
    exact absurd hlt (Nat.not_lt_zero _)
  case done =>
    rintro D ys W hD rfl ⟨v, HS⟩ hK
    have hc := HS.r.cell
    have e : wpP zs n wd gap [] = (0, [], 0) := rfl
    rw [e] at HS
    have NF := HS.b.trans (belowK_b (w := w) (Nat.le_refl _) W D _ (.deferred none) (by rw [sz] at hD; omega) hK rfl rfl)
    have OF : OwnRect w.heap.size (W.putObj D (.deferred none)) v 0 [] := ⟨ownsRow_mono (ownsRow_putObj HS.row.1 (.deferred none) hK rfl) (by omega), rfl⟩
    gi_wp2
    refine ⟨by simp, .inl ⟨_, _, rfl, run_takeDeferred hK, ?_⟩⟩
    refine ⟨_, results_tmp rfl _ _ _, ?_⟩
    obtain ⟨A8, c8, rfl, hc8, R8⟩ := OF.res
    exact ⟨A8, _, c8, rfl, rfl, hc8, R8, NF⟩
  case stop =>
    rintro D c pre W _ _ h _
    exact h.elim
theorem AnsC.ansS {m : Nat} {w w' : World} {zs : List Int} {e : Ending} (h : AnsC m w zs e w') : AnsS m w zs e w' := by
  obtain ⟨A, n, c, h1, h2, _, h3, h4⟩ := h
  exact ⟨A, n, c, h1, h2, h3, h4⟩
theorem WrapParts_any (A : Option Addr) (n c : Nat) (zs : List Int) (wd gap : Int) (hn : n ≤ 1048576) (hnc : n ≤ c) (w : World) (hx : Sts 2 w A n zs) :
    Calls Try.prog 15 #[.slice A n c, .int .i64 wd, .int .i64 gap] w (AnsC 4 w (wpA zs n wd gap)) := by
  refine (callsIn_wide (n := 6)).1 ?_
  cases hok : wrOk zs n wd gap
  · rw [wpA, hok]
    exact WrapParts_no A 0 0 0 n c zs wd gap hn (.inl hok) w hx
  · rcases Nat.eq_zero_or_pos n with rfl | h0
    · have e : wpA zs 0 wd gap = [] := by rw [wpA, if_pos hok]; rfl
      rw [e]
      exact WrapParts_no A 0 0 0 0 c zs wd gap hn (.inr rfl) w hx
    · obtain ⟨b, off, rfl, _⟩ := hx.at_ h0
      rw [wpA, if_pos hok]
      exact WrapParts_yes b off n c zs wd gap hok h0 hnc w hx
end Go.Proofs.Ytpkajdnndognnaa
