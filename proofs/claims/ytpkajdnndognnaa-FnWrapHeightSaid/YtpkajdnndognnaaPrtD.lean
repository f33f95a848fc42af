/- How high each line is, in the program, walked. Condition: the parts can be read, and are no more than their room. -/
import Derived.Test.YtpkajdnndognnaaPrtC
import Derived.Shelf.RegionOpen
import Derived.RangeFuncCalls
import Derived.Test.YtpkajdnndognnaaAppH
namespace Go.Proofs.Ytpkajdnndognnaa
open Go.RowKit Go.Shelf
attribute [local go_sem] Oper.semAt_some

/-- The append, as one operation of a region. -/
theorem stepIn_app {F : Fence} {nF : Nat} {w : World} {ops : Array Oper} {o : Oper} {a : Act} {K : Act → World → Prop} {Q : Exit → Act → World → Prop} {E : Prop} (hgd : o.guard = none) (s x : Operand)
    (ho : o.op = .call { callee := .builtin .append, args := #[s, x], argTypes := #[36, 36] }) (lo : Nat) (v : Value) (zs : List Int) (hs : a.eval s = v) (hown : Own lo w v zs)
    (g : Nat) (z : Int) (hx : a.eval x = .slice (some ⟨g, 0, none⟩) 1 1) (hr : Ints w (some ⟨g, 0, none⟩) 1 [z]) (hn : zs.length + 1 ≤ 1000000) (hlo : lo ≤ w.heap.size)
    (h : ∀ v' w', Own lo w' v' (zs ++ [z]) → w.grownBy w' v.ownBlock → K (a.put o.dst v') w') :
    if Region.wanted o (yielded ops a.tmps) = true then Oper.wpIn F nF Try.prog o a w K Q else E := by
  have hw : Region.wanted o (yielded ops a.tmps) = true := by simp [Region.wanted, hgd]
  rw [if_pos hw]
  obtain ⟨v', w', hrun, h2, h3, h4⟩ := run_app2 w o.type lo v zs hown g z hr hn hlo
  unfold Oper.wpIn
  refine ⟨by simp [Oper.about, ho, resolve, Target.leads, Sem.run_pure], ?_⟩
  rw [Oper.semAt_plain F _ _ (by rw [ho]; intro c hc'; cases hc')]
  simp [execOp, ho, resolve, invoke, builtin, hs, hx, hrun, Result.andThen]
  exact h v' w' h2 h3
/-- How high the lines are that came. -/
def hgtP (zs : List Int) (n : Nat) (wd gap : Int) (pre : List { k : Nat // k < nl zs n wd gap }) : List Int := pre.map fun x => lnH zs n wd gap x.1
theorem hgtP_snoc (zs : List Int) (n : Nat) (wd gap : Int) (pre : List { k : Nat // k < nl zs n wd gap }) (x : { k : Nat // k < nl zs n wd gap }) : hgtP zs n wd gap (pre ++ [x]) = hgtP zs n wd gap pre ++ [lnH zs n wd gap x.1] := by simp [hgtP]
theorem hgtP_len (zs : List Int) (n : Nat) (wd gap : Int) (pre : List { k : Nat // k < nl zs n wd gap }) : (hgtP zs n wd gap pre).length = pre.length := by simp [hgtP]
set_option maxRecDepth 100000 in
set_option maxHeartbeats 4000000 in
theorem LineHeights_yes (b off n c : Nat) (zs : List Int) (wd gap : Int) (hok : wrOk zs n wd gap = true) (h0 : 0 < n) (hnc : n ≤ c) (w : World) (hx : Sts 2 w (some ⟨b, off, none⟩) n zs) :
    CallsIn Fence.wide 6 Try.prog 22 #[.slice (some ⟨b, off, none⟩) n c, .int .i64 wd, .int .i64 gap] w (Ans w (htL zs n wd gap (nl zs n wd gap))) := by
  obtain ⟨i0, hi, hz0, hz1, hz2⟩ := info_parts info_int
  have n12 := n_le (wrOk_iff.1 hok).1
  have NL := nl_le (zs := zs) (n := n) (wd := wd) (gap := gap)
  have blt : b < w.heap.size := by obtain ⟨b', off', e, hb', _⟩ := hx.at_ h0; simp only [Option.some.injEq, Addr.mk.injEq, and_true] at e; obtain ⟨rfl, rfl⟩ := e; exact hb'
  refine callsIn_of_wp_marks Try.func22 rfl trivial ?_ rfl
  simp only [Try.ntmps22, List.size_toArray, List.length_cons, List.length_nil, Nat.reduceAdd, Nat.reduceSub, Array.replicate_succ, Array.replicate_zero, List.push_toArray, List.append_toArray, List.nil_append, List.cons_append]
  gi_wp2_with (first | (refine ⟨trivial, ?_⟩; gi_at_call 43; refine (callsIn_wide.2 (linesOf_any _ n c wd gap _)).mono ?_; rintro e w' ⟨rfl, rfl⟩))
  have bO := (((Boxed.new w 36 (.slice none 0 0)).alloc (.cells #[.slice (some ⟨b, off, none⟩) n c] 26)).alloc (.cells #[.int .i64 wd] 3)).alloc (.cells #[.int .i64 gap] 3)
  have N0 : New w ((((w.alloc (.cells #[.slice none 0 0] 36)).alloc (.cells #[.slice (some ⟨b, off, none⟩) n c] 26)).alloc (.cells #[.int .i64 wd] 3)).alloc (.cells #[.int .i64 gap] 3)) := by (repeat (first | exact New.refl _ | assumption | refine New.alloc ?_ _ | refine New.drew ?_ | refine New.drewN ?_ _ | refine New.setCell ?_ (by first | omega | (simp; omega) | (simp; done)) _ | refine New.trans ?_ (by assumption)))
  have cl : ((((w.alloc (.cells #[.slice none 0 0] 36)).alloc (.cells #[.slice (some ⟨b, off, none⟩) n c] 26)).alloc (.cells #[.int .i64 wd] 3)).alloc (.cells #[.int .i64 gap] 3)).cell? ⟨w.heap.size + 1, 0, none⟩ = some (.slice (some ⟨b, off, none⟩) n c) := by simp [go_sem]
  have cw : ((((w.alloc (.cells #[.slice none 0 0] 36)).alloc (.cells #[.slice (some ⟨b, off, none⟩) n c] 26)).alloc (.cells #[.int .i64 wd] 3)).alloc (.cells #[.int .i64 gap] 3)).cell? ⟨w.heap.size + 1 + 1, 0, none⟩ = some (.int .i64 wd) := by simp [go_sem]
  have cg : ((((w.alloc (.cells #[.slice none 0 0] 36)).alloc (.cells #[.slice (some ⟨b, off, none⟩) n c] 26)).alloc (.cells #[.int .i64 wd] 3)).alloc (.cells #[.int .i64 gap] 3)).cell? ⟨w.heap.size + 1 + 2, 0, none⟩ = some (.int .i64 gap) := by simp [go_sem]
  have sz : ((((w.alloc (.cells #[.slice none 0 0] 36)).alloc (.cells #[.slice (some ⟨b, off, none⟩) n c] 26)).alloc (.cells #[.int .i64 wd] 3)).alloc (.cells #[.int .i64 gap] 3)).heap.size = w.heap.size + 4 := by simp
  refine wpIn_rangeFunc_ownG rfl (by omega) (gf := 63) (lb := #[.pointer (some ⟨w.heap.size + 1, 0, none⟩), .pointer (some ⟨w.heap.size + 2, 0, none⟩), .pointer (some ⟨w.heap.size + 3, 0, none⟩)]) rfl trivial (enters_of Try.func63 (by kernel_rfl) rfl)
    (lines_stops w.heap.size (w.heap.size + 1) b off n c zs wd gap hok h0 hnc blt _ (hx.new N0) cl cw cg) Keep3.trans (Keep3.b (by rw [sz]; omega) (by rw [sz]; omega)) (Below.refl _ _) (fun _ => rfl)
    (fun pre W => ((∃ v, Boxed W w.heap.size 36 v ∧ W.ownsRow (w.heap.size + 4) 3 1 v (hgtP zs n wd gap pre).length ((hgtP zs n wd gap pre).map (Value.int .i64)) ∧ True) ∧ Below w.heap.size w W) ∧ w.heap.size + 4 ≤ W.heap.size)
    (fun _ _ _ => False)
    (OwnFrom.and (OwnFrom.and (Go.Own.from (holdsRow_own (w.heap.size + 4) w.heap.size 36 3 1 (fun pre => (hgtP zs n wd gap pre).length) (fun pre => (hgtP zs n wd gap pre).map (Value.int .i64)) (fun _ _ => True)) _) (ownFrom_below (Nat.le_refl _) (by rw [sz]; omega))) (ownFrom_size _ _))
    (fun _ _ _ _ _ hs _ _ => hs)
    ⟨⟨⟨_, bO, World.ownsRow_nil _ _ _ _, trivial⟩, N0⟩, by rw [sz]; omega⟩
    (fun x => { tmps := #[.slice (some ⟨b, off, none⟩) n c, .int .i64 wd, .int .i64 gap, undef, undef, undef, .slice none 0 0, .pointer (some ⟨w.heap.size, 0, none⟩), .slice (some ⟨b, off + st zs n wd gap x.1 * 2, none⟩) (ln zs n wd gap (st zs n wd gap x.1)) (c - st zs n wd gap x.1), .slice (some ⟨b, off, none⟩) n c, .int .i64 wd, .int .i64 gap, .func (.func 63) #[] #[.pointer (some ⟨w.heap.size + 1, 0, none⟩), .pointer (some ⟨w.heap.size + 2, 0, none⟩), .pointer (some ⟨w.heap.size + 3, 0, none⟩)], .slice (some ⟨b, off + st zs n wd gap x.1 * 2, none⟩) (ln zs n wd gap (st zs n wd gap x.1)) (c - st zs n wd gap x.1), undef, undef, undef, undef, undef, undef], defers := [] }) ?assign ?body ?done ?stop
  case assign =>
    intro l x W K hK
    dsimp only [encL]
    gi_wp2
    exact hK
  case body =>
    rintro l pre x W ⟨⟨⟨v, hv, hrow, _⟩, hB⟩, hS⟩ hlt
    have hc := hv.cell
    have PL := Lib.hid (hgtP_len zs n wd gap pre)
    have LI := line_in x.2
    have L1 := ln_ge (zs := zs) (n := n) (wd := wd) (gap := gap) (st zs n wd gap x.1)
    have LH : Hid (∀ W', New w W' → Calls Try.prog 44 #[.slice (some ⟨b, off + st zs n wd gap x.1 * 2, none⟩) (ln zs n wd gap (st zs n wd gap x.1)) (c - st zs n wd gap x.1)] W' fun e w' => e = .returned (.int .i64 (lnH zs n wd gap x.1)) ∧ New W' w') := Lib.hid (fun W' hW' => lineHeight_any b off _ _ _ n zs (wrOk_iff.1 hok).1 LI L1 W' (hx.new hW'))
    have CS := hgtP_snoc zs n wd gap pre x
    have HB : Hid (New w W) := Lib.hid hB
    clear LI L1
    generalize lnH zs n wd gap x.1 = H at *
    generalize ln zs n wd gap (st zs n wd gap x.1) = L at *
    generalize st zs n wd gap x.1 = S at *
    have hmx : Try.prog.follows .mixedOrders = true := by kernel_rfl
    gi_wp2
    refine wpIn_region_any hmx ?_
    change wpAnyIn _ _ _ _ _ _ _ _ _ (World.drew _)
    have ND : New w W.drew := by (repeat (first | exact New.refl _ | assumption | refine New.alloc ?_ _ | refine New.drew ?_ | refine New.drewN ?_ _ | refine New.setCell ?_ (by first | omega | (simp; omega) | (simp; done)) _ | refine New.trans ?_ (by assumption)))
    refine wpAnyIn_ready (rs := [0, 1]) (by kernel_rfl) (by simp) ?_
    refine AllReadyIn.cons rfl (fun K hK => ?_) (AllReadyIn.cons rfl (fun K hK => ?_) AllReadyIn.nil)
    · go_simp
      refine hK _ _ ?_
      clear hK K
      refine wpAnyIn_ready (rs := [1]) (by kernel_rfl) (by simp) ?_
      refine AllReadyIn.cons rfl (fun K hK => ?_) AllReadyIn.nil
      go_simp
      refine hK _ _ ?_
      clear hK K
      refine wpAnyIn_ready (rs := [2]) (by kernel_rfl) (by simp) ?_
      refine AllReadyIn.cons rfl (fun K hK => ?_) AllReadyIn.nil
      go_simp
      refine ⟨trivial, ?_⟩
      refine (CallsIn.inRound l (callsIn_wide.2 (LH.out _ ND))).mono ?_
      rintro e w1 ⟨rfl, N1⟩
      have N2 : New W w1 := ((New.refl W).drew).trans N1
      have hv1 := hv.kept (N2.grown none) (by simp)
      have hr1 : Own (w.heap.size + 4) w1 v (hgtP zs n wd gap pre) := Own.new hrow N2
      have hS1 := Nat.le_trans hS N2.le
      have hcc := hv1.cell
      have hcd := (hv1.alloc (.cells #[.int .i64 H] 3)).cell
      have N2 := Lib.hid N2
      clear N1
      refine hK _ _ ?_
      clear hK K
      refine wpAnyIn_ready (rs := [3]) (by kernel_rfl) (by simp) ?_
      refine AllReadyIn.cons rfl (fun K hK => ?_) AllReadyIn.nil
      go_simp
      refine hK _ _ ?_
      clear hK K
      refine wpAnyIn_ready (rs := [4]) (by kernel_rfl) (by simp) ?_
      refine AllReadyIn.cons rfl (fun K hK => ?_) AllReadyIn.nil
      refine stepIn_app rfl (.tmp 14) (.tmp 17) rfl (w.heap.size + 4) v _ rfl (hr1.alloc _) w1.heap.size H rfl (Ints.one w1 H 3) (by have := PL.out; omega) (by simp; omega) ?_
      intro v' w2 hown' hgrow
      obtain ⟨g', cap', rfl, _⟩ := hown'.form.resolve_left (fun h => by have h2 := h.2; simp at h2)
      have hl : (hgtP zs n wd gap pre ++ [H]).length = (hgtP zs n wd gap pre).length + 1 := by simp
      have hw2 : w2.ownsRow (w.heap.size + 4) 3 1 (.slice (some ⟨g', 0, none⟩) ((hgtP zs n wd gap pre).length + 1) cap') ((hgtP zs n wd gap pre).length + 1) ((hgtP zs n wd gap pre ++ [H]).map (Value.int .i64)) := by have h5 := hown'; unfold Own at h5; rw [hl] at h5; exact h5
      have hl := Lib.hid hl
      obtain ⟨hv2, hv3, hr2, hk2, hb2, hk3⟩ := box_app (by decide) hv1 hr1 hS1 hw2 hgrow
      have hc1 := hv2.cell
      have hf1 := hv2.frozen
      refine hK _ _ ?_
      clear hK K
      refine wpAnyIn_ready (rs := [5]) (by kernel_rfl) (by simp) ?_
      refine AllReadyIn.cons rfl (fun K hK => ?_) AllReadyIn.nil
      go_simp
      refine hK _ _ ?_
      clear hK K
      refine wpAnyIn_done (by kernel_rfl) ?_ _
      exact ⟨((KeepsOthers.of_grownBy (N2.out.grown none) (fun _ _ h => by cases h)).trans hk2).from _, (Keep3.new N2.out).trans hk3, ⟨⟨_, hv3, by rw [CS, hl.out]; exact hr2, trivial⟩, Below.trans (New.trans HB.out N2.out) hb2⟩, Nat.le_trans hS1 hk3.size⟩
    · go_simp
      refine hK _ _ ?_
      clear hK K
      refine wpAnyIn_ready (rs := [0, 2]) (by kernel_rfl) (by simp) ?_
      refine AllReadyIn.cons rfl (fun K hK => ?_) (AllReadyIn.cons rfl (fun K hK => ?_) AllReadyIn.nil)
      · go_simp
        refine hK _ _ ?_
        clear hK K
        refine wpAnyIn_ready (rs := [2]) (by kernel_rfl) (by simp) ?_
        refine AllReadyIn.cons rfl (fun K hK => ?_) AllReadyIn.nil
        go_simp
        refine ⟨trivial, ?_⟩
        refine (CallsIn.inRound l (callsIn_wide.2 (LH.out _ ND))).mono ?_
        rintro e w1 ⟨rfl, N1⟩
        have N2 : New W w1 := ((New.refl W).drew).trans N1
        have hv1 := hv.kept (N2.grown none) (by simp)
        have hr1 : Own (w.heap.size + 4) w1 v (hgtP zs n wd gap pre) := Own.new hrow N2
        have hS1 := Nat.le_trans hS N2.le
        have hcc := hv1.cell
        have hcd := (hv1.alloc (.cells #[.int .i64 H] 3)).cell
        have N2 := Lib.hid N2
        clear N1
        refine hK _ _ ?_
        clear hK K
        refine wpAnyIn_ready (rs := [3]) (by kernel_rfl) (by simp) ?_
        refine AllReadyIn.cons rfl (fun K hK => ?_) AllReadyIn.nil
        go_simp
        refine hK _ _ ?_
        clear hK K
        refine wpAnyIn_ready (rs := [4]) (by kernel_rfl) (by simp) ?_
        refine AllReadyIn.cons rfl (fun K hK => ?_) AllReadyIn.nil
        refine stepIn_app rfl (.tmp 14) (.tmp 17) rfl (w.heap.size + 4) v _ rfl (hr1.alloc _) w1.heap.size H rfl (Ints.one w1 H 3) (by have := PL.out; omega) (by simp; omega) ?_
        intro v' w2 hown' hgrow
        obtain ⟨g', cap', rfl, _⟩ := hown'.form.resolve_left (fun h => by have h2 := h.2; simp at h2)
        have hl : (hgtP zs n wd gap pre ++ [H]).length = (hgtP zs n wd gap pre).length + 1 := by simp
        have hw2 : w2.ownsRow (w.heap.size + 4) 3 1 (.slice (some ⟨g', 0, none⟩) ((hgtP zs n wd gap pre).length + 1) cap') ((hgtP zs n wd gap pre).length + 1) ((hgtP zs n wd gap pre ++ [H]).map (Value.int .i64)) := by have h5 := hown'; unfold Own at h5; rw [hl] at h5; exact h5
        have hl := Lib.hid hl
        obtain ⟨hv2, hv3, hr2, hk2, hb2, hk3⟩ := box_app (by decide) hv1 hr1 hS1 hw2 hgrow
        have hc1 := hv2.cell
        have hf1 := hv2.frozen
        refine hK _ _ ?_
        clear hK K
        refine wpAnyIn_ready (rs := [5]) (by kernel_rfl) (by simp) ?_
        refine AllReadyIn.cons rfl (fun K hK => ?_) AllReadyIn.nil
        go_simp
        refine hK _ _ ?_
        clear hK K
        refine wpAnyIn_done (by kernel_rfl) ?_ _
        exact ⟨((KeepsOthers.of_grownBy (N2.out.grown none) (fun _ _ h => by cases h)).trans hk2).from _, (Keep3.new N2.out).trans hk3, ⟨⟨_, hv3, by rw [CS, hl.out]; exact hr2, trivial⟩, Below.trans (New.trans HB.out N2.out) hb2⟩, Nat.le_trans hS1 hk3.size⟩
      · go_simp
        refine ⟨trivial, ?_⟩
        refine (CallsIn.inRound l (callsIn_wide.2 (LH.out _ ND))).mono ?_
        rintro e w1 ⟨rfl, N1⟩
        have N2 : New W w1 := ((New.refl W).drew).trans N1
        have hv1 := hv.kept (N2.grown none) (by simp)
        have hr1 : Own (w.heap.size + 4) w1 v (hgtP zs n wd gap pre) := Own.new hrow N2
        have hS1 := Nat.le_trans hS N2.le
        have hcc := hv1.cell
        have hcd := (hv1.alloc (.cells #[.int .i64 H] 3)).cell
        have N2 := Lib.hid N2
        clear N1
        refine hK _ _ ?_
        clear hK K
        refine wpAnyIn_ready (rs := [0, 3]) (by kernel_rfl) (by simp) ?_
        refine AllReadyIn.cons rfl (fun K hK => ?_) (AllReadyIn.cons rfl (fun K hK => ?_) AllReadyIn.nil)
        · go_simp
          refine hK _ _ ?_
          clear hK K
          refine wpAnyIn_ready (rs := [3]) (by kernel_rfl) (by simp) ?_
          refine AllReadyIn.cons rfl (fun K hK => ?_) AllReadyIn.nil
          go_simp
          refine hK _ _ ?_
          clear hK K
          refine wpAnyIn_ready (rs := [4]) (by kernel_rfl) (by simp) ?_
          refine AllReadyIn.cons rfl (fun K hK => ?_) AllReadyIn.nil
          refine stepIn_app rfl (.tmp 14) (.tmp 17) rfl (w.heap.size + 4) v _ rfl (hr1.alloc _) w1.heap.size H rfl (Ints.one w1 H 3) (by have := PL.out; omega) (by simp; omega) ?_
          intro v' w2 hown' hgrow
          obtain ⟨g', cap', rfl, _⟩ := hown'.form.resolve_left (fun h => by have h2 := h.2; simp at h2)
          have hl : (hgtP zs n wd gap pre ++ [H]).length = (hgtP zs n wd gap pre).length + 1 := by simp
          have hw2 : w2.ownsRow (w.heap.size + 4) 3 1 (.slice (some ⟨g', 0, none⟩) ((hgtP zs n wd gap pre).length + 1) cap') ((hgtP zs n wd gap pre).length + 1) ((hgtP zs n wd gap pre ++ [H]).map (Value.int .i64)) := by have h5 := hown'; unfold Own at h5; rw [hl] at h5; exact h5
          have hl := Lib.hid hl
          obtain ⟨hv2, hv3, hr2, hk2, hb2, hk3⟩ := box_app (by decide) hv1 hr1 hS1 hw2 hgrow
          have hc1 := hv2.cell
          have hf1 := hv2.frozen
          refine hK _ _ ?_
          clear hK K
          refine wpAnyIn_ready (rs := [5]) (by kernel_rfl) (by simp) ?_
          refine AllReadyIn.cons rfl (fun K hK => ?_) AllReadyIn.nil
          go_simp
          refine hK _ _ ?_
          clear hK K
          refine wpAnyIn_done (by kernel_rfl) ?_ _
          exact ⟨((KeepsOthers.of_grownBy (N2.out.grown none) (fun _ _ h => by cases h)).trans hk2).from _, (Keep3.new N2.out).trans hk3, ⟨⟨_, hv3, by rw [CS, hl.out]; exact hr2, trivial⟩, Below.trans (New.trans HB.out N2.out) hb2⟩, Nat.le_trans hS1 hk3.size⟩
        · go_simp
          refine hK _ _ ?_
          clear hK K
          refine wpAnyIn_ready (rs := [0]) (by kernel_rfl) (by simp) ?_
          refine AllReadyIn.cons rfl (fun K hK => ?_) AllReadyIn.nil
          go_simp
          refine hK _ _ ?_
          clear hK K
          refine wpAnyIn_ready (rs := [4]) (by kernel_rfl) (by simp) ?_
          refine AllReadyIn.cons rfl (fun K hK => ?_) AllReadyIn.nil
          refine stepIn_app rfl (.tmp 14) (.tmp 17) rfl (w.heap.size + 4) v _ rfl (hr1.alloc _) w1.heap.size H rfl (Ints.one w1 H 3) (by have := PL.out; omega) (by simp; omega) ?_
          intro v' w2 hown' hgrow
          obtain ⟨g', cap', rfl, _⟩ := hown'.form.resolve_left (fun h => by have h2 := h.2; simp at h2)
          have hl : (hgtP zs n wd gap pre ++ [H]).length = (hgtP zs n wd gap pre).length + 1 := by simp
          have hw2 : w2.ownsRow (w.heap.size + 4) 3 1 (.slice (some ⟨g', 0, none⟩) ((hgtP zs n wd gap pre).length + 1) cap') ((hgtP zs n wd gap pre).length + 1) ((hgtP zs n wd gap pre ++ [H]).map (Value.int .i64)) := by have h5 := hown'; unfold Own at h5; rw [hl] at h5; exact h5
          have hl := Lib.hid hl
          obtain ⟨hv2, hv3, hr2, hk2, hb2, hk3⟩ := box_app (by decide) hv1 hr1 hS1 hw2 hgrow
          have hc1 := hv2.cell
          have hf1 := hv2.frozen
          refine hK _ _ ?_
          clear hK K
          refine wpAnyIn_ready (rs := [5]) (by kernel_rfl) (by simp) ?_
          refine AllReadyIn.cons rfl (fun K hK => ?_) AllReadyIn.nil
          go_simp
          refine hK _ _ ?_
          clear hK K
          refine wpAnyIn_done (by kernel_rfl) ?_ _
          exact ⟨((KeepsOthers.of_grownBy (N2.out.grown none) (fun _ _ h => by cases h)).trans hk2).from _, (Keep3.new N2.out).trans hk3, ⟨⟨_, hv3, by rw [CS, hl.out]; exact hr2, trivial⟩, Below.trans (New.trans HB.out N2.out) hb2⟩, Nat.le_trans hS1 hk3.size⟩
  case done =>
    rintro D ys W hD rfl ⟨⟨⟨v, hv, hrow, _⟩, hB⟩, hS⟩ hK
    have hc := hv.cell
    have e : hgtP zs n wd gap (upN (nl zs n wd gap) (nl zs n wd gap) (Nat.le_refl _)) = htL zs n wd gap (nl zs n wd gap) := upN_map _ (fun k => lnH zs n wd gap k) _ _
    rw [e] at hrow
    gi_wp2
    refine ⟨by simp, .inl ⟨_, _, rfl, run_takeDeferred hK, ?_⟩⟩
    exact ⟨_, results_tmp rfl _ _ _, ans_box rfl (ownsRow_putObj hrow _ hK rfl) (hB.trans (belowK_b (w := w) (Nat.le_refl _) W D _ _ (by rw [sz] at hD; omega) hK rfl rfl))⟩
  case stop =>
    rintro D c pre W _ _ h _
    exact h.elim
set_option maxRecDepth 100000 in
set_option maxHeartbeats 4000000 in
theorem LineHeights_no (A : Option Addr) (b off c2 n c : Nat) (zs : List Int) (wd gap : Int) (hn : n ≤ 1048576) (hok : wrOk zs n wd gap = false ∨ n = 0) (w : World) (hx : Sts 2 w A n zs) :
    CallsIn Fence.wide 6 Try.prog 22 #[.slice A n c, .int .i64 wd, .int .i64 gap] w (Ans w []) := by
  obtain ⟨i0, hi, hz0, hz1, hz2⟩ := info_parts info_int
  refine callsIn_of_wp_marks Try.func22 rfl trivial ?_ rfl
  simp only [Try.ntmps22, List.size_toArray, List.length_cons, List.length_nil, Nat.reduceAdd, Nat.reduceSub, Array.replicate_succ, Array.replicate_zero, List.push_toArray, List.append_toArray, List.nil_append, List.cons_append]
  gi_wp2_with (first | (refine ⟨trivial, ?_⟩; gi_at_call 43; refine (callsIn_wide.2 (linesOf_any _ n c wd gap _)).mono ?_; rintro e w' ⟨rfl, rfl⟩))
  have bO := (((Boxed.new w 36 (.slice none 0 0)).alloc (.cells #[.slice A n c] 26)).alloc (.cells #[.int .i64 wd] 3)).alloc (.cells #[.int .i64 gap] 3)
  have N0 : New w ((((w.alloc (.cells #[.slice none 0 0] 36)).alloc (.cells #[.slice A n c] 26)).alloc (.cells #[.int .i64 wd] 3)).alloc (.cells #[.int .i64 gap] 3)) := by (repeat (first | exact New.refl _ | assumption | refine New.alloc ?_ _ | refine New.drew ?_ | refine New.drewN ?_ _ | refine New.setCell ?_ (by first | omega | (simp; omega) | (simp; done)) _ | refine New.trans ?_ (by assumption)))
  have cl : ((((w.alloc (.cells #[.slice none 0 0] 36)).alloc (.cells #[.slice A n c] 26)).alloc (.cells #[.int .i64 wd] 3)).alloc (.cells #[.int .i64 gap] 3)).cell? ⟨w.heap.size + 1, 0, none⟩ = some (.slice A n c) := by simp [go_sem]
  have cw : ((((w.alloc (.cells #[.slice none 0 0] 36)).alloc (.cells #[.slice A n c] 26)).alloc (.cells #[.int .i64 wd] 3)).alloc (.cells #[.int .i64 gap] 3)).cell? ⟨w.heap.size + 1 + 1, 0, none⟩ = some (.int .i64 wd) := by simp [go_sem]
  have cg : ((((w.alloc (.cells #[.slice none 0 0] 36)).alloc (.cells #[.slice A n c] 26)).alloc (.cells #[.int .i64 wd] 3)).alloc (.cells #[.int .i64 gap] 3)).cell? ⟨w.heap.size + 1 + 2, 0, none⟩ = some (.int .i64 gap) := by simp [go_sem]
  have sz : ((((w.alloc (.cells #[.slice none 0 0] 36)).alloc (.cells #[.slice A n c] 26)).alloc (.cells #[.int .i64 wd] 3)).alloc (.cells #[.int .i64 gap] 3)).heap.size = w.heap.size + 4 := by simp
  refine wpIn_rangeFunc_ownG rfl (by omega) (gf := 63) (lb := #[.pointer (some ⟨w.heap.size + 1, 0, none⟩), .pointer (some ⟨w.heap.size + 2, 0, none⟩), .pointer (some ⟨w.heap.size + 3, 0, none⟩)]) rfl trivial (enters_of Try.func63 (by kernel_rfl) rfl)
    (lines_none w.heap.size (w.heap.size + 1) n c A zs wd gap b off c2 hok hn _ (hx.new N0) cl cw cg) Keep3.trans (Keep3.b (by rw [sz]; omega) (by rw [sz]; omega)) (Below.refl _ _) (fun _ => rfl)
    (fun pre W => ((∃ v, Boxed W w.heap.size 36 v ∧ W.ownsRow (w.heap.size + 4) 3 1 v (hgtP zs n wd gap pre).length ((hgtP zs n wd gap pre).map (Value.int .i64)) ∧ True) ∧ Below w.heap.size w W) ∧ w.heap.size + 4 ≤ W.heap.size)
    (fun _ _ _ => False)
    (OwnFrom.and (OwnFrom.and (Go.Own.from (holdsRow_own (w.heap.size + 4) w.heap.size 36 3 1 (fun pre => (hgtP zs n wd gap pre).length) (fun pre => (hgtP zs n wd gap pre).map (Value.int .i64)) (fun _ _ => True)) _) (ownFrom_below (Nat.le_refl _) (by rw [sz]; omega))) (ownFrom_size _ _))
    (fun _ _ _ _ _ hs _ _ => hs)
    ⟨⟨⟨_, bO, World.ownsRow_nil _ _ _ _, trivial⟩, N0⟩, by rw [sz]; omega⟩
    (fun x => { tmps := #[.slice A n c, .int .i64 wd, .int .i64 gap, undef, undef, undef, .slice none 0 0, .pointer (some ⟨w.heap.size, 0, none⟩), .slice (some ⟨b, off + st zs n wd gap x.1 * 2, none⟩) (ln zs n wd gap (st zs n wd gap x.1)) (c2 - st zs n wd gap x.1), .slice A n c, .int .i64 wd, .int .i64 gap, .func (.func 63) #[] #[.pointer (some ⟨w.heap.size + 1, 0, none⟩), .pointer (some ⟨w.heap.size + 2, 0, none⟩), .pointer (some ⟨w.heap.size + 3, 0, none⟩)], .slice (some ⟨b, off + st zs n wd gap x.1 * 2, none⟩) (ln zs n wd gap (st zs n wd gap x.1)) (c2 - st zs n wd gap x.1), undef, undef, undef, undef, undef, undef], defers := [] }) ?assign ?body ?done ?stop
  case assign =>
    intro l x W K hK
    dsimp only [encL]
    gi_wp2
    exact hK
  case body =>
    rintro l pre x W _ hlt
    exact absurd hlt (Nat.not_lt_zero _)
  case done =>
    rintro D ys W hD rfl ⟨⟨⟨v, hv, hrow, _⟩, hB⟩, hS⟩ hK
    have hc := hv.cell
    have e : hgtP zs n wd gap [] = [] := rfl
    rw [e] at hrow
    gi_wp2
    refine ⟨by simp, .inl ⟨_, _, rfl, run_takeDeferred hK, ?_⟩⟩
    exact ⟨_, results_tmp rfl _ _ _, ans_box rfl (ownsRow_putObj hrow _ hK rfl) (hB.trans (belowK_b (w := w) (Nat.le_refl _) W D _ _ (by rw [sz] at hD; omega) hK rfl rfl))⟩
  case stop =>
    rintro D c pre W _ _ h _
    exact h.elim
theorem LineHeights_any (A : Option Addr) (n c : Nat) (zs : List Int) (wd gap : Int) (hn : n ≤ 1048576) (hnc : n ≤ c) (w : World) (hx : Sts 2 w A n zs) :
    Calls Try.prog 22 #[.slice A n c, .int .i64 wd, .int .i64 gap] w (Ans w (lhA zs n wd gap)) := by
  refine (callsIn_wide (n := 6)).1 ?_
  cases hok : wrOk zs n wd gap
  · rw [lhA, hok]
    exact LineHeights_no A 0 0 0 n c zs wd gap hn (.inl hok) w hx
  · rcases Nat.eq_zero_or_pos n with rfl | h0
    · have e : lhA zs 0 wd gap = [] := by rw [lhA, if_pos hok]; rfl
      rw [e]
      exact LineHeights_no A 0 0 0 0 c zs wd gap hn (.inr rfl) w hx
    · obtain ⟨b, off, rfl, _⟩ := hx.at_ h0
      rw [lhA, if_pos hok]
      exact LineHeights_yes b off n c zs wd gap hok h0 hnc w hx
end Go.Proofs.Ytpkajdnndognnaa
