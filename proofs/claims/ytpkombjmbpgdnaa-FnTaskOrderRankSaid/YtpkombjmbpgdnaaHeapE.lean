/- The program's TaskOrder. Condition: the list can be read. -/
import Derived.Test.YtpkombjmbpgdnaaHeapA
import Derived.Test.YtpkombjmbpgdnaaHeapO
import Derived.Test.YtpkombjmbpgdnaaTaskB
namespace Go.Proofs.Ytpkombjmbpgdnaa
open Go.RowKit

theorem ordA_len (n : Nat) (zs : List Int) : (ordA n zs).length ≤ 1048576 := by
  unfold ordA
  split
  · next h => rw [ordL_len]; have := (vtk_at h).1; omega
  · exact Nat.zero_le _
theorem tks_flL (l : List Tk) : tks (flL l) l.length = l := by
  unfold tks
  apply List.ext_getElem (by simp)
  intro i h1 h2
  simp only [List.getElem_map, List.getElem_range]
  exact tkOf_flL h2
section
variable {lo lo' n P r g c : Nat} {w w' w0 : World} {v u : Value} {zs ys : List Int} {l : List Tk} {f : Nat → Tk}
theorem Own.at_ (h : Own lo w v zs) (k : ∀ b, v.ownBlock = some b → w'.heap[b]? = w.heap[b]?) : Own lo w' v zs := by
  refine ⟨h.1, ?_⟩
  rcases h.2 with hn | ⟨g, cap, cur, hv, hg, hh, hc, hm, hs, ht⟩
  · exact .inl hn
  · exact .inr ⟨g, cap, cur, hv, hg, (k g (by rw [hv]; rfl)).trans hh, hc, hm, hs, ht⟩
theorem Own.blk_lt (h : Own lo w v zs) {b : Nat} (e : v.ownBlock = some b) : b < w.heap.size := by
  rcases h.form with ⟨e', _⟩ | ⟨g', c', _, _, hR, _, e'⟩
  · rw [e'] at e; simp [Value.ownBlock] at e
  · rw [e'] at e; have := Option.some.inj e; have := hR.lt; omega
theorem Own.ne_task (h : Own lo w v zs) (o : OwnTask lo' w u n ys) {b : Nat} (e : v.ownBlock = some b) (e2 : u.ownBlock = some b) : False := by
  rcases h.2 with ⟨hn, _⟩ | ⟨g, cap, cur, hv, hg, hh, _⟩
  · rw [hn] at e; simp [Value.ownBlock] at e
  · rcases o.1.2 with ⟨e', _⟩ | ⟨g', cap', cur', hv', _, hh', _⟩
    · rw [e'] at e2; simp [Value.ownBlock] at e2
    · rw [hv'] at e2; rw [hv] at e
      simp [Value.ownBlock] at e e2
      subst e; subst e2
      rw [hh] at hh'; simp at hh'
theorem blk_ne {b : Nat} (h : u.ownBlock = v.ownBlock ∨ u.ownBlock = some b) (hv : v.ownBlock ≠ some P) (hb : P < b) : u.ownBlock ≠ some P := by
  rcases h with e | e
  · rw [e]; exact hv
  · rw [e]; intro e2; have := Option.some.inj e2; omega
/-- A list of numbers stays where the next task is taken. -/
theorem Own.kq (h : Own lo w v zs) (hP : v.ownBlock ≠ some P) (q : QH lo' P r l w0 w) (k : Kq P w w') : Own lo w' v zs := by
  obtain ⟨g, c, f, hQ, _⟩ := q
  refine h.at_ fun b e => k.2 b (h.blk_lt e) (fun e2 => hP (by rw [e, e2])) fun m c' hc => ?_
  rw [hQ.cell] at hc
  simp only [Option.some.injEq, Value.slice.injEq, Addr.mk.injEq, and_true] at hc
  exact h.ne_task hQ.own e (by rw [← hc.1]; rfl)
/-- A queue stays where a list of numbers grows. -/
theorem QH.grown (q : QH lo P r l w0 w) (h : Own lo' w v zs) (hP : v.ownBlock ≠ some P) (k : w.grownBy w' v.ownBlock) (hl : w0.heap.size ≤ lo') : QH lo P r l w0 w' := by
  obtain ⟨g, c, f, hQ, hV, hS, hF, hN⟩ := q
  have hb := k.block P hQ.lt (fun e => hP e.symm)
  exact ⟨g, c, f, ⟨(World.cell?_of_block hb).trans hQ.cell, (World.frozen?_of_block (w := w) hb).trans hQ.fz, hQ.own.keptOwn h k, hQ.ne, hQ.lo_⟩, hV, hS, hF, new_own hN k h hl⟩
end
set_option maxRecDepth 100000 in
set_option maxHeartbeats 1000000 in
theorem TaskOrder_own (A : Option Addr) (n c : Nat) (zs : List Int) (hn : n ≤ 1048576) (w : World) (hx : Sts 3 w A n zs) (hv : vtk n zs = true) :
    Calls Try.prog 7 #[.slice A n c] w fun e w' => ∃ v, e = .returned v ∧ Own w.heap.size w' v (ordL n zs) ∧ New w w' := by
  have HC := Lib.hid (queueOf_any A n c zs hn w hx)
  have EL : tkL n zs = tks zs n := if_pos hv
  have n10 := (vtk_at hv).1
  have HV := Lib.hid hv
  clear hx hv
  go_enter Try.func7, Try.ntmps7
  go_wp2_with fail
  refine HC.out.mono ?_
  rintro e w1 ⟨P, rfl, h⟩
  rw [EL, tks_len] at h
  have H1 := Lib.hid h
  clear h EL
  go_wp2
  go_loopw [3] (fun v wr => ∃ (q : Nat) (ys ids : List Int), q ≤ 10 ∧ Hid (QH w.heap.size P q (tks ys q) w wr) ∧ Hid (vtk q ys = true) ∧ Hid (Own w.heap.size wr v ids) ∧ Hid (v.ownBlock ≠ some P) ∧ Hid (ids ++ ordL q ys = ordL n zs)) (fun _ wr => match wr.cell? ⟨P, 0, none⟩ with | some (.slice _ q _) => q | _ => 0)
  case atStart => exact ⟨n, zs, [], n10, H1, HV, Lib.hid (Own.nil _ _), Lib.hid (by simp [Value.ownBlock]), Lib.hid rfl⟩
  case round =>
    clear H1 HV
    obtain ⟨q, ys, ids, hq, HQ, HV, HO, HB, HE⟩ := hrel
    obtain ⟨v, hv'⟩ : ∃ v, v = u3 := ⟨_, rfl⟩
    rw [← hv'] at HO HB ⊢
    clear hv'
    have QQ := Lib.hid HQ.out
    obtain ⟨g, c1, f, hQ, hV, hS, hF, hN⟩ := HQ.out
    have c0 := hQ.cell
    have CC := Lib.hid hQ.cell
    have NN := Lib.hid hN
    have PL := Lib.hid hQ.lt
    clear hQ hV hS hF hN
    rcases Nat.eq_zero_or_pos q with h0 | h0
    · subst h0
      have HE2 : Hid (ids = ordL n zs) := Lib.hid (by have h := HE.out; rw [show ordL 0 ys = [] from rfl, List.append_nil] at h; exact h)
      go_wp2_with fail
      refine (Len_any _ _ _ _).mono ?_
      rintro e w' ⟨rfl, rfl⟩
      go_wp2
      go_ret
      exact ⟨_, rfl, by rw [← HE2.out]; exact HO.out, NN.out⟩
    · obtain ⟨r, rfl⟩ : ∃ r, q = r + 1 := ⟨q - 1, by omega⟩
      have r0 : (0 : Int) < ((r + 1 : Nat) : Int) := by omega
      have r1 : (0 : Int) < (r : Int) + 1 := by omega
      have hm := Nat.lt_succ_of_le (nx_le ys r)
      have OE : Hid (ordL (r + 1) ys = tid ys (nx ys r) :: ordL r (flL (stk ys (nx ys r) (r + 1)))) := Lib.hid rfl
      have LE : Hid ((stk ys (nx ys r) (r + 1)).length = r) := Lib.hid (by have := stk_one (zs := ys) (m := nx ys r) (r + 1) hm; omega)
      have VK : Hid (vtk r (flL (stk ys (nx ys r) (r + 1))) = true) := Lib.hid (stay_ok HV.out)
      have SE : Hid (stk ys (nx ys r) (r + 1) = ((tks ys (r + 1)).filter fun u => u ≠ tkOf ys (nx ys r)).map age1) := Lib.hid (stk_eq HV.out hm (r + 1) (Nat.le_refl _))
      have IL : Hid (ids.length ≤ 10) := Lib.hid (by have h := congrArg List.length HE.out; rw [List.length_append, ordL_len, ordL_len] at h; omega)
      clear hm
      go_wp2_with fail
      refine (Len_any _ _ _ _).mono ?_
      rintro e w' ⟨rfl, rfl⟩
      clear c0
      go_wp2_with fail
      refine (take_any w.heap.size P r _ (by omega) w wr QQ.out (Nat.le_refl _)).mono ?_
      rintro e w2 ⟨⟨t0, t1, t2⟩, rfl, ht, hm, hK, q2⟩
      have ET : (t0, t1, t2) = tkOf ys (nx ys r) := nx_is HV.out (by omega) ht hm
      have TE : Hid (t0 = tid ys (nx ys r)) := Lib.hid (congrArg Prod.fst ET)
      have Q2 : Hid (QH w.heap.size P r (tks (flL (stk ys (nx ys r) (r + 1))) r) w w2) := Lib.hid (by
        have e := tks_flL (stk ys (nx ys r) (r + 1))
        rw [LE.out] at e
        rw [e, SE.out, ← ET]
        exact q2)
      have O2 := Lib.hid (HO.out.kq HB.out QQ.out hK)
      have PL2 : Hid (P < w2.heap.size) := Lib.hid (Nat.lt_of_lt_of_le PL.out hK.1)
      have LW : Hid (w.heap.size ≤ w2.heap.size) := Lib.hid (Nat.le_trans NN.out.le hK.1)
      clear ht hm hK q2 ET SE
      generalize flL (stk ys (nx ys r) (r + 1)) = zs2 at *
      have hfd : ∀ W : World, (Instr.field 30 (.agg #[.int .i64 t0, .int .i64 t1, .int .i64 t2]) 0).run Try.prog W = .ok (.int .i64 t0) W := fun _ => by kernel_rfl
      go_wp2_with (at_builtin; refine wp_app2 rfl _ _ rfl w.heap.size v ids rfl (O2.out.alloc _) w2.heap.size t0 rfl (Ints.one w2 _ _) (by have := IL.out; omega) (by have := LW.out; simp; omega) ?_; intro v6 w6 O6 G6 B6; (have Q6 := Lib.hid ((Q2.out.new ((New.refl _).alloc _)).grown (O2.out.alloc _) HB.out G6 (Nat.le_refl _))); (have P6 := Lib.hid (blk_ne (P := P) B6 HB.out (by have := PL2.out; simp; omega))); (replace O6 := Lib.hid O6); clear G6 B6)
      go_roundw
      case rel => exact ⟨r, zs2, ids ++ [t0], by omega, Q6, VK, O6, P6, Lib.hid (by rw [List.append_assoc]; have h := HE.out; rw [OE.out] at h; rw [TE.out]; exact h)⟩
      case measure =>
        obtain ⟨g6, c6, f6, hQ6, _⟩ := Q6.out
        have e6 := hQ6.cell
        have e7 := CC.out
        simp [e6, e7]
set_option maxHeartbeats 1000000 in
theorem TaskOrder_ans (A : Option Addr) (n c : Nat) (zs : List Int) (hn : n ≤ 1048576) (w : World) (hx : Sts 3 w A n zs) :
    Calls Try.prog 7 #[.slice A n c] w (Ans w (ordA n zs)) := by
  cases hv : vtk n zs
  · have HC := Lib.hid (queueOf_any A n c zs hn w hx)
    have EL : tkL n zs = [] := by unfold tkL; rw [hv]; rfl
    have HV := Lib.hid hv
    clear hx hv
    go_enter Try.func7, Try.ntmps7
    go_wp2_with fail
    refine HC.out.mono ?_
    rintro e w1 ⟨P, rfl, h⟩
    rw [EL] at h
    obtain ⟨g, c1, f, hQ, hV, hS, hF, hN⟩ := h
    have c0 := hQ.cell
    rw [List.length_nil] at c0
    have NN := Lib.hid hN
    clear hQ hV hS hF hN EL
    go_wp2
    go_loopw [3] (fun v wr => v = .slice none 0 0 ∧ wr = w1) (fun _ _ => 0)
    case atStart => exact ⟨rfl, rfl⟩
    case round =>
      obtain ⟨rfl, rfl⟩ := hrel
      go_wp2_with fail
      refine (Len_any _ _ _ _).mono ?_
      rintro e w' ⟨rfl, rfl⟩
      go_wp2
      go_ret
      rw [ordA_no HV.out]
      exact Ans.none_ rfl NN.out
  · refine (TaskOrder_own A n c zs hn w hx hv).mono ?_
    rintro e w' ⟨v, rfl, O, N⟩
    rw [ordA_yes hv]
    obtain ⟨B, d, rfl, _, R⟩ := O.res
    exact ⟨B, _, d, rfl, rfl, R, N⟩
end Go.Proofs.Ytpkombjmbpgdnaa
