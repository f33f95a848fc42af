/- The reference's TaskOrder. Condition: the list is short. -/
import Derived.Test.YtpkombjmbpgdnaaHeapO
import Derived.Test.YtpkombjmbpgdnaaTaskB
namespace Go.Proofs.Ytpkombjmbpgdnaa
open Go.RowKit

/-- A list of tasks that stays where a list of numbers grows: it lies in another block. -/
def Stay (w : World) (t v : Value) (q : Nat) (zs : List Int) : Prop := ∃ A c, t = .slice A q c ∧ ∀ W1 W2, New w W1 → (W2 = W1 ∨ W1.grownBy W2 v.ownBlock) → Sts 3 W2 A q zs
theorem Stay.given {lo n c : Nat} {w0 w : World} {v : Value} {zs ids : List Int} {A : Option Addr} (h : Sts 3 w0 A n zs) (N : New w0 w) (o : Own lo w v ids) (hl : w0.heap.size ≤ lo) : Stay w (.slice A n c) v n zs :=
  ⟨A, c, rfl, fun W1 W2 N1 k => by
    rcases k with rfl | k
    · exact h.new (N.trans N1)
    · exact h.new (new_own (N.trans N1) k (o.new N1) hl)⟩
theorem Stay.own {lo lo' q : Nat} {w : World} {t v : Value} {zs ids : List Int} (h : OwnTask lo' w t q zs) (o : Own lo w v ids) : Stay w t v q zs := by
  obtain ⟨A, c, rfl, _, _⟩ := h.res
  refine ⟨A, c, rfl, fun W1 W2 N1 k => ?_⟩
  have g : OwnTask lo' W2 (.slice A q c) q zs := by
    rcases k with rfl | k
    · exact h.new N1
    · exact (h.new N1).keptOwn (o.new N1) k
  obtain ⟨B, d, e, _, R⟩ := g.res
  cases e
  exact Sts.of_res R g.2
set_option maxRecDepth 100000 in
set_option maxHeartbeats 4000000 in
theorem STaskOrder_own (A : Option Addr) (n c : Nat) (zs : List Int) (hn : n ≤ 1048576) (w : World) (hx : Sts 3 w A n zs) (hv : vtk n zs = true) :
    Calls Try.prog 9 #[.slice A n c] w fun e w' => ∃ v, e = .returned v ∧ Own w.heap.size w' v (ordL n zs) ∧ New w w' := by
  have HX := Lib.hid hx
  have HV := Lib.hid hv
  have n10 := (vtk_at hv).1
  have E1 : Hid (New w (w.alloc (.cells #[] 3))) := Lib.hid (by (repeat (first | exact New.refl _ | assumption | refine New.alloc ?_ _ | refine New.drew ?_ | refine New.drewN ?_ _ | refine New.setCell ?_ (by first | omega | (simp; omega) | (simp; done)) _ | refine New.trans ?_ (by assumption))))
  have O1 := Lib.hid (Own.empty (lo := w.heap.size) w 0 (Nat.le_refl _) rfl)
  clear hx hv
  go_enter Try.func9, Try.ntmps9
  go_wp2_with fail
  refine (SvalidTasks_any A n c zs hn _ (HX.out.new E1.out)).mono ?_
  rw [HV.out]
  rintro e w1 ⟨rfl, N1⟩
  have HN := Lib.hid (E1.out.trans N1)
  have HO := Lib.hid (O1.out.new N1)
  have HS := Lib.hid (Stay.given (c := c) HX.out HN.out HO.out (Nat.le_refl _))
  clear N1
  go_wp2
  go_loopw [0, 3] (fun t v wr => ∃ (q : Nat) (ys ids : List Int) (B : Option Addr) (d : Nat), q ≤ 10 ∧ t = .slice B q d ∧ Hid (Stay wr t v q ys) ∧ Hid (vtk q ys = true) ∧ Hid (Own w.heap.size wr v ids) ∧ Hid (ids ++ ordL q ys = ordL n zs) ∧ Hid (New w wr)) (fun t _ _ => match t with | .slice _ q _ => q | _ => 0)
  case atStart => exact ⟨n, zs, [], A, c, n10, rfl, HS, HV, HO, Lib.hid rfl, HN⟩
  case round =>
    clear HS HO HN HX HV
    obtain ⟨q, ys, ids, B, d, hq, rfl, HS, HV, HO, HE, HN⟩ := hrel
    obtain ⟨v, hv'⟩ : ∃ v, v = u3 := ⟨_, rfl⟩
    rw [← hv'] at HO HS ⊢
    clear hv'
    obtain ⟨B', d', e, ST⟩ := HS.out
    cases e
    have ST := Lib.hid ST
    rcases Nat.eq_zero_or_pos q with h0 | h0
    · subst h0
      have HE2 : Hid (ids = ordL n zs) := Lib.hid (by have h := HE.out; rw [show ordL 0 ys = [] from rfl, List.append_nil] at h; exact h)
      go_wp2
      go_ret
      exact ⟨_, rfl, by rw [← HE2.out]; exact HO.out, HN.out⟩
    · have SX := ST.out wr wr (New.refl _) (.inl rfl)
      obtain ⟨b, off, rfl, hb, hc⟩ := SX.at_ h0
      have hm := nx_le ys (q - 1)
      have OE : Hid (ordL q ys = tid ys (nx ys (q - 1)) :: ordL (q - 1) (flL (stk ys (nx ys (q - 1)) q))) := Lib.hid (by
        obtain ⟨p, rfl⟩ : ∃ p, q = p + 1 := ⟨q - 1, by omega⟩
        rfl)
      have LE : Hid ((stk ys (nx ys (q - 1)) q).length = q - 1) := Lib.hid (by have := stk_one (zs := ys) (m := nx ys (q - 1)) q (by omega); omega)
      have VK : Hid (vtk (q - 1) (flL (stk ys (nx ys (q - 1)) q)) = true) := Lib.hid (by have k := stk_ok HV.out (show nx ys (q - 1) < q by omega); rw [LE.out] at k; exact k)
      have NX := Lib.hid (nextAt_any _ q d ys HV.out h0 wr SX)
      have TK := Lib.hid (fun W1 W2 (N1 : New wr W1) k => stake_any _ q d ys HV.out h0 W2 (ST.out W1 W2 N1 k))
      have HC := Lib.hid (fun X (hX : New wr X) => (show X.cell? ⟨b, off + nx ys (q - 1) * 3, none⟩ = some (.int .i64 (tid ys (nx ys (q - 1)))) from (hX.cells b _ hb).trans (hc (nx ys (q - 1) * 3) (by omega))))
      have IL : Hid (ids.length ≤ 10) := Lib.hid (by have h := congrArg List.length HE.out; rw [List.length_append, ordL_len, ordL_len] at h; omega)
      have q0 : (0 : Int) < (q : Int) := by omega
      have m0 : (0 : Int) ≤ ((nx ys (q - 1) : Nat) : Int) := by omega
      have m1 : ((nx ys (q - 1) : Nat) : Int) < (q : Int) := by omega
      clear SX hc hm
      generalize nx ys (q - 1) = m at *
      generalize tid ys m = z at *
      go_wp2_with (first
        | (go_at_call 19; refine NX.out.mono ?_; rintro e w5 ⟨rfl, N5⟩; (have g5 := HC.out w5 N5); (have O5 := Lib.hid (HO.out.new N5)); (have N5 := Lib.hid N5))
        | (at_builtin; refine wp_app rfl _ _ rfl w.heap.size v ids rfl (O5.out.alloc _) (some ⟨w5.heap.size, 0, none⟩) 1 1 [z] rfl (Ints.one w5 _ _) (by have := IL.out; simp; omega) (by have := N5.out.le; have := HN.out.le; simp; omega) ?_; intro v6 w6 O6 G6; (have N6 := Lib.hid (new_own ((HN.out.trans N5.out).alloc _) G6 (O5.out.alloc _) (Nat.le_refl _))); (have T6 := Lib.hid (TK.out _ w6 (N5.out.alloc _) (.inr G6))); (replace O6 := Lib.hid O6); clear G6)
        | (go_at_call 20; refine T6.out.mono ?_; rintro e w7 ⟨t7, rfl, O7, N7⟩; rw [LE.out] at O7; (have O8 := Lib.hid (O6.out.new N7)); (have S7 := Lib.hid (Stay.own O7 O8.out)); (have N8 := Lib.hid (N6.out.trans N7)); obtain ⟨B7, d7, rfl, _, _⟩ := O7.res; clear N7))
      go_roundw
      case rel => exact ⟨q - 1, _, ids ++ [z], B7, d7, by omega, rfl, S7, VK, O8, Lib.hid (by rw [List.append_assoc]; have h := HE.out; rw [OE.out] at h; exact h), N8⟩
      case measure => simp; omega
set_option maxHeartbeats 4000000 in
theorem STaskOrder_ans (A : Option Addr) (n c : Nat) (zs : List Int) (hn : n ≤ 1048576) (w : World) (hx : Sts 3 w A n zs) :
    Calls Try.prog 9 #[.slice A n c] w (Ans w (ordA n zs)) := by
  cases hv : vtk n zs
  · have HX := Lib.hid hx
    have HV := Lib.hid hv
    have E1 : Hid (New w (w.alloc (.cells #[] 3))) := Lib.hid (by (repeat (first | exact New.refl _ | assumption | refine New.alloc ?_ _ | refine New.drew ?_ | refine New.drewN ?_ _ | refine New.setCell ?_ (by first | omega | (simp; omega) | (simp; done)) _ | refine New.trans ?_ (by assumption))))
    clear hx hv
    go_enter Try.func9, Try.ntmps9
    go_wp2_with fail
    refine (SvalidTasks_any A n c zs hn _ (HX.out.new E1.out)).mono ?_
    rw [HV.out]
    rintro e w1 ⟨rfl, N1⟩
    have HN := Lib.hid (E1.out.trans N1)
    clear N1
    go_wp2
    go_ret
    rw [ordA_no HV.out]
    exact Ans.none_ rfl HN.out
  · refine (STaskOrder_own A n c zs hn w hx hv).mono ?_
    rintro e w' ⟨v, rfl, O, N⟩
    rw [ordA_yes hv]
    obtain ⟨B, d, rfl, _, R⟩ := O.res
    exact ⟨B, _, d, rfl, rfl, R, N⟩
end Go.Proofs.Ytpkombjmbpgdnaa
