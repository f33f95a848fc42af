/- The program's PushTask. Condition: the list can be read. -/
import Derived.Test.YtecnhjofgkhlnaaPshB
import Derived.Test.YtecnhjofgkhlnaaTaskC
import Derived.Test.YtecnhjofgkhlnaaHeapY
namespace Go.Proofs.Ytecnhjofgkhlnaa
open Go.RowKit

set_option maxHeartbeats 1000000 in
theorem CloneTask_all (A : Option Addr) (n c : Nat) (xs : List Int) (hn : n ≤ 1000) (w : World) (hx : Sts 3 w A n xs) :
    Calls Try.prog 50 #[.slice A n c] w fun e w' => ∃ v, e = .returned v ∧ OwnTask w.heap.size w' v n xs ∧ New w w' := by
  cases A with
  | some ad => exact CloneTask_any ad n c xs hn w hx
  | none =>
    have qT : ∀ (w : World) (a : Option Addr) (n c n' c' : Nat), (binOp .eql 25 (.slice a n c) (.slice none n' c')).run Try.prog w = .ok (.bool a.isNone) w := fun w a n c n' c' => Lib.run_eql_slice_nil w _ _ a n c n' c' Try.underlying25
    obtain rfl : n = 0 := by
      rcases Nat.eq_zero_or_pos n with h | h
      · exact h
      · obtain ⟨b, off, e, _⟩ := hx.at_ h; cases e
    obtain rfl : xs = [] := List.eq_nil_of_length_eq_zero (by have := hx.len; omega)
    clear hx hn
    go_enter Try.func50, Try.ntmps50
    go_wp2
    go_ret
    exact ⟨_, rfl, ⟨⟨rfl, .inl ⟨rfl, rfl⟩⟩, rfl⟩, New.refl _⟩
set_option maxHeartbeats 1000000 in
theorem InsertTask_nil (E : Nat) (es : List Int) (w : World) (hS : Sts 3 w (some ⟨E, 0, none⟩) 1 es) :
    Calls Try.prog 52 #[.slice none 0 0, .int .i64 0, .slice (some ⟨E, 0, none⟩) 1 1] w fun e w' => ∃ v, e = .returned v ∧ OwnTask w.heap.size w' v 1 es ∧ New w w' := by
  have HS := Lib.hid hS
  have HO := Lib.hid (show OwnTask w.heap.size w (.slice none 0 0) 0 [] from ⟨⟨rfl, .inl ⟨rfl, rfl⟩⟩, rfl⟩)
  clear hS
  go_enter Try.func52, Try.ntmps52
  go_wp2_with (at_builtin; refine wp_appTaskN rfl _ _ rfl w.heap.size _ 0 [] rfl (HO.out.new (by (repeat (first | exact New.refl _ | assumption | refine New.alloc ?_ _ | refine New.drew ?_ | refine New.drewN ?_ _ | refine New.setCell ?_ (by first | omega | (simp; omega) | (simp; done)) _ | refine New.trans ?_ (by assumption))))) (some ⟨E, 0, none⟩) 1 1 es rfl (HS.out.new (by (repeat (first | exact New.refl _ | assumption | refine New.alloc ?_ _ | refine New.drew ?_ | refine New.drewN ?_ _ | refine New.setCell ?_ (by first | omega | (simp; omega) | (simp; done)) _ | refine New.trans ?_ (by assumption))))) (by omega) (by omega) ?_; intro v2 w2 O2 G2; (have N2 := Lib.hid (new_ownTask (by (repeat (first | exact New.refl _ | assumption | refine New.alloc ?_ _ | refine New.drew ?_ | refine New.drewN ?_ _ | refine New.setCell ?_ (by first | omega | (simp; omega) | (simp; done)) _ | refine New.trans ?_ (by assumption)))) G2 HO.out (Nat.le_refl _))); (have O2 := Lib.hid O2); clear G2)
  go_ret
  exact ⟨v2, rfl, by simpa using O2.out, N2.out⟩
set_option maxRecDepth 100000 in
set_option maxHeartbeats 1000000 in
theorem PushTask_ansT (A : Option Addr) (n c : Nat) (zs : List Int) (d r : Int) (hn : n ≤ 1048576) (w : World) (hx : Sts 3 w A n zs) :
    Calls Try.prog 25 #[.slice A n c, .int .i64 d, .int .i64 r] w (AnsT 3 w (psOk n zs d r) (psA n zs d r)) := by
  have HX := Lib.hid hx
  have HL := Lib.hid hx.len
  have AN := Lib.hid (show New w (w.alloc (.cells #[.int .i64 d, .int .i64 r, .int .i64 0] 43)) by (repeat (first | exact New.refl _ | assumption | refine New.alloc ?_ _ | refine New.drew ?_ | refine New.drewN ?_ _ | refine New.setCell ?_ (by first | omega | (simp; omega) | (simp; done)) _ | refine New.trans ?_ (by assumption))))
  have RB := Lib.hid (Row.oneTask w d r 0 43)
  have VT_ := Lib.hid (ValidTasks_any A n c zs hn _ (hx.new AN.out))
  have TV : Hid (tskB 0 d r 0 = (decide (0 ≤ d ∧ d ≤ 99) && decide (0 ≤ r ∧ r ≤ 50))) := Lib.hid (by unfold tskB; rw [decide_eq_true (show (0 : Int) ≤ 0 ∧ (0 : Int) ≤ 20 by omega), Bool.and_true])
  have NO : Hid (psOk n zs d r = false → psA n zs d r = []) := Lib.hid (fun h => by unfold psA; rw [h]; rfl)
  clear hx
  cases hv : vtk n zs
  · have EO : Hid (psOk n zs d r = false) := Lib.hid (by unfold psOk psV; rw [hv]; rfl)
    rw [hv] at VT_
    clear hv
    go_enter Try.func25, Try.ntmps25
    go_wp2_with (go_at_call 32; refine VT_.out.mono ?_; rintro e w1 ⟨rfl, h1⟩; (have N1 := Lib.hid (AN.out.trans h1)); clear h1)
    go_ret2
    rw [NO.out EO.out, EO.out]
    exact AnsT.no rfl N1.out
  rw [hv] at VT_
  cases ht : tskB 0 d r 0
  · have EO : Hid (psOk n zs d r = false) := Lib.hid (by unfold psOk psV; rw [← TV.out, ht, Bool.and_false, Bool.false_and])
    have TC := Lib.hid (fun W => (show Calls Try.prog 49 #[.agg #[.int .i64 d, .int .i64 r, .int .i64 0], .int .i64 0] W fun e w' => e = .returned (.bool false) ∧ New W w' by have h := Task_valid_any d r 0 0 W; rw [ht] at h; exact h))
    clear hv ht
    go_enter Try.func25, Try.ntmps25
    go_wp2_with (first
      | (go_at_call 32; refine VT_.out.mono ?_; rintro e w1 ⟨rfl, h1⟩; (have N1 := Lib.hid (AN.out.trans h1)); (have R1 := RB.out.new h1); (have y0 := R1.c 0 (by simp)); (have y1 := R1.c 1 (by simp)); (have y2 := R1.c 2 (by simp)); simp only [List.getD_cons_zero, List.getD_cons_succ] at y0 y1 y2; clear h1 R1)
      | (go_at_call 49; refine (TC.out _).mono ?_; rintro e w2 ⟨rfl, h2⟩; (have N2 := Lib.hid (N1.out.trans h2)); clear h2))
    go_ret2
    rw [NO.out EO.out, EO.out]
    exact AnsT.no rfl N2.out
  have PV : psV n zs d r = true := by unfold psV; rw [← TV.out, ht, hv]; rfl
  have n10 := (vtk_at hv).1
  have ni : (n : Int) ≤ 10 := by omega
  have n0 : (0 : Int) ≤ (n : Int) := by omega
  have TC := Lib.hid (fun W => (show Calls Try.prog 49 #[.agg #[.int .i64 d, .int .i64 r, .int .i64 0], .int .i64 0] W fun e w' => e = .returned (.bool true) ∧ New W w' by have h := Task_valid_any d r 0 0 W; rw [ht] at h; exact h))
  have PLI := (pl_of (d := d) hv).1
  have CL := Lib.hid (fun W (hW : New w W) => CloneTask_all A n c zs (by omega) W (HX.out.new hW))
  have BS := Lib.hid (fun B m W (hB : Sts 3 W B n zs) => BinTask_any B n m zs d r 0 hv W hB)
  have EO : Hid (psOk n zs d r = (fnd zs n d || decide (n < 10))) := Lib.hid (by unfold psOk; rw [PV, Bool.true_and])
  have VAL := Lib.hid (psL_len (d := d) (r := r) hv)
  have NEW := Lib.hid (fun hf => ps_new (d := d) (r := r) HL.out hv hf)
  have OLD := Lib.hid (fun hf => ps_old (d := d) (r := r) HL.out hf)
  have FI := Lib.hid (fun hf => (fnd_iff (zs := zs) (n := n) (d := d)).1 hf)
  clear ht hv PV
  cases hf : fnd zs n d
  · have NW_ := Lib.hid (NEW.out hf)
    have LN : Hid ((psL zs n d r).length = n + 1) := Lib.hid (by have := VAL.out; rw [hf] at this; exact this)
    rw [hf] at EO BS
    by_cases h10 : n < 10
    · have EO : Hid (psOk n zs d r = true) := Lib.hid (by rw [EO.out, decide_eq_true h10]; rfl)
      have EA : Hid (psA n zs d r = insTask zs (pl zs d n) [d, r, 0]) := Lib.hid (by unfold psA; rw [if_pos EO.out, NW_.out])
      have EL : Hid ((insTask zs (pl zs d n) [d, r, 0]).length = (n + 1) * 3) := Lib.hid (by rw [← NW_.out, flL_len, LN.out])
      clear hf FI OLD NEW NO VAL
      have nb : ((n : Int) == 10) = false := by simp; omega
      have IN_ := Lib.hid (fun lo g c E w (hlo : lo ≤ w.heap.size) ho hE hne => InsertTask_any lo g n c (pl zs d n) E zs [d, r, 0] PLI (by omega) w hlo ho hE (by simp) hne)
      generalize pl zs d n = p at *
      have p0 : (0 : Int) ≤ (p : Int) := by omega
      go_enter Try.func25, Try.ntmps25
      go_wp2_with (first
        | (go_at_call 32; refine VT_.out.mono ?_; rintro e w1 ⟨rfl, h1⟩; (have N1 := Lib.hid (AN.out.trans h1)); (have R1 := RB.out.new h1); (have y0 := R1.c 0 (by simp)); (have y1 := R1.c 1 (by simp)); (have y2 := R1.c 2 (by simp)); simp only [List.getD_cons_zero, List.getD_cons_succ] at y0 y1 y2; (have R1 := Lib.hid R1); clear h1)
        | (go_at_call 49; refine (TC.out _).mono ?_; rintro e w2 ⟨rfl, h2⟩; (have N2 := Lib.hid (N1.out.trans h2)); (have R2 := Lib.hid (R1.out.new h2)); clear h2 y0 y1 y2)
        | (go_at_call 50; refine (CL.out _ N2.out).mono ?_; rintro e w3 ⟨v, rfl, O3, N3⟩; (have N3' := Lib.hid (N2.out.trans N3)); (have R3 := R2.out.new N3); (have y0 := R3.c 0 (by simp)); (have y1 := R3.c 1 (by simp)); (have y2 := R3.c 2 (by simp)); simp only [List.getD_cons_zero, List.getD_cons_succ] at y0 y1 y2; (have R3 := Lib.hid R3); (have LL : Hid (w.heap.size ≤ w2.heap.size) := Lib.hid N2.out.le); (have LL3 : Hid (w2.heap.size ≤ w3.heap.size) := Lib.hid N3.le); obtain ⟨A3, c3, rfl, _, T3⟩ := O3.res; (have S3 := Lib.hid (Sts.of_res T3 O3.2)); (have O3 := Lib.hid O3); clear N3 T3)
        | (go_at_call 51; refine (BS.out _ _ _ S3.out).mono ?_; rintro e w4 ⟨rfl, h4⟩; (have N4 := Lib.hid (N3'.out.trans h4)); (have R4 := R3.out.new h4); (have O4 := Lib.hid (O3.out.new h4)); (have LL4 : Hid (w2.heap.size ≤ w4.heap.size) := Lib.hid (Nat.le_trans LL3.out h4.le)); clear y0 y1 y2; (have y0 := R4.c 0 (by simp)); (have y1 := R4.c 1 (by simp)); (have y2 := R4.c 2 (by simp)); simp only [List.getD_cons_zero, List.getD_cons_succ] at y0 y1 y2; clear h4 R4))
      rcases O4.out.form with ⟨e4, rfl, rfl⟩ | ⟨g, c4, e4, hg, _, hc4, _⟩
      · cases e4
        obtain rfl : p = 0 := by omega
        have IN0 := Lib.hid (InsertTask_nil w4.heap.size [d, r, 0] (w4.alloc (.cells #[.int .i64 d, .int .i64 r, .int .i64 0] 43)) (Sts.of_res (m := 2) (Res.of_row (lo := 0) (Row.oneTask w4 d r 0 43) (Nat.zero_le _)) rfl))
        have A4 := Lib.hid ((New.refl w4).alloc (.cells #[.int .i64 d, .int .i64 r, .int .i64 0] 43))
        go_wp2_with (go_at_call 52; refine IN0.out.mono ?_; rintro e w5 ⟨v5, rfl, O5, h5⟩; (have N5 := Lib.hid ((N4.out.trans A4.out).trans h5)); (have LL5 : Hid (w.heap.size ≤ (w4.alloc (.cells #[.int .i64 d, .int .i64 r, .int .i64 0] 43)).heap.size) := Lib.hid (N4.out.trans A4.out).le); (have O5 := Lib.hid O5); clear h5)
        go_ret2
        rw [EO.out, EA.out]
        obtain ⟨A5, c5, rfl, _, T5⟩ := O5.out.res
        exact ⟨A5, 1, c5, rfl, rfl, ⟨T5.1, fun hz => by obtain ⟨g5, e5, k1, k2, hR⟩ := T5.2 hz; exact ⟨g5, e5, Nat.le_trans LL5.out k1, k2, hR⟩⟩, N5.out⟩
      · cases e4
        have A4 := Lib.hid ((New.refl w4).alloc (.cells #[.int .i64 d, .int .i64 r, .int .i64 0] 43))
        have gl := O4.out.row.1.lt
        have IN1 := Lib.hid (IN_.out w2.heap.size g _ w4.heap.size (w4.alloc (.cells #[.int .i64 d, .int .i64 r, .int .i64 0] 43)) (Nat.le_trans LL4.out A4.out.le) (O4.out.new A4.out) (heap_alloc_new w4 _) (by omega))
        have HG := Lib.hid hg
        clear hg gl
        go_wp2_with (go_at_call 52; refine IN1.out.mono ?_; rintro e w5 ⟨g5, c5, rfl, hg5, hc5, R5, G5⟩; (have N5 := Lib.hid (new_only (N4.out.trans A4.out) (Nat.le_trans LL.out HG.out) G5)); (have R5 := Lib.hid R5); (have HG5 := Lib.hid (Nat.le_trans LL.out hg5)); clear G5 hg5 hc5)
        go_ret2
        rw [EO.out, EA.out]
        exact ⟨_, n + 1, c5, rfl, EL.out, Res.of_row R5.out HG5.out, N5.out⟩
    · have EO : Hid (psOk n zs d r = false) := Lib.hid (by rw [EO.out, decide_eq_false h10]; rfl)
      obtain rfl : n = 10 := by omega
      go_enter Try.func25, Try.ntmps25
      go_wp2_with (first
        | (go_at_call 32; refine VT_.out.mono ?_; rintro e w1 ⟨rfl, h1⟩; (have N1 := Lib.hid (AN.out.trans h1)); (have R1 := RB.out.new h1); (have y0 := R1.c 0 (by simp)); (have y1 := R1.c 1 (by simp)); (have y2 := R1.c 2 (by simp)); simp only [List.getD_cons_zero, List.getD_cons_succ] at y0 y1 y2; (have R1 := Lib.hid R1); clear h1)
        | (go_at_call 49; refine (TC.out _).mono ?_; rintro e w2 ⟨rfl, h2⟩; (have N2 := Lib.hid (N1.out.trans h2)); (have R2 := Lib.hid (R1.out.new h2)); clear h2 y0 y1 y2)
        | (go_at_call 50; refine (CL.out _ N2.out).mono ?_; rintro e w3 ⟨v, rfl, O3, N3⟩; (have N3' := Lib.hid (N2.out.trans N3)); (have R3 := R2.out.new N3); (have y0 := R3.c 0 (by simp)); (have y1 := R3.c 1 (by simp)); (have y2 := R3.c 2 (by simp)); simp only [List.getD_cons_zero, List.getD_cons_succ] at y0 y1 y2; (have R3 := Lib.hid R3); (have LL : Hid (w.heap.size ≤ w2.heap.size) := Lib.hid N2.out.le); (have LL3 : Hid (w2.heap.size ≤ w3.heap.size) := Lib.hid N3.le); obtain ⟨A3, c3, rfl, _, T3⟩ := O3.res; (have S3 := Lib.hid (Sts.of_res T3 O3.2)); (have O3 := Lib.hid O3); clear N3 T3)
        | (go_at_call 51; refine (BS.out _ _ _ S3.out).mono ?_; rintro e w4 ⟨rfl, h4⟩; (have N4 := Lib.hid (N3'.out.trans h4)); (have R4 := R3.out.new h4); (have O4 := Lib.hid (O3.out.new h4)); (have LL4 : Hid (w2.heap.size ≤ w4.heap.size) := Lib.hid (Nat.le_trans LL3.out h4.le)); clear y0 y1 y2; (have y0 := R4.c 0 (by simp)); (have y1 := R4.c 1 (by simp)); (have y2 := R4.c 2 (by simp)); simp only [List.getD_cons_zero, List.getD_cons_succ] at y0 y1 y2; clear h4 R4))
      go_ret2
      rw [NO.out EO.out, EO.out]
      exact AnsT.no rfl N4.out
  · have OL := Lib.hid (OLD.out hf)
    have LN : Hid ((psL zs n d r).length = n) := Lib.hid (by have := VAL.out; rw [hf] at this; exact this)
    obtain ⟨hp, _⟩ := FI.out hf
    rw [hf] at EO BS
    have EO : Hid (psOk n zs d r = true) := Lib.hid (by rw [EO.out]; rfl)
    have EA : Hid (psA n zs d r = zs.set (pl zs d n * 3 + 1) (mn (trk zs (pl zs d n)) r)) := Lib.hid (by unfold psA; rw [if_pos EO.out, OL.out]; rfl)
    have EL : Hid ((zs.set (pl zs d n * 3 + 1) (mn (trk zs (pl zs d n)) r)).length = n * 3) := Lib.hid (by rw [List.length_set]; exact HL.out)
    clear hf FI OLD NEW NO VAL PLI
    have hmn := run_mn Try.prog
    generalize pl zs d n = p at *
    have p0 : (0 : Int) ≤ (p : Int) := by omega
    have p1 : (p : Int) < (n : Int) := by omega
    go_enter Try.func25, Try.ntmps25
    go_wp2_with (first
      | (go_at_call 32; refine VT_.out.mono ?_; rintro e w1 ⟨rfl, h1⟩; (have N1 := Lib.hid (AN.out.trans h1)); (have R1 := RB.out.new h1); (have y0 := R1.c 0 (by simp)); (have y1 := R1.c 1 (by simp)); (have y2 := R1.c 2 (by simp)); simp only [List.getD_cons_zero, List.getD_cons_succ] at y0 y1 y2; (have R1 := Lib.hid R1); clear h1)
      | (go_at_call 49; refine (TC.out _).mono ?_; rintro e w2 ⟨rfl, h2⟩; (have N2 := Lib.hid (N1.out.trans h2)); (have R2 := Lib.hid (R1.out.new h2)); clear h2 y0 y1 y2)
      | (go_at_call 50; refine (CL.out _ N2.out).mono ?_; rintro e w3 ⟨v, rfl, O3, N3⟩; (have N3' := Lib.hid (N2.out.trans N3)); (have R3 := R2.out.new N3); (have y0 := R3.c 0 (by simp)); (have y1 := R3.c 1 (by simp)); (have y2 := R3.c 2 (by simp)); simp only [List.getD_cons_zero, List.getD_cons_succ] at y0 y1 y2; (have R3 := Lib.hid R3); (have LL : Hid (w.heap.size ≤ w2.heap.size) := Lib.hid N2.out.le); (have LL3 : Hid (w2.heap.size ≤ w3.heap.size) := Lib.hid N3.le); obtain ⟨g, c3, rfl, hg, RW, _, _⟩ := O3.form.resolve_left (fun h => absurd h.2.1 (by omega)); (have S3 := Lib.hid (Sts.of_res (Res.of_row RW hg) O3.2)); (have O3 := Lib.hid O3); (have HG := Lib.hid hg); clear N3 RW hg)
      | (go_at_call 51; refine (BS.out _ _ _ S3.out).mono ?_; rintro e w4 ⟨rfl, h4⟩; (have N4 := Lib.hid (N3'.out.trans h4)); (have R4 := R3.out.new h4); (have O4 := Lib.hid (O3.out.new h4)); (have LL4 : Hid (w2.heap.size ≤ w4.heap.size) := Lib.hid (Nat.le_trans LL3.out h4.le)); clear y0 y1 y2; (have y0 := R4.c 0 (by simp)); (have y1 := R4.c 1 (by simp)); (have y2 := R4.c 2 (by simp)); simp only [List.getD_cons_zero, List.getD_cons_succ] at y0 y1 y2; clear h4 R4; (have g1 : w4.cell? ⟨g, p * 3 + 1, none⟩ = some (.int .i64 (trk zs p)) := O4.out.row.1.c (p * 3 + 1) (by have := HL.out; omega)); (have f1 : w4.frozen? ⟨g, p * 3 + 1, none⟩ = false := O4.out.row.1.f (p * 3 + 1) (by have := HL.out; omega)); (have O5 := Lib.hid (O4.out.set (p * 3 + 1) (mn (trk zs p) r))); generalize trk zs p = z at *))
    go_ret2
    rw [EO.out, EA.out]
    exact ⟨_, n, c3, rfl, EL.out, Res.of_row O5.out.row.1 (Nat.le_trans LL.out HG.out), N4.out.setCell (Nat.le_trans LL.out HG.out) _⟩
end Go.Proofs.Ytecnhjofgkhlnaa
