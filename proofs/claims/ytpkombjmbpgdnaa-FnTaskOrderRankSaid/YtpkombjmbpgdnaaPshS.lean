/- The reference's PushTask. Condition: the list can be read. -/
import Derived.Test.YtpkombjmbpgdnaaPshI
import Derived.Deep.RegionHeld3
namespace Go.Proofs.Ytpkombjmbpgdnaa
open Go.RowKit

theorem wp_appTaskB {w : World} {ops : Array Oper} {rest : List Oper} {o : Oper} {a : Act} {Q : Exit → Act → World → Prop} (hgd : o.guard = none) (s x : Operand)
    (ho : o.op = .call { callee := .builtin .append, args := #[s, x], argTypes := #[23, 23] }) (lo : Nat) (v : Value) (n : Nat) (zs : List Int) (hs : a.eval s = v) (hown : OwnTask lo w v n zs)
    (A : Option Addr) (k c : Nat) (xs : List Int) (hx : a.eval x = .slice A k c) (hr : Sts 3 w A k xs) (hn : n + k ≤ 1000000) (hlo : lo ≤ w.heap.size)
    (h : ∀ v' w', OwnTask lo w' v' (n + k) (zs ++ xs) → w.grownBy w' v.ownBlock → (v'.ownBlock = v.ownBlock ∨ v'.ownBlock = some w.heap.size) → wpList Try.prog ops Q rest (a.put o.dst v') w') : wpList Try.prog ops Q (o :: rest) a w :=
  wpList_plain hgd fun K hK => by
    obtain ⟨v', w', hrun, h2, h3, h4⟩ := run_appTask w o.type lo v n zs hown A k c xs hr hn hlo
    unfold Oper.wp execOp
    simp only [ho, resolve, invoke, builtin, Sem.run_bind, Sem.run_pure, Result.andThen_ok, List.map_toArray, List.map_cons, List.map_nil, hs, hx, hrun]
    exact hK _ _ (h v' w' h2 h3 h4)
theorem blk_neT {u v : Value} {b P : Nat} (h : u.ownBlock = v.ownBlock ∨ u.ownBlock = some b) (hv : v.ownBlock ≠ some P) (hb : P < b) : u.ownBlock ≠ some P := by
  rcases h with e | e
  · rw [e]; exact hv
  · rw [e]; intro e2; have := Option.some.inj e2; omega
theorem Row.grownT {w w' : World} {g : Nat} {zs : List Int} {v : Value} (h : Row w g zs) (k : w.grownBy w' v.ownBlock) (hv : v.ownBlock ≠ some g) : Row w' g zs :=
  ⟨Nat.lt_of_lt_of_le h.lt k.size, fun i hi => (World.cell?_of_block (k.block g h.lt (fun e => hv e.symm))).trans (h.c i hi), fun i hi => (World.frozen?_of_block (w := w) (k.block g h.lt (fun e => hv e.symm))).trans (h.f i hi)⟩
theorem OwnTask.farT {lo n b : Nat} {w : World} {v : Value} {zs : List Int} (h : OwnTask lo w v n zs) (hv : v.ownBlock ≠ some b) (o : Nat) (u : Value) : OwnTask lo (w.setCell ⟨b, o, none⟩ u) v n zs := by
  refine ⟨⟨h.1.1, ?_⟩, h.2⟩
  rcases h.1.2 with hn | ⟨g, cap, cur, hv', hg, hh, hc, hm, hs, ht⟩
  · exact .inl hn
  · have hne : g ≠ b := fun e => hv (by rw [hv', ← e]; rfl)
    exact .inr ⟨g, cap, cur, hv', hg, (Below.heap_setCell _ _ _ _ (by simpa using hne)).trans hh, hc, hm, hs, ht⟩
section
variable {zs : List Int} {k p : Nat}
theorem tk_less (h : k < p) : (tks zs (k + 1)).take p = (tks zs k).take p ++ [tkOf zs k] := by
  rw [tks_succ, List.take_of_length_le (by simp [tks_len]; omega), List.take_of_length_le (by rw [tks_len]; omega)]
theorem tk_more (h : p ≤ k) : (tks zs (k + 1)).take p = (tks zs k).take p := by rw [tks_succ, List.take_append_of_le_length (by rw [tks_len]; exact h)]
theorem dr_more (h : p ≤ k) : (tks zs (k + 1)).drop p = (tks zs k).drop p ++ [tkOf zs k] := by rw [tks_succ, List.drop_append_of_le_length (by rw [tks_len]; exact h)]
theorem dr_less (h : k < p) : (tks zs (k + 1)).drop p = (tks zs k).drop p := by
  rw [List.drop_of_length_le (by rw [tks_len]; omega), List.drop_of_length_le (by rw [tks_len]; omega)]
end
/-- The task to be put there, as the first k say. -/
def nxt (zs : List Int) (n : Nat) (d r : Int) (k : Nat) : Tk := if fnd zs n d = true ∧ pl zs d n < k then psT zs n d r else (d, r, 0)
def row3 (t : Tk) : List Int := [t.1, t.2.1, t.2.2]
theorem nxt_zero {zs : List Int} {n : Nat} {d r : Int} : nxt zs n d r 0 = (d, r, 0) := if_neg (fun h => by omega)
theorem nxt_same {zs : List Int} {n k : Nat} {d r : Int} (h : ¬ (fnd zs n d = true ∧ k = pl zs d n)) : nxt zs n d r (k + 1) = nxt zs n d r k := by
  unfold nxt
  by_cases h1 : fnd zs n d = true ∧ pl zs d n < k
  · rw [if_pos h1, if_pos ⟨h1.1, by omega⟩]
  · rw [if_neg h1, if_neg (fun h2 => by
      by_cases e : k = pl zs d n
      · exact h ⟨h2.1, e⟩
      · exact h1 ⟨h2.1, by omega⟩)]
theorem nxt_here {zs : List Int} {n : Nat} {d r : Int} (h : fnd zs n d = true) : nxt zs n d r (pl zs d n + 1) = (d, min r (trk zs (pl zs d n)), tag zs (pl zs d n)) := by
  unfold nxt psT
  rw [if_pos ⟨h, by omega⟩, if_pos h, Int.min_comm]
theorem nxt_end {zs : List Int} {n : Nat} {d r : Int} : nxt zs n d r n = psT zs n d r := by
  unfold nxt
  split
  · rfl
  · next h =>
    unfold psT
    rw [if_neg (fun hf => h ⟨hf, (fnd_iff.1 hf).1⟩)]
set_option maxRecDepth 100000 in
set_option maxHeartbeats 2000000 in
theorem SPushTask_ok (A : Option Addr) (n c : Nat) (zs : List Int) (d r : Int) (hn : n ≤ 1048576) (w : World) (hx : Sts 3 w A n zs) (pv : psV n zs d r = true) :
    Calls Try.prog 35 #[.slice A n c, .int .i64 d, .int .i64 r] w fun e w' => New w w' ∧ ((psOk n zs d r = false ∧ e = .returned (.tuple #[.slice none 0 0, .bool false])) ∨ (psOk n zs d r = true ∧ ∃ v, e = .returned (.tuple #[v, .bool true]) ∧ OwnTask w.heap.size w' v (psL zs n d r).length (flL (psL zs n d r)))) := by
  obtain ⟨hv, hd, hr⟩ := psV_iff.1 pv
  obtain ⟨n10, hall⟩ := vtk_at hv
  have HX := Lib.hid hx
  have HA := Lib.hid (fun k (hk : k < n) => (hall k hk).1)
  have E1 : Hid (New w ((w.alloc (.cells #[] 30)).alloc (.cells #[.int .i64 d, .int .i64 r, .int .i64 0] 30))) := Lib.hid (by (repeat (first | exact New.refl _ | assumption | refine New.alloc ?_ _ | refine New.drew ?_ | refine New.drewN ?_ _ | refine New.setCell ?_ (by first | omega | (simp; omega) | (simp; done)) _ | refine New.trans ?_ (by assumption))))
  have O1 := Lib.hid (((OwnTask.empty (lo := w.heap.size) w (Nat.le_refl _)).alloc (.cells #[.int .i64 d, .int .i64 r, .int .i64 0] 30)))
  have R1 : Hid (Row ((w.alloc (.cells #[] 30)).alloc (.cells #[.int .i64 d, .int .i64 r, .int .i64 0] 30)) (w.heap.size + 1) [d, r, 0]) := Lib.hid (by have h := Row.oneTask (w.alloc (.cells #[] 30)) d r 0 30; simpa using h)
  have VT_ := Lib.hid (fun X (hX : New w X) => SvalidTasks_any A n c zs hn X (hx.new hX))
  have C1 := Lib.hid (fun (W : World) => (show Calls Try.prog 30 #[.int .i64 d, .int .i64 0, .int .i64 99] W fun e w' => e = .returned (.bool true) ∧ W = w' by have h := inRange_any d 0 99 W; rw [decide_eq_true hd] at h; exact h))
  have C2 := Lib.hid (fun (W : World) => (show Calls Try.prog 30 #[.int .i64 r, .int .i64 0, .int .i64 50] W fun e w' => e = .returned (.bool true) ∧ W = w' by have h := inRange_any r 0 50 W; rw [decide_eq_true hr] at h; exact h))
  have LT := Lib.hid (fun k (hk : k < n) => pl_lt (d := d) hv hk)
  have EQ := Lib.hid (fun k (hk : k < n) => pl_eq (d := d) hv hk)
  have GT := Lib.hid (fun k (hk : k < n) => pn_gt (d := d) hv hk)
  have VAL := Lib.hid (psL_valid pv)
  have LEN := Lib.hid (psL_len (d := d) (r := r) hv)
  have EO : Hid (psOk n zs d r = (fnd zs n d || decide (n < 10))) := Lib.hid (by unfold psOk; rw [pv, Bool.true_and])
  have LB : Hid (∀ (b off : Nat) , A = some ⟨b, off, none⟩ → 0 < n → b < w.heap.size) := Lib.hid (fun b off e h0 => by obtain ⟨b', off', e', hb, _⟩ := hx.at_ h0; rw [e] at e'; injection e' with e'; injection e' with e'; omega)
  have ni : (n : Int) ≤ 10 := by omega
  have HV := Lib.hid hv
  clear hx hv hall pv
  have n0 : (0 : Int) ≤ (n : Int) := by omega
  obtain ⟨hd1, hd2⟩ := hd
  obtain ⟨hr1, hr2⟩ := hr
  go_enter Try.func35, Try.ntmps35
  go_wp2_with (first
    | (go_at_call 18; refine (VT_.out _ E1.out).mono ?_; rw [HV.out]; rintro e w1 ⟨rfl, h1⟩; (have N1 := Lib.hid (E1.out.trans h1)); (have O2 := Lib.hid (O1.out.new h1)); (have R2 := Lib.hid (R1.out.new h1)); (have S1 : Hid (w.heap.size + 1 < w1.heap.size) := Lib.hid (by have := h1.le; simp at this; omega)); clear h1)
    | (go_at_call 30; refine (C1.out _).mono ?_; rintro e w' ⟨rfl, rfl⟩; clear C1)
    | (go_at_call 30; refine (C2.out _).mono ?_; rintro e w' ⟨rfl, rfl⟩))
  go_loopw [8, 10] (fun v i wr => ∃ k : Nat, k ≤ n ∧ i = .int .i64 k ∧ Hid (OwnTask w.heap.size wr v ((tks zs k).take (pl zs d n)).length (flL ((tks zs k).take (pl zs d n)))) ∧ Hid (v.ownBlock ≠ some (w.heap.size + 1)) ∧ Hid (Row wr (w.heap.size + 1) (row3 (nxt zs n d r k))) ∧ Hid (New w wr)) (fun _ i _ => n - (intOf i).toNat)
  case atStart => exact ⟨0, Nat.zero_le _, rfl, by show Hid (OwnTask _ _ _ ((tks zs 0).take _).length (flL ((tks zs 0).take _))); rw [show tks zs 0 = [] from rfl, List.take_nil]; exact O2, Lib.hid (by simp [Value.ownBlock]), by rw [nxt_zero]; exact R2, N1⟩
  case round =>
    clear O1 O2 R1 R2 N1
    obtain ⟨k, hk, rfl, HO, HB, HR, HN⟩ := hrel
    obtain ⟨v, hv'⟩ : ∃ v, v = u8 := ⟨_, rfl⟩
    rw [← hv'] at HO HB ⊢
    clear hv'
    have k0 : (0 : Int) ≤ (k : Int) := by omega
    by_cases hlt : k < n
    · have k1 : (k : Int) < (n : Int) := by omega
      obtain ⟨b, off, rfl, hb, hc⟩ := HX.out.at_ (by omega)
      have HC := Lib.hid (fun X (hX : New w X) => (show X.cell? ⟨b, off + k * 3, none⟩ = some (.int .i64 (tkOf zs k).1) ∧ X.cell? ⟨b, off + k * 3 + 1, none⟩ = some (.int .i64 (tkOf zs k).2.1) ∧ X.cell? ⟨b, off + k * 3 + 2, none⟩ = some (.int .i64 (tkOf zs k).2.2) from ⟨(hX.cells b _ hb).trans (hc (k * 3) (by omega)), (hX.cells b _ hb).trans (hc (k * 3 + 1) (by omega)), (hX.cells b _ hb).trans (hc (k * 3 + 2) (by omega))⟩))
      obtain ⟨g0, g1, g2⟩ := HC.out wr HN.out
      have bw : b < w.heap.size := hb
      clear hc hb
      have ll : ((tks zs k).take (pl zs d n)).length ≤ k := by rw [List.length_take, tks_len]; omega
      by_cases c1 : tid zs k < d
      · have T1 : Hid ((tks zs (k + 1)).take (pl zs d n) = (tks zs k).take (pl zs d n) ++ [tkOf zs k]) := Lib.hid (tk_less ((LT.out k hlt).1 c1))
        have X1 : Hid (nxt zs n d r (k + 1) = nxt zs n d r k) := Lib.hid (nxt_same (fun h => by have := (EQ.out k hlt).2 h; omega))
        have EF := Lib.hid (flL_snoc ((tks zs k).take (pl zs d n)) (tkOf zs k))
        have d1 : (tkOf zs k).1 < d := c1
        clear c1
        generalize (tks zs k).take (pl zs d n) = l at *
        generalize (tkOf zs k).1 = a0 at *
        generalize (tkOf zs k).2.1 = a1 at *
        generalize (tkOf zs k).2.2 = a2 at *
        have HLL := Lib.hid (show l.length ≤ 1000 by omega)
        go_wp2_with (at_builtin; refine wp_appTaskB rfl _ _ rfl w.heap.size v l.length _ rfl (HO.out.alloc _) (some ⟨wr.heap.size, 0, none⟩) 1 1 [a0, a1, a2] rfl (Sts.of_res (m := 2) (Res.of_row (lo := 0) (Row.oneTask wr a0 a1 a2 30) (Nat.zero_le _)) rfl) (by have := HLL.out; omega) (by have := HN.out.le; simp; omega) ?_; intro v6 w6 O6 G6 B6; (have N6 := Lib.hid (new_ownTask (HN.out.alloc _) G6 (HO.out.alloc _) (Nat.le_refl _))); (have R6 := Lib.hid ((HR.out.new ((New.refl _).alloc _)).grownT G6 HB.out)); (have P6 := Lib.hid (blk_neT (P := w.heap.size + 1) B6 HB.out (by have := HR.out.lt; simp; omega))); (replace O6 := Lib.hid O6); clear G6 B6)
        go_roundw
        case rel => exact ⟨k + 1, by omega, by go_num, Lib.hid (by rw [T1.out, EF.out, List.length_append]; exact O6.out), P6, by rw [X1.out]; exact R6, N6⟩
        case measure => simp [intOf]; omega
      · have T1 : Hid ((tks zs (k + 1)).take (pl zs d n) = (tks zs k).take (pl zs d n)) := Lib.hid (tk_more (by have := LT.out k hlt; omega))
        by_cases c2 : tid zs k = d
        · obtain ⟨hf, hkp⟩ := (EQ.out k hlt).1 c2
          have X1 : Hid (nxt zs n d r (k + 1) = (d, min r (tkOf zs k).2.1, (tkOf zs k).2.2)) := Lib.hid (by rw [hkp]; exact nxt_here hf)
          have e0 : (tkOf zs k).1 = d := c2
          rw [e0] at g0
          clear c1 c2 hf hkp e0 ll
          generalize (tks zs k).take (pl zs d n) = l at *
          generalize hq : (tkOf zs k).2.1 = a1 at *
          generalize hq2 : (tkOf zs k).2.2 = a2 at *
          replace HC := Lib.hid (fun X hX => (⟨(HC.out X hX).2.1, (HC.out X hX).2.2⟩ : X.cell? ⟨b, off + k * 3 + 1, none⟩ = some (.int .i64 a1) ∧ X.cell? ⟨b, off + k * 3 + 2, none⟩ = some (.int .i64 a2)))
          clear hq hq2
          have hmn := run_mn Try.prog
          go_wp2
          clear g0 g1 g2
          have ND := Lib.hid (HN.out.drew)
          have RD := Lib.hid (HR.out.new (New.refl wr).drew)
          have OD := Lib.hid (HO.out.new (New.refl wr).drew)
          generalize nxt zs n d r k = t0 at *
          refine wp_region_noPanic ?_
          refine wp_region_held_drew (S := fun w' => w'.cell? ⟨b, off + k * 3 + 1, none⟩ = some (.int .i64 a1) ∧ w'.cell? ⟨b, off + k * 3 + 2, none⟩ = some (.int .i64 a2)) (by kernel_rfl) (HC.out _ ND.out) (fun hHeld => ?_)
          generalize wr.drew = Vd at ND RD OD hHeld ⊢
          refine wpAnyH_take (i := 0) (oi := _) (v := ?_) rfl (by kernel_rfl) (by kernel_rfl) (by kernel_rfl) (fun _ _ _ h => h) (Or.inl ⟨by kernel_rfl, ?_⟩) (by assumption) ?_
          rotate_left; (intro w' hSw; (try dsimp only at hSw); go_split_ands; go_simp; (try with_reducible rfl))
          try dsimp only [Act.put]
          refine wpAnyH_take (i := 1) (oi := _) (v := ?_) rfl (by kernel_rfl) (by kernel_rfl) (by kernel_rfl) (fun _ _ _ h => h) (Or.inl ⟨by kernel_rfl, ?_⟩) (by assumption) ?_
          rotate_left; (intro w' hSw; (try dsimp only at hSw); go_split_ands; go_simp; (try with_reducible rfl))
          try dsimp only [Act.put]
          refine wpAnyH_take (i := 2) (oi := _) (v := ?_) rfl (by kernel_rfl) (by kernel_rfl) (by kernel_rfl) (fun _ _ _ h => h) (Or.inl ⟨by kernel_rfl, ?_⟩) (by assumption) ?_
          rotate_left; (intro w' hSw; (try dsimp only at hSw); go_split_ands; go_simp; (try with_reducible rfl))
          try dsimp only [Act.put]
          refine wpAnyH_take (i := 3) (oi := _) (v := ?_) rfl (by kernel_rfl) (by kernel_rfl) (by kernel_rfl) (fun _ _ _ h => h) (Or.inl ⟨by kernel_rfl, ?_⟩) (by assumption) ?_
          rotate_left; (intro w' hSw; (try dsimp only at hSw); go_split_ands; go_simp; (try with_reducible rfl))
          try dsimp only [Act.put]
          refine wpAnyH_take (i := 4) (oi := _) (v := ?_) rfl (by kernel_rfl) (by kernel_rfl) (by kernel_rfl) (fun _ _ _ h => h) (Or.inl ⟨by kernel_rfl, ?_⟩) (by assumption) ?_
          rotate_left; (intro w' hSw; (try dsimp only at hSw); go_split_ands; go_simp; (try with_reducible rfl))
          try dsimp only [Act.put]
          refine wpAnyH_take (i := 5) (oi := _) (v := ?_) rfl (by kernel_rfl) (by kernel_rfl) (by kernel_rfl) (fun _ _ _ h => h) (Or.inl ⟨by kernel_rfl, ?_⟩) (by assumption) ?_
          rotate_left; (intro w' hSw; (try dsimp only at hSw); go_split_ands; go_simp; (try with_reducible rfl))
          try dsimp only [Act.put]
          refine wpAnyH_take (i := 6) (oi := _) (v := ?_) rfl (by kernel_rfl) (by kernel_rfl) (by kernel_rfl) (fun _ _ _ h => h) (Or.inl ⟨by kernel_rfl, ?_⟩) (by assumption) ?_
          rotate_left; (intro w' hSw; (try dsimp only at hSw); go_split_ands; go_simp; (try with_reducible rfl))
          try dsimp only [Act.put]
          refine wpAnyH_take (i := 7) (oi := _) (v := ?_) rfl (by kernel_rfl) (by kernel_rfl) (by kernel_rfl) (fun _ _ _ h => h) (Or.inl ⟨by kernel_rfl, ?_⟩) (by assumption) ?_
          rotate_left; (intro w' hSw; (try dsimp only at hSw); go_split_ands; go_simp; (try with_reducible rfl))
          try dsimp only [Act.put]
          refine wpAnyH_take (i := 8) (oi := _) (v := ?_) rfl (by kernel_rfl) (by kernel_rfl) (by kernel_rfl) (fun _ _ _ h => h) (Or.inl ⟨by kernel_rfl, ?_⟩) (by assumption) ?_
          rotate_left; (intro w' hSw; (try dsimp only at hSw); go_split_ands; go_simp; (try with_reducible rfl))
          try dsimp only [Act.put]
          refine wpAnyH_take (i := 9) (oi := _) (v := ?_) rfl (by kernel_rfl) (by kernel_rfl) (by kernel_rfl) (fun _ _ _ h => h) (Or.inl ⟨by kernel_rfl, ?_⟩) (by assumption) ?_
          rotate_left; (intro w' hSw; (try dsimp only at hSw); go_split_ands; go_simp; (try with_reducible rfl))
          try dsimp only [Act.put]
          refine wpAnyH_take (i := 10) (oi := _) (v := ?_) rfl (by kernel_rfl) (by kernel_rfl) (by kernel_rfl) (fun _ _ _ h => h) (Or.inl ⟨by kernel_rfl, ?_⟩) (by assumption) ?_
          rotate_left; (intro w' hSw; (try dsimp only at hSw); go_split_ands; go_simp; (try with_reducible rfl))
          try dsimp only [Act.put]
          refine wpAnyH_take (i := 11) (oi := _) (v := ?_) rfl (by kernel_rfl) (by kernel_rfl) (by kernel_rfl) (fun _ _ _ h => h) (Or.inl ⟨by kernel_rfl, ?_⟩) (by assumption) ?_
          rotate_left; (intro w' hSw; (try dsimp only at hSw); go_split_ands; go_simp; (try with_reducible rfl))
          try dsimp only [Act.put]
          refine wpAnyH_take (i := 12) (oi := _) (v := ?_) rfl (by kernel_rfl) (by kernel_rfl) (by kernel_rfl) (fun _ _ _ h => h) (Or.inl ⟨by kernel_rfl, ?_⟩) (by assumption) ?_
          rotate_left; (intro w' hSw; (try dsimp only at hSw); go_split_ands; go_simp; (try with_reducible rfl))
          try dsimp only [Act.put]
          refine wpAnyH_take (i := 13) (oi := _) (v := ?_) rfl (by kernel_rfl) (by kernel_rfl) (by kernel_rfl) (fun _ _ _ h => h) (Or.inl ⟨by kernel_rfl, ?_⟩) (by assumption) ?_
          rotate_left; (intro w' hSw; (try dsimp only at hSw); go_split_ands; go_simp; (try with_reducible rfl))
          try dsimp only [Act.put]
          refine wpAnyH_ready (rs := [14]) (by kernel_rfl) (by simp) ?_
          refine AllReadyH.cons (o := _) rfl (fun K hK => ?_) AllReadyH.nil
          have z0 := RD.out.c 0 (by simp [row3]); have z1 := RD.out.c 1 (by simp [row3]); have z2 := RD.out.c 2 (by simp [row3])
          have x0 := RD.out.f 0 (by simp [row3]); have x1 := RD.out.f 1 (by simp [row3]); have x2 := RD.out.f 2 (by simp [row3])
          have NF : Hid (New w (((Vd.setCell ⟨w.heap.size + 1, 0, none⟩ (.int .i64 d)).setCell ⟨w.heap.size + 1, 1, none⟩ (.int .i64 (mn r a1))).setCell ⟨w.heap.size + 1, 2, none⟩ (.int .i64 a2))) := Lib.hid (((ND.out.setCell (Nat.le_succ _) _).setCell (Nat.le_succ _) _).setCell (Nat.le_succ _) _)
          have OF : Hid (OwnTask w.heap.size (((Vd.setCell ⟨w.heap.size + 1, 0, none⟩ (.int .i64 d)).setCell ⟨w.heap.size + 1, 1, none⟩ (.int .i64 (mn r a1))).setCell ⟨w.heap.size + 1, 2, none⟩ (.int .i64 a2)) v l.length (flL l)) := Lib.hid (((OD.out.farT HB.out 0 _).farT HB.out 1 _).farT HB.out 2 _)
          have RF : Hid (Row (((Vd.setCell ⟨w.heap.size + 1, 0, none⟩ (.int .i64 d)).setCell ⟨w.heap.size + 1, 1, none⟩ (.int .i64 (mn r a1))).setCell ⟨w.heap.size + 1, 2, none⟩ (.int .i64 a2)) (w.heap.size + 1) (row3 (d, min r a1, a2))) := Lib.hid (((RD.out.set_ (k := 0) (by simp [row3]) d).set_ (k := 1) (by simp [row3]) (mn r a1)).set_ (k := 2) (by simp [row3]) a2)
          go_simp
          refine hK.out _ _ (HC.out _ NF.out) (fun hH14 => ?_)
          clear hK K
          try dsimp only [Act.put]
          clear z0 z1 z2 x0 x1 x2
          refine wpAnyH_done (by kernel_rfl) ?_ _
          refine NoPanic.normal ?_
          go_simp
          go_wp2
          go_roundw
          case rel => exact ⟨k + 1, by omega, by go_num, by rw [T1.out]; exact OF, HB, by rw [X1.out]; exact RF, NF⟩
          case measure => simp [intOf]; omega
        · have X1 : Hid (nxt zs n d r (k + 1) = nxt zs n d r k) := Lib.hid (nxt_same (fun h => c2 ((EQ.out k hlt).2 h)))
          have d1 : ¬ (tkOf zs k).1 < d := c1
          have d2 : ((tkOf zs k).1 == d) = false := by have c3 : ¬ (tkOf zs k).1 = d := c2; simpa using c3
          clear c1 c2
          generalize (tks zs k).take (pl zs d n) = l at *
          generalize (tkOf zs k).1 = a0 at *
          generalize (tkOf zs k).2.1 = a1 at *
          generalize (tkOf zs k).2.2 = a2 at *
          go_wp2
          go_roundw
          case rel => exact ⟨k + 1, by omega, by go_num, by rw [T1.out]; exact HO, HB, by rw [X1.out]; exact HR, HN⟩
          case measure => simp [intOf]; omega
    · obtain rfl : n = k := by omega
      clear HB
      rw [nxt_end] at HR
      have l1 : Hid (((tks zs n).take (pl zs d n)).length ≤ 1000) := Lib.hid (by rw [List.length_take, tks_len]; omega)
      have y0 : wr.cell? ⟨w.heap.size + 1, 0, none⟩ = some (.int .i64 (psT zs n d r).1) := HR.out.c 0 (by simp [row3])
      have y1 : wr.cell? ⟨w.heap.size + 1, 1, none⟩ = some (.int .i64 (psT zs n d r).2.1) := HR.out.c 1 (by simp [row3])
      have y2 : wr.cell? ⟨w.heap.size + 1, 2, none⟩ = some (.int .i64 (psT zs n d r).2.2) := HR.out.c 2 (by simp [row3])
      have EP : Hid (psL zs n d r = (tks zs n).take (pl zs d n) ++ [psT zs n d r] ++ (tks zs n).drop (pn zs n d)) := Lib.hid rfl
      have EF := Lib.hid (flL_snoc ((tks zs n).take (pl zs d n)) (psT zs n d r))
      have PNL := Lib.hid (pn_le (d := d) HV.out)
      generalize (tks zs n).take (pl zs d n) = l at *
      generalize psT zs n d r = t at *
      obtain ⟨a0, a1, a2⟩ := t
      dsimp only at y0 y1 y2 EF
      generalize hql : psL zs n d r = L at *
      have QL := Lib.hid hql
      clear hql HR
      go_wp2_with (at_builtin; refine wp_appTaskB rfl _ _ rfl w.heap.size v l.length _ rfl (HO.out.alloc _) (some ⟨wr.heap.size, 0, none⟩) 1 1 [a0, a1, a2] rfl (Sts.of_res (m := 2) (Res.of_row (lo := 0) (Row.oneTask wr a0 a1 a2 30) (Nat.zero_le _)) rfl) (by have := l1.out; omega) (by have := HN.out.le; simp; omega) ?_; intro v6 w6 O6 G6 _; (have N6 := Lib.hid (new_ownTask (HN.out.alloc _) G6 (HO.out.alloc _) (Nat.le_refl _))); (replace O6 := Lib.hid O6); clear G6)
      clear y0 y1 y2 HO HN
      generalize hm : l ++ [(a0, a1, a2)] = m at *
      have O7 : Hid (OwnTask w.heap.size w6 v6 m.length (flL m)) := Lib.hid (by rw [EF.out, ← hm, List.length_append]; exact O6.out)
      have ML : Hid (m.length ≤ 1001) := Lib.hid (by rw [← hm, List.length_append]; have := l1.out; simp; omega)
      clear O6 hm EF l1
      go_loopw [8, 11] (fun v i wr => ∃ k : Nat, k ≤ n ∧ i = .int .i64 k ∧ Hid (OwnTask w.heap.size wr v (m ++ (tks zs k).drop (pn zs n d)).length (flL (m ++ (tks zs k).drop (pn zs n d)))) ∧ Hid (New w wr)) (fun _ i _ => n - (intOf i).toNat)
      case atStart => exact ⟨0, Nat.zero_le _, rfl, by show Hid (OwnTask _ _ _ (m ++ (tks zs 0).drop _).length (flL (m ++ (tks zs 0).drop _))); rw [show tks zs 0 = [] from rfl, List.drop_nil, List.append_nil]; exact O7, N6⟩
      case round =>
        clear O7 N6
        obtain ⟨k, hk, rfl, HO, HN⟩ := hrel
        obtain ⟨v, hv'⟩ : ∃ v, v = u8 := ⟨_, rfl⟩
        rw [← hv'] at HO ⊢
        clear hv'
        have k0 : (0 : Int) ≤ (k : Int) := by omega
        by_cases hlt : k < n
        · have k1 : (k : Int) < (n : Int) := by omega
          obtain ⟨b, off, rfl, hb, hc⟩ := HX.out.at_ (by omega)
          have HC := Lib.hid (fun X (hX : New w X) => (show X.cell? ⟨b, off + k * 3, none⟩ = some (.int .i64 (tkOf zs k).1) ∧ X.cell? ⟨b, off + k * 3 + 1, none⟩ = some (.int .i64 (tkOf zs k).2.1) ∧ X.cell? ⟨b, off + k * 3 + 2, none⟩ = some (.int .i64 (tkOf zs k).2.2) from ⟨(hX.cells b _ hb).trans (hc (k * 3) (by omega)), (hX.cells b _ hb).trans (hc (k * 3 + 1) (by omega)), (hX.cells b _ hb).trans (hc (k * 3 + 2) (by omega))⟩))
          obtain ⟨g0, g1, g2⟩ := HC.out wr HN.out
          have bw : b < w.heap.size := hb
          clear hc hb
          by_cases c1 : d < tid zs k
          · have T1 : Hid (m ++ (tks zs (k + 1)).drop (pn zs n d) = (m ++ (tks zs k).drop (pn zs n d)) ++ [tkOf zs k]) := Lib.hid (by rw [dr_more ((GT.out k hlt).1 c1), List.append_assoc])
            have HLL : Hid ((m ++ (tks zs k).drop (pn zs n d)).length ≤ 2000) := Lib.hid (by rw [List.length_append, List.length_drop, tks_len]; have := ML.out; omega)
            have EF := Lib.hid (flL_snoc (m ++ (tks zs k).drop (pn zs n d)) (tkOf zs k))
            have d1 : d < (tkOf zs k).1 := c1
            clear c1
            generalize m ++ (tks zs k).drop (pn zs n d) = l at *
            generalize (tkOf zs k).1 = a0 at *
            generalize (tkOf zs k).2.1 = a1 at *
            generalize (tkOf zs k).2.2 = a2 at *
            go_wp2_with (at_builtin; refine wp_appTaskB rfl _ _ rfl w.heap.size v l.length _ rfl (HO.out.alloc _) (some ⟨wr.heap.size, 0, none⟩) 1 1 [a0, a1, a2] rfl (Sts.of_res (m := 2) (Res.of_row (lo := 0) (Row.oneTask wr a0 a1 a2 30) (Nat.zero_le _)) rfl) (by have := HLL.out; omega) (by have := HN.out.le; simp; omega) ?_; intro v6 w6 O6 G6 _; (have N6 := Lib.hid (new_ownTask (HN.out.alloc _) G6 (HO.out.alloc _) (Nat.le_refl _))); (replace O6 := Lib.hid O6); clear G6)
            go_roundw
            case rel => exact ⟨k + 1, by omega, by go_num, Lib.hid (by rw [T1.out, EF.out, List.length_append]; exact O6.out), N6⟩
            case measure => simp [intOf]; omega
          · have T1 : Hid (m ++ (tks zs (k + 1)).drop (pn zs n d) = m ++ (tks zs k).drop (pn zs n d)) := Lib.hid (by rw [dr_less (by have := GT.out k hlt; omega)])
            have d1 : ¬ d < (tkOf zs k).1 := c1
            clear c1
            generalize m ++ (tks zs k).drop (pn zs n d) = l at *
            generalize (tkOf zs k).1 = a0 at *
            generalize (tkOf zs k).2.1 = a1 at *
            generalize (tkOf zs k).2.2 = a2 at *
            go_wp2
            go_roundw
            case rel => exact ⟨k + 1, by omega, by go_num, by rw [T1.out]; exact HO, HN⟩
            case measure => simp [intOf]; omega
        · obtain rfl : n = k := by omega
          rw [← EP.out] at HO
          obtain ⟨A7, c7, rfl, _, T7⟩ := HO.out.res
          have S7 := Lib.hid (Sts.of_res T7 HO.out.2)
          have LL : Hid (L.length ≤ 1048576) := Lib.hid (by have h := LEN.out; split at h <;> omega)
          have CV := Lib.hid (SvalidTasks_any A7 L.length c7 (flL L) LL.out wr S7.out)
          rw [VAL.out] at CV
          clear T7
          cases hbb : (fnd zs n d || decide (n < 10))
          · rw [hbb] at CV EO
            clear hbb
            go_wp2_with fail
            refine CV.out.mono ?_
            rintro e w8 ⟨rfl, N8⟩
            have N8 := Lib.hid (HN.out.trans N8)
            go_wp2
            go_ret2
            exact ⟨N8.out, .inl ⟨EO.out, rfl⟩⟩
          · rw [hbb] at CV EO
            clear hbb
            go_wp2_with fail
            refine CV.out.mono ?_
            rintro e w8 ⟨rfl, N8⟩
            have O8 := Lib.hid (HO.out.new N8)
            have N8 := Lib.hid (HN.out.trans N8)
            go_wp2
            go_ret2
            exact ⟨N8.out, .inr ⟨EO.out, .slice A7 L.length c7, rfl, by rw [QL.out]; exact O8.out⟩⟩
set_option maxRecDepth 100000 in
set_option maxHeartbeats 2000000 in
theorem SPushTask_ansT (A : Option Addr) (n c : Nat) (zs : List Int) (d r : Int) (hn : n ≤ 1048576) (w : World) (hx : Sts 3 w A n zs) :
    Calls Try.prog 35 #[.slice A n c, .int .i64 d, .int .i64 r] w (AnsT 3 w (psOk n zs d r) (psA n zs d r)) := by
  cases pv : psV n zs d r
  · have EO : Hid (psOk n zs d r = false) := Lib.hid (by unfold psOk; rw [pv]; rfl)
    have EA : Hid (psA n zs d r = []) := Lib.hid (by unfold psA; rw [EO.out]; rfl)
    have E1 : Hid (New w ((w.alloc (.cells #[] 30)).alloc (.cells #[.int .i64 d, .int .i64 r, .int .i64 0] 30))) := Lib.hid (by (repeat (first | exact New.refl _ | assumption | refine New.alloc ?_ _ | refine New.drew ?_ | refine New.drewN ?_ _ | refine New.setCell ?_ (by first | omega | (simp; omega) | (simp; done)) _ | refine New.trans ?_ (by assumption))))
    have VT_ := Lib.hid (fun X (hX : New w X) => SvalidTasks_any A n c zs hn X (hx.new hX))
    have C1 := Lib.hid (fun (W : World) => inRange_any d 0 99 W)
    have C2 := Lib.hid (fun (W : World) => inRange_any r 0 50 W)
    unfold psV at pv
    clear hx
    cases hv : vtk n zs
    · rw [hv] at VT_
      clear hv pv
      go_enter Try.func35, Try.ntmps35
      go_wp2_with (go_at_call 18; refine (VT_.out _ E1.out).mono ?_; rintro e w1 ⟨rfl, h1⟩; (have N1 := Lib.hid (E1.out.trans h1)); clear h1)
      go_ret2
      rw [EO.out, EA.out]
      exact AnsT.no rfl N1.out
    · rw [hv] at VT_ pv
      rw [Bool.true_and] at pv
      cases hd : decide (0 ≤ d ∧ d ≤ 99)
      · rw [hd] at C1
        clear hv pv hd C2
        go_enter Try.func35, Try.ntmps35
        go_wp2_with (first
          | (go_at_call 18; refine (VT_.out _ E1.out).mono ?_; rintro e w1 ⟨rfl, h1⟩; (have N1 := Lib.hid (E1.out.trans h1)); clear h1)
          | (go_at_call 30; refine (C1.out _).mono ?_; rintro e w' ⟨rfl, rfl⟩))
        go_ret2
        rw [EO.out, EA.out]
        exact AnsT.no rfl N1.out
      · rw [hd] at C1 pv
        rw [Bool.true_and] at pv
        rw [pv] at C2
        clear hv pv hd
        go_enter Try.func35, Try.ntmps35
        go_wp2_with (first
          | (go_at_call 18; refine (VT_.out _ E1.out).mono ?_; rintro e w1 ⟨rfl, h1⟩; (have N1 := Lib.hid (E1.out.trans h1)); clear h1)
          | (go_at_call 30; refine (C1.out _).mono ?_; rintro e w' ⟨rfl, rfl⟩; clear C1)
          | (go_at_call 30; refine (C2.out _).mono ?_; rintro e w' ⟨rfl, rfl⟩))
        go_ret2
        rw [EO.out, EA.out]
        exact AnsT.no rfl N1.out
  · refine (SPushTask_ok A n c zs d r hn w hx pv).mono ?_
    rintro e w' ⟨N, ⟨h1, rfl⟩ | ⟨h1, v, rfl, O⟩⟩
    · have EA : psA n zs d r = [] := by unfold psA; rw [h1]; rfl
      rw [h1, EA]
      exact AnsT.no rfl N
    · have EA : psA n zs d r = flL (psL zs n d r) := if_pos h1
      rw [h1, EA]
      obtain ⟨B, e, rfl, _, R⟩ := O.res
      exact ⟨B, _, e, rfl, O.2, R, N⟩
theorem psA_len {n : Nat} {zs : List Int} (d r : Int) : (psA n zs d r).length ≤ 1048576 := by
  unfold psA
  split
  · next h =>
    unfold psOk at h
    rw [Bool.and_eq_true] at h
    have hv := (psV_iff.1 h.1).1
    have h1 := (vtk_at hv).1
    have h2 := psL_len (d := d) (r := r) hv
    rw [flL_len]
    split at h2 <;> omega
  · exact Nat.zero_le _
end Go.Proofs.Ytpkombjmbpgdnaa
