/- Parts that belong together: NatI, NatJ. Conditions: as each part says. -/
import Derived.Test.YtobnjagmakhgpaaZG
import Derived.Test.YtobnjagmakhgpaaZF
import Derived.IntWalk
import Derived.RegionTactic
import Derived.BigRegion
/- The sizes of boxes in the program: turned sizes, gaps, sizes side by side, and what a box does with those in it, walked. Conditions: the lists can be read; the nodes are linked. -/
namespace Go.Proofs.Ytobnjagmakhgpaa
open Go.RowKit

/-- The numbers of sizes, one size behind the other. -/
def flat2 (ss : List (Int × Int)) : List Int := ss.flatMap fun s => [s.1, s.2]
abbrev szv (s : Int × Int) : Value := .agg #[.int .i64 s.1, .int .i64 s.2]
theorem flat2_len : ∀ (ss : List (Int × Int)), (flat2 ss).length = ss.length * 2
  | [] => rfl
  | s :: ss => by unfold flat2; rw [List.flatMap_cons, List.length_append, List.length_cons]; have := flat2_len ss; unfold flat2 at this; rw [this]; simp; omega
theorem flat2_snoc (ss : List (Int × Int)) (s : Int × Int) : flat2 (ss ++ [s]) = flat2 ss ++ [s.1, s.2] := by unfold flat2; rw [List.flatMap_append]; simp
theorem flat2_at : ∀ (ss : List (Int × Int)) (k : Nat), (flat2 ss).getD (k * 2) 0 = (ss.getD k (0, 0)).1 ∧ (flat2 ss).getD (k * 2 + 1) 0 = (ss.getD k (0, 0)).2
  | [], k => by simp [flat2]
  | s :: ss, 0 => by simp [flat2]
  | s :: ss, k + 1 => by
    have h := flat2_at ss k
    have e : flat2 (s :: ss) = [s.1, s.2] ++ flat2 ss := by unfold flat2; rw [List.flatMap_cons]
    rw [e, show (k + 1) * 2 = k * 2 + 2 by omega, show k * 2 + 2 + 1 = k * 2 + 1 + 2 by omega]
    simp only [List.getD_eq_getElem?_getD, List.getElem?_append_right (show [s.1, s.2].length ≤ k * 2 + 2 by simp), List.getElem?_append_right (show [s.1, s.2].length ≤ k * 2 + 1 + 2 by simp)] at h ⊢
    simpa using h
theorem w64s (x : Int) (h : IntKind.i64.wrap x = x) : wrap64 x = x := by
  have e : IntKind.i64.wrap x = wrap64 x := by unfold wrap64; rw [IntKind.wrap_i64]
  rw [← e]; exact h
/-- Sizes are small. -/
def SmP (ss : List (Int × Int)) : Prop := ∀ s ∈ ss, (0 ≤ s.1 ∧ s.1 ≤ 10000) ∧ 0 ≤ s.2 ∧ s.2 ≤ 10000
theorem SmP.at_ {ss : List (Int × Int)} (h : SmP ss) (k : Nat) : (0 ≤ (ss.getD k (0, 0)).1 ∧ (ss.getD k (0, 0)).1 ≤ 10000) ∧ 0 ≤ (ss.getD k (0, 0)).2 ∧ (ss.getD k (0, 0)).2 ≤ 10000 := by
  rcases Nat.lt_or_ge k ss.length with h1 | h1
  · have e : ss.getD k (0, 0) = ss[k] := by simp [h1]
    rw [e]; exact h _ (List.getElem_mem h1)
  · have e : ss.getD k (0, 0) = (0, 0) := by simp [h1]
    rw [e]; simp
set_option maxHeartbeats 400000 in
theorem turned_any (a b : Int) (w : World) :
    Calls Try.prog 136 #[.agg #[.int .i64 a, .int .i64 b]] w fun e w' => e = .returned (.agg #[.int .i64 b, .int .i64 a]) ∧ New w w' := by
  go_enter Try.func136, Try.ntmps136
  go_wp2
  exact bodyPost_ret (v := .agg #[.int .i64 b, .int .i64 a]) (by simp [results, Try.results136, go_sem]) rfl ⟨rfl, by (repeat (first | exact New.refl _ | assumption | refine New.alloc ?_ _ | refine New.drew ?_ | refine New.drewN ?_ _ | refine New.setCell ?_ (by first | omega | (simp; omega) | (simp; done)) _ | refine New.trans ?_ (by assumption)))⟩
set_option maxHeartbeats 400000 in
theorem gaps_any (lo : Nat) (nb : Nat → Nat) (zs : List Int) (k i : Nat) (ar fi la ne : Nat → Option Nat) (hi : i < k) (c : Nat) (hc : c ≤ 16) (hg : 0 ≤ zs.getD (i * 9 + 5) 0 ∧ zs.getD (i * 9 + 5) 0 ≤ 50) (w : World) (h : Nds lo w nb zs k ar fi la ne) :
    Calls Try.prog 142 #[.pointer (some ⟨nb i, 0, none⟩), .int .i64 (c : Int)] w fun e w' => e = .returned (.int .i64 (zs.getD (i * 9 + 5) 0 * mx 0 ((c : Int) - 1))) ∧ w = w' := by
  have hmx := fun (W : World) (ts : Array TypeId) (t : TypeId) (x y : Int) => run_mx Try.prog W ts t x y
  have g0 := h.box i hi 5 (by omega)
  generalize zs.getD (i * 9 + 5) 0 = g at *
  have m0 : 0 ≤ mx 0 ((c : Int) - 1) ∧ mx 0 ((c : Int) - 1) ≤ 16 := by unfold mx; omega
  have p0 : 0 ≤ g * mx 0 ((c : Int) - 1) := Int.mul_nonneg hg.1 m0.1
  have p1 : g * mx 0 ((c : Int) - 1) ≤ 800 := by have := Int.mul_le_mul hg.2 m0.2 m0.1 (by omega : (0 : Int) ≤ 50); omega
  have c0 : (0 : Int) ≤ (c : Int) := by omega
  have c1 : (c : Int) ≤ 16 := by omega
  have pw : wrap64 (g * mx 0 ((c : Int) - 1)) = g * mx 0 ((c : Int) - 1) := w64s _ (IntWalk.i64_in _ (by omega))
  clear h hi
  go_enter Try.func142, Try.ntmps142
  go_wp2
  go_ret
  exact ⟨by first | rfl | (rw [pw]; rfl), rfl⟩
theorem map_getDP (ss : List (Int × Int)) (k : Nat) : (ss.map turnP).getD k (0, 0) = turnP (ss.getD k (0, 0)) := by
  rcases Nat.lt_or_ge k ss.length with h | h
  · simp [h]
  · simp [h, turnP]
set_option maxHeartbeats 1000000 in
theorem turnedSizes_any (A : Option Addr) (n c : Nat) (ss : List (Int × Int)) (hl : ss.length = n) (hn : n ≤ 16) (w : World) (hx : Sts 2 w A n (flat2 ss)) :
    Calls Try.prog 140 #[.slice A n c] w (AnsS 2 w (flat2 (ss.map turnP))) := by
  have hmk := fun W => mksize n (by omega) W
  have LX : Hid ((flat2 (ss.map turnP)).length = n * 2) := Lib.hid (by rw [flat2_len, List.length_map, hl])
  have V0 := Lib.hid (fun k => flat2_at ss k); have V1 := Lib.hid (fun k => (show (flat2 (ss.map turnP)).getD (k * 2) 0 = (ss.getD k (0, 0)).2 ∧ (flat2 (ss.map turnP)).getD (k * 2 + 1) 0 = (ss.getD k (0, 0)).1 by
    have := flat2_at (ss.map turnP) k; rw [map_getDP] at this; exact this))
  have HX := Lib.hid hx
  generalize flat2 (ss.map turnP) = xs at *
  have n16 : (n : Int) ≤ 16 := by omega
  clear hx hl
  go_enter Try.func140, Try.ntmps140
  go_wp2
  have R0 := Row.zeros w #[Value.int .i64 0, Value.int .i64 0] (n * 2) 65 zerosize
  have N0 : New w (w.alloc (.cells (madeCells #[Value.int .i64 0, Value.int .i64 0] (n * 2)) 65)) := by (repeat (first | exact New.refl _ | assumption | refine New.alloc ?_ _ | refine New.drew ?_ | refine New.drewN ?_ _ | refine New.setCell ?_ (by first | omega | (simp; omega) | (simp; done)) _ | refine New.trans ?_ (by assumption)))
  have R0 := Lib.hid R0; have N0 := Lib.hid N0
  clear hmk
  generalize hW : w.alloc (.cells (madeCells #[Value.int .i64 0, Value.int .i64 0] (n * 2)) 65) = W at R0 N0 ⊢
  clear hW
  go_loopw [11] (fun i wr => ∃ k : Nat, k ≤ n ∧ i = .int .i64 k ∧ Hid (Row wr w.heap.size (upTo (k * 2) xs)) ∧ Hid (New w wr)) (fun i _ => n - (intOf i).toNat)
  case atStart => exact ⟨0, Nat.zero_le _, rfl, Lib.hid (by rw [Nat.zero_mul, upTo_zero, LX.out]; exact R0.out), N0⟩
  case round =>
    obtain ⟨k, hk, rfl, HR, HN⟩ := hrel
    have k0 : (0 : Int) ≤ (k : Int) := by omega
    by_cases hlt : k < n
    · obtain ⟨b, off, rfl, hb, hc⟩ := HX.out.at_ (by omega)
      have LU := Lib.hid (upTo_len (k * 2) xs (by rw [LX.out]; omega))
      have g0 : wr.cell? ⟨b, off + k * 2, none⟩ = some (.int .i64 ((flat2 ss).getD (k * 2) 0)) := (HN.out.cells b _ hb).trans (hc (k * 2) (by omega))
      have g1 : wr.cell? ⟨b, off + k * 2 + 1, none⟩ = some (.int .i64 ((flat2 ss).getD (k * 2 + 1) 0)) := (HN.out.cells b _ hb).trans (hc (k * 2 + 1) (by omega))
      rw [(V0.out k).1] at g0
      rw [(V0.out k).2] at g1
      have tr := HR.out.lt
      have HS := Lib.hid (fun (w2 : World) (h2 : New wr w2) => rowsize_step (HR.out.new h2) LX.out hlt)
      have HF := Lib.hid (fun (w2 : World) (h2 : New wr w2) => (show ((w2.cell? ⟨w.heap.size, k * 2, none⟩).isSome = true ∧ (w2.cell? ⟨w.heap.size, k * 2 + 1, none⟩).isSome = true) ∧ w2.frozen? ⟨w.heap.size, k * 2, none⟩ = false ∧ w2.frozen? ⟨w.heap.size, k * 2 + 1, none⟩ = false by
        have r := HR.out.new h2
        exact ⟨⟨by rw [r.c (k * 2) (by rw [LU.out, LX.out]; omega)]; rfl, by rw [r.c (k * 2 + 1) (by rw [LU.out, LX.out]; omega)]; rfl⟩, r.f (k * 2) (by rw [LU.out, LX.out]; omega), r.f (k * 2 + 1) (by rw [LU.out, LX.out]; omega)⟩))
      rw [(V1.out k).1, (V1.out k).2] at HS
      have hbw : b < wr.heap.size := Nat.lt_of_lt_of_le hb HN.out.le
      have k1 : (k : Int) < (n : Int) := by omega
      clear hc
      generalize (ss.getD k (0, 0)).1 = y0 at *
      generalize (ss.getD k (0, 0)).2 = y1 at *
      go_wp2_with (go_at_call 136; refine (turned_any _ _ _).mono ?_; rintro e w1 ⟨rfl, h1⟩; (have N1 : New wr w1 := (New.alloc (New.refl wr) _).trans h1); (obtain ⟨⟨q0, q1⟩, f0, f1⟩ := HF.out w1 N1); (have q0 := cv_of q0); (have q1 := cv_of q1); (have HS1 := Lib.hid (HS.out w1 N1)); (have N1 := Lib.hid N1); clear h1)
      go_roundw
      case rel => exact ⟨k + 1, by omega, by go_num, HS1, Lib.hid (((HN.out.trans N1.out).setCell (by simp) _).setCell (by simp) _)⟩
      case measure => simp [intOf]; omega
    · obtain rfl : k = n := by omega
      go_wp2
      go_ret
      exact AnsS.row rfl LX.out (Nat.le_refl _) (by have h := HR.out; rwa [← LX.out, upTo_all] at h) HN.out
theorem take_snoc_p (ss : List (Int × Int)) (k : Nat) (h : k < ss.length) : ss.take (k + 1) = ss.take k ++ [ss.getD k (0, 0)] := by
  rw [List.take_succ_eq_append_getElem h]
  simp [h]
/-- The sums over the first k sizes. -/
def accX (b : Int) (ss : List (Int × Int)) (k : Nat) : Int := b + ((ss.take k).map Prod.fst).sum
def accY (ss : List (Int × Int)) (k : Nat) : Int := foldMx ((ss.take k).map Prod.snd)
theorem accX_step (b : Int) (ss : List (Int × Int)) (k : Nat) (h : k < ss.length) : accX b ss (k + 1) = accX b ss k + (ss.getD k (0, 0)).1 := by unfold accX; rw [take_snoc_p ss k h]; simp; omega
theorem accY_step (ss : List (Int × Int)) (k : Nat) (h : k < ss.length) : accY ss (k + 1) = mx (accY ss k) (ss.getD k (0, 0)).2 := by unfold accY; rw [take_snoc_p ss k h, List.map_append]; exact foldMx_snoc _ _
theorem accX_bd {b : Int} {ss : List (Int × Int)} (h : SmP ss) (hb : 0 ≤ b ∧ b ≤ 1000) (k : Nat) (hk : k ≤ ss.length) : 0 ≤ accX b ss k ∧ accX b ss k ≤ 1000 + 10000 * k := by
  induction k with
  | zero => unfold accX; simp; omega
  | succ k ih =>
    have := ih (by omega)
    have := h.at_ k
    rw [accX_step _ _ _ (by omega)]
    omega
theorem accY_bd {ss : List (Int × Int)} (h : SmP ss) (k : Nat) (hk : k ≤ ss.length) : 0 ≤ accY ss k ∧ accY ss k ≤ 10000 := by
  induction k with
  | zero => unfold accY foldMx; simp
  | succ k ih =>
    have := ih (by omega)
    have := h.at_ k
    rw [accY_step _ _ (by omega)]
    unfold mx
    omega
set_option maxHeartbeats 2000000 in
theorem sideBySide_any (lo : Nat) (nb : Nat → Nat) (zs : List Int) (m i : Nat) (ar fi la ne : Nat → Option Nat) (hi : i < m) (hg : 0 ≤ zs.getD (i * 9 + 5) 0 ∧ zs.getD (i * 9 + 5) 0 ≤ 50)
    (A : Option Addr) (n c : Nat) (ss : List (Int × Int)) (hl : ss.length = n) (hn : n ≤ 16) (hs : SmP ss) (w : World) (hx : Sts 2 w A n (flat2 ss)) (h : Nds lo w nb zs m ar fi la ne) :
    Calls Try.prog 139 #[.pointer (some ⟨nb i, 0, none⟩), .slice A n c] w fun e w' => e = .returned (.agg #[.int .i64 (sbs (zs.getD (i * 9 + 5) 0) ss).1, .int .i64 (sbs (zs.getD (i * 9 + 5) 0) ss).2]) ∧ New w w' := by
  have hmx := fun (W : World) (ts : Array TypeId) (t : TypeId) (x y : Int) => run_mx Try.prog W ts t x y
  have HX := Lib.hid hx
  have HL := Lib.hid hl
  have GA := Lib.hid (fun W (hW : New w W) => gaps_any lo nb zs m i ar fi la ne hi n hn hg W (h.new hW))
  have E1 := Lib.hid (show accX (zs.getD (i * 9 + 5) 0 * mx 0 ((n : Int) - 1)) ss n = (sbs (zs.getD (i * 9 + 5) 0) ss).1 by
    unfold accX sbs; rw [List.take_of_length_le (by omega), hl])
  have E2 := Lib.hid (show accY ss n = (sbs (zs.getD (i * 9 + 5) 0) ss).2 by unfold accY sbs; rw [List.take_of_length_le (by omega)])
  have m0 : 0 ≤ mx 0 ((n : Int) - 1) ∧ mx 0 ((n : Int) - 1) ≤ 15 := by unfold mx; omega
  have p0 : 0 ≤ zs.getD (i * 9 + 5) 0 * mx 0 ((n : Int) - 1) := Int.mul_nonneg hg.1 m0.1
  have p1 : zs.getD (i * 9 + 5) 0 * mx 0 ((n : Int) - 1) ≤ 1000 := by have := Int.mul_le_mul hg.2 m0.2 m0.1 (by omega : (0 : Int) ≤ 50); omega
  generalize (sbs (zs.getD (i * 9 + 5) 0) ss).1 = r1 at *
  generalize (sbs (zs.getD (i * 9 + 5) 0) ss).2 = r2 at *
  generalize zs.getD (i * 9 + 5) 0 * mx 0 ((n : Int) - 1) = bs at *
  have BX := Lib.hid (fun k hk => accX_bd hs ⟨p0, p1⟩ k hk)
  have BY := Lib.hid (fun k hk => accY_bd hs k hk)
  have SM := Lib.hid (fun k => hs.at_ k)
  have V0 := Lib.hid (fun k => flat2_at ss k)
  have n16 : (n : Int) ≤ 16 := by omega
  clear h hx hl hg m0 hs
  go_enter Try.func139, Try.ntmps139
  go_wp2_with (go_at_call 142; refine (GA.out _ (by (repeat (first | exact New.refl _ | assumption | refine New.alloc ?_ _ | refine New.drew ?_ | refine New.drewN ?_ _ | refine New.setCell ?_ (by first | omega | (simp; omega) | (simp; done)) _ | refine New.trans ?_ (by assumption))))).mono ?_; rintro e w' ⟨rfl, rfl⟩)
  go_loopw [15] (fun i wr => ∃ k : Nat, k ≤ n ∧ i = .int .i64 k ∧ Hid (Row wr w.heap.size [0, 0]) ∧ Hid (Row wr (w.heap.size + 1) [accX bs ss k, accY ss k]) ∧ Hid (New w wr)) (fun i _ => n - (intOf i).toNat)
  case atStart => exact ⟨0, Nat.zero_le _, rfl, Lib.hid ((Row.onesize w 0 0 _).new ((New.refl _).alloc _)), Lib.hid (by rw [show accX bs ss 0 = bs by simp [accX], show accY ss 0 = 0 from rfl]; have h := Row.onesize (w.alloc (.cells #[.int .i64 0, .int .i64 0] 65)) bs 0 65; simpa using h), Lib.hid (by (repeat (first | exact New.refl _ | assumption | refine New.alloc ?_ _ | refine New.drew ?_ | refine New.drewN ?_ _ | refine New.setCell ?_ (by first | omega | (simp; omega) | (simp; done)) _ | refine New.trans ?_ (by assumption))))⟩
  case round =>
    obtain ⟨k, hk, rfl, H4, H5, HN⟩ := hrel
    have k0 : (0 : Int) ≤ (k : Int) := by omega
    have sz := H5.out.lt
    have c4 := H4.out.c 0 (by simp); have c5 := H4.out.c 1 (by simp); have f4 := H4.out.f 0 (by simp); have f5 := H4.out.f 1 (by simp)
    have a0 := H5.out.c 0 (by simp); have a1 := H5.out.c 1 (by simp); have fa0 := H5.out.f 0 (by simp); have fa1 := H5.out.f 1 (by simp)
    simp only [List.getD_cons_zero, List.getD_cons_succ] at c4 c5 a0 a1
    by_cases hlt : k < n
    · obtain ⟨b, off, rfl, hb, hc⟩ := HX.out.at_ (by omega)
      have g0 : wr.cell? ⟨b, off + k * 2, none⟩ = some (.int .i64 ((flat2 ss).getD (k * 2) 0)) := (HN.out.cells b _ hb).trans (hc (k * 2) (by omega))
      have g1 : wr.cell? ⟨b, off + k * 2 + 1, none⟩ = some (.int .i64 ((flat2 ss).getD (k * 2 + 1) 0)) := (HN.out.cells b _ hb).trans (hc (k * 2 + 1) (by omega))
      rw [(V0.out k).1] at g0
      rw [(V0.out k).2] at g1
      have S1 := Lib.hid (accX_step bs ss k (by rw [HL.out]; exact hlt)); have S2 := Lib.hid (accY_step ss k (by rw [HL.out]; exact hlt))
      obtain ⟨⟨q0, q1⟩, q2, q3⟩ := SM.out k
      obtain ⟨x0, x1⟩ := BX.out k (by rw [HL.out]; omega)
      obtain ⟨z0, z1⟩ := BY.out k (by rw [HL.out]; omega)
      have hbw : b < wr.heap.size := Nat.lt_of_lt_of_le hb HN.out.le
      have k1 : (k : Int) < (n : Int) := by omega
      have x2 : accX bs ss k ≤ 1000000 := by omega
      generalize (ss.getD k (0, 0)).1 = y0 at *
      generalize (ss.getD k (0, 0)).2 = y1 at *
      have R4 := Lib.hid (fun (u v : Value) (o : Obj) => (((H4.out.far (p := ⟨w.heap.size + 1, 0, none⟩) (by simp) u).far (p := ⟨w.heap.size + 1, 1, none⟩) (by simp) v).new ((New.refl _).alloc o)))
      have R5 := Lib.hid (fun (u : Int) (v : Int) (o : Obj) => (((H5.out.set_ (k := 0) (by simp) u).set_ (k := 1) (by simp) v).new ((New.refl _).alloc o)))
      clear hc x1
      generalize accX bs ss k = X at *
      generalize accY ss k = Y at *
      go_wp2
      go_roundw
      case rel => exact ⟨k + 1, by omega, by go_num, Lib.hid (R4.out _ _ _), Lib.hid (by rw [S1.out, S2.out]; exact R5.out _ _ _), Lib.hid (by (repeat (first | exact New.refl _ | assumption | refine New.alloc ?_ _ | refine New.drew ?_ | refine New.drewN ?_ _ | refine New.setCell ?_ (by first | omega | (simp; omega) | (simp; done)) _ | refine New.trans ?_ (by assumption))))⟩
      case measure => simp [intOf]; omega
    · obtain rfl : k = n := by omega
      rw [E1.out] at a0
      rw [E2.out] at a1
      go_wp2
      exact bodyPost_ret (v := .agg #[.int .i64 r1, .int .i64 r2]) (by simp [results, Try.results139, go_sem, c4, c5]) rfl ⟨rfl, by (repeat (first | exact New.refl _ | assumption | refine New.alloc ?_ _ | refine New.drew ?_ | refine New.drewN ?_ _ | refine New.setCell ?_ (by first | omega | (simp; omega) | (simp; done)) _ | refine New.trans ?_ (by assumption)))⟩
/-- What stands for the kind of a box. -/
def kindT (k : Int) : TypeId := if k = 1 then 116 else if k = 2 then 117 else if k = 3 then 119 else 120
set_option maxHeartbeats 400000 in
theorem kind_any (lo : Nat) (nb : Nat → Nat) (zs : List Int) (m i : Nat) (ar fi la ne : Nat → Option Nat) (hi : i < m) (kd : Int) (hk : knd zs i = kd) (w : World) (h : Nds lo w nb zs m ar fi la ne) :
    Calls Try.prog 74 #[.pointer (some ⟨nb i, 0, none⟩)] w fun e w' => e = .returned (.iface (kindT kd) (.agg #[])) ∧ w = w' := by
  have g0 := h.box i hi 1 (by omega)
  rw [show zs.getD (i * 9 + 1) 0 = kd from hk] at g0
  clear h hi hk
  by_cases h1 : kd = 1
  · subst h1
    go_enter Try.func74, Try.ntmps74
    go_wp2
    go_ret
    exact ⟨rfl, rfl⟩
  · have b1 : (kd == 1) = false := by simpa using h1
    by_cases h2 : kd = 2
    · subst h2
      go_enter Try.func74, Try.ntmps74
      go_wp2
      go_ret
      exact ⟨rfl, rfl⟩
    · have b2 : (kd == 2) = false := by simpa using h2
      by_cases h3 : kd = 3
      · subst h3
        go_enter Try.func74, Try.ntmps74
        go_wp2
        go_ret
        exact ⟨rfl, rfl⟩
      · have b3 : (kd == 3) = false := by simpa using h3
        have E : Hid (kindT kd = 120) := Lib.hid (by unfold kindT; rw [if_neg h1, if_neg h2, if_neg h3])
        clear h1 h2 h3
        go_enter Try.func74, Try.ntmps74
        go_wp2
        go_ret
        exact ⟨by rw [E.out]; rfl, rfl⟩
end Go.Proofs.Ytobnjagmakhgpaa

/- The size that a box needs, in the program: one induction on the boxes behind a box for natural, needs and the contents. Condition: the nodes are linked, and the tree is valid. -/
namespace Go.Proofs.Ytobnjagmakhgpaa
open Go.RowKit

/-- What natural answers at a node. -/
def NatAt (lo : Nat) (nb : Nat → Nat) (zs : List Int) (n : Nat) (ar fi la ne : Nat → Option Nat) (i : Nat) : Prop :=
  ∀ w, Lnk lo w nb zs n ar fi la ne → Calls Try.prog 46 #[.pointer (some ⟨nb i, 0, none⟩)] w fun e w' => e = .returned (.agg #[.int .i64 (natL zs n i).1, .int .i64 (natL zs n i).2]) ∧ New w w'
set_option maxHeartbeats 1000000 in
theorem needs_any (lo : Nat) (nb : Nat → Nat) (zs : List Int) (n i : Nat) (ar fi la ne : Nat → Option Nat) (hi : i < n) (IH : ∀ j ∈ kidL zs n i, NatAt lo nb zs n ar fi la ne j) (w : World) (h : Lnk lo w nb zs n ar fi la ne) :
    Calls Try.prog 141 #[.pointer (some ⟨nb i, 0, none⟩)] w fun e w' => ∃ v, e = .returned v ∧ Ownsize w.heap.size w' v (kidL zs n i).length (flat2 ((kidL zs n i).map (natL zs n))) ∧ New w w' := by
  have HL := Lib.hid h
  have HI := Lib.hid IH
  have g0 := h.nd.fi i hi
  have kb := h.kb
  have hf := h.sh.fi i hi
  clear h IH
  rw [hf] at g0
  go_enter Try.func141, Try.ntmps141
  go_wp2
  go_loopw [3, 4] (fun v p wr => ∃ (done rest : List Nat), Hid (kidL zs n i = done ++ rest) ∧ p = pv nb rest.head? ∧ Hid (Ownsize w.heap.size wr v done.length (flat2 (done.map (natL zs n)))) ∧ Hid (New w wr)) (fun _ p wr => upOf n wr p)
  case atStart => exact ⟨[], kidL zs n i, Lib.hid rfl, rfl, Lib.hid ⟨⟨rfl, .inl ⟨rfl, rfl⟩⟩, rfl⟩, Lib.hid (New.refl _)⟩
  case round =>
    obtain ⟨done, rest, HK, rfl, HO, HN⟩ := hrel
    have dl : done.length ≤ n := by
      have h1 : (kidL zs n i).length ≤ n := by unfold kidL; have := List.length_filter_le (fun j => decide (par zs j = (i : Int))) (List.range n); simpa using this
      rw [HK.out, List.length_append] at h1
      omega
    cases rest with
    | nil =>
      simp only [List.head?_nil, pv_none]
      have HO2 := HO.out
      have e1 := HK.out
      rw [List.append_nil] at e1
      rw [← e1] at HO2
      replace HO2 := Lib.hid HO2
      clear HO HK e1
      obtain ⟨v, hv⟩ : ∃ v, v = u3 := ⟨_, rfl⟩
      rw [← hv] at HO2 ⊢
      clear hv
      go_wp2
      go_ret
      exact ⟨v, rfl, HO2.out, HN.out⟩
    | cons j rest =>
      have hjm := HL.out.lk.kid_in (j := j) (a := i) (by rw [HK.out]; simp)
      have nj := (HL.out.nd.new HN.out).upOf_some hjm.2.2
      have hnx : ∀ r, rest.head? = some r → j < r ∧ r < n := fun r hr => by
        cases rest with
        | nil => cases hr
        | cons r' rest' =>
          obtain rfl : r' = r := by simpa using hr
          have hs := kid_sorted zs n i
          rw [HK.out] at hs
          obtain ⟨_, hs2, _⟩ := List.pairwise_append.1 hs
          exact ⟨(List.pairwise_cons.1 hs2).1 _ List.mem_cons_self, (HL.out.lk.kid_in (j := r') (a := i) (by rw [HK.out]; simp)).2.2⟩
      have NX := Lib.hid hnx
      have NA := Lib.hid (HI.out j (by rw [HK.out]; simp) wr (HL.out.new HN.out))
      have HK2 : Hid (kidL zs n i = (done ++ [j]) ++ rest) := Lib.hid (by rw [HK.out]; simp)
      have hjk := hjm.2.2
      have sz := HN.out.le
      have FL := Lib.hid (flat2_snoc (done.map (natL zs n)) (natL zs n j))
      have GN := Lib.hid (fun W (hW : New w W) => ((HL.out.nd.new hW).ne j hjk).trans (by rw [HL.out.sh.ne i done j rest hi (by rw [HK2.out]; simp)] : some (pv nb (ne j)) = some (pv nb rest.head?)))
      clear hjm hnx HK
      simp only [List.head?_cons, pv_some]
      generalize (natL zs n j).1 = x at *
      generalize (natL zs n j).2 = y at *
      go_wp2_with (first
        | (go_at_call 46; refine NA.out.mono ?_; rintro e w5 ⟨rfl, N5⟩; (have z5 := N5.le); (have O5 := Lib.hid (HO.out.new N5)); (have N5 := Lib.hid (HN.out.trans N5)))
        | (at_builtin; refine wp_appsize rfl _ _ rfl w.heap.size _ _ _ rfl (O5.out.alloc _) w5.heap.size x y rfl (Row.onesize w5 x y _) (by omega) (by simp; omega) ?_; intro v6 w6 O6 G6; (have N6 := Lib.hid (new_ownsize (N5.out.alloc _) G6 (O5.out.alloc _) (Nat.le_refl _))); (have g3 := GN.out w6 N6.out); (have O6 := Lib.hid O6); clear G6))
      go_wp2
      go_roundw
      case rel => exact ⟨done ++ [j], rest, HK2, rfl, Lib.hid (by rw [List.length_append, List.map_append, List.map_singleton, FL.out]; exact O6.out), N6⟩
      case measure =>
        have n6 := (HL.out.nd.new N6.out)
        rw [nj]
        cases hh : rest.head? with
        | none => rw [pv_none, upOf_nil]; omega
        | some r =>
          have h1 := NX.out r hh
          rw [pv_some, n6.upOf_some h1.2]
          omega
/-- The sizes of the boxes in a box. -/
abbrev kidS (zs : List Int) (n i : Nat) : List (Int × Int) := (kidL zs n i).map (natL zs n)
theorem nat_sm {zs : List Int} {n i : Nat} (hv : vtB n zs = true) (hi : i < n) : (0 ≤ (natL zs n i).1 ∧ (natL zs n i).1 ≤ 10000) ∧ 0 ≤ (natL zs n i).2 ∧ (natL zs n i).2 ≤ 10000 := by
  have h1 := nat_bd hv hi
  have h2 := en_bd (zs := zs) hi
  have h3 := (vtB_iff.1 hv).1
  omega
theorem kidS_sm {zs : List Int} {n i : Nat} (hv : vtB n zs = true) : SmP (kidS zs n i) := fun s hs => by
  obtain ⟨j, hj, rfl⟩ := List.mem_map.1 hs
  exact nat_sm hv (kid_mem.1 hj).1
theorem kidS_sm2 {zs : List Int} {n i : Nat} (hv : vtB n zs = true) : SmP ((kidS zs n i).map turnP) := fun s hs => by
  obtain ⟨t, ht, rfl⟩ := List.mem_map.1 hs
  have := kidS_sm hv t ht
  exact ⟨this.2, this.1⟩
theorem gap_bd {zs : List Int} {n i : Nat} (hv : vtB n zs = true) (hi : i < n) : 0 ≤ zs.getD (i * 9 + 5) 0 ∧ zs.getD (i * 9 + 5) 0 ≤ 50 := by
  obtain ⟨_, _, _, _, hg, _⟩ := ((vtB_iff.1 hv).2 i hi).1
  exact hg
theorem pad_bd {zs : List Int} {n i : Nat} (hv : vtB n zs = true) (hi : i < n) : 0 ≤ zs.getD (i * 9 + 4) 0 ∧ zs.getD (i * 9 + 4) 0 ≤ 50 := by
  obtain ⟨_, _, _, hp, _⟩ := ((vtB_iff.1 hv).2 i hi).1
  exact hp
theorem Ownsize.sts {lo n : Nat} {w : World} {v : Value} {zs : List Int} (h : Ownsize lo w v n zs) : ∃ A c, v = .slice A n c ∧ Sts 2 w A n zs := by
  obtain ⟨A, c, e, _, hr⟩ := h.res
  exact ⟨A, c, e, Sts.of_res hr h.2⟩
set_option maxHeartbeats 1000000 in
theorem leafC_any (lo : Nat) (nb : Nat → Nat) (zs : List Int) (n i : Nat) (ar fi la ne : Nat → Option Nat) (hi : i < n) (w : World) (h : Nds lo w nb zs n ar fi la ne) :
    Calls Try.prog 155 #[.agg #[], .pointer (some ⟨nb i, 0, none⟩)] w fun e w' => e = .returned (.agg #[.int .i64 (zs.getD (i * 9 + 2) 0), .int .i64 (zs.getD (i * 9 + 3) 0)]) ∧ New w w' := by
  have g2 := h.box i hi 2 (by omega)
  have g3 := h.box i hi 3 (by omega)
  have hb := h.lt i hi
  generalize zs.getD (i * 9 + 2) 0 = x at *
  generalize zs.getD (i * 9 + 3) 0 = y at *
  clear h hi
  go_enter Try.func155, Try.ntmps155
  go_wp2
  go_region
  go_wp2
  exact bodyPost_ret (v := .agg #[.int .i64 x, .int .i64 y]) (by simp [results, Try.results155, go_sem]) rfl ⟨rfl, by (repeat (first | exact New.refl _ | assumption | refine New.alloc ?_ _ | refine New.drew ?_ | refine New.drewN ?_ _ | refine New.setCell ?_ (by first | omega | (simp; omega) | (simp; done)) _ | refine New.trans ?_ (by assumption)))⟩
/-- The result's block, just laid behind the box of an empty struct. -/
theorem res_row (w w2 : World) (t1 t2 : TypeId) (h : New ((w.alloc (.cells #[] t1)).alloc (.cells #[.int .i64 0, .int .i64 0] t2)) w2) : Row w2 (w.heap.size + 1) [0, 0] := by
  have r := Row.onesize (w.alloc (.cells #[] t1)) 0 0 t2
  have e : (w.alloc (.cells #[] t1)).heap.size = w.heap.size + 1 := by simp
  rw [e] at r
  exact r.new h
set_option maxHeartbeats 1000000 in
theorem rowC_any (lo : Nat) (nb : Nat → Nat) (zs : List Int) (n i : Nat) (ar fi la ne : Nat → Option Nat) (hv : vtB n zs = true) (hi : i < n) (IH : ∀ j ∈ kidL zs n i, NatAt lo nb zs n ar fi la ne j) (w : World) (h : Lnk lo w nb zs n ar fi la ne) :
    Calls Try.prog 143 #[.agg #[], .pointer (some ⟨nb i, 0, none⟩)] w fun e w' => e = .returned (.agg #[.int .i64 (sbs (zs.getD (i * 9 + 5) 0) (kidS zs n i)).1, .int .i64 (sbs (zs.getD (i * 9 + 5) 0) (kidS zs n i)).2]) ∧ New w w' := by
  have HL := Lib.hid h
  have ND := Lib.hid (fun W (hW : Lnk lo W nb zs n ar fi la ne) => needs_any lo nb zs n i ar fi la ne hi IH W hW)
  have SB := Lib.hid (fun A (c : Nat) W (hx : Sts 2 W A (kidL zs n i).length (flat2 (kidS zs n i))) (hW : Nds lo W nb zs n ar fi la ne) => sideBySide_any lo nb zs n i ar fi la ne hi (gap_bd hv hi) A _ c (kidS zs n i) (List.length_map _) (by have := kids_le (a := i) hv; omega) (kidS_sm hv) W hx hW)
  clear h IH hv
  generalize (sbs (zs.getD (i * 9 + 5) 0) (kidS zs n i)).1 = x at *
  generalize (sbs (zs.getD (i * 9 + 5) 0) (kidS zs n i)).2 = y at *
  generalize (kidL zs n i).length = kn at *
  go_enter Try.func143, Try.ntmps143
  go_wp2_with fail
  refine (ND.out _ (HL.out.new (by (repeat (first | exact New.refl _ | assumption | refine New.alloc ?_ _ | refine New.drew ?_ | refine New.drewN ?_ _ | refine New.setCell ?_ (by first | omega | (simp; omega) | (simp; done)) _ | refine New.trans ?_ (by assumption)))))).mono ?_
  rintro e w1 ⟨v, rfl, O1, N1⟩
  obtain ⟨A1, c1, rfl, I1⟩ := O1.sts
  have M1 := Lib.hid N1
  have I1 := Lib.hid I1; have N1 := Lib.hid ((New.alloc (New.alloc (New.refl w) _) _).trans N1)
  clear O1
  go_wp2_with fail
  refine (SB.out A1 c1 w1 I1.out (HL.out.nd.new N1.out)).mono ?_
  rintro e w2 ⟨rfl, N2⟩
  have RR := res_row w w2 _ _ (M1.out.trans N2)
  have c4 := RR.c 0 (by simp); have c5 := RR.c 1 (by simp); have f4 := RR.f 0 (by simp); have f5 := RR.f 1 (by simp)
  have sz := RR.lt
  simp only [List.getD_cons_zero, List.getD_cons_succ] at c4 c5
  have N2 := Lib.hid (N1.out.trans N2)
  clear RR
  go_wp2
  exact bodyPost_ret (v := .agg #[.int .i64 x, .int .i64 y]) (by simp [results, Try.results143, go_sem, c4, c5]) rfl ⟨rfl, (N2.out.setCell (by simp) _).setCell (by simp) _⟩
set_option maxHeartbeats 1000000 in
theorem blockC_any (lo : Nat) (nb : Nat → Nat) (zs : List Int) (n i : Nat) (ar fi la ne : Nat → Option Nat) (hv : vtB n zs = true) (hi : i < n) (IH : ∀ j ∈ kidL zs n i, NatAt lo nb zs n ar fi la ne j) (w : World) (h : Lnk lo w nb zs n ar fi la ne) :
    Calls Try.prog 137 #[.agg #[], .pointer (some ⟨nb i, 0, none⟩)] w fun e w' => e = .returned (.agg #[.int .i64 (sbs (zs.getD (i * 9 + 5) 0) ((kidS zs n i).map turnP)).2, .int .i64 (sbs (zs.getD (i * 9 + 5) 0) ((kidS zs n i).map turnP)).1]) ∧ New w w' := by
  have HL := Lib.hid h
  have k8 : (kidL zs n i).length ≤ 16 := by have := kids_le (a := i) hv; omega
  have ND := Lib.hid (fun W (hW : Lnk lo W nb zs n ar fi la ne) => needs_any lo nb zs n i ar fi la ne hi IH W hW)
  have TS := Lib.hid (fun A (c : Nat) W (hx : Sts 2 W A (kidL zs n i).length (flat2 (kidS zs n i))) => turnedSizes_any A _ c (kidS zs n i) (List.length_map _) k8 W hx)
  have SB := Lib.hid (fun A (c : Nat) W (hx : Sts 2 W A (kidL zs n i).length (flat2 ((kidS zs n i).map turnP))) (hW : Nds lo W nb zs n ar fi la ne) => sideBySide_any lo nb zs n i ar fi la ne hi (gap_bd hv hi) A _ c ((kidS zs n i).map turnP) (by rw [List.length_map, List.length_map]) k8 (kidS_sm2 hv) W hx hW)
  have LT := Lib.hid (show (flat2 ((kidS zs n i).map turnP)).length = (kidL zs n i).length * 2 by rw [flat2_len, List.length_map, List.length_map])
  clear h IH hv
  generalize (sbs (zs.getD (i * 9 + 5) 0) ((kidS zs n i).map turnP)).1 = x at *
  generalize (sbs (zs.getD (i * 9 + 5) 0) ((kidS zs n i).map turnP)).2 = y at *
  generalize flat2 ((kidS zs n i).map turnP) = tt at *
  generalize (kidL zs n i).length = kn at *
  go_enter Try.func137, Try.ntmps137
  go_wp2_with fail
  refine (ND.out _ (HL.out.new (by (repeat (first | exact New.refl _ | assumption | refine New.alloc ?_ _ | refine New.drew ?_ | refine New.drewN ?_ _ | refine New.setCell ?_ (by first | omega | (simp; omega) | (simp; done)) _ | refine New.trans ?_ (by assumption)))))).mono ?_
  rintro e w1 ⟨v, rfl, O1, N1⟩
  obtain ⟨A1, c1, rfl, I1⟩ := O1.sts
  have M1 := Lib.hid N1
  have I1 := Lib.hid I1; have N1 := Lib.hid ((New.alloc (New.alloc (New.refl w) _) _).trans N1)
  clear O1
  go_wp2_with fail
  refine (TS.out A1 c1 w1 I1.out).mono ?_
  rintro e w2 ⟨A2, n2, c2, rfl, l2, r2, N2⟩
  obtain rfl : kn = n2 := by have := LT.out; omega
  have I2 := Lib.hid (Sts.of_res r2 LT.out)
  have M2 := Lib.hid (M1.out.trans N2)
  have N2 := Lib.hid (N1.out.trans N2)
  clear l2 r2
  go_wp2_with fail
  refine (SB.out A2 c2 w2 I2.out (HL.out.nd.new N2.out)).mono ?_
  rintro e w3 ⟨rfl, N3⟩
  have M3 := Lib.hid (M2.out.trans N3)
  have N3 := Lib.hid (N2.out.trans N3)
  go_wp2_with fail
  refine (turned_any x y w3).mono ?_
  rintro e w4 ⟨rfl, N4⟩
  have RR := res_row w w4 _ _ (M3.out.trans N4)
  have c4 := RR.c 0 (by simp); have c5 := RR.c 1 (by simp); have f4 := RR.f 0 (by simp); have f5 := RR.f 1 (by simp)
  have sz := RR.lt
  simp only [List.getD_cons_zero, List.getD_cons_succ] at c4 c5
  have N4 := Lib.hid (N3.out.trans N4)
  clear RR
  go_wp2
  exact bodyPost_ret (v := .agg #[.int .i64 y, .int .i64 x]) (by simp [results, Try.results137, go_sem, c4, c5]) rfl ⟨rfl, (N4.out.setCell (by simp) _).setCell (by simp) _⟩
set_option maxHeartbeats 2000000 in
theorem natural_any (lo : Nat) (nb : Nat → Nat) (zs : List Int) (n : Nat) (ar fi la ne : Nat → Option Nat) (hv : vtB n zs = true) (m : Nat) : ∀ i, n - i = m → i < n → NatAt lo nb zs n ar fi la ne i := by
  induction m using Nat.strongRecOn with
  | ind m ih =>
    intro i hm hi w h
    have HL := Lib.hid h
    have IH : ∀ j ∈ kidL zs n i, NatAt lo nb zs n ar fi la ne j := fun j hj => by
      obtain ⟨_, h2, h3⟩ := (link_vt hv).kid_in hj
      exact ih (n - j) (by omega) j rfl h3
    have NS := nat_step (link_vt hv) hi
    have RC := Lib.hid (fun W hW => rowC_any lo nb zs n i ar fi la ne hv hi IH W hW)
    have BC := Lib.hid (fun W hW => blockC_any lo nb zs n i ar fi la ne hv hi IH W hW)
    have LC := Lib.hid (fun W hW => leafC_any lo nb zs n i ar fi la ne hi W hW)
    have PB := pad_bd hv hi
    have NB := nat_sm hv hi
    have KB := ((vtB_iff.1 hv).2 i hi).1.1
    have g0 := h.nd.box i hi 4 (by omega)
    obtain ⟨pd, hpd⟩ : ∃ pd, zs.getD (i * 9 + 4) 0 = pd := ⟨_, rfl⟩
    rw [hpd] at NS PB g0
    have HPD := Lib.hid hpd
    clear h ih IH hm hpd
    obtain ⟨kd, hkd⟩ : ∃ kd, knd zs i = kd := ⟨_, rfl⟩
    have KA := Lib.hid (fun W hW => kind_any lo nb zs n i ar fi la ne hi kd hkd W hW)
    rw [hkd] at KB
    have hk4 : kd = 0 ∨ kd = 1 ∨ kd = 2 ∨ kd = 3 := by omega
    unfold contL contP at NS
    rw [hkd] at NS
    replace NS := Lib.hid NS; replace NB := Lib.hid NB
    clear hkd
    rcases hk4 with rfl | rfl | rfl | rfl
    · have KA2 := Lib.hid (show ∀ W, Nds lo W nb zs n ar fi la ne → Calls Try.prog 74 #[.pointer (some ⟨nb i, 0, none⟩)] W fun e w' => e = .returned (.iface 120 (.agg #[])) ∧ W = w' from KA.out)
      have EX : (natL zs n i).1 = (zs.getD (i * 9 + 2) 0) + 2 * pd := by rw [NS.out]; rfl
      have EY : (natL zs n i).2 = (zs.getD (i * 9 + 3) 0) + 2 * pd := by rw [NS.out]; rfl
      have nb' := NB.out
      rw [EX, EY] at nb'
      have CC := Lib.hid LC.out
      clear KA NS RC BC LC NB
      generalize (zs.getD (i * 9 + 2) 0) = X at *
      generalize (zs.getD (i * 9 + 3) 0) = Y at *
      have x0 : -1000 ≤ X ∧ X ≤ 100000 := by omega
      have y0 : -1000 ≤ Y ∧ Y ≤ 100000 := by omega
      obtain ⟨x0, x1⟩ := x0
      obtain ⟨y0, y1⟩ := y0
      have EX := Lib.hid EX; have EY := Lib.hid EY
      clear nb'
      go_enter Try.func46, Try.ntmps46
      go_wp2_with (first
        | (go_at_call 74; refine (KA2.out _ (HL.out.nd.new (by (repeat (first | exact New.refl _ | assumption | refine New.alloc ?_ _ | refine New.drew ?_ | refine New.drewN ?_ _ | refine New.setCell ?_ (by first | omega | (simp; omega) | (simp; done)) _ | refine New.trans ?_ (by assumption)))))).mono ?_; rintro e w' ⟨rfl, rfl⟩)
        | (go_at_call 155; refine (CC.out _ (HL.out.nd.new (by (repeat (first | exact New.refl _ | assumption | refine New.alloc ?_ _ | refine New.drew ?_ | refine New.drewN ?_ _ | refine New.setCell ?_ (by first | omega | (simp; omega) | (simp; done)) _ | refine New.trans ?_ (by assumption)))))).mono ?_; rintro e w1 ⟨rfl, N1⟩; (have RR := (Row.onesize w 0 0 65).new N1); (have c4 := RR.c 0 (by simp)); (have c5 := RR.c 1 (by simp)); (have f4 := RR.f 0 (by simp)); (have f5 := RR.f 1 (by simp)); (have sz := RR.lt); (simp only [List.getD_cons_zero, List.getD_cons_succ] at c4 c5); (have g4 := (N1.cells (nb i) 4 (by have := HL.out.nd.lt i hi; simp; omega)).trans ((HL.out.nd.new ((New.refl w).alloc _)).box i hi 4 (by omega))); (rw [HPD.out] at g4); (have N1 := Lib.hid ((New.alloc (New.refl w) _).trans N1)); (have hnb := (HL.out.nd.new N1.out).lt i hi); clear RR))
      rw [EX.out, EY.out]
      exact bodyPost_ret (v := .agg #[.int .i64 (X + 2 * pd), .int .i64 (Y + 2 * pd)]) (by simp [results, Try.results46, go_sem, c4, c5, sz]) rfl ⟨rfl, by (repeat (first | exact New.refl _ | assumption | refine New.alloc ?_ _ | refine New.drew ?_ | refine New.drewN ?_ _ | refine New.setCell ?_ (by first | omega | (simp; omega) | (simp; done)) _ | refine New.trans ?_ (by assumption)))⟩
    · have KA2 := Lib.hid (show ∀ W, Nds lo W nb zs n ar fi la ne → Calls Try.prog 74 #[.pointer (some ⟨nb i, 0, none⟩)] W fun e w' => e = .returned (.iface 116 (.agg #[])) ∧ W = w' from KA.out)
      have EX : (natL zs n i).1 = (sbs (zs.getD (i * 9 + 5) 0) ((kidS zs n i).map turnP)).2 + 2 * pd := by rw [NS.out]; rfl
      have EY : (natL zs n i).2 = (sbs (zs.getD (i * 9 + 5) 0) ((kidS zs n i).map turnP)).1 + 2 * pd := by rw [NS.out]; rfl
      have nb' := NB.out
      rw [EX, EY] at nb'
      have CC := Lib.hid BC.out
      clear KA NS RC BC LC NB
      generalize (sbs (zs.getD (i * 9 + 5) 0) ((kidS zs n i).map turnP)).2 = X at *
      generalize (sbs (zs.getD (i * 9 + 5) 0) ((kidS zs n i).map turnP)).1 = Y at *
      have x0 : -1000 ≤ X ∧ X ≤ 100000 := by omega
      have y0 : -1000 ≤ Y ∧ Y ≤ 100000 := by omega
      obtain ⟨x0, x1⟩ := x0
      obtain ⟨y0, y1⟩ := y0
      have EX := Lib.hid EX; have EY := Lib.hid EY
      clear nb'
      go_enter Try.func46, Try.ntmps46
      go_wp2_with (first
        | (go_at_call 74; refine (KA2.out _ (HL.out.nd.new (by (repeat (first | exact New.refl _ | assumption | refine New.alloc ?_ _ | refine New.drew ?_ | refine New.drewN ?_ _ | refine New.setCell ?_ (by first | omega | (simp; omega) | (simp; done)) _ | refine New.trans ?_ (by assumption)))))).mono ?_; rintro e w' ⟨rfl, rfl⟩)
        | (go_at_call 137; refine (CC.out _ (HL.out.new (by (repeat (first | exact New.refl _ | assumption | refine New.alloc ?_ _ | refine New.drew ?_ | refine New.drewN ?_ _ | refine New.setCell ?_ (by first | omega | (simp; omega) | (simp; done)) _ | refine New.trans ?_ (by assumption)))))).mono ?_; rintro e w1 ⟨rfl, N1⟩; (have RR := (Row.onesize w 0 0 65).new N1); (have c4 := RR.c 0 (by simp)); (have c5 := RR.c 1 (by simp)); (have f4 := RR.f 0 (by simp)); (have f5 := RR.f 1 (by simp)); (have sz := RR.lt); (simp only [List.getD_cons_zero, List.getD_cons_succ] at c4 c5); (have g4 := (N1.cells (nb i) 4 (by have := HL.out.nd.lt i hi; simp; omega)).trans ((HL.out.nd.new ((New.refl w).alloc _)).box i hi 4 (by omega))); (rw [HPD.out] at g4); (have N1 := Lib.hid ((New.alloc (New.refl w) _).trans N1)); (have hnb := (HL.out.nd.new N1.out).lt i hi); clear RR))
      rw [EX.out, EY.out]
      exact bodyPost_ret (v := .agg #[.int .i64 (X + 2 * pd), .int .i64 (Y + 2 * pd)]) (by simp [results, Try.results46, go_sem, c4, c5, sz]) rfl ⟨rfl, by (repeat (first | exact New.refl _ | assumption | refine New.alloc ?_ _ | refine New.drew ?_ | refine New.drewN ?_ _ | refine New.setCell ?_ (by first | omega | (simp; omega) | (simp; done)) _ | refine New.trans ?_ (by assumption)))⟩
    · have KA2 := Lib.hid (show ∀ W, Nds lo W nb zs n ar fi la ne → Calls Try.prog 74 #[.pointer (some ⟨nb i, 0, none⟩)] W fun e w' => e = .returned (.iface 117 (.agg #[])) ∧ W = w' from KA.out)
      have EX : (natL zs n i).1 = (sbs (zs.getD (i * 9 + 5) 0) (kidS zs n i)).1 + 2 * pd := by rw [NS.out]; rfl
      have EY : (natL zs n i).2 = (sbs (zs.getD (i * 9 + 5) 0) (kidS zs n i)).2 + 2 * pd := by rw [NS.out]; rfl
      have nb' := NB.out
      rw [EX, EY] at nb'
      have CC := Lib.hid RC.out
      clear KA NS RC BC LC NB
      generalize (sbs (zs.getD (i * 9 + 5) 0) (kidS zs n i)).1 = X at *
      generalize (sbs (zs.getD (i * 9 + 5) 0) (kidS zs n i)).2 = Y at *
      have x0 : -1000 ≤ X ∧ X ≤ 100000 := by omega
      have y0 : -1000 ≤ Y ∧ Y ≤ 100000 := by omega
      obtain ⟨x0, x1⟩ := x0
      obtain ⟨y0, y1⟩ := y0
      have EX := Lib.hid EX; have EY := Lib.hid EY
      clear nb'
      go_enter Try.func46, Try.ntmps46
      go_wp2_with (first
        | (go_at_call 74; refine (KA2.out _ (HL.out.nd.new (by (repeat (first | exact New.refl _ | assumption | refine New.alloc ?_ _ | refine New.drew ?_ | refine New.drewN ?_ _ | refine New.setCell ?_ (by first | omega | (simp; omega) | (simp; done)) _ | refine New.trans ?_ (by assumption)))))).mono ?_; rintro e w' ⟨rfl, rfl⟩)
        | (go_at_call 143; refine (CC.out _ (HL.out.new (by (repeat (first | exact New.refl _ | assumption | refine New.alloc ?_ _ | refine New.drew ?_ | refine New.drewN ?_ _ | refine New.setCell ?_ (by first | omega | (simp; omega) | (simp; done)) _ | refine New.trans ?_ (by assumption)))))).mono ?_; rintro e w1 ⟨rfl, N1⟩; (have RR := (Row.onesize w 0 0 65).new N1); (have c4 := RR.c 0 (by simp)); (have c5 := RR.c 1 (by simp)); (have f4 := RR.f 0 (by simp)); (have f5 := RR.f 1 (by simp)); (have sz := RR.lt); (simp only [List.getD_cons_zero, List.getD_cons_succ] at c4 c5); (have g4 := (N1.cells (nb i) 4 (by have := HL.out.nd.lt i hi; simp; omega)).trans ((HL.out.nd.new ((New.refl w).alloc _)).box i hi 4 (by omega))); (rw [HPD.out] at g4); (have N1 := Lib.hid ((New.alloc (New.refl w) _).trans N1)); (have hnb := (HL.out.nd.new N1.out).lt i hi); clear RR))
      rw [EX.out, EY.out]
      exact bodyPost_ret (v := .agg #[.int .i64 (X + 2 * pd), .int .i64 (Y + 2 * pd)]) (by simp [results, Try.results46, go_sem, c4, c5, sz]) rfl ⟨rfl, by (repeat (first | exact New.refl _ | assumption | refine New.alloc ?_ _ | refine New.drew ?_ | refine New.drewN ?_ _ | refine New.setCell ?_ (by first | omega | (simp; omega) | (simp; done)) _ | refine New.trans ?_ (by assumption)))⟩
    · have KA2 := Lib.hid (show ∀ W, Nds lo W nb zs n ar fi la ne → Calls Try.prog 74 #[.pointer (some ⟨nb i, 0, none⟩)] W fun e w' => e = .returned (.iface 119 (.agg #[])) ∧ W = w' from KA.out)
      have EX : (natL zs n i).1 = (sbs (zs.getD (i * 9 + 5) 0) ((kidS zs n i).map turnP)).2 + 2 * pd := by rw [NS.out]; rfl
      have EY : (natL zs n i).2 = (sbs (zs.getD (i * 9 + 5) 0) ((kidS zs n i).map turnP)).1 + 2 * pd := by rw [NS.out]; rfl
      have nb' := NB.out
      rw [EX, EY] at nb'
      have CC := Lib.hid BC.out
      clear KA NS RC BC LC NB
      generalize (sbs (zs.getD (i * 9 + 5) 0) ((kidS zs n i).map turnP)).2 = X at *
      generalize (sbs (zs.getD (i * 9 + 5) 0) ((kidS zs n i).map turnP)).1 = Y at *
      have x0 : -1000 ≤ X ∧ X ≤ 100000 := by omega
      have y0 : -1000 ≤ Y ∧ Y ≤ 100000 := by omega
      obtain ⟨x0, x1⟩ := x0
      obtain ⟨y0, y1⟩ := y0
      have EX := Lib.hid EX; have EY := Lib.hid EY
      clear nb'
      go_enter Try.func46, Try.ntmps46
      go_wp2_with (first
        | (go_at_call 74; refine (KA2.out _ (HL.out.nd.new (by (repeat (first | exact New.refl _ | assumption | refine New.alloc ?_ _ | refine New.drew ?_ | refine New.drewN ?_ _ | refine New.setCell ?_ (by first | omega | (simp; omega) | (simp; done)) _ | refine New.trans ?_ (by assumption)))))).mono ?_; rintro e w' ⟨rfl, rfl⟩)
        | (go_at_call 137; refine (CC.out _ (HL.out.new (by (repeat (first | exact New.refl _ | assumption | refine New.alloc ?_ _ | refine New.drew ?_ | refine New.drewN ?_ _ | refine New.setCell ?_ (by first | omega | (simp; omega) | (simp; done)) _ | refine New.trans ?_ (by assumption)))))).mono ?_; rintro e w1 ⟨rfl, N1⟩; (have RR := (Row.onesize w 0 0 65).new N1); (have c4 := RR.c 0 (by simp)); (have c5 := RR.c 1 (by simp)); (have f4 := RR.f 0 (by simp)); (have f5 := RR.f 1 (by simp)); (have sz := RR.lt); (simp only [List.getD_cons_zero, List.getD_cons_succ] at c4 c5); (have g4 := (N1.cells (nb i) 4 (by have := HL.out.nd.lt i hi; simp; omega)).trans ((HL.out.nd.new ((New.refl w).alloc _)).box i hi 4 (by omega))); (rw [HPD.out] at g4); (have N1 := Lib.hid ((New.alloc (New.refl w) _).trans N1)); (have hnb := (HL.out.nd.new N1.out).lt i hi); clear RR))
      rw [EX.out, EY.out]
      exact bodyPost_ret (v := .agg #[.int .i64 (X + 2 * pd), .int .i64 (Y + 2 * pd)]) (by simp [results, Try.results46, go_sem, c4, c5, sz]) rfl ⟨rfl, by (repeat (first | exact New.refl _ | assumption | refine New.alloc ?_ _ | refine New.drew ?_ | refine New.drewN ?_ _ | refine New.setCell ?_ (by first | omega | (simp; omega) | (simp; done)) _ | refine New.trans ?_ (by assumption)))⟩
end Go.Proofs.Ytobnjagmakhgpaa
