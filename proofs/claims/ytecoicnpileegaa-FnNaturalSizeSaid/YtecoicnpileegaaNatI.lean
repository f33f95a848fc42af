/- The sizes of boxes in the program: turned sizes, gaps, sizes side by side, and what a box does with those in it, walked. Conditions: the lists can be read; the nodes are linked. -/
import Derived.Test.YtecoicnpileegaaNatM
import Derived.Test.YtecoicnpileegaasizeA
import Derived.Test.YtecoicnpileegaaTreeE
import Derived.IntWalk
namespace Go.Proofs.Ytecoicnpileegaa
open Go.RowKit

/-- The numbers of sizes, one size behind the other. -/
def flat2 (ss : List (Int × Int)) : List Int := ss.flatMap fun s => [s.1, s.2]
abbrev szv (s : Int × Int) : Value := .agg #[.int .i64 s.1, .int .i64 s.2]
theorem flat2_len : ∀ (ss : List (Int × Int)), (flat2 ss).length = ss.length * 2
  | [] => rfl
  | s :: ss => by unfold flat2; rw [List.flatMap_cons, List.length_append, List.length_cons]; have := flat2_len ss; unfold flat2 at this; rw [this]; simp; omega
theorem flat2_snoc (ss : List (Int × Int)) (s : Int × Int) : flat2 (ss ++ [s]) = flat2 ss ++ [s.1, s.2] := by unfold flat2; rw [List.flatMap_append]; simp
theorem flat2_at : ∀ (ss : List (Int × Int)) (k : Nat), (flat2 ss).getD (k * 2) 0 = (ss.getD k (0, 0)).1 ∧ (flat2 ss).getD (k * 2 + 1) 0 = (ss.getD k (0, 0)).2
  | [], k => by simp [flat2]
  | s :: ss, 0 => by simp [flat2]
  | s :: ss, k + 1 => by
    have h := flat2_at ss k
    have e : flat2 (s :: ss) = [s.1, s.2] ++ flat2 ss := by unfold flat2; rw [List.flatMap_cons]
    rw [e, show (k + 1) * 2 = k * 2 + 2 by omega, show k * 2 + 2 + 1 = k * 2 + 1 + 2 by omega]
    simp only [List.getD_eq_getElem?_getD, List.getElem?_append_right (show [s.1, s.2].length ≤ k * 2 + 2 by simp), List.getElem?_append_right (show [s.1, s.2].length ≤ k * 2 + 1 + 2 by simp)] at h ⊢
    simpa using h
theorem w64s (x : Int) (h : IntKind.i64.wrap x = x) : wrap64 x = x := by
  have e : IntKind.i64.wrap x = wrap64 x := by unfold wrap64; rw [IntKind.wrap_i64]
  rw [← e]; exact h
/-- Sizes are small. -/
def SmP (ss : List (Int × Int)) : Prop := ∀ s ∈ ss, (0 ≤ s.1 ∧ s.1 ≤ 10000) ∧ 0 ≤ s.2 ∧ s.2 ≤ 10000
theorem SmP.at_ {ss : List (Int × Int)} (h : SmP ss) (k : Nat) : (0 ≤ (ss.getD k (0, 0)).1 ∧ (ss.getD k (0, 0)).1 ≤ 10000) ∧ 0 ≤ (ss.getD k (0, 0)).2 ∧ (ss.getD k (0, 0)).2 ≤ 10000 := by
  rcases Nat.lt_or_ge k ss.length with h1 | h1
  · have e : ss.getD k (0, 0) = ss[k] := by simp [h1]
    rw [e]; exact h _ (List.getElem_mem h1)
  · have e : ss.getD k (0, 0) = (0, 0) := by simp [h1]
    rw [e]; simp
set_option maxHeartbeats 400000 in
theorem turned_any (a b : Int) (w : World) :
    Calls Try.prog 91 #[.agg #[.int .i64 a, .int .i64 b]] w fun e w' => e = .returned (.agg #[.int .i64 b, .int .i64 a]) ∧ New w w' := by
  go_enter Try.func91, Try.ntmps91
  go_wp2
  exact bodyPost_ret (v := .agg #[.int .i64 b, .int .i64 a]) (by simp [results, Try.results91, go_sem]) rfl ⟨rfl, by (repeat (first | exact New.refl _ | assumption | refine New.alloc ?_ _ | refine New.drew ?_ | refine New.drewN ?_ _ | refine New.setCell ?_ (by first | omega | (simp; omega) | (simp; done)) _ | refine New.trans ?_ (by assumption)))⟩
set_option maxHeartbeats 400000 in
theorem gaps_any (lo : Nat) (nb : Nat → Nat) (zs : List Int) (k i : Nat) (ar fi la ne : Nat → Option Nat) (hi : i < k) (c : Nat) (hc : c ≤ 16) (hg : 0 ≤ zs.getD (i * 9 + 5) 0 ∧ zs.getD (i * 9 + 5) 0 ≤ 50) (w : World) (h : Nds lo w nb zs k ar fi la ne) :
    Calls Try.prog 97 #[.pointer (some ⟨nb i, 0, none⟩), .int .i64 (c : Int)] w fun e w' => e = .returned (.int .i64 (zs.getD (i * 9 + 5) 0 * mx 0 ((c : Int) - 1))) ∧ w = w' := by
  have hmx := fun (W : World) (ts : Array TypeId) (t : TypeId) (x y : Int) => run_mx Try.prog W ts t x y
  have g0 := h.box i hi 5 (by omega)
  generalize zs.getD (i * 9 + 5) 0 = g at *
  have m0 : 0 ≤ mx 0 ((c : Int) - 1) ∧ mx 0 ((c : Int) - 1) ≤ 16 := by unfold mx; omega
  have p0 : 0 ≤ g * mx 0 ((c : Int) - 1) := Int.mul_nonneg hg.1 m0.1
  have p1 : g * mx 0 ((c : Int) - 1) ≤ 800 := by have := Int.mul_le_mul hg.2 m0.2 m0.1 (by omega : (0 : Int) ≤ 50); omega
  have c0 : (0 : Int) ≤ (c : Int) := by omega
  have c1 : (c : Int) ≤ 16 := by omega
  have pw : wrap64 (g * mx 0 ((c : Int) - 1)) = g * mx 0 ((c : Int) - 1) := w64s _ (IntWalk.i64_in _ (by omega))
  clear h hi
  go_enter Try.func97, Try.ntmps97
  go_wp2
  go_ret
  exact ⟨by first | rfl | (rw [pw]; rfl), rfl⟩
theorem map_getD (ss : List (Int × Int)) (k : Nat) : (ss.map turnP).getD k (0, 0) = turnP (ss.getD k (0, 0)) := by
  rcases Nat.lt_or_ge k ss.length with h | h
  · simp [h]
  · simp [h, turnP]
set_option maxHeartbeats 1000000 in
theorem turnedSizes_any (A : Option Addr) (n c : Nat) (ss : List (Int × Int)) (hl : ss.length = n) (hn : n ≤ 16) (w : World) (hx : Sts 2 w A n (flat2 ss)) :
    Calls Try.prog 95 #[.slice A n c] w (AnsS 2 w (flat2 (ss.map turnP))) := by
  have hmk := fun W => mksize n (by omega) W
  have LX : Hid ((flat2 (ss.map turnP)).length = n * 2) := Lib.hid (by rw [flat2_len, List.length_map, hl])
  have V0 := Lib.hid (fun k => flat2_at ss k); have V1 := Lib.hid (fun k => (show (flat2 (ss.map turnP)).getD (k * 2) 0 = (ss.getD k (0, 0)).2 ∧ (flat2 (ss.map turnP)).getD (k * 2 + 1) 0 = (ss.getD k (0, 0)).1 by
    have := flat2_at (ss.map turnP) k; rw [map_getD] at this; exact this))
  have HX := Lib.hid hx
  generalize flat2 (ss.map turnP) = xs at *
  have n16 : (n : Int) ≤ 16 := by omega
  clear hx hl
  go_enter Try.func95, Try.ntmps95
  go_wp2
  have R0 := Row.zeros w #[Value.int .i64 0, Value.int .i64 0] (n * 2) 57 zerosize
  have N0 : New w (w.alloc (.cells (madeCells #[Value.int .i64 0, Value.int .i64 0] (n * 2)) 57)) := by (repeat (first | exact New.refl _ | assumption | refine New.alloc ?_ _ | refine New.drew ?_ | refine New.drewN ?_ _ | refine New.setCell ?_ (by first | omega | (simp; omega) | (simp; done)) _ | refine New.trans ?_ (by assumption)))
  have R0 := Lib.hid R0; have N0 := Lib.hid N0
  clear hmk
  generalize hW : w.alloc (.cells (madeCells #[Value.int .i64 0, Value.int .i64 0] (n * 2)) 57) = W at R0 N0 ⊢
  clear hW
  go_loopw [11] (fun i wr => ∃ k : Nat, k ≤ n ∧ i = .int .i64 k ∧ Hid (Row wr w.heap.size (upTo (k * 2) xs)) ∧ Hid (New w wr)) (fun i _ => n - (intOf i).toNat)
  case atStart => exact ⟨0, Nat.zero_le _, rfl, Lib.hid (by rw [Nat.zero_mul, upTo_zero, LX.out]; exact R0.out), N0⟩
  case round =>
    obtain ⟨k, hk, rfl, HR, HN⟩ := hrel
    have k0 : (0 : Int) ≤ (k : Int) := by omega
    by_cases hlt : k < n
    · obtain ⟨b, off, rfl, hb, hc⟩ := HX.out.at_ (by omega)
      have LU := Lib.hid (upTo_len (k * 2) xs (by rw [LX.out]; omega))
      have g0 : wr.cell? ⟨b, off + k * 2, none⟩ = some (.int .i64 ((flat2 ss).getD (k * 2) 0)) := (HN.out.cells b _ hb).trans (hc (k * 2) (by omega))
      have g1 : wr.cell? ⟨b, off + k * 2 + 1, none⟩ = some (.int .i64 ((flat2 ss).getD (k * 2 + 1) 0)) := (HN.out.cells b _ hb).trans (hc (k * 2 + 1) (by omega))
      rw [(V0.out k).1] at g0
      rw [(V0.out k).2] at g1
      have tr := HR.out.lt
      have HS := Lib.hid (fun (w2 : World) (h2 : New wr w2) => rowsize_step (HR.out.new h2) LX.out hlt)
      have HF := Lib.hid (fun (w2 : World) (h2 : New wr w2) => (show ((w2.cell? ⟨w.heap.size, k * 2, none⟩).isSome = true ∧ (w2.cell? ⟨w.heap.size, k * 2 + 1, none⟩).isSome = true) ∧ w2.frozen? ⟨w.heap.size, k * 2, none⟩ = false ∧ w2.frozen? ⟨w.heap.size, k * 2 + 1, none⟩ = false by
        have r := HR.out.new h2
        exact ⟨⟨by rw [r.c (k * 2) (by rw [LU.out, LX.out]; omega)]; rfl, by rw [r.c (k * 2 + 1) (by rw [LU.out, LX.out]; omega)]; rfl⟩, r.f (k * 2) (by rw [LU.out, LX.out]; omega), r.f (k * 2 + 1) (by rw [LU.out, LX.out]; omega)⟩))
      rw [(V1.out k).1, (V1.out k).2] at HS
      have hbw : b < wr.heap.size := Nat.lt_of_lt_of_le hb HN.out.le
      have k1 : (k : Int) < (n : Int) := by omega
      clear hc
      generalize (ss.getD k (0, 0)).1 = y0 at *
      generalize (ss.getD k (0, 0)).2 = y1 at *
      go_wp2_with (go_at_call 91; refine (turned_any _ _ _).mono ?_; rintro e w1 ⟨rfl, h1⟩; (have N1 : New wr w1 := (New.alloc (New.refl wr) _).trans h1); (obtain ⟨⟨q0, q1⟩, f0, f1⟩ := HF.out w1 N1); (have q0 := cv_of q0); (have q1 := cv_of q1); (have HS1 := Lib.hid (HS.out w1 N1)); (have N1 := Lib.hid N1); clear h1)
      go_roundw
      case rel => exact ⟨k + 1, by omega, by go_num, HS1, Lib.hid (((HN.out.trans N1.out).setCell (by simp) _).setCell (by simp) _)⟩
      case measure => simp [intOf]; omega
    · obtain rfl : k = n := by omega
      go_wp2
      go_ret
      exact AnsS.row rfl LX.out (Nat.le_refl _) (by have h := HR.out; rwa [← LX.out, upTo_all] at h) HN.out
theorem take_snoc_p (ss : List (Int × Int)) (k : Nat) (h : k < ss.length) : ss.take (k + 1) = ss.take k ++ [ss.getD k (0, 0)] := by
  rw [List.take_succ_eq_append_getElem h]
  simp [h]
/-- The sums over the first k sizes. -/
def accX (b : Int) (ss : List (Int × Int)) (k : Nat) : Int := b + ((ss.take k).map Prod.fst).sum
def accY (ss : List (Int × Int)) (k : Nat) : Int := foldMx ((ss.take k).map Prod.snd)
theorem accX_step (b : Int) (ss : List (Int × Int)) (k : Nat) (h : k < ss.length) : accX b ss (k + 1) = accX b ss k + (ss.getD k (0, 0)).1 := by unfold accX; rw [take_snoc_p ss k h]; simp; omega
theorem accY_step (ss : List (Int × Int)) (k : Nat) (h : k < ss.length) : accY ss (k + 1) = mx (accY ss k) (ss.getD k (0, 0)).2 := by unfold accY; rw [take_snoc_p ss k h, List.map_append]; exact foldMx_snoc _ _
theorem accX_bd {b : Int} {ss : List (Int × Int)} (h : SmP ss) (hb : 0 ≤ b ∧ b ≤ 1000) (k : Nat) (hk : k ≤ ss.length) : 0 ≤ accX b ss k ∧ accX b ss k ≤ 1000 + 10000 * k := by
  induction k with
  | zero => unfold accX; simp; omega
  | succ k ih =>
    have := ih (by omega)
    have := h.at_ k
    rw [accX_step _ _ _ (by omega)]
    omega
theorem accY_bd {ss : List (Int × Int)} (h : SmP ss) (k : Nat) (hk : k ≤ ss.length) : 0 ≤ accY ss k ∧ accY ss k ≤ 10000 := by
  induction k with
  | zero => unfold accY foldMx; simp
  | succ k ih =>
    have := ih (by omega)
    have := h.at_ k
    rw [accY_step _ _ (by omega)]
    unfold mx
    omega
set_option maxHeartbeats 2000000 in
theorem sideBySide_any (lo : Nat) (nb : Nat → Nat) (zs : List Int) (m i : Nat) (ar fi la ne : Nat → Option Nat) (hi : i < m) (hg : 0 ≤ zs.getD (i * 9 + 5) 0 ∧ zs.getD (i * 9 + 5) 0 ≤ 50)
    (A : Option Addr) (n c : Nat) (ss : List (Int × Int)) (hl : ss.length = n) (hn : n ≤ 16) (hs : SmP ss) (w : World) (hx : Sts 2 w A n (flat2 ss)) (h : Nds lo w nb zs m ar fi la ne) :
    Calls Try.prog 94 #[.pointer (some ⟨nb i, 0, none⟩), .slice A n c] w fun e w' => e = .returned (.agg #[.int .i64 (sbs (zs.getD (i * 9 + 5) 0) ss).1, .int .i64 (sbs (zs.getD (i * 9 + 5) 0) ss).2]) ∧ New w w' := by
  have hmx := fun (W : World) (ts : Array TypeId) (t : TypeId) (x y : Int) => run_mx Try.prog W ts t x y
  have HX := Lib.hid hx
  have HL := Lib.hid hl
  have GA := Lib.hid (fun W (hW : New w W) => gaps_any lo nb zs m i ar fi la ne hi n hn hg W (h.new hW))
  have E1 := Lib.hid (show accX (zs.getD (i * 9 + 5) 0 * mx 0 ((n : Int) - 1)) ss n = (sbs (zs.getD (i * 9 + 5) 0) ss).1 by
    unfold accX sbs; rw [List.take_of_length_le (by omega), hl])
  have E2 := Lib.hid (show accY ss n = (sbs (zs.getD (i * 9 + 5) 0) ss).2 by unfold accY sbs; rw [List.take_of_length_le (by omega)])
  have m0 : 0 ≤ mx 0 ((n : Int) - 1) ∧ mx 0 ((n : Int) - 1) ≤ 15 := by unfold mx; omega
  have p0 : 0 ≤ zs.getD (i * 9 + 5) 0 * mx 0 ((n : Int) - 1) := Int.mul_nonneg hg.1 m0.1
  have p1 : zs.getD (i * 9 + 5) 0 * mx 0 ((n : Int) - 1) ≤ 1000 := by have := Int.mul_le_mul hg.2 m0.2 m0.1 (by omega : (0 : Int) ≤ 50); omega
  generalize (sbs (zs.getD (i * 9 + 5) 0) ss).1 = r1 at *
  generalize (sbs (zs.getD (i * 9 + 5) 0) ss).2 = r2 at *
  generalize zs.getD (i * 9 + 5) 0 * mx 0 ((n : Int) - 1) = bs at *
  have BX := Lib.hid (fun k hk => accX_bd hs ⟨p0, p1⟩ k hk)
  have BY := Lib.hid (fun k hk => accY_bd hs k hk)
  have SM := Lib.hid (fun k => hs.at_ k)
  have V0 := Lib.hid (fun k => flat2_at ss k)
  have n16 : (n : Int) ≤ 16 := by omega
  clear h hx hl hg m0 hs
  go_enter Try.func94, Try.ntmps94
  go_wp2_with (go_at_call 97; refine (GA.out _ (by (repeat (first | exact New.refl _ | assumption | refine New.alloc ?_ _ | refine New.drew ?_ | refine New.drewN ?_ _ | refine New.setCell ?_ (by first | omega | (simp; omega) | (simp; done)) _ | refine New.trans ?_ (by assumption))))).mono ?_; rintro e w' ⟨rfl, rfl⟩)
  go_loopw [15] (fun i wr => ∃ k : Nat, k ≤ n ∧ i = .int .i64 k ∧ Hid (Row wr w.heap.size [0, 0]) ∧ Hid (Row wr (w.heap.size + 1) [accX bs ss k, accY ss k]) ∧ Hid (New w wr)) (fun i _ => n - (intOf i).toNat)
  case atStart => exact ⟨0, Nat.zero_le _, rfl, Lib.hid ((Row.onesize w 0 0 _).new ((New.refl _).alloc _)), Lib.hid (by rw [show accX bs ss 0 = bs by simp [accX], show accY ss 0 = 0 from rfl]; have h := Row.onesize (w.alloc (.cells #[.int .i64 0, .int .i64 0] 57)) bs 0 57; simpa using h), Lib.hid (by (repeat (first | exact New.refl _ | assumption | refine New.alloc ?_ _ | refine New.drew ?_ | refine New.drewN ?_ _ | refine New.setCell ?_ (by first | omega | (simp; omega) | (simp; done)) _ | refine New.trans ?_ (by assumption))))⟩
  case round =>
    obtain ⟨k, hk, rfl, H4, H5, HN⟩ := hrel
    have k0 : (0 : Int) ≤ (k : Int) := by omega
    have sz := H5.out.lt
    have c4 := H4.out.c 0 (by simp); have c5 := H4.out.c 1 (by simp); have f4 := H4.out.f 0 (by simp); have f5 := H4.out.f 1 (by simp)
    have a0 := H5.out.c 0 (by simp); have a1 := H5.out.c 1 (by simp); have fa0 := H5.out.f 0 (by simp); have fa1 := H5.out.f 1 (by simp)
    simp only [List.getD_cons_zero, List.getD_cons_succ] at c4 c5 a0 a1
    by_cases hlt : k < n
    · obtain ⟨b, off, rfl, hb, hc⟩ := HX.out.at_ (by omega)
      have g0 : wr.cell? ⟨b, off + k * 2, none⟩ = some (.int .i64 ((flat2 ss).getD (k * 2) 0)) := (HN.out.cells b _ hb).trans (hc (k * 2) (by omega))
      have g1 : wr.cell? ⟨b, off + k * 2 + 1, none⟩ = some (.int .i64 ((flat2 ss).getD (k * 2 + 1) 0)) := (HN.out.cells b _ hb).trans (hc (k * 2 + 1) (by omega))
      rw [(V0.out k).1] at g0
      rw [(V0.out k).2] at g1
      have S1 := Lib.hid (accX_step bs ss k (by rw [HL.out]; exact hlt)); have S2 := Lib.hid (accY_step ss k (by rw [HL.out]; exact hlt))
      obtain ⟨⟨q0, q1⟩, q2, q3⟩ := SM.out k
      obtain ⟨x0, x1⟩ := BX.out k (by rw [HL.out]; omega)
      obtain ⟨z0, z1⟩ := BY.out k (by rw [HL.out]; omega)
      have hbw : b < wr.heap.size := Nat.lt_of_lt_of_le hb HN.out.le
      have k1 : (k : Int) < (n : Int) := by omega
      have x2 : accX bs ss k ≤ 1000000 := by omega
      generalize (ss.getD k (0, 0)).1 = y0 at *
      generalize (ss.getD k (0, 0)).2 = y1 at *
      have R4 := Lib.hid (fun (u v : Value) (o : Obj) => (((H4.out.far (p := ⟨w.heap.size + 1, 0, none⟩) (by simp) u).far (p := ⟨w.heap.size + 1, 1, none⟩) (by simp) v).new ((New.refl _).alloc o)))
      have R5 := Lib.hid (fun (u : Int) (v : Int) (o : Obj) => (((H5.out.set_ (k := 0) (by simp) u).set_ (k := 1) (by simp) v).new ((New.refl _).alloc o)))
      clear hc x1
      generalize accX bs ss k = X at *
      generalize accY ss k = Y at *
      go_wp2
      go_roundw
      case rel => exact ⟨k + 1, by omega, by go_num, Lib.hid (R4.out _ _ _), Lib.hid (by rw [S1.out, S2.out]; exact R5.out _ _ _), Lib.hid (by (repeat (first | exact New.refl _ | assumption | refine New.alloc ?_ _ | refine New.drew ?_ | refine New.drewN ?_ _ | refine New.setCell ?_ (by first | omega | (simp; omega) | (simp; done)) _ | refine New.trans ?_ (by assumption))))⟩
      case measure => simp [intOf]; omega
    · obtain rfl : k = n := by omega
      rw [E1.out] at a0
      rw [E2.out] at a1
      go_wp2
      exact bodyPost_ret (v := .agg #[.int .i64 r1, .int .i64 r2]) (by simp [results, Try.results94, go_sem, c4, c5]) rfl ⟨rfl, by (repeat (first | exact New.refl _ | assumption | refine New.alloc ?_ _ | refine New.drew ?_ | refine New.drewN ?_ _ | refine New.setCell ?_ (by first | omega | (simp; omega) | (simp; done)) _ | refine New.trans ?_ (by assumption)))⟩
/-- What stands for the kind of a box. -/
def kindT (k : Int) : TypeId := if k = 1 then 90 else if k = 2 then 91 else if k = 3 then 93 else 94
set_option maxHeartbeats 400000 in
theorem kind_any (lo : Nat) (nb : Nat → Nat) (zs : List Int) (m i : Nat) (ar fi la ne : Nat → Option Nat) (hi : i < m) (kd : Int) (hk : knd zs i = kd) (w : World) (h : Nds lo w nb zs m ar fi la ne) :
    Calls Try.prog 63 #[.pointer (some ⟨nb i, 0, none⟩)] w fun e w' => e = .returned (.iface (kindT kd) (.agg #[])) ∧ w = w' := by
  have g0 := h.box i hi 1 (by omega)
  rw [show zs.getD (i * 9 + 1) 0 = kd from hk] at g0
  clear h hi hk
  by_cases h1 : kd = 1
  · subst h1
    go_enter Try.func63, Try.ntmps63
    go_wp2
    go_ret
    exact ⟨rfl, rfl⟩
  · have b1 : (kd == 1) = false := by simpa using h1
    by_cases h2 : kd = 2
    · subst h2
      go_enter Try.func63, Try.ntmps63
      go_wp2
      go_ret
      exact ⟨rfl, rfl⟩
    · have b2 : (kd == 2) = false := by simpa using h2
      by_cases h3 : kd = 3
      · subst h3
        go_enter Try.func63, Try.ntmps63
        go_wp2
        go_ret
        exact ⟨rfl, rfl⟩
      · have b3 : (kd == 3) = false := by simpa using h3
        have E : Hid (kindT kd = 94) := Lib.hid (by unfold kindT; rw [if_neg h1, if_neg h2, if_neg h3])
        clear h1 h2 h3
        go_enter Try.func63, Try.ntmps63
        go_wp2
        go_ret
        exact ⟨by rw [E.out]; rfl, rfl⟩
end Go.Proofs.Ytecoicnpileegaa
