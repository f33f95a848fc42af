/- Drawn flexible sizes: a short list of structs of small numbers. Condition: the code can be read. -/
import Derived.Test.YtnipnemhbelcaaaFlexA
import Derived.Test.YtnipnemhbelcaaaDrawOf
namespace Go.Proofs.Ytnipnemhbelcaaa
open Go.RowKit

/-- A small number. -/
def Tiny (z : Int) : Prop := -100000 ≤ z ∧ z ≤ 100000
theorem one_tiny {zs : List Int} {z : Int} (h : z ∈ zs) (hz : ∀ y ∈ zs, -10001 ≤ y ∧ y ≤ 10001) : -10001 ≤ z ∧ z ≤ 10001 := hz z h
theorem tiny5 {a b c d e : Int} (h0 : Tiny a) (h1 : Tiny b) (h2 : Tiny c) (h3 : Tiny d) (h4 : Tiny e) : ∀ z ∈ [a, b, c, d, e], Tiny z := by
  intro z hz
  simp at hz
  rcases hz with rfl | rfl | rfl | rfl | rfl <;> assumption
theorem tiny_set {xs : List Int} {k : Nat} {z : Int} (hz : Tiny z) (h : ∀ y ∈ xs, Tiny y) : ∀ y ∈ xs.set k z, Tiny y := fun y hy => by
  rcases List.mem_or_eq_of_mem_set hy with h1 | h1
  · exact h y h1
  · rw [h1]; exact hz
/-- What drawing a flexible size leaves. -/
def DrawnF (w : World) (a : Nat) (A : Option Addr) (m p : Nat) (e : Ending) (w' : World) : Prop :=
  ∃ y0 y1 y2 y3 y4 : Int, e = .returned (.agg #[.int .i64 y0, .int .i64 y1, .int .i64 y2, .int .i64 y3, .int .i64 y4]) ∧ (∀ z ∈ [y0, y1, y2, y3, y4], Tiny z) ∧ (∃ q, q ≤ p + 5 ∧ Rdr w' a A m q) ∧ w.grownBy w' (some a)
set_option maxHeartbeats 2000000 in
theorem someFlex_any (a : Nat) (A : Option Addr) (m p : Nat) (hp : p ≤ 900000) (hm : m ≤ 2000) (w : World) (h : Rdr w a A m p) :
    Calls Try.prog 54 #[.pointer (some ⟨a, 0, none⟩)] w (DrawnF w a A m p) := by
  have hlt : a < w.heap.size := World.block_lt_of_cell? w ⟨a, 1, none⟩ h.pos
  have HR := Lib.hid h
  clear h
  go_enter Try.func54, Try.ntmps54
  go_wp2_with fail
  refine (one_any [0, 10, 50, 0, 100] (by simp) (by simp) (w.heap.size + 1) 5 a A m (p) (by omega) hm _ (HR.out.new (by (repeat (first | exact New.refl _ | assumption | refine New.alloc ?_ _ | refine New.drew ?_ | refine New.drewN ?_ _ | refine New.setCell ?_ (by first | omega | (simp; omega) | (simp; done)) _ | refine New.trans ?_ (by assumption))))) (by omega) (by simp) (lit_at [0, 10, 50, 0, 100] (w.alloc (.cells #[.int .i64 0, .int .i64 0, .int .i64 0, .int .i64 0, .int .i64 0] 40)) 3 (w.heap.size + 1) (by simp))).mono ?_
  rintro e w1 ⟨v1, rfl, i1, R1, G1⟩
  have b1 := one_tiny i1 (by simp)
  obtain ⟨l1, u1⟩ := b1
  have z1 := G1.size; simp at z1
  replace R1 := Lib.hid R1; replace G1 := Lib.hid (only_trans (only_alloc only_refl _) G1)
  clear i1
  go_wp2_with fail
  refine (one_any [0, 10, 50, 100, 300] (by simp) (by simp) w1.heap.size 5 a A m (p + 1) (by omega) hm _ (R1.out.new (by (repeat (first | exact New.refl _ | assumption | refine New.alloc ?_ _ | refine New.drew ?_ | refine New.drewN ?_ _ | refine New.setCell ?_ (by first | omega | (simp; omega) | (simp; done)) _ | refine New.trans ?_ (by assumption))))) (by omega) (by simp) (lit_at [0, 10, 50, 100, 300] _ _ _ rfl)).mono ?_
  rintro e w2 ⟨v2, rfl, i2, R2, G2⟩
  have b2 := one_tiny i2 (by simp)
  obtain ⟨l2, u2⟩ := b2
  have z2 := G2.size; simp at z2
  replace R2 := Lib.hid R2; replace G2 := Lib.hid (only_trans (only_alloc G1.out _) G2)
  clear i2
  go_wp2_with fail
  refine (one_any [0, 20, 100, 1000, 5000] (by simp) (by simp) w2.heap.size 5 a A m (p + 1 + 1) (by omega) hm _ (R2.out.new (by (repeat (first | exact New.refl _ | assumption | refine New.alloc ?_ _ | refine New.drew ?_ | refine New.drewN ?_ _ | refine New.setCell ?_ (by first | omega | (simp; omega) | (simp; done)) _ | refine New.trans ?_ (by assumption))))) (by omega) (by simp) (lit_at [0, 20, 100, 1000, 5000] _ _ _ rfl)).mono ?_
  rintro e w3 ⟨v3, rfl, i3, R3, G3⟩
  have b3 := one_tiny i3 (by simp)
  obtain ⟨l3, u3⟩ := b3
  have z3 := G3.size; simp at z3
  replace R3 := Lib.hid R3; replace G3 := Lib.hid (only_trans (only_alloc G2.out _) G3)
  clear i3
  go_wp2_with fail
  refine (one_any [1, 0, 2, 3, 10] (by simp) (by simp) w3.heap.size 5 a A m (p + 1 + 1 + 1) (by omega) hm _ (R3.out.new (by (repeat (first | exact New.refl _ | assumption | refine New.alloc ?_ _ | refine New.drew ?_ | refine New.drewN ?_ _ | refine New.setCell ?_ (by first | omega | (simp; omega) | (simp; done)) _ | refine New.trans ?_ (by assumption))))) (by omega) (by simp) (lit_at [1, 0, 2, 3, 10] _ _ _ rfl)).mono ?_
  rintro e w4 ⟨v4, rfl, i4, R4, G4⟩
  have b4 := one_tiny i4 (by simp)
  obtain ⟨l4, u4⟩ := b4
  have z4 := G4.size; simp at z4
  replace R4 := Lib.hid R4; replace G4 := Lib.hid (only_trans (only_alloc G3.out _) G4)
  clear i4
  go_wp2_with fail
  refine (one_any [1, 0, 1, 2, 10] (by simp) (by simp) w4.heap.size 5 a A m (p + 1 + 1 + 1 + 1) (by omega) hm _ (R4.out.new (by (repeat (first | exact New.refl _ | assumption | refine New.alloc ?_ _ | refine New.drew ?_ | refine New.drewN ?_ _ | refine New.setCell ?_ (by first | omega | (simp; omega) | (simp; done)) _ | refine New.trans ?_ (by assumption))))) (by omega) (by simp) (lit_at [1, 0, 1, 2, 10] _ _ _ rfl)).mono ?_
  rintro e w5 ⟨v5, rfl, i5, R5, G5⟩
  have b5 := one_tiny i5 (by simp)
  obtain ⟨l5, u5⟩ := b5
  have z5 := G5.size; simp at z5
  replace R5 := Lib.hid R5; replace G5 := Lib.hid (only_trans (only_alloc G4.out _) G5)
  clear i5
  have c0 := fun o => only_cells G5.out w.heap.size o (by simp) (by omega)
  have f0 := fun o => only_marks G5.out w.heap.size o (by simp) (by omega)
  simp [go_sem] at f0
  go_wp2
  refine bodyPost_ret (v := .agg #[.int .i64 (v1 + v2), .int .i64 v1, .int .i64 (v1 + v2 + v3), .int .i64 v4, .int .i64 v5]) (by simp [results, Try.results54, go_sem, c0]) rfl ?_
  exact ⟨_, _, _, _, _, rfl, tiny5 (by unfold Tiny; omega) (by unfold Tiny; omega) (by unfold Tiny; omega) (by unfold Tiny; omega) (by unfold Tiny; omega), ⟨p + 1 + 1 + 1 + 1 + 1, by omega, (((((R5.out.set (by first | omega | (simp; omega) | (simp; done)) _).set (by first | omega | (simp; omega) | (simp; done)) _).set (by first | omega | (simp; omega) | (simp; done)) _).set (by first | omega | (simp; omega) | (simp; done)) _).set (by first | omega | (simp; omega) | (simp; done)) _)⟩,
    (only_set (only_set (only_set (only_set (only_set (only_trans (only_alloc only_refl _) G5.out) (by first | omega | (simp; omega) | (simp; done)) _) (by first | omega | (simp; omega) | (simp; done)) _) (by first | omega | (simp; omega) | (simp; done)) _) (by first | omega | (simp; omega) | (simp; done)) _) (by first | omega | (simp; omega) | (simp; done)) _)⟩
set_option maxRecDepth 100000 in
set_option maxHeartbeats 4000000 in
theorem anyFlexes_any (a : Nat) (A : Option Addr) (m p : Nat) (hp : p ≤ 800000) (hm : m ≤ 2000) (w : World) (h : Rdr w a A m p) :
    Calls Try.prog 35 #[.pointer (some ⟨a, 0, none⟩)] w fun e w' => ∃ (B : Option Addr) (n c : Nat) (ys : List Int), e = .returned (.slice B n c) ∧ ys.length = n * 5 ∧ Res w.heap.size w'.heap.size w' B ys ∧ n ≤ c ∧ n ≤ 9 ∧ (∀ z ∈ ys, Tiny z) ∧ (∃ q, q ≤ p + 60 ∧ Rdr w' a A m q) ∧ w.grownBy w' (some a) := by
  have hlt : a < w.heap.size := World.block_lt_of_cell? w ⟨a, 1, none⟩ h.pos
  have HR := Lib.hid h
  clear h
  go_enter Try.func35, Try.ntmps35
  go_wp2_with fail
  refine (one_any [3, 2, 4, 1, 0, 8, 9] (by simp) (by simp) (w.heap.size + 1) 7 a A m p (by omega) hm _ (HR.out.new (by (repeat (first | exact New.refl _ | assumption | refine New.alloc ?_ _ | refine New.drew ?_ | refine New.drewN ?_ _ | refine New.setCell ?_ (by first | omega | (simp; omega) | (simp; done)) _ | refine New.trans ?_ (by assumption))))) (by omega) (by simp) (lit_at [3, 2, 4, 1, 0, 8, 9] (w.alloc (.cells #[] 40)) 3 (w.heap.size + 1) (by simp))).mono ?_
  rintro e w4 ⟨k, rfl, hk, R4, G4⟩
  have kb : 0 ≤ k ∧ k ≤ 9 := by
    simp at hk
    omega
  have z4 := G4.size; simp at z4
  have O4 := Lib.hid (((OwnFlex.empty (lo := w.heap.size) w (Nat.le_refl _)).alloc (.cells ([3, 2, 4, 1, 0, 8, 9].map (Value.int .i64)).toArray 3)).kept G4 (fun g e => by have := Option.some.inj e; omega))
  replace G4 := Lib.hid (only_trans (only_alloc (only_alloc only_refl _) _) G4); replace R4 := Lib.hid R4
  obtain ⟨j, rfl⟩ := Int.eq_ofNat_of_zero_le kb.1
  clear hk
  go_wp2
  go_loopw [3, 4] (fun v k wr => ∃ (i n : Nat) (zs : List Int), i ≤ 9 ∧ k = .int .i64 i ∧ Hid (OwnFlex w.heap.size wr v n zs) ∧ n + i ≤ 9 ∧ Hid (∀ z ∈ zs, Tiny z) ∧ Hid (∃ q, q ≤ p + 1 + 5 * n ∧ Rdr wr a A m q) ∧ Hid (w.grownBy wr (some a)) ∧ w4.heap.size ≤ wr.heap.size) (fun _ k _ => (intOf k).toNat)
  case atStart => exact ⟨j, 0, [], by omega, rfl, O4, by omega, Lib.hid (fun z h => absurd h (by simp)), Lib.hid ⟨p + 1, by omega, R4.out⟩, G4, Nat.le_refl _⟩
  case round =>
    obtain ⟨i, n, zs, hi, rfl, HO, hl, HS, HR, HG, hz⟩ := hrel
    by_cases h0 : 0 < i
    · obtain ⟨q, hq, RR⟩ := HR.out
      replace RR := Lib.hid RR
      have hi0 : (0 : Int) < (i : Int) := by omega
      have hi9 : (i : Int) ≤ 9 := by omega
      go_wp2_with fail
      refine (someFlex_any a A m q (by omega) hm _ RR.out).mono ?_
      rintro e w5 ⟨y0, y1, y2, y3, y4, rfl, hy, ⟨q5, hq5, R5⟩, G5⟩
      have z5 := G5.size
      have O5 := Lib.hid (HO.out.kept G5 (fun g e => by have := Option.some.inj e; omega))
      replace G5 := Lib.hid (only_trans HG.out G5); replace R5 := Lib.hid R5; replace hy := Lib.hid hy
      go_wp2_with (at_builtin; refine wp_appFlex rfl _ _ rfl w.heap.size _ n zs rfl (O5.out.alloc _) w5.heap.size y0 y1 y2 y3 y4 rfl (Row.oneFlex w5 _ _ _ _ _ _) (by omega) (by simp; omega) ?_; intro v6 w6 O6 G6; (have z6 := G6.size); (simp at z6))
      have R6 := Lib.hid ((R5.out.new ((New.refl _).alloc _)).ownFlex G6 (O5.out.alloc _) (by omega))
      replace G6 := Lib.hid (only_ownFlex (only_alloc G5.out _) G6 (O5.out.alloc _) (Nat.le_refl _))
      replace O6 := Lib.hid O6
      go_wp2
      go_roundw
      case rel => exact ⟨i - 1, n + 1, _, by omega, by go_num, O6, by omega, Lib.hid (fun z h => by
        rcases List.mem_append.1 h with h1 | h1
        · exact HS.out z h1
        · exact hy.out z h1), Lib.hid ⟨q5, by omega, R6.out⟩, G6, by omega⟩
      case measure => simp [intOf]; omega
    · obtain rfl : i = 0 := by omega
      obtain ⟨B, c0, rfl, hcn, Z⟩ := HO.out.res
      obtain ⟨q, hq, RR⟩ := HR.out
      have zl := HO.out.2
      replace RR := Lib.hid RR; replace Z := Lib.hid Z
      have ZL := Lib.hid zl
      have nn : (0 : Int) ≤ (n : Int) := by omega
      have n9 : (n : Int) ≤ 9 := by omega
      clear zl
      rcases Nat.eq_zero_or_pos n with rfl | hn
      · go_wp2
        go_ret
        exact ⟨B, 0, c0, zs, rfl, ZL.out, Z.out, hcn, by omega, HS.out, ⟨q, by omega, RR.out⟩, HG.out⟩
      · have hn1 : (0 : Int) < (n : Int) := by omega
        go_wp2_with fail
        refine (pick_any 16 a A m q (by omega) hm _ RR.out).mono ?_
        rintro e w6 ⟨v, rfl, v0, v1, R6, G6⟩
        replace v1 := v1 (by omega)
        have z6 := G6.size
        have Z6 := Lib.hid (Z.out.chg (Chg.of_grown G6 (Nat.le_refl a) (Nat.lt_succ_self a)) (by omega))
        replace G6 := Lib.hid (only_trans HG.out G6); replace R6 := Lib.hid R6
        by_cases hv : v = 0
        · subst hv
          obtain ⟨g, rfl, gl, gh, RW⟩ := Z6.out.2 (by have := ZL.out; omega)
          replace RW := Lib.hid RW
          go_wp2_with fail
          refine (pick_any _ a A m (q + 1) (by omega) hm _ R6.out).mono ?_
          rintro e w7 ⟨i, rfl, i0, i1, R7, G7⟩
          replace i1 := i1 (by omega)
          obtain ⟨i, rfl⟩ := Int.eq_ofNat_of_zero_le i0
          have z7 := G7.size
          have RW7 := Lib.hid (RW.out.chg (Chg.of_grown G7 (Nat.le_refl a) (Nat.lt_succ_self a)) (by omega))
          replace G7 := Lib.hid (only_trans G6.out G7); replace R7 := Lib.hid R7
          go_wp2_with fail
          refine (one_any [5, 10001] (by simp) (by simp) w7.heap.size 2 a A m (q + 1 + 1) (by omega) hm _ (R7.out.new (by (repeat (first | exact New.refl _ | assumption | refine New.alloc ?_ _ | refine New.drew ?_ | refine New.drewN ?_ _ | refine New.setCell ?_ (by first | omega | (simp; omega) | (simp; done)) _ | refine New.trans ?_ (by assumption))))) (by omega) (by simp) (lit_at [5, 10001] _ _ _ rfl)).mono ?_
          rintro e w8 ⟨x0, rfl, hx0, R8, G8⟩
          have b0 := one_tiny hx0 (by simp)
          obtain ⟨b0l, b0u⟩ := b0
          have z8 := G8.size; simp at z8
          have RW8 := Lib.hid ((RW7.out.new ((New.refl _).alloc (.cells ([5, 10001].map (Value.int .i64)).toArray 3))).chg (Chg.of_grown G8 (Nat.le_refl a) (Nat.lt_succ_self a)) (by omega))
          replace G8 := Lib.hid (only_trans (only_alloc G7.out _) G8); replace R8 := Lib.hid R8
          clear hx0
          go_wp2_with fail
          refine (one_any [-1, 6, 0] (by simp) (by simp) w8.heap.size 3 a A m (q + 1 + 1 + 1) (by omega) hm _ (R8.out.new (by (repeat (first | exact New.refl _ | assumption | refine New.alloc ?_ _ | refine New.drew ?_ | refine New.drewN ?_ _ | refine New.setCell ?_ (by first | omega | (simp; omega) | (simp; done)) _ | refine New.trans ?_ (by assumption))))) (by omega) (by simp) (lit_at [-1, 6, 0] _ _ _ rfl)).mono ?_
          rintro e w9 ⟨x1, rfl, hx1, R9, G9⟩
          have b1 := one_tiny hx1 (by simp)
          obtain ⟨b1l, b1u⟩ := b1
          have z9 := G9.size; simp at z9
          have RW9 := Lib.hid ((RW8.out.new ((New.refl _).alloc (.cells ([-1, 6, 0].map (Value.int .i64)).toArray 3))).chg (Chg.of_grown G9 (Nat.le_refl a) (Nat.lt_succ_self a)) (by omega))
          replace G9 := Lib.hid (only_trans (only_alloc G8.out _) G9); replace R9 := Lib.hid R9
          clear hx1
          go_wp2_with fail
          refine (one_any [0, 11] (by simp) (by simp) w9.heap.size 2 a A m (q + 1 + 1 + 1 + 1) (by omega) hm _ (R9.out.new (by (repeat (first | exact New.refl _ | assumption | refine New.alloc ?_ _ | refine New.drew ?_ | refine New.drewN ?_ _ | refine New.setCell ?_ (by first | omega | (simp; omega) | (simp; done)) _ | refine New.trans ?_ (by assumption))))) (by omega) (by simp) (lit_at [0, 11] _ _ _ rfl)).mono ?_
          rintro e wa ⟨x2, rfl, hx2, Ra, Ga⟩
          have b2 := one_tiny hx2 (by simp)
          obtain ⟨b2l, b2u⟩ := b2
          have za := Ga.size; simp at za
          have RWa := Lib.hid ((RW9.out.new ((New.refl _).alloc (.cells ([0, 11].map (Value.int .i64)).toArray 3))).chg (Chg.of_grown Ga (Nat.le_refl a) (Nat.lt_succ_self a)) (by omega))
          replace Ga := Lib.hid (only_trans (only_alloc G9.out _) Ga); replace Ra := Lib.hid Ra
          clear hx2
          have lz := ZL.out
          have il : i < n := by omega
          have f0 := RWa.out.f (i * 5) (by omega); have o0 := RWa.out.c (i * 5) (by omega)
          have f1 := RWa.out.f (i * 5 + 1) (by omega); have o1 := RWa.out.c (i * 5 + 1) (by omega)
          have f2 := RWa.out.f (i * 5 + 2) (by omega); have o2 := RWa.out.c (i * 5 + 2) (by omega)
          have f3 := RWa.out.f (i * 5 + 3) (by omega); have o3 := RWa.out.c (i * 5 + 3) (by omega)
          have f4 := RWa.out.f (i * 5 + 4) (by omega); have o4 := RWa.out.c (i * 5 + 4) (by omega)
          have S := Lib.hid (((((RWa.out.set_ (k := i * 5) (by omega) x0).set_ (k := i * 5 + 1) (by simp; omega) x1).set_ (k := i * 5 + 2) (by simp; omega) 10000).set_ (k := i * 5 + 3) (by simp; omega) x2).set_ (k := i * 5 + 4) (by simp; omega) 0)
          have TS : Hid (∀ z ∈ (((((zs.set (i * 5) x0).set (i * 5 + 1) x1).set (i * 5 + 2) 10000).set (i * 5 + 3) x2).set (i * 5 + 4) 0), Tiny z) := Lib.hid (tiny_set (by unfold Tiny; omega) (tiny_set (by unfold Tiny; omega) (tiny_set (by unfold Tiny; omega) (tiny_set (by unfold Tiny; omega) (tiny_set (by unfold Tiny; omega) HS.out)))))
          clear lz
          generalize zs.getD (i * 5) 0 = q0 at o0
          generalize zs.getD (i * 5 + 1) 0 = q1 at o1
          generalize zs.getD (i * 5 + 2) 0 = q2 at o2
          generalize zs.getD (i * 5 + 3) 0 = q3 at o3
          generalize zs.getD (i * 5 + 4) 0 = q4 at o4
          go_wp2
          go_ret
          exact ⟨_, n, c0, _, rfl, by simp; exact ZL.out, ⟨Nat.le_refl _, fun _ => ⟨g, rfl, gl, S.out.lt, S.out⟩⟩, hcn, by omega, TS.out, ⟨q + 1 + 1 + 1 + 1 + 1, by omega, (((((Ra.out.set (by first | omega | (simp; omega) | (simp; done)) _).set (by first | omega | (simp; omega) | (simp; done)) _).set (by first | omega | (simp; omega) | (simp; done)) _).set (by first | omega | (simp; omega) | (simp; done)) _).set (by first | omega | (simp; omega) | (simp; done)) _)⟩,
            only_set (only_set (only_set (only_set (only_set Ga.out (by first | omega | (simp; omega) | (simp; done)) _) (by first | omega | (simp; omega) | (simp; done)) _) (by first | omega | (simp; omega) | (simp; done)) _) (by first | omega | (simp; omega) | (simp; done)) _) (by first | omega | (simp; omega) | (simp; done)) _⟩
        · have hvb : (v == 0) = false := by simpa using hv
          clear hv
          go_wp2
          go_ret
          exact ⟨B, n, c0, zs, rfl, ZL.out, ⟨by have := Z6.out.1; omega, fun h => by obtain ⟨g, e, h1, h2, h3⟩ := Z6.out.2 h; exact ⟨g, e, h1, by omega, h3⟩⟩, hcn, by omega, HS.out, ⟨q + 1, by omega, R6.out⟩, G6.out⟩
/-- What drawing flexible sizes leaves. -/
def DrawnFl (w : World) (e : Ending) (w' : World) : Prop :=
  ∃ (B : Option Addr) (n c : Nat) (ys : List Int), e = .returned (.slice B n c) ∧ Sts 5 w' B n ys ∧ n ≤ c ∧ n ≤ 9 ∧ (∀ z ∈ ys, Tiny z) ∧ New w w'
end Go.Proofs.Ytnipnemhbelcaaa
