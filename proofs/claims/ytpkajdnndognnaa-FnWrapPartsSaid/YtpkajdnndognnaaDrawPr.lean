/- Drawn parts of lines: a short list of structs of small numbers; with a width and a gap. Condition: the code can be read. -/
import Derived.Test.YtpkajdnndognnaaPrtA
import Derived.Test.YtpkajdnndognnaaDrawOf
namespace Go.Proofs.Ytpkajdnndognnaa
open Go.RowKit

/-- A small number. -/
def Tiny2 (z : Int) : Prop := -10001 ≤ z ∧ (z ≤ 120 ∨ z = 10001)
theorem tiny2 {a b : Int} (h0 : Tiny2 a) (h1 : Tiny2 b) : ∀ z ∈ [a, b], Tiny2 z := by
  intro z hz
  simp at hz
  rcases hz with rfl | rfl <;> assumption
theorem tiny2_set {xs : List Int} {k : Nat} {z : Int} (hz : Tiny2 z) (h : ∀ y ∈ xs, Tiny2 y) : ∀ y ∈ xs.set k z, Tiny2 y := fun y hy => by
  rcases List.mem_or_eq_of_mem_set hy with h1 | h1
  · exact h y h1
  · rw [h1]; exact hz
theorem tiny2_app {xs ys : List Int} (h : ∀ y ∈ xs, Tiny2 y) (k : ∀ y ∈ ys, Tiny2 y) : ∀ y ∈ xs ++ ys, Tiny2 y := fun y hy => by
  rcases List.mem_append.1 hy with h1 | h1
  · exact h y h1
  · exact k y h1
theorem one_tiny2 {zs : List Int} {z : Int} (h : z ∈ zs) (hz : ∀ y ∈ zs, -10001 ≤ y ∧ (y ≤ 120 ∨ y = 10001)) : -10001 ≤ z ∧ (z ≤ 120 ∨ z = 10001) := hz z h
set_option maxRecDepth 100000 in
set_option maxHeartbeats 4000000 in
theorem anyParts_any (a : Nat) (A : Option Addr) (m p : Nat) (hp : p ≤ 800000) (hm : m ≤ 2000) (w : World) (h : Rdr w a A m p) :
    Calls Try.prog 53 #[.pointer (some ⟨a, 0, none⟩)] w fun e w' => ∃ (B : Option Addr) (n c : Nat) (ys : List Int), e = .returned (.slice B n c) ∧ ys.length = n * 2 ∧ Res w.heap.size w'.heap.size w' B ys ∧ n ≤ c ∧ n ≤ 13 ∧ (∀ z ∈ ys, Tiny2 z) ∧ (∃ q, q ≤ p + 60 ∧ Rdr w' a A m q) ∧ w.grownBy w' (some a) := by
  have hlt : a < w.heap.size := World.block_lt_of_cell? w ⟨a, 1, none⟩ h.pos
  have HR := Lib.hid h
  clear h
  go_enter Try.func53, Try.ntmps53
  go_wp2_with fail
  refine (one_any [4, 6, 3, 1, 0, 12, 13] (by simp) (by simp) (w.heap.size + 1) 7 a A m p (by omega) hm _ (HR.out.new (by (repeat (first | exact New.refl _ | assumption | refine New.alloc ?_ _ | refine New.drew ?_ | refine New.drewN ?_ _ | refine New.setCell ?_ (by first | omega | (simp; omega) | (simp; done)) _ | refine New.trans ?_ (by assumption))))) (by omega) (by simp) (lit_at [4, 6, 3, 1, 0, 12, 13] (w.alloc (.cells #[] 41)) 3 (w.heap.size + 1) (by simp))).mono ?_
  rintro e w4 ⟨k, rfl, hk, R4, G4⟩
  have kb : 0 ≤ k ∧ k ≤ 13 := by
    simp at hk
    omega
  have z4 := G4.size; simp at z4
  have O4 := Lib.hid (((OwnPart.empty (lo := w.heap.size) w (Nat.le_refl _)).alloc (.cells ([4, 6, 3, 1, 0, 12, 13].map (Value.int .i64)).toArray 3)).kept G4 (fun g e => by have := Option.some.inj e; omega))
  replace G4 := Lib.hid (only_trans (only_alloc (only_alloc only_refl _) _) G4); replace R4 := Lib.hid R4
  obtain ⟨j, rfl⟩ := Int.eq_ofNat_of_zero_le kb.1
  clear hk
  go_wp2
  go_loopw [3, 4] (fun v k wr => ∃ (i n : Nat) (zs : List Int), i ≤ 13 ∧ k = .int .i64 i ∧ Hid (OwnPart w.heap.size wr v n zs) ∧ n + i ≤ 13 ∧ Hid (∀ z ∈ zs, Tiny2 z) ∧ Hid (∃ q, q ≤ p + 1 + 2 * n ∧ Rdr wr a A m q) ∧ Hid (w.grownBy wr (some a)) ∧ w4.heap.size ≤ wr.heap.size) (fun _ k _ => (intOf k).toNat)
  case atStart => exact ⟨j, 0, [], by omega, rfl, O4, by omega, Lib.hid (fun z h => absurd h (by simp)), Lib.hid ⟨p + 1, by omega, R4.out⟩, G4, Nat.le_refl _⟩
  case round =>
    obtain ⟨i, n, zs, hi, rfl, HO, hl, HS, HR, HG, hz⟩ := hrel
    by_cases h0 : 0 < i
    · obtain ⟨q, hq, RR⟩ := HR.out
      replace RR := Lib.hid RR
      have hi0 : (0 : Int) < (i : Int) := by omega
      have hi9 : (i : Int) ≤ 13 := by omega
      go_wp2_with fail
      refine (one_any [30, 50, 10, 0, 120] (by simp) (by simp) wr.heap.size 5 a A m (q) (by omega) hm _ (RR.out.new (by (repeat (first | exact New.refl _ | assumption | refine New.alloc ?_ _ | refine New.drew ?_ | refine New.drewN ?_ _ | refine New.setCell ?_ (by first | omega | (simp; omega) | (simp; done)) _ | refine New.trans ?_ (by assumption))))) (by omega) (by simp) (lit_at [30, 50, 10, 0, 120] _ _ _ rfl)).mono ?_
      rintro e w5 ⟨y, rfl, hy, R5, G5⟩
      have kky := one_tiny2 hy (by simp)
      obtain ⟨kkyl, kkyu⟩ := kky
      have z5 := G5.size; simp at z5
      have O5 := Lib.hid ((HO.out.alloc (.cells ([30, 50, 10, 0, 120].map (Value.int .i64)).toArray 3)).kept G5 (fun g e => by have := Option.some.inj e; omega))
      replace G5 := Lib.hid (only_trans (only_alloc HG.out _) G5); replace R5 := Lib.hid R5
      clear hy
      go_wp2_with fail
      refine (one_any [10, 20, 5, 0] (by simp) (by simp) w5.heap.size 4 a A m (q + 1) (by omega) hm _ (R5.out.new (by (repeat (first | exact New.refl _ | assumption | refine New.alloc ?_ _ | refine New.drew ?_ | refine New.drewN ?_ _ | refine New.setCell ?_ (by first | omega | (simp; omega) | (simp; done)) _ | refine New.trans ?_ (by assumption))))) (by omega) (by simp) (lit_at [10, 20, 5, 0] _ _ _ rfl)).mono ?_
      rintro e w8 ⟨x, rfl, hx, R8, G8⟩
      have kkx := one_tiny2 hx (by simp)
      obtain ⟨kkxl, kkxu⟩ := kkx
      have z8 := G8.size; simp at z8
      have O8 := Lib.hid ((O5.out.alloc (.cells ([10, 20, 5, 0].map (Value.int .i64)).toArray 3)).kept G8 (fun g e => by have := Option.some.inj e; omega))
      replace G8 := Lib.hid (only_trans (only_alloc G5.out _) G8); replace R8 := Lib.hid R8
      clear hx
      go_wp2_with (at_builtin; refine wp_appPart rfl _ _ rfl w.heap.size _ n zs rfl (O8.out.alloc _) w8.heap.size y x rfl (Row.onePart w8 _ _ _) (by omega) (by simp; omega) ?_; intro v9 w9 O9 G9; (have z9 := G9.size); (simp at z9))
      have R9 := Lib.hid ((R8.out.new ((New.refl _).alloc _)).ownPart G9 (O8.out.alloc _) (by omega))
      replace G9 := Lib.hid (only_ownPart (only_alloc G8.out _) G9 (O8.out.alloc _) (Nat.le_refl _))
      replace O9 := Lib.hid O9
      go_wp2
      go_roundw
      case rel => exact ⟨i - 1, n + 1, _, by omega, by go_num, O9, by omega, Lib.hid (tiny2_app HS.out (tiny2 (by unfold Tiny2; omega) (by unfold Tiny2; omega))), Lib.hid ⟨q + 1 + 1, by omega, R9.out⟩, G9, by omega⟩
      case measure => simp [intOf]; omega
    · obtain rfl : i = 0 := by omega
      obtain ⟨B, c0, rfl, hcn, Z⟩ := HO.out.res
      obtain ⟨q, hq, RR⟩ := HR.out
      have zl := HO.out.2
      replace RR := Lib.hid RR; replace Z := Lib.hid Z
      have ZL := Lib.hid zl
      have nn : (0 : Int) ≤ (n : Int) := by omega
      have n9 : (n : Int) ≤ 13 := by omega
      clear zl
      rcases Nat.eq_zero_or_pos n with rfl | hn
      · go_wp2
        go_ret
        exact ⟨B, 0, c0, zs, rfl, ZL.out, Z.out, hcn, by omega, HS.out, ⟨q, by omega, RR.out⟩, HG.out⟩
      · have hn1 : (0 : Int) < (n : Int) := by omega
        go_wp2_with fail
        refine (pick_any 16 a A m q (by omega) hm _ RR.out).mono ?_
        rintro e w6 ⟨v, rfl, v0, v1, R6, G6⟩
        replace v1 := v1 (by omega)
        have z6 := G6.size
        have Z6 := Lib.hid (Z.out.chg (Chg.of_grown G6 (Nat.le_refl a) (Nat.lt_succ_self a)) (by omega))
        replace G6 := Lib.hid (only_trans HG.out G6); replace R6 := Lib.hid R6
        by_cases hv : v = 0
        · subst hv
          obtain ⟨g, rfl, gl, gh, RW⟩ := Z6.out.2 (by have := ZL.out; omega)
          replace RW := Lib.hid RW
          go_wp2_with fail
          refine (pick_any _ a A m (q + 1) (by omega) hm _ R6.out).mono ?_
          rintro e w7 ⟨i, rfl, i0, i1, R7, G7⟩
          replace i1 := i1 (by omega)
          obtain ⟨i, rfl⟩ := Int.eq_ofNat_of_zero_le i0
          have z7 := G7.size
          have RW7 := Lib.hid (RW.out.chg (Chg.of_grown G7 (Nat.le_refl a) (Nat.lt_succ_self a)) (by omega))
          replace G7 := Lib.hid (only_trans G6.out G7); replace R7 := Lib.hid R7
          go_wp2_with fail
          refine (one_any [-1, 10001] (by simp) (by simp) w7.heap.size 2 a A m (q + 1 + 1) (by omega) hm _ (R7.out.new (by (repeat (first | exact New.refl _ | assumption | refine New.alloc ?_ _ | refine New.drew ?_ | refine New.drewN ?_ _ | refine New.setCell ?_ (by first | omega | (simp; omega) | (simp; done)) _ | refine New.trans ?_ (by assumption))))) (by omega) (by simp) (lit_at [-1, 10001] _ _ _ rfl)).mono ?_
          rintro e w8 ⟨x0, rfl, hx0, R8, G8⟩
          have kkx0 := one_tiny2 hx0 (by simp)
          obtain ⟨kkx0l, kkx0u⟩ := kkx0
          have z8 := G8.size; simp at z8
          have RW8 := Lib.hid ((RW7.out.new ((New.refl _).alloc (.cells ([-1, 10001].map (Value.int .i64)).toArray 3))).chg (Chg.of_grown G8 (Nat.le_refl a) (Nat.lt_succ_self a)) (by omega))
          replace G8 := Lib.hid (only_trans (only_alloc G7.out _) G8); replace R8 := Lib.hid R8
          clear hx0
          have lz := ZL.out
          have il : i < n := by omega
          have f0 := RW8.out.f (i * 2) (by omega); have o0 := RW8.out.c (i * 2) (by omega)
          have S := Lib.hid ((RW8.out).set_ (k := i * 2) (by omega) x0)
          have TS : Hid (∀ z ∈ (zs.set (i * 2) x0), Tiny2 z) := Lib.hid (tiny2_set (by unfold Tiny2; omega) HS.out)
          clear lz
          generalize zs.getD (i * 2) 0 = q0 at o0
          go_wp2
          go_ret
          exact ⟨_, n, c0, _, rfl, by simp; exact ZL.out, ⟨Nat.le_refl _, fun _ => ⟨g, rfl, gl, S.out.lt, S.out⟩⟩, hcn, by omega, TS.out, ⟨q + 1 + 1 + 1, by omega, (R8.out.set (by first | omega | (simp; omega) | (simp; done)) _)⟩, (only_set G8.out (by first | omega | (simp; omega) | (simp; done)) _)⟩
        · have hvb : (v == 0) = false := by simpa using hv
          clear hv
          go_wp2
          go_ret
          exact ⟨B, n, c0, zs, rfl, ZL.out, ⟨by have := Z6.out.1; omega, fun h => by obtain ⟨g, e, h1, h2, h3⟩ := Z6.out.2 h; exact ⟨g, e, h1, by omega, h3⟩⟩, hcn, by omega, HS.out, ⟨q + 1, by omega, R6.out⟩, G6.out⟩
/-- What drawing parts leaves. -/
def DrawnPr (w : World) (e : Ending) (w' : World) : Prop :=
  ∃ (B : Option Addr) (n c : Nat) (ys : List Int), e = .returned (.slice B n c) ∧ Sts 2 w' B n ys ∧ n ≤ c ∧ n ≤ 13 ∧ (∀ z ∈ ys, Tiny2 z) ∧ New w w'
set_option maxHeartbeats 1000000 in
theorem DrawValidParts_any (A : Option Addr) (n c : Nat) (hn : n ≤ maxLen) (hnc : n ≤ c) (w : World) (hb : Bytes w A n) :
    Calls Try.prog 33 #[.slice A n c] w (DrawnPr w) := by
  have HB := Lib.hid hb
  clear hb
  go_enter Try.func33, Try.ntmps33
  go_wp2_with fail
  refine (newReader_any A n c hn hnc _ HB.out).mono ?_
  rintro e w1 ⟨rfl, ⟨m, hm, R1⟩, N1, z1⟩
  replace R1 := Lib.hid R1; replace N1 := Lib.hid N1
  go_wp2_with fail
  refine (anyParts_any w.heap.size A m 0 (by omega) hm _ R1.out).mono ?_
  rintro e w2 ⟨B, k, c2, ys, rfl, l2, Z2, hkc, hk9, T2, _, G2⟩
  have S2 := Lib.hid (Sts.of_res (m := 1) Z2 l2)
  have N2 := Lib.hid (new_only N1.out (Nat.le_refl _) G2)
  replace T2 := Lib.hid T2
  clear Z2 l2 G2
  go_wp2
  go_ret
  exact ⟨B, k, c2, ys, rfl, S2.out, hkc, hk9, T2.out, N2.out⟩
end Go.Proofs.Ytpkajdnndognnaa
