/- Drawn marks of a tree, and the arguments of the functions on marked boxes. Condition: the code can be read. -/
import Derived.Test.YtobnjagmakhgpaaYB
namespace Go.Proofs.Ytobnjagmakhgpaa
open Go.RowKit

set_option maxHeartbeats 4000000 in
theorem someMarks_any (a : Nat) (A : Option Addr) (m p : Nat) (hp : p ≤ 800000) (hm : m ≤ 2000) (B : Option Addr) (n c : Nat) (hn : n ≤ 16) (w : World) (h : Rdr w a A m p) :
    Calls Try.prog 64 #[.pointer (some ⟨a, 0, none⟩), .slice B n c] w (DrawnC 7 20 w a A m p) := by
  have hlt : a < w.heap.size := World.block_lt_of_cell? w ⟨a, 1, none⟩ h.pos
  have HR := Lib.hid h
  have n0 : (0 : Int) ≤ (n : Int) := by omega
  have n16 : (n : Int) ≤ 16 := by omega
  obtain ⟨y, hy⟩ : ∃ y, mx 1 (n : Int) = y := ⟨_, rfl⟩
  have hmx := fun (W : World) (ts : Array TypeId) (t : TypeId) => (run_mx Try.prog W ts t 1 (n : Int)).trans (by rw [hy])
  have yb : 1 ≤ y ∧ y ≤ 16 := by unfold mx at hy; omega
  clear h hy
  go_enter Try.func64, Try.ntmps64
  go_wp2_with fail
  refine (one_any [2, 3, 4, 1, 0, 6] (by simp) (by simp) (w.heap.size + 1) 6 a A m p (by omega) hm _ (HR.out.new (by (repeat (first | exact New.refl _ | assumption | refine New.alloc ?_ _ | refine New.drew ?_ | refine New.drewN ?_ _ | refine New.setCell ?_ (by first | omega | (simp; omega) | (simp; done)) _ | refine New.trans ?_ (by assumption))))) (by omega) (by simp) (lit_at [2, 3, 4, 1, 0, 6] (w.alloc (.cells #[] 3)) 3 (w.heap.size + 1) (by simp))).mono ?_
  rintro e w4 ⟨k, rfl, hk, R4, G4⟩
  have kb : 0 ≤ k ∧ k ≤ 6 := by
    simp at hk
    omega
  have z4 := G4.size; simp at z4
  have O4 := Lib.hid (((Own.empty (lo := w.heap.size) w 0 (Nat.le_refl _) rfl).alloc (.cells ([2, 3, 4, 1, 0, 6].map (Value.int .i64)).toArray 3)).kept G4 (fun g e => by have := Option.some.inj e; omega))
  replace G4 := Lib.hid (only_trans (only_alloc (only_alloc only_refl _) _) G4); replace R4 := Lib.hid R4
  obtain ⟨j, rfl⟩ := Int.eq_ofNat_of_zero_le kb.1
  clear hk
  go_wp2
  go_loopw [5, 6] (fun v k wr => ∃ (i : Nat) (zs : List Int), i ≤ 6 ∧ k = .int .i64 i ∧ Hid (Own w.heap.size wr v zs) ∧ zs.length + i ≤ 6 ∧ Hid (Sml zs) ∧ Hid (∃ q, q ≤ p + 1 + zs.length ∧ Rdr wr a A m q) ∧ Hid (w.grownBy wr (some a)) ∧ w4.heap.size ≤ wr.heap.size) (fun _ k _ => (intOf k).toNat)
  case atStart => exact ⟨j, [], by omega, rfl, O4, by simp; omega, Lib.hid Sml.nil, Lib.hid ⟨p + 1, by simp, R4.out⟩, G4, Nat.le_refl _⟩
  case round =>
    obtain ⟨i, zs, hi, rfl, HO, hl, HS, HR, HG, hz⟩ := hrel
    by_cases h0 : 0 < i
    · obtain ⟨q, hq, RR⟩ := HR.out
      replace RR := Lib.hid RR
      have hi0 : (0 : Int) < (i : Int) := by omega
      have hi9 : (i : Int) ≤ 6 := by omega
      go_wp2_with fail
      refine (pick_any y a A m q (by omega) hm _ RR.out).mono ?_
      rintro e w5 ⟨x, rfl, x0, x1, R5, G5⟩
      replace x1 := x1 (by omega)
      have xb : -1000000000 ≤ x ∧ x ≤ 1000000000 := by omega
      have z5 := G5.size
      have O5 := Lib.hid (HO.out.kept G5 (fun g e => by have := Option.some.inj e; omega))
      replace G5 := Lib.hid (only_trans HG.out G5); replace R5 := Lib.hid R5
      go_wp2_with (at_builtin; refine wp_app rfl _ _ rfl w.heap.size _ zs rfl (O5.out.alloc _) (some ⟨w5.heap.size, 0, none⟩) 1 1 [x] rfl (Ints.one w5 x _) (by omega) (by simp; omega) ?_; intro v6 w6 O6 G6; (have z6 := G6.size); (simp at z6))
      have R6 := Lib.hid ((R5.out.new ((New.refl _).alloc _)).own G6 (O5.out.alloc _) (by omega))
      replace G6 := Lib.hid (only_own (only_alloc G5.out _) G6 (O5.out.alloc _) (by omega))
      replace O6 := Lib.hid O6
      go_wp2
      go_roundw
      case rel => exact ⟨i - 1, zs ++ [x], by omega, by go_num, O6, by simp; omega, Lib.hid (HS.out.snoc xb), Lib.hid ⟨q + 1, by simp; omega, R6.out⟩, G6, by omega⟩
      case measure => simp [intOf]; omega
    · obtain rfl : i = 0 := by omega
      obtain ⟨B2, c0, rfl, _, Z⟩ := HO.out.res
      obtain ⟨q, hq, RR⟩ := HR.out
      replace RR := Lib.hid RR
      have ZI := Lib.hid (Z.ints rfl)
      clear Z hmx
      go_wp2_with fail
      refine (spoil_anyC 6 (by omega) B2 zs.length c0 zs 16 (by omega) (by omega) HS.out a A m q (by omega) hm _ RR.out ZI.out).mono ?_
      rintro e w8 ⟨B8, n8, c8, ys, rfl, I8, l8, S8, ⟨q8, lq8, R8⟩, G8, k8, P8⟩
      replace I8 := Lib.hid I8; replace S8 := Lib.hid S8; replace R8 := Lib.hid R8
      replace G8 := Lib.hid (only_trans HG.out G8); replace P8 := Lib.hid P8
      go_wp2
      go_ret
      exact ⟨B8, n8, c8, ys, rfl, I8.out, l8, S8.out, ⟨q8, by omega, R8.out⟩, G8.out, k8, P8.out⟩
/-- What drawing a tree and marks leaves; and a number. -/
def DrawnM (w : World) (e : Ending) (w' : World) : Prop := ∃ (B : Option Addr) (n c : Nat) (zs : List Int) (C : Option Addr) (m d : Nat) (ms : List Int), e = .returned (.tuple #[.slice B n c, .slice C m d]) ∧ Sts 9 w' B n zs ∧ Ints w' C m ms ∧ n ≤ 16 ∧ n ≤ c ∧ m ≤ 7 ∧ m ≤ d ∧ Sml ms ∧ ((C = none ∧ m = 0) ∨ ∃ b off, C = some ⟨b, off, none⟩) ∧ New w w'
def DrawnMA (w : World) (e : Ending) (w' : World) : Prop := ∃ (B : Option Addr) (n c : Nat) (zs : List Int) (C : Option Addr) (m d : Nat) (ms : List Int) (x : Int), e = .returned (.tuple #[.slice B n c, .slice C m d, .int .i64 x]) ∧ Sts 9 w' B n zs ∧ Ints w' C m ms ∧ n ≤ 16 ∧ n ≤ c ∧ m ≤ 7 ∧ m ≤ d ∧ Sml ms ∧ ((C = none ∧ m = 0) ∨ ∃ b off, C = some ⟨b, off, none⟩) ∧ (-1 ≤ x ∧ x ≤ 16) ∧ New w w'
set_option maxHeartbeats 2000000 in
theorem DrawDirtyRoots_any (A : Option Addr) (n c : Nat) (hn : n ≤ maxLen) (hnc : n ≤ c) (w : World) (hb : Bytes w A n) :
    Calls Try.prog 31 #[.slice A n c] w (DrawnM w) := by
  have HB := Lib.hid hb
  clear hb
  go_enter Try.func31, Try.ntmps31
  go_wp2_with fail
  refine (newReader_any A n c hn hnc _ HB.out).mono ?_
  rintro e w1 ⟨rfl, ⟨m, hm, R1⟩, N1, z1⟩
  replace R1 := Lib.hid R1; replace N1 := Lib.hid N1
  go_wp2_with fail
  refine (anyTree_any w.heap.size A m 0 (by omega) hm _ R1.out).mono ?_
  rintro e w2 ⟨B, k, d, ys, rfl, k16, kd, S2, ⟨q2, lq2, R2⟩, G2⟩
  replace S2 := Lib.hid S2; replace R2 := Lib.hid R2; replace G2 := Lib.hid G2
  go_wp2_with fail
  refine (someMarks_any w.heap.size A m q2 (by omega) hm B k d k16 _ R2.out).mono ?_
  rintro e w3 ⟨C, n3, c3, ms, rfl, I3, l3, S3, ⟨q3, lq3, R3⟩, G3, k3, P3⟩
  have G3x := G3
  replace I3 := Lib.hid I3; replace R3 := Lib.hid R3; replace G3 := Lib.hid (only_trans G2.out G3); replace P3 := Lib.hid P3; replace S3 := Lib.hid S3
  have S9 := Lib.hid (S2.out _ (Chg.of_grown G3x (Nat.zero_le _) z1))
  have I9 := Lib.hid (I3.out _ only_refl)
  have N9 := Lib.hid (new_only N1.out (Nat.le_refl _) G3.out)
  clear S2 R2 G2 I3 R3 G3 G3x
  go_wp2
  refine bodyPost_ret (v := .tuple #[.slice B k d, .slice C n3 c3]) (by simp [results, Try.results31, go_sem]) rfl ?_
  exact ⟨B, k, d, ys, C, n3, c3, ms, rfl, S9.out, I9.out, k16, kd, l3, k3, S3.out, P3.out, N9.out⟩
end Go.Proofs.Ytobnjagmakhgpaa
