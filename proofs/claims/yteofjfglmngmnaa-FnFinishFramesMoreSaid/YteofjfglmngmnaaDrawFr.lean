/- The drawn arguments of the frames' functions: short lists of small numbers. Condition: the code can be read. -/
import Derived.Test.YteofjfglmngmnaaDrawOf
namespace Go.Proofs.Yteofjfglmngmnaa
open Go.RowKit

set_option maxHeartbeats 4000000 in
theorem anyCosts_any (a : Nat) (A : Option Addr) (m p : Nat) (hp : p ≤ 800000) (hm : m ≤ 2000) (w : World) (h : Rdr w a A m p) :
    Calls Try.prog 50 #[.pointer (some ⟨a, 0, none⟩)] w (DrawnC 14 20 w a A m p) := by
  have hlt : a < w.heap.size := World.block_lt_of_cell? w ⟨a, 1, none⟩ h.pos
  have HR := Lib.hid h
  clear h
  go_enter Try.func50, Try.ntmps50
  go_wp2_with fail
  refine (one_any [4, 6, 3, 1, 0, 12, 13] (by simp) (by simp) (w.heap.size + 1) 7 a A m p (by omega) hm _ (HR.out.new (by (repeat (first | exact New.refl _ | assumption | refine New.alloc ?_ _ | refine New.drew ?_ | refine New.drewN ?_ _ | refine New.setCell ?_ (by first | omega | (simp; omega) | (simp; done)) _ | refine New.trans ?_ (by assumption))))) (by omega) (by simp) (lit_at [4, 6, 3, 1, 0, 12, 13] (w.alloc (.cells #[] 3)) 3 (w.heap.size + 1) (by simp))).mono ?_
  rintro e w4 ⟨k, rfl, hk, R4, G4⟩
  have kb : 0 ≤ k ∧ k ≤ 13 := by
    simp at hk
    omega
  have z4 := G4.size; simp at z4
  have O4 := Lib.hid (((Own.empty (lo := w.heap.size) w 0 (Nat.le_refl _) rfl).alloc (.cells ([4, 6, 3, 1, 0, 12, 13].map (Value.int .i64)).toArray 3)).kept G4 (fun g e => by have := Option.some.inj e; omega))
  replace G4 := Lib.hid (only_trans (only_alloc (only_alloc only_refl _) _) G4); replace R4 := Lib.hid R4
  obtain ⟨j, rfl⟩ := Int.eq_ofNat_of_zero_le kb.1
  clear hk
  go_wp2
  go_loopw [3, 4] (fun v k wr => ∃ (i : Nat) (zs : List Int), i ≤ 13 ∧ k = .int .i64 i ∧ Hid (Own w.heap.size wr v zs) ∧ zs.length + i ≤ 13 ∧ Hid (Sml zs) ∧ Hid (∃ q, q ≤ p + 1 + zs.length ∧ Rdr wr a A m q) ∧ Hid (w.grownBy wr (some a)) ∧ w4.heap.size ≤ wr.heap.size) (fun _ k _ => (intOf k).toNat)
  case atStart => exact ⟨j, [], by omega, rfl, O4, by simp; omega, Lib.hid Sml.nil, Lib.hid ⟨p + 1, by simp, R4.out⟩, G4, Nat.le_refl _⟩
  case round =>
    obtain ⟨i, zs, hi, rfl, HO, hl, HS, HR, HG, hz⟩ := hrel
    by_cases h0 : 0 < i
    · obtain ⟨q, hq, RR⟩ := HR.out
      replace RR := Lib.hid RR
      have hi0 : (0 : Int) < (i : Int) := by omega
      have hi9 : (i : Int) ≤ 13 := by omega
      go_wp2_with fail
      refine (one_any [10, 0, 5, 100, 1000, 33] (by simp) (by simp) wr.heap.size 6 a A m q (by omega) hm _ (RR.out.new (by (repeat (first | exact New.refl _ | assumption | refine New.alloc ?_ _ | refine New.drew ?_ | refine New.drewN ?_ _ | refine New.setCell ?_ (by first | omega | (simp; omega) | (simp; done)) _ | refine New.trans ?_ (by assumption))))) (by omega) (by simp) (lit_at [10, 0, 5, 100, 1000, 33] _ _ _ rfl)).mono ?_
      rintro e w5 ⟨y, rfl, hy, R5, G5⟩
      have yb := one_sml hy (by simp)
      have z5 := G5.size; simp at z5
      have O5 := Lib.hid ((HO.out.alloc (.cells ([10, 0, 5, 100, 1000, 33].map (Value.int .i64)).toArray 3)).kept G5 (fun g e => by have := Option.some.inj e; omega))
      replace G5 := Lib.hid (only_trans (only_alloc HG.out _) G5); replace R5 := Lib.hid R5
      clear hy
      go_wp2_with (at_builtin; refine wp_app rfl _ _ rfl w.heap.size _ zs rfl (O5.out.alloc _) (some ⟨w5.heap.size, 0, none⟩) 1 1 [y] rfl (Ints.one w5 y _) (by omega) (by simp; omega) ?_; intro v6 w6 O6 G6; (have z6 := G6.size); (simp at z6))
      have R6 := Lib.hid ((R5.out.new ((New.refl _).alloc _)).own G6 (O5.out.alloc _) (by omega))
      replace G6 := Lib.hid (only_own (only_alloc G5.out _) G6 (O5.out.alloc _) (by omega))
      replace O6 := Lib.hid O6
      go_wp2
      go_roundw
      case rel => exact ⟨i - 1, zs ++ [y], by omega, by go_num, O6, by simp; omega, Lib.hid (HS.out.snoc yb), Lib.hid ⟨q + 1, by simp; omega, R6.out⟩, G6, by omega⟩
      case measure => simp [intOf]; omega
    · obtain rfl : i = 0 := by omega
      obtain ⟨B, c0, rfl, _, Z⟩ := HO.out.res
      obtain ⟨q, hq, RR⟩ := HR.out
      replace RR := Lib.hid RR
      have ZI := Lib.hid (Z.ints rfl)
      clear Z
      go_wp2_with fail
      refine (spoil_anyC 13 (by omega) B zs.length c0 zs 1001 (by omega) (by omega) HS.out a A m q (by omega) hm _ RR.out ZI.out).mono ?_
      rintro e w8 ⟨B8, n8, c8, ys, rfl, I8, l8, S8, ⟨q8, lq8, R8⟩, G8, k8, P8⟩
      replace I8 := Lib.hid I8; replace S8 := Lib.hid S8; replace R8 := Lib.hid R8
      replace G8 := Lib.hid (only_trans HG.out G8); replace P8 := Lib.hid P8
      go_wp2
      go_ret
      exact ⟨B8, n8, c8, ys, rfl, I8.out, l8, S8.out, ⟨q8, by omega, R8.out⟩, G8.out, k8, P8.out⟩
/-- What drawing two lists leaves. -/
def DrawnLL (N : Nat) (w : World) (e : Ending) (w' : World) : Prop :=
  ∃ (B : Option Addr) (n c : Nat) (ys : List Int) (C : Option Addr) (m d : Nat) (zs : List Int), e = .returned (.tuple #[.slice B n c, .slice C m d]) ∧ Ints w' B n ys ∧ Ints w' C m zs ∧ n ≤ N ∧ m ≤ N ∧ Sml ys ∧ Sml zs ∧ (n ≤ c ∧ m ≤ d) ∧ (((B = none ∧ n = 0) ∨ ∃ b off, B = some ⟨b, off, none⟩) ∧ ((C = none ∧ m = 0) ∨ ∃ b off, C = some ⟨b, off, none⟩)) ∧ New w w'
set_option maxHeartbeats 2000000 in
theorem DrawFinishFrames_any (A : Option Addr) (n c : Nat) (hn : n ≤ maxLen) (hnc : n ≤ c) (w : World) (hb : Bytes w A n) :
    Calls Try.prog 15 #[.slice A n c] w (DrawnLL 14 w) := by
  have HB := Lib.hid hb
  clear hb
  go_enter Try.func15, Try.ntmps15
  go_wp2_with fail
  refine (newReader_any A n c hn hnc _ HB.out).mono ?_
  rintro e w1 ⟨rfl, ⟨m, hm, R1⟩, N1, z1⟩
  replace R1 := Lib.hid R1; replace N1 := Lib.hid N1
  go_wp2_with fail
  refine (anyCosts_any w.heap.size A m 0 (by omega) hm _ R1.out).mono ?_
  rintro e w2 ⟨B2, n2, c2, ys, rfl, I2, l2, S2, ⟨q2, lq2, R2⟩, G2, k2, P2⟩
  replace I2 := Lib.hid I2; replace S2 := Lib.hid S2; replace R2 := Lib.hid R2; replace G2 := Lib.hid G2
  go_wp2_with fail
  refine (anyCosts_any w.heap.size A m q2 (by omega) hm _ R2.out).mono ?_
  rintro e w3 ⟨B3, n3, c3, zs, rfl, I3, l3, S3, _, G3, k3, P3⟩
  have PP := Lib.hid (And.intro P2 P3)
  have I2' := Lib.hid (I2.out _ G3)
  have N3 := Lib.hid (new_only N1.out (Nat.le_refl _) (only_trans G2.out G3))
  have I3' := Lib.hid (I3 _ only_refl)
  clear I2 I3 G3 P2 P3
  go_wp2
  refine bodyPost_ret (v := .tuple #[.slice B2 n2 c2, .slice B3 n3 c3]) (by simp [results, Try.results15, go_sem]) rfl ?_
  exact ⟨B2, n2, c2, ys, B3, n3, c3, zs, rfl, I2'.out, I3'.out, l2, l3, S2.out, S3, ⟨k2, k3⟩, PP.out, N3.out⟩
set_option maxHeartbeats 1000000 in
theorem DrawWorkLeft_any (A : Option Addr) (n c : Nat) (hn : n ≤ maxLen) (hnc : n ≤ c) (w : World) (hb : Bytes w A n) :
    Calls Try.prog 19 #[.slice A n c] w (DrawnLL 14 w) := by
  have HB := Lib.hid hb
  clear hb
  go_enter Try.func19, Try.ntmps19
  go_wp2_with fail
  refine (DrawFinishFrames_any A n c hn hnc _ HB.out).mono ?_
  rintro e w1 ⟨B2, n2, c2, ys, B3, n3, c3, zs, rfl, H⟩
  replace H := Lib.hid H
  go_wp2
  refine bodyPost_ret (v := .tuple #[.slice B2 n2 c2, .slice B3 n3 c3]) (by simp [results, Try.results19, go_sem]) rfl ?_
  exact ⟨B2, n2, c2, ys, B3, n3, c3, zs, rfl, H.out⟩
set_option maxHeartbeats 1000000 in
theorem DrawIdleTime_any (A : Option Addr) (n c : Nat) (hn : n ≤ maxLen) (hnc : n ≤ c) (w : World) (hb : Bytes w A n) :
    Calls Try.prog 22 #[.slice A n c] w (DrawnLL 14 w) := by
  have HB := Lib.hid hb
  clear hb
  go_enter Try.func22, Try.ntmps22
  go_wp2_with fail
  refine (DrawFinishFrames_any A n c hn hnc _ HB.out).mono ?_
  rintro e w1 ⟨B2, n2, c2, ys, B3, n3, c3, zs, rfl, H⟩
  replace H := Lib.hid H
  go_wp2
  refine bodyPost_ret (v := .tuple #[.slice B2 n2 c2, .slice B3 n3 c3]) (by simp [results, Try.results22, go_sem]) rfl ?_
  exact ⟨B2, n2, c2, ys, B3, n3, c3, zs, rfl, H.out⟩
/-- What drawing a list and a number leaves. -/
def DrawnLN (N : Nat) (w : World) (e : Ending) (w' : World) : Prop :=
  ∃ (B : Option Addr) (n c : Nat) (ys : List Int) (x : Int), e = .returned (.tuple #[.slice B n c, .int .i64 x]) ∧ Ints w' B n ys ∧ n ≤ N ∧ Sml ys ∧ (-1000000000 ≤ x ∧ x ≤ 1000000000) ∧ New w w'
end Go.Proofs.Yteofjfglmngmnaa
