/- Lists of pairs of numbers, compared by the laws. Conditions: the lists can be read. -/
import Derived.Test.YtnipnemhbelcaaaLstP
import Derived.StillTailTactics
namespace Go.Proofs.Ytnipnemhbelcaaa
open Go.RowKit

set_option maxRecDepth 100000 in
set_option maxHeartbeats 2000000 in
theorem equalPrs_any (lo hi lo2 hi2 : Nat) (A B : Option Addr) (n m c d : Nat) (zs : List Int) (hn : n ≤ 1048576) (hnm : n = m) (w : World) (hx : Prs lo hi w A n zs) (hy : Prs lo2 hi2 w B m zs) :
    Calls Try.prog 23 #[.slice A n c, .slice B m d] w fun e w' => e = .returned (.bool true) ∧ New w w' := by
  subst hnm
  have HX := Lib.hid hx; have HY := Lib.hid hy
  clear hx hy
  go_enter Try.func23, Try.ntmps23
  go_wp2
  go_loopw [5] (fun i wr => ∃ k : Nat, k ≤ n ∧ i = .int .i64 k ∧ Hid (New w wr)) (fun i _ => n - (intOf i).toNat)
  case atStart => exact ⟨0, Nat.zero_le _, rfl, Lib.hid (New.refl _)⟩
  case round =>
    obtain ⟨k, hk, rfl, HN⟩ := hrel
    by_cases hlt : k < n
    · obtain ⟨g, h, rfl, P⟩ := HX.out.2 (by omega)
      obtain ⟨g', h', rfl, P'⟩ := HY.out.2 (by omega)
      have g0 := (HN.out.cells g k (by have := P.g1; have := HX.out.1; omega)).trans (P.c k hlt)
      have g0' := (HN.out.cells g' k (by have := P'.g1; have := HY.out.1; omega)).trans (P'.c k hlt)
      have I1 := Lib.hid (fun W (hW : New w W) => P.pair hlt hW)
      have I2 := Lib.hid (fun W (hW : New w W) => P'.pair hlt hW)
      clear P P'
      generalize h k = a at *
      generalize h' k = a' at *
      have k0 : (0 : Int) ≤ (k : Int) := by omega
      have k1 : (k : Int) < (n : Int) := by omega
      go_wp2
      go_still_tail 8, (by kernel_rfl)
      change wpList _ _ _ _ _ wr.drew
      have HN1 := Lib.hid HN.out.drew
      generalize wr.drew = w1 at HN1 ⊢
      go_wp2_with fail
      refine (equalInts_any _ _ 2 2 _ _ _ _ (by omega) (by omega) _ (I1.out _ HN1.out) (I2.out _ HN1.out)).mono ?_
      rw [decide_eq_true rfl]
      rintro e w2 ⟨rfl, h2⟩
      have HN2 := Lib.hid (HN1.out.trans h2)
      clear h2
      go_wp2
      go_roundw
      case rel => exact ⟨k + 1, by omega, by go_num, HN2⟩
      case measure => simp [intOf]; omega
    · obtain rfl : n = k := by omega
      go_wp2
      go_ret
      exact ⟨rfl, HN.out⟩
theorem PrG.part {lo hi : Nat} {w : World} {g n k : Nat} {h : Nat → Nat} {zs zs' : List Int} (p : PrG lo hi w g h n zs) (hk : k ≤ n) (he : ∀ i, i < k → zs'.getD (i * 2) 0 = zs.getD (i * 2) 0 ∧ zs'.getD (i * 2 + 1) 0 = zs.getD (i * 2 + 1) 0) : PrG lo hi w g h k zs' :=
  ⟨p.g0, p.g1, fun i hi => p.c i (by omega), fun i hi => p.h0 i (by omega), fun i hi => p.h1 i (by omega), fun i hi => p.hg i (by omega), fun i j hi hj e => p.inj i j (by omega) (by omega) e,
    fun i hi => by rw [(he i hi).1, (he i hi).2]; exact p.r i (by omega)⟩
theorem Prs.part {lo hi : Nat} {w : World} {A : Option Addr} {n k : Nat} {zs zs' : List Int} (p : Prs lo hi w A n zs) (hk : k ≤ n) (he : ∀ i, i < k → zs'.getD (i * 2) 0 = zs.getD (i * 2) 0 ∧ zs'.getD (i * 2 + 1) 0 = zs.getD (i * 2 + 1) 0) : Prs lo hi w A k zs' :=
  ⟨p.1, fun h0 => by obtain ⟨g, h, e, q⟩ := p.2 (by omega); exact ⟨g, h, e, q.part hk he⟩⟩
theorem lit2 (w : World) (a b : Int) (t : TypeId) : Ints (w.alloc (.cells #[.int .i64 a, .int .i64 b] t)) (some ⟨w.heap.size, 0, none⟩) 2 [a, b] :=
  ⟨rfl, fun _ => ⟨w.heap.size, 0, rfl, by simp, fun i hi => by
    match i, hi with
    | 0, _ => simp [go_sem]
    | 1, _ => simp [go_sem]⟩⟩
end Go.Proofs.Ytnipnemhbelcaaa
