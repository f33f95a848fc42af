/- Marks that are still there, in a slice of Part. Condition: the slice can be read. -/
import Derived.Test.YtpkajdnndognnaaPrtS
import Derived.Test.YtpkajdnndognnaaAnsT
namespace Go.Proofs.Ytpkajdnndognnaa
open Go.RowKit

theorem Row.allPart {w : World} {g : Nat} {y0 y1 : Int} (h : Row w g [y0, y1]) : w.cell? ⟨g, 0, none⟩ = some (.int .i64 y0) ∧ w.cell? ⟨g, 1, none⟩ = some (.int .i64 y1) :=
  ⟨h.c 0 (by simp), h.c 1 (by simp)⟩
theorem Row.onePart1 (w : World) (y0 y1 : Int) (t : TypeId) : Row (w.alloc (.cells #[.int .i64 y0, .int .i64 y1] t)) w.heap.size [y0, y1] :=
  ⟨by simp, fun i hi => by
    match i, hi with
    | 0, _ => simp [go_sem]
    | 1, _ => simp [go_sem]
    | i + 2, hi => simp at hi; omega, fun i hi => by simp [go_sem]⟩
set_option maxHeartbeats 2000000 in
theorem toPartS_anyC (A : Option Addr) (n c : Nat) (xs : List Int) (hn : n ≤ 1048576) (w : World) (hx : Sts 2 w A n xs) :
    Calls Try.prog 14 #[.slice A n c] w (AnsC 2 w xs) := by
  have hmk := fun W => mkPart n hn W
  have lx := hx.len
  have LX := Lib.hid lx
  have HX := Lib.hid hx
  clear hx lx
  go_enter Try.func14, Try.ntmps14
  go_wp2
  have R0 := Row.zeros w #[Value.int .i64 0, Value.int .i64 0] (n * 2) 41 zeroPart
  have N0 : New w (w.alloc (.cells (madeCells #[Value.int .i64 0, Value.int .i64 0] (n * 2)) 41)) := by (repeat (first | exact New.refl _ | assumption | refine New.alloc ?_ _ | refine New.drew ?_ | refine New.drewN ?_ _ | refine New.setCell ?_ (by first | omega | (simp; omega) | (simp; done)) _ | refine New.trans ?_ (by assumption)))
  have R0 := Lib.hid R0; have N0 := Lib.hid N0
  clear hmk
  generalize hW : w.alloc (.cells (madeCells #[Value.int .i64 0, Value.int .i64 0] (n * 2)) 41) = W at R0 N0 ⊢
  clear hW
  go_loopw [4] (fun i wr => ∃ k : Nat, k ≤ n ∧ i = .int .i64 k ∧ Hid (Row wr w.heap.size (upTo (k * 2) xs)) ∧ Hid (New w wr)) (fun i _ => n - (intOf i).toNat)
  case atStart => exact ⟨0, Nat.zero_le _, rfl, Lib.hid (by rw [Nat.zero_mul, upTo_zero, LX.out]; exact R0.out), N0⟩
  case round =>
    obtain ⟨k, hk, rfl, HR, HN⟩ := hrel
    by_cases hlt : k < n
    · obtain ⟨b, off, rfl, hb, hc⟩ := HX.out.at_ (by omega)
      have LU := Lib.hid (upTo_len (k * 2) xs (by rw [LX.out]; exact Nat.mul_le_mul_right 2 hk))
      have g0 : wr.cell? ⟨b, off + k * 2, none⟩ = some (.int .i64 (xs.getD (k * 2) 0)) := (HN.out.cells b _ hb).trans (hc (k * 2) (by have := idx_lt (m := 2) (j := 0) hlt (by omega); omega))
      have g1 : wr.cell? ⟨b, off + k * 2 + 1, none⟩ = some (.int .i64 (xs.getD (k * 2 + 1) 0)) := (HN.out.cells b _ hb).trans (hc (k * 2 + 1) (by have := idx_lt (m := 2) (j := 1) hlt (by omega); omega))
      have q0 : k * 2 < (upTo (k * 2) xs).length := by rw [LU.out, LX.out]; have := idx_lt (m := 2) (j := 0) hlt (by omega); omega
      have q1 : k * 2 + 1 < (upTo (k * 2) xs).length := by rw [LU.out, LX.out]; have := idx_lt (m := 2) (j := 1) hlt (by omega); omega
      have tr := HR.out.lt
      have f0 := HR.out.f (k * 2) q0; have o0 := HR.out.c (k * 2) q0
      have f1 := HR.out.f (k * 2 + 1) q1; have o1 := HR.out.c (k * 2 + 1) q1
      have HS := Lib.hid (fun (w2 : World) (h2 : New wr w2) => rowPart_step (HR.out.new h2) LX.out hlt)
      clear hc q0 q1
      generalize xs.getD (k * 2) 0 = y0 at g0 HS
      generalize xs.getD (k * 2 + 1) 0 = y1 at g1 HS
      generalize (upTo (k * 2) xs).getD (k * 2) 0 = z0 at o0
      generalize (upTo (k * 2) xs).getD (k * 2 + 1) 0 = z1 at o1
      have k0 : (0 : Int) ≤ (k : Int) := by omega
      have k1 : (k : Int) < (n : Int) := by omega
      go_wp2_with fail
      refine (toPart_any _ _ _).mono ?_
      rintro e w2 ⟨rfl, h2⟩
      have f0' := (h2.marks _ _ tr).trans f0; have o0' := (h2.cells _ _ tr).trans o0
      have f1' := (h2.marks _ _ tr).trans f1; have o1' := (h2.cells _ _ tr).trans o1
      have T2 := Lib.hid (HS.out w2 h2); have N2 := Lib.hid (HN.out.trans h2)
      clear h2 f0 o0 g0 f1 o1 g1
      go_wp2
      go_roundw
      case rel => exact ⟨k + 1, by omega, by go_num, T2, Lib.hid (New.setCell (New.setCell (N2.out) (Nat.le_refl _) _) (Nat.le_refl _) _)⟩
      case measure => simp [intOf]; omega
    · have hk' : k = n := by omega
      subst hk'
      go_wp2
      go_ret
      refine ⟨_, k, k, rfl, LX.out, Nat.le_refl _, Res.of_row ?_ (Nat.le_refl _), HN.out⟩
      have h := HR.out
      rw [← LX.out, upTo_all] at h
      exact h
end Go.Proofs.Ytpkajdnndognnaa
