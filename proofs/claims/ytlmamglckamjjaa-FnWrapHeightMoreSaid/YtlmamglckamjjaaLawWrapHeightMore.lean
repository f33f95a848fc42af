/- The law FnWrapHeightMore, walked: a wider screen needs no more lines. Condition: the code can be read. -/
import Derived.Test.YtlmamglckamjjaaDrawPl
import Derived.Test.YtlmamglckamjjaaPrtX
import Derived.Test.YtlmamglckamjjaaPrtY
namespace Go.Proofs.Ytlmamglckamjjaa
open Go.RowKit

set_option maxHeartbeats 4000000 in
theorem lawWrapHeightMore (A : Option Addr) (n c : Nat) (hn : n ≤ maxLen) (hnc : n ≤ c) (w : World) (hb : Bytes w A n) :
    Calls Try.prog 15 #[.slice A n c] w fun e w' => e = .returned (.bool true) ∧ New w w' := by
  have HB := Lib.hid hb; have HM := Lib.hid hn
  clear hb
  unfold maxLen at hn
  by_cases hbig : 1048576 < n
  · go_enter Try.func15, Try.ntmps15
    go_wp2
    go_ret
    exact ⟨rfl, by (repeat (first | exact New.refl _ | assumption | refine New.alloc ?_ _ | refine New.drew ?_ | refine New.drewN ?_ _ | refine New.setCell ?_ (by first | omega | (simp; omega) | (simp; done)) _ | refine New.trans ?_ (by assumption)))⟩
  have hm : (n : Int) ≤ 1048576 := by omega
  have hm0 : (0 : Int) ≤ (n : Int) := by omega
  go_enter Try.func15, Try.ntmps15
  go_wp2_with fail
  refine (DrawWrapHeight_any A n c HM.out hnc _ HB.out).mono ?_
  rintro e w1 ⟨B1, m1, d1, ys, wd, gp, rfl, I1, dc, l1, T1, wb, gb, N1a⟩
  have s1 := N1a.le
  have N1 := Lib.hid ((New.refl w).trans N1a); clear N1a
  replace I1 := Lib.hid I1
  obtain ⟨wb0, wb1⟩ := wb
  have y0 : (0 : Int) ≤ (m1 : Int) := by omega
  have y1 : (m1 : Int) ≤ 13 := by omega
  have C1 := Lib.hid (fun W (hW : New w1 W) => WrapHeight_any B1 m1 d1 ys wd gp (by omega) dc W (I1.out.new hW))
  have C2 := Lib.hid (fun W (hW : New w1 W) => SWrapHeight_any B1 m1 d1 ys wd gp (by omega) W (I1.out.new hW))
  have siw : IntKind.i64.wrap (wd + 30) = wd + 30 := IntWalk.i64_in _ (by omega)
  clear T1
  cases hv : wrOk ys m1 wd gp
  · have er : whA ys m1 wd gp = -1 := by rw [whA, hv]; rfl
    simp only [er] at C1 C2
    clear hv er
    go_wp2_with fail
    refine (C1.out _ (New.refl _)).mono ?_
    rintro e w2 ⟨rfl, N2a⟩
    have NA := Lib.hid N2a
    have N2 := Lib.hid (N1.out.trans N2a); clear N2a
    go_wp2_with fail
    refine (C2.out _ NA.out).mono ?_
    rintro e w3 ⟨rfl, N3a⟩
    have NB := Lib.hid (NA.out.trans N3a)
    have N3 := Lib.hid (N2.out.trans N3a); clear N3a
    go_wp2_with fail
    refine (C2.out _ NB.out).mono ?_
    rintro e w4 ⟨rfl, N4a⟩
    have N4 := Lib.hid (N3.out.trans N4a); clear N4a
    go_wp2
    go_ret
    exact ⟨rfl, N4.out⟩
  have nn : 0 ≤ whA ys m1 wd gp := by
    obtain ⟨hv1, hw, hg⟩ := wrOk_iff.1 hv
    rw [whA, if_pos hv]
    unfold gapSum
    have h1 := (htL_sum (wd := wd) (gap := gp) hv1).1
    have h2 : 0 ≤ gp * mx 0 (((htL ys m1 wd gp (nl ys m1 wd gp)).length : Int) - 1) := Int.mul_nonneg hg.1 (by unfold mx; omega)
    omega
  generalize whA ys m1 wd gp = R at *
  by_cases h8 : wd + 30 > 10000
  · have h9 : 10000 < wd + 30 := h8
    clear hv
    go_wp2_with fail
    refine (C1.out _ (New.refl _)).mono ?_
    rintro e w2 ⟨rfl, N2a⟩
    have NA := Lib.hid N2a
    have N2 := Lib.hid (N1.out.trans N2a); clear N2a
    go_wp2_with fail
    refine (C2.out _ NA.out).mono ?_
    rintro e w3 ⟨rfl, N3a⟩
    have NB := Lib.hid (NA.out.trans N3a)
    have N3 := Lib.hid (N2.out.trans N3a); clear N3a
    go_wp2_with fail
    refine (C2.out _ NB.out).mono ?_
    rintro e w4 ⟨rfl, N4a⟩
    have N4 := Lib.hid (N3.out.trans N4a); clear N4a
    go_wp2
    go_ret
    exact ⟨rfl, N4.out⟩
  · have hm2 := lcA_wide (wd' := wd + 30) hv (by omega) (by omega)
    have h9 : wd + 30 ≤ 10000 := by omega
    have e1 := lcA_len (zs := ys) (n := m1) (wd := wd) (gap := gp)
    have C3 := Lib.hid (fun W (hW : New w1 W) => LineCounts_any B1 m1 d1 ys (wd + 30) gp (by omega) dc W (I1.out.new hW))
    have C4 := Lib.hid (fun W (hW : New w1 W) => LineCounts_any B1 m1 d1 ys wd gp (by omega) dc W (I1.out.new hW))
    generalize lcA ys m1 wd gp = L1 at *
    generalize lcA ys m1 (wd + 30) gp = L2 at *
    clear hv h8
    go_wp2_with fail
    refine (C1.out _ (New.refl _)).mono ?_
    rintro e w2 ⟨rfl, N2a⟩
    have NA := Lib.hid N2a
    have N2 := Lib.hid (N1.out.trans N2a); clear N2a
    go_wp2_with fail
    refine (C2.out _ NA.out).mono ?_
    rintro e w3 ⟨rfl, N3a⟩
    have NB := Lib.hid (NA.out.trans N3a)
    have N3 := Lib.hid (N2.out.trans N3a); clear N3a
    go_wp2_with fail
    refine (C3.out _ NB.out).mono ?_
    rintro e w4 ⟨A4, n4, c4, rfl, l4, _, N4a⟩
    have NC := Lib.hid (NB.out.trans N4a)
    have N4 := Lib.hid (N3.out.trans N4a); clear N4a
    go_wp2_with fail
    refine (C4.out _ NC.out).mono ?_
    rintro e w5 ⟨A5, n5, c5, rfl, l5, _, N5a⟩
    have N5 := Lib.hid (N4.out.trans N5a); clear N5a
    have hd : (n4 : Int) ≤ (n5 : Int) := by omega
    go_wp2
    go_ret
    exact ⟨rfl, N5.out⟩
end Go.Proofs.Ytlmamglckamjjaa
