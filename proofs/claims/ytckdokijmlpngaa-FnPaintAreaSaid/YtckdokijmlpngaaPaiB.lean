/- How many points of a rectangle lie in none of some others: pointsBeside, walked. Conditions: the rectangle is valid, no side is greater than 40, and the others are valid. -/
import Derived.Test.YtckdokijmlpngaaPaiM
import Derived.Test.YtckdokijmlpngaaRectB
import Derived.Test.YtckdokijmlpngaaRectA
import Derived.Deep.RegionHeld3
namespace Go.Proofs.Ytckdokijmlpngaa
open Go.RowKit

set_option maxHeartbeats 1000000 in
theorem beside1_any (x0 x1 x2 x3 px py : Int) (q1 q2 : Nat) (w : World) (hv : vR x0 x1 x2 x3 = true) (h1 : q1 < w.heap.size) (h2 : q2 < w.heap.size) (c1 : w.cell? ⟨q1, 0, none⟩ = some (.int .i64 px)) (c2 : w.cell? ⟨q2, 0, none⟩ = some (.int .i64 py)) :
    Calls Try.prog 69 #[.agg #[.int .i64 x0, .int .i64 x1, .int .i64 x2, .int .i64 x3], .pointer (some ⟨q1, 0, none⟩), .pointer (some ⟨q2, 0, none⟩)] w fun e w' => e = .returned (.bool (hR x0 x1 x2 x3 px py)) ∧ New w w' := by
  have HV := Lib.hid hv
  clear hv
  go_enter Try.func69, Try.ntmps69
  go_wp2_with (go_at_call 70; refine (has_any _ _ _ _ _ _ _ HV.out).mono ?_; rintro e w1 ⟨rfl, N1⟩)
  go_ret
  exact ⟨rfl, New.trans (by (repeat (first | exact New.refl _ | assumption | refine New.alloc ?_ _ | refine New.drew ?_ | refine New.drewN ?_ _ | refine New.setCell ?_ (by first | omega | (simp; omega) | (simp; done)) _ | refine New.trans ?_ (by assumption)))) N1⟩
/-- What a pointer to a number points to. -/
def atP (v : Value) (w : World) : Int := match v with
  | .pointer (some a) => intOf ((w.cell? a).getD undef)
  | _ => 0
theorem atP_of {w : World} {g : Nat} {z : Int} (h : Row w g [z]) : atP (.pointer (some ⟨g, 0, none⟩)) w = z := by
  have := h.c 0 (by simp)
  simp only [atP, this, Option.getD_some, intOf, List.getD_cons_zero]
set_option maxRecDepth 100000 in
set_option maxHeartbeats 4000000 in
theorem beside_any (x y : Int) (ww hh : Nat) (A : Option Addr) (n c : Nat) (zs : List Int) (w : World) (hv : vR x y (ww : Int) (hh : Int) = true) (hw : ww ≤ 40) (hh40 : hh ≤ 40) (hn : n ≤ 6) (hx : Sts 4 w A n zs) (ok : ∀ k, k < n → rOk zs k = true) :
    Calls Try.prog 51 #[.agg #[.int .i64 x, .int .i64 y, .int .i64 (ww : Int), .int .i64 (hh : Int)], .slice A n c] w fun e w' => e = .returned (.int .i64 (cnY n zs x y ww hh)) ∧ New w w' := by
  have NB := Lib.hid (show New w (w.alloc (.cells #[.int .i64 x, .int .i64 y, .int .i64 (ww : Int), .int .i64 (hh : Int)] 34)) by (repeat (first | exact New.refl _ | assumption | refine New.alloc ?_ _ | refine New.drew ?_ | refine New.drewN ?_ _ | refine New.setCell ?_ (by first | omega | (simp; omega) | (simp; done)) _ | refine New.trans ?_ (by assumption))))
  have RB := Lib.hid (Row.oneRect w x y (ww : Int) (hh : Int) 34)
  have HX := Lib.hid (hx.new NB.out)
  have OK := Lib.hid ok
  obtain ⟨a1, a2, a3, a4, a5, a6, a7, a8⟩ := vR_iff.1 hv
  have w40 : (ww : Int) ≤ 40 := by omega
  have h40 : (hh : Int) ≤ 40 := by omega
  clear hx ok hv
  go_enter Try.func51, Try.ntmps51
  go_wp2
  have sz1 : (w.alloc (.cells #[.int .i64 x, .int .i64 y, .int .i64 (ww : Int), .int .i64 (hh : Int)] 34)).heap.size = w.heap.size + 1 := by simp
  generalize w.alloc (.cells #[.int .i64 x, .int .i64 y, .int .i64 (ww : Int), .int .i64 (hh : Int)] 34) = w1 at *
  have bl := RB.out.lt
  have KB := Lib.hid (fun W (hW : New w1 W) => (show W.cell? ⟨w.heap.size, 0, none⟩ = some (.int .i64 x) ∧ W.cell? ⟨w.heap.size, 1, none⟩ = some (.int .i64 y) ∧ W.cell? ⟨w.heap.size, 2, none⟩ = some (.int .i64 (ww : Int)) ∧ W.cell? ⟨w.heap.size, 3, none⟩ = some (.int .i64 (hh : Int)) from
    ⟨(RB.out.new hW).c 0 (by simp), (RB.out.new hW).c 1 (by simp), (RB.out.new hW).c 2 (by simp), (RB.out.new hW).c 3 (by simp)⟩))
  have R0 := Lib.hid (Row.one1 w1 y 3)
  have N0 := Lib.hid ((New.refl w1).alloc (.cells #[.int .i64 y] 3))
  go_loopw [5, 6] (fun cv pv wr => ∃ k g : Nat, k ≤ hh ∧ cv = .int .i64 (cnY n zs x y ww k) ∧ pv = .pointer (some ⟨g, 0, none⟩) ∧ w1.heap.size ≤ g ∧ Hid (Row wr g [y + (k : Int)]) ∧ Hid (New w1 wr)) (fun _ pv wr => (y + (hh : Int) - atP pv wr).toNat)
  case atStart => exact ⟨0, w1.heap.size, Nat.zero_le _, rfl, by rw [sz1], Nat.le_refl _, by simpa using R0, N0⟩
  case round =>
    clear R0 N0
    obtain ⟨wo, rfl⟩ : ∃ x, x = wr := ⟨wr, rfl⟩
    obtain ⟨k, g, hk, rfl, rfl, hg, HR, HN⟩ := hrel
    have AO := Lib.hid (atP_of HR.out)
    have g1 := HR.out.lt
    have cg : wo.cell? ⟨g, 0, none⟩ = some (.int .i64 (y + (k : Int))) := HR.out.c 0 (by simp)
    have k0 : (0 : Int) ≤ (k : Int) := by omega
    have k1 : (k : Int) ≤ (hh : Int) := by omega
    have CB := cnY_40 n zs x y (m := ww) (k := k) hw (by omega)
    have zz := HN.out.le
    have KF := Lib.hid (fun W (hW : New wo W) => (show W.cell? ⟨g, 0, none⟩ = some (.int .i64 (y + (k : Int))) ∧ W.cell? ⟨w.heap.size, 0, none⟩ = some (.int .i64 x) ∧ W.cell? ⟨w.heap.size, 1, none⟩ = some (.int .i64 y) ∧ W.cell? ⟨w.heap.size, 2, none⟩ = some (.int .i64 (ww : Int)) ∧ W.cell? ⟨w.heap.size, 3, none⟩ = some (.int .i64 (hh : Int)) from ⟨(HR.out.new hW).c 0 (by simp), KB.out W (HN.out.trans hW)⟩))
    have NW := Lib.hid (New.refl wo).drew
    have KK := KF.out _ NW.out
    go_wp2
    go_region_held3 (fun w' => w'.cell? ⟨g, 0, none⟩ = some (.int .i64 (y + (k : Int))) ∧ w'.cell? ⟨w.heap.size, 0, none⟩ = some (.int .i64 x) ∧ w'.cell? ⟨w.heap.size, 1, none⟩ = some (.int .i64 y) ∧ w'.cell? ⟨w.heap.size, 2, none⟩ = some (.int .i64 (ww : Int)) ∧ w'.cell? ⟨w.heap.size, 3, none⟩ = some (.int .i64 (hh : Int)))
      (first | exact KK | assumption)
      ((go_at_call 66; refine (bottom_any _ _ _ _ _ (by omega) (by omega) (by omega) (by omega)).mono ?_; rintro e wk ⟨rfl, Nk⟩; (have KK := KF.out wk (NW.out.trans Nk)); (replace NW := Lib.hid (NW.out.trans Nk)); clear Nk))
    have HRk := Lib.hid (HR.out.new NW.out)
    have HNk := Lib.hid (HN.out.trans NW.out)
    obtain ⟨cg, b0, b1, b2, b3⟩ := KK
    have zk := NW.out.le
    clear NW HR HN KF
    have hgk : g < wk.heap.size := by omega
    have wlk : w.heap.size < wk.heap.size := by omega
    by_cases hlt : k < hh
    · have k2 : (k : Int) < (hh : Int) := by omega
      have CS := Lib.hid (cnY_step n zs x y ww k)
      have CB2 := cnY_40 n zs x y (m := ww) (k := k + 1) hw (by omega)
      have dk : decide (k < hh) = true := decide_eq_true hlt
      go_wp2
      have RX := Lib.hid (Row.one1 wk x 3)
      have NX := Lib.hid ((New.refl wk).alloc (.cells #[.int .i64 x] 3))
      have kk : (k : Int) < 40 := by omega
      clear cg b0 b1 b2 b3
      simp only [dk]
      go_loopw [5, 7] (fun cv pv wi => ∃ j q : Nat, j ≤ ww ∧ cv = .int .i64 (cnY n zs x y ww k + cnX n zs x (y + (k : Int)) j) ∧ pv = .pointer (some ⟨q, 0, none⟩) ∧ wk.heap.size ≤ q ∧ Hid (Row wi q [x + (j : Int)]) ∧ Hid (New wk wi)) (fun _ pv wi => (x + (ww : Int) - atP pv wi).toNat)
      case atStart => exact ⟨0, wk.heap.size, Nat.zero_le _, by simp [cnX], rfl, Nat.le_refl _, by simpa using RX, NX⟩
      case round =>
        clear RX NX
        obtain ⟨j, q, hj, rfl, rfl, hq, HR, HN⟩ := hrel
        have q1 := HR.out.lt
        have A0 := Lib.hid (atP_of HR.out)
        have j0 : (0 : Int) ≤ (j : Int) := by omega
        have j1 : (j : Int) ≤ (ww : Int) := by omega
        have XB := cnX_bd n zs x (y + (k : Int)) j
        have zi := HN.out.le
        have KF := Lib.hid (fun W (hW : New wr W) => (show W.cell? ⟨q, 0, none⟩ = some (.int .i64 (x + (j : Int))) ∧ W.cell? ⟨w.heap.size, 0, none⟩ = some (.int .i64 x) ∧ W.cell? ⟨w.heap.size, 1, none⟩ = some (.int .i64 y) ∧ W.cell? ⟨w.heap.size, 2, none⟩ = some (.int .i64 (ww : Int)) ∧ W.cell? ⟨w.heap.size, 3, none⟩ = some (.int .i64 (hh : Int)) from ⟨(HR.out.new hW).c 0 (by simp), KB.out W (HNk.out.trans (HN.out.trans hW))⟩))
        have KG := Lib.hid (fun W (hW : New wr W) => (show W.cell? ⟨g, 0, none⟩ = some (.int .i64 (y + (k : Int))) from (HRk.out.new (HN.out.trans hW)).c 0 (by simp)))
        have NW := Lib.hid (New.refl wr).drew
        have KK := KF.out _ NW.out
        go_wp2
        go_region_held3 (fun w' => w'.cell? ⟨q, 0, none⟩ = some (.int .i64 (x + (j : Int))) ∧ w'.cell? ⟨w.heap.size, 0, none⟩ = some (.int .i64 x) ∧ w'.cell? ⟨w.heap.size, 1, none⟩ = some (.int .i64 y) ∧ w'.cell? ⟨w.heap.size, 2, none⟩ = some (.int .i64 (ww : Int)) ∧ w'.cell? ⟨w.heap.size, 3, none⟩ = some (.int .i64 (hh : Int)))
          (first | exact KK | assumption)
          ((go_at_call 65; refine (right_any _ _ _ _ _ (by omega) (by omega) (by omega) (by omega)).mono ?_; rintro e wm ⟨rfl, Nk⟩; (have KK := KF.out wm (NW.out.trans Nk)); (replace NW := Lib.hid (NW.out.trans Nk)); clear Nk))
        have HRm := Lib.hid (HR.out.new NW.out)
        have HNm := Lib.hid (HN.out.trans NW.out)
        have cg := KG.out _ NW.out
        obtain ⟨cq, b0, b1, b2, b3⟩ := KK
        have zm := NW.out.le
        clear NW HR HN KF KG
        by_cases jlt : j < ww
        · have j2 : (j : Int) < (ww : Int) := by omega
          have XS := Lib.hid (cnX_step n zs x (y + (k : Int)) j)
          have XB2 := cnX_bd n zs x (y + (k : Int)) (j + 1)
          have jj : (j : Int) < 40 := by omega
          have BP := Lib.hid (show BesP wm q g n zs (inK zs (x + (j : Int)) (y + (k : Int))) from fun W hW i hi => beside1_any _ _ _ _ _ _ q g W (OK.out i hi) (by have := hW.le; omega) (by have := hW.le; omega) ((HRm.out.new hW).c 0 (by simp)) ((HRk.out.new (HNm.out.trans hW)).c 0 (by simp)))
          have XI := Lib.hid (show inN n zs (x + (j : Int)) (y + (k : Int)) = anyTo n (inK zs (x + (j : Int)) (y + (k : Int))) from rfl)
          have HXm := Lib.hid (HX.out.new (HNk.out.trans HNm.out))
          have CC := Lib.hid (ContainsBes_any A n c q g (inK zs (x + (j : Int)) (y + (k : Int))) zs (by omega) wm HXm.out BP.out)
          clear BP b0 b1 b2 b3 HXm
          generalize hC0 : cnY n zs x y ww k = C0 at *
          have HC0 := Lib.hid hC0
          clear hC0
          generalize cnX n zs x (y + (k : Int)) j = C1 at *
          generalize anyTo n (inK zs (x + (j : Int)) (y + (k : Int))) = hin at *
          have KH := Lib.hid (fun W (hW : New wm W) => (show W.cell? ⟨q, 0, none⟩ = some (.int .i64 (x + (j : Int))) from (HRm.out.new hW).c 0 (by simp)))
          clear cg
          cases hin
          · rw [XI.out] at XS
            go_wp2_with fail
            refine CC.out.mono ?_
            rintro e wc ⟨rfl, Nc⟩
            have cq := KH.out _ Nc
            have HNc := Lib.hid (HNm.out.trans Nc)
            have zc := Nc.le
            clear Nc CC
            go_wp2
            have A1 := atP_of (Row.one1 wc (x + (j : Int) + 1) 3)
            go_roundw
            case rel => exact ⟨j + 1, wc.heap.size, by omega, by rw [HC0.out, XS.out, show oneIf false = 1 from rfl, Int.add_assoc], rfl, by omega, by rw [show x + ((j + 1 : Nat) : Int) = x + (j : Int) + 1 by omega]; exact Lib.hid (Row.one1 _ _ _), Lib.hid (HNc.out.alloc _)⟩
            case measure => show (x + (ww : Int) - atP (.pointer (some ⟨wc.heap.size, 0, none⟩)) (wc.alloc (.cells #[.int .i64 (x + (j : Int) + 1)] 3))).toNat < (x + (ww : Int) - atP (.pointer (some ⟨q, 0, none⟩)) wr).toNat; rw [A0.out, A1]; omega
          · rw [XI.out] at XS
            go_wp2_with fail
            refine CC.out.mono ?_
            rintro e wc ⟨rfl, Nc⟩
            have cq := KH.out _ Nc
            have HNc := Lib.hid (HNm.out.trans Nc)
            have zc := Nc.le
            clear Nc CC
            go_wp2
            have A1 := atP_of (Row.one1 wc (x + (j : Int) + 1) 3)
            go_roundw
            case rel => exact ⟨j + 1, wc.heap.size, by omega, by rw [HC0.out, XS.out, show oneIf true = 0 from rfl, Int.add_zero], rfl, by omega, by rw [show x + ((j + 1 : Nat) : Int) = x + (j : Int) + 1 by omega]; exact Lib.hid (Row.one1 _ _ _), Lib.hid (HNc.out.alloc _)⟩
            case measure => show (x + (ww : Int) - atP (.pointer (some ⟨wc.heap.size, 0, none⟩)) (wc.alloc (.cells #[.int .i64 (x + (j : Int) + 1)] 3))).toNat < (x + (ww : Int) - atP (.pointer (some ⟨q, 0, none⟩)) wr).toNat; rw [A0.out, A1]; omega
        · obtain rfl : j = ww := by omega
          have HRe := Lib.hid (HRk.out.new HNm.out)
          have HNe := Lib.hid (HNk.out.trans HNm.out)
          have ze := HNe.out.le
          go_wp2
          have A1 := atP_of (Row.one1 wm (y + (k : Int) + 1) 3)
          go_roundw
          case rel => exact ⟨k + 1, wm.heap.size, by omega, by rw [CS.out], rfl, by omega, by rw [show y + ((k + 1 : Nat) : Int) = y + (k : Int) + 1 by omega]; exact Lib.hid (Row.one1 _ _ _), Lib.hid (HNe.out.alloc _)⟩
          case measure => show (y + (hh : Int) - atP (.pointer (some ⟨wm.heap.size, 0, none⟩)) (wm.alloc (.cells #[.int .i64 (y + (k : Int) + 1)] 3))).toNat < (y + (hh : Int) - atP (.pointer (some ⟨g, 0, none⟩)) wo).toNat; rw [AO.out, A1]; omega
    · obtain rfl : k = hh := by omega
      go_wp2
      go_ret
      exact ⟨rfl, NB.out.trans HNk.out⟩
theorem besideI_any (x y ww hh : Int) (A : Option Addr) (n c : Nat) (zs : List Int) (w : World) (hv : vR x y ww hh = true) (hw : ww ≤ 40) (hh40 : hh ≤ 40) (hn : n ≤ 6) (hx : Sts 4 w A n zs) (ok : ∀ k, k < n → rOk zs k = true) :
    Calls Try.prog 51 #[.agg #[.int .i64 x, .int .i64 y, .int .i64 ww, .int .i64 hh], .slice A n c] w fun e w' => e = .returned (.int .i64 (cnY n zs x y ww.toNat hh.toNat)) ∧ New w w' := by
  have a := vR_iff.1 hv
  obtain ⟨m, rfl⟩ : ∃ m : Nat, ww = (m : Int) := ⟨ww.toNat, by omega⟩
  obtain ⟨k, rfl⟩ : ∃ k : Nat, hh = (k : Int) := ⟨hh.toNat, by omega⟩
  rw [Int.toNat_natCast, Int.toNat_natCast]
  exact beside_any x y m k A n c zs w hv (by omega) (by omega) hn hx ok
end Go.Proofs.Ytckdokijmlpngaa
