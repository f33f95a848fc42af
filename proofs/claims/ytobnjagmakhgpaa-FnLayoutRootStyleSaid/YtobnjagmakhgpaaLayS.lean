/- The reference's flexible sizes of the boxes in a box, walked. Conditions: the tree can be read and is valid. -/
import Derived.Test.YtobnjagmakhgpaaLayM
import Derived.Test.YtobnjagmakhgpaaZT
import Derived.Test.YtobnjagmakhgpaaZI
namespace Go.Proofs.Ytobnjagmakhgpaa
open Go.RowKit

set_option maxRecDepth 100000 in
set_option maxHeartbeats 2000000 in
theorem sflexes_any (A : Option Addr) (n c : Nat) (zs : List Int) (hv : vtB n zs = true) (i : Nat) (row : Bool) (B : Option Addr) (m d : Nat) (hm : (kidL zs n i).length = m) (w : World) (hx : Sts 9 w A n zs) (hb : Ints w B m ((kidL zs n i).map Int.ofNat)) :
    Calls Try.prog 98 #[.slice A n c, .slice B m d, .bool row] w fun e w' => ∃ v, e = .returned v ∧ OwnFlex w.heap.size w' v m (flxL (fun j => if row = true then (natL zs n j).1 else (natL zs n j).2) zs (kidL zs n i)) ∧ New w w' := by
  have HX := Lib.hid hx; have HB := Lib.hid hb; have HM := Lib.hid hm
  have NA := Lib.hid (fun j (hj : j < n) => snatural_any A n c zs hv (n - j) j rfl hj)
  have k8 := kids_le (a := i) hv
  rw [hm] at k8
  have KM := Lib.hid (fun t (ht : t < m) => (kid_mem.1 (kid_get (zs := zs) (n := n) (a := i) (t := t) (by rw [hm]; exact ht))).1)
  have SN := Lib.hid (fun (g : Nat → Int) t (ht : t < m) => (show flxL g zs ((kidL zs n i).take (t + 1)) = flxL g zs ((kidL zs n i).take t) ++ [g ((kidL zs n i).getD t 0), 0, 10000, zs.getD ((kidL zs n i).getD t 0 * 9 + 6) 0, zs.getD ((kidL zs n i).getD t 0 * 9 + 7) 0] by
    rw [List.take_succ_eq_append_getElem (by rw [hm]; exact ht), flxL_snoc, show (kidL zs n i)[t] = (kidL zs n i).getD t 0 by simp [show t < (kidL zs n i).length by omega]]))
  have TA := Lib.hid (show (kidL zs n i).take m = kidL zs n i from List.take_of_length_le (by rw [hm]; exact Nat.le_refl _))
  have n16 := (vtB_iff.1 hv).1
  have np : 0 < n := by omega
  have ni : (n : Int) ≤ 16 := by omega
  obtain ⟨b, off, rfl, hbw, hc⟩ := hx.at_ np
  have BX := Lib.hid (fun u (hu : u < n) W (hW : New w W) => (show W.cell? ⟨b, off + u * 9, none⟩ = some (.int .i64 (zs.getD (u * 9) 0)) ∧ W.cell? ⟨b, off + u * 9 + 1, none⟩ = some (.int .i64 (zs.getD (u * 9 + 1) 0)) ∧ W.cell? ⟨b, off + u * 9 + 2, none⟩ = some (.int .i64 (zs.getD (u * 9 + 2) 0)) ∧ W.cell? ⟨b, off + u * 9 + 3, none⟩ = some (.int .i64 (zs.getD (u * 9 + 3) 0)) ∧ W.cell? ⟨b, off + u * 9 + 4, none⟩ = some (.int .i64 (zs.getD (u * 9 + 4) 0)) ∧ W.cell? ⟨b, off + u * 9 + 5, none⟩ = some (.int .i64 (zs.getD (u * 9 + 5) 0)) ∧ W.cell? ⟨b, off + u * 9 + 6, none⟩ = some (.int .i64 (zs.getD (u * 9 + 6) 0)) ∧ W.cell? ⟨b, off + u * 9 + 7, none⟩ = some (.int .i64 (zs.getD (u * 9 + 7) 0)) ∧ W.cell? ⟨b, off + u * 9 + 8, none⟩ = some (.int .i64 (zs.getD (u * 9 + 8) 0)) from
    ⟨(hW.cells _ _ hbw).trans (hc (u * 9) (by omega)), (hW.cells _ _ hbw).trans (hc (u * 9 + 1) (by omega)), (hW.cells _ _ hbw).trans (hc (u * 9 + 2) (by omega)), (hW.cells _ _ hbw).trans (hc (u * 9 + 3) (by omega)), (hW.cells _ _ hbw).trans (hc (u * 9 + 4) (by omega)), (hW.cells _ _ hbw).trans (hc (u * 9 + 5) (by omega)), (hW.cells _ _ hbw).trans (hc (u * 9 + 6) (by omega)), (hW.cells _ _ hbw).trans (hc (u * 9 + 7) (by omega)), (hW.cells _ _ hbw).trans (hc (u * 9 + 8) (by omega))⟩))
  clear hx hb hm hc
  obtain ⟨g, hg⟩ : ∃ g : Nat → Int, (fun j => if row = true then (natL zs n j).1 else (natL zs n j).2) = g := ⟨_, rfl⟩
  have GA := Lib.hid (fun j => (show (if row = true then (natL zs n j).1 else (natL zs n j).2) = g j from congrFun hg j))
  rw [hg]
  clear hg
  cases row
  all_goals
    go_enter Try.func98, Try.ntmps98
    go_wp2
    go_loopw [7, 8] (fun v x wr => ∃ t : Nat, t ≤ m ∧ x = .int .i64 t ∧ Hid (OwnFlex w.heap.size wr v t (flxL g zs ((kidL zs n i).take t))) ∧ Hid (New w wr)) (fun _ x _ => m - (intOf x).toNat)
    case atStart => exact ⟨0, Nat.zero_le _, rfl, Lib.hid (OwnFlex.empty w (Nat.le_refl _)), Lib.hid (by (repeat (first | exact New.refl _ | assumption | refine New.alloc ?_ _ | refine New.drew ?_ | refine New.drewN ?_ _ | refine New.setCell ?_ (by first | omega | (simp; omega) | (simp; done)) _ | refine New.trans ?_ (by assumption))))⟩
    case round =>
      obtain ⟨t, ht, rfl, HO, HN⟩ := hrel
      have t0 : (0 : Int) ≤ (t : Int) := by omega
      by_cases hlt : t < m
      · have t1 : (t : Int) < (m : Int) := by omega
        obtain ⟨b', off', rfl, hb', hc'⟩ := HB.out.at_ (by omega)
        have G1 := Lib.hid (fun W (hW : New w W) => (show W.cell? ⟨b', off' + t, none⟩ = some (.int .i64 (((kidL zs n i).getD t 0 : Nat) : Int)) by
          have h := (hW.cells b' _ hb').trans (hc' t hlt)
          rw [kid_at] at h
          exact h))
        have S1 := SN.out g t hlt
        have km := KM.out t hlt
        have g1 := G1.out wr HN.out
        clear hc'
        generalize (kidL zs n i).getD t 0 = u at *
        have NC := Lib.hid (NA.out u km wr (HX.out.new HN.out))
        have GU := GA.out u
        simp only [if_true, if_false, Bool.false_eq_true] at GU
        rw [← GU] at S1
        have sm := nat_sm hv km
        generalize (natL zs n u).1 = x at *
        generalize (natL zs n u).2 = y at *
        have S1 := Lib.hid S1
        have u0 : (0 : Int) ≤ (u : Int) := by omega
        have u1 : (u : Int) < (n : Int) := by omega
        clear GU
        obtain ⟨v, hv'⟩ : ∃ v, v = u7 := ⟨_, rfl⟩
        rw [← hv'] at HO ⊢
        clear hv'
        have DD := Lib.hid km
        go_wp2_with (first
          | (go_at_call 62; refine NC.out.mono ?_; rintro e w5 ⟨rfl, N5⟩; (have N6 := Lib.hid (HN.out.trans N5)); (have g2 := G1.out w5 N6.out); (obtain ⟨x0, x1, x2, x3, x4, x5, x6, x7, x8⟩ := BX.out u DD.out w5 N6.out); (have s5 := N6.out.le); (have O5 := Lib.hid (HO.out.new N5)); (have bb5 : b < w5.heap.size := Nat.lt_of_lt_of_le hbw N6.out.le); (have bb6 : b' < w5.heap.size := Nat.lt_of_lt_of_le hb' N6.out.le); clear N5)
          | (at_builtin; refine wp_appFlex rfl _ _ rfl w.heap.size v t _ rfl ((O5.out.alloc _).alloc _) (w5.heap.size + 1) _ 0 10000 (zs.getD (u * 9 + 6) 0) (zs.getD (u * 9 + 7) 0) rfl (by have h := Row.oneFlex (w5.alloc (.cells #[.int .i64 (zs.getD (u * 9) 0), .int .i64 (zs.getD (u * 9 + 1) 0), .int .i64 (zs.getD (u * 9 + 2) 0), .int .i64 (zs.getD (u * 9 + 3) 0), .int .i64 (zs.getD (u * 9 + 4) 0), .int .i64 (zs.getD (u * 9 + 5) 0), .int .i64 (zs.getD (u * 9 + 6) 0), .int .i64 (zs.getD (u * 9 + 7) 0), .int .i64 (zs.getD (u * 9 + 8) 0)] 30)); simpa using h _ 0 10000 (zs.getD (u * 9 + 6) 0) (zs.getD (u * 9 + 7) 0) 37) (by omega) (by simp; omega) ?_; intro v6 w6 O6 G6; (have N7 := Lib.hid (new_ownFlex ((N6.out.alloc _).alloc _) G6 ((O5.out.alloc _).alloc _) (Nat.le_refl _))); (replace O6 := Lib.hid O6); clear G6))
        go_roundw
        case rel => exact ⟨t + 1, by omega, by go_num, Lib.hid (by rw [S1.out]; exact O6.out), N7⟩
        case measure => simp [intOf]; omega
      · obtain rfl : t = m := by omega
        have HO2 := HO.out
        rw [TA.out] at HO2
        have HO2 := Lib.hid HO2
        obtain ⟨v, hv'⟩ : ∃ v, v = u7 := ⟨_, rfl⟩
        rw [← hv'] at HO2 ⊢
        clear hv' HO
        go_wp2
        go_ret
        exact ⟨v, rfl, HO2.out, HN.out⟩
end Go.Proofs.Ytobnjagmakhgpaa
