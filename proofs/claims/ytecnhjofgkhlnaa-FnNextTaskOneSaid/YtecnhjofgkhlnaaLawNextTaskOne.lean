/- The law FnNextTaskOne, walked: a task alone is next, and a task of rank 0 that has waited longest waits for none with a greater number. Condition: the code can be read. -/
import Derived.Test.YtecnhjofgkhlnaaDrawQu
import Derived.Test.YtecnhjofgkhlnaaHeapN
import Derived.Test.YtecnhjofgkhlnaaTkP
import Derived.IntWalk
namespace Go.Proofs.Ytecnhjofgkhlnaa
open Go.RowKit

set_option maxHeartbeats 4000000 in
theorem lawNextTaskOne (A : Option Addr) (n c : Nat) (hn : n ≤ maxLen) (hnc : n ≤ c) (w : World) (hb : Bytes w A n) :
    Calls Try.prog 12 #[.slice A n c] w fun e w' => e = .returned (.bool true) ∧ New w w' := by
  have HB := Lib.hid hb; have HM := Lib.hid hn
  clear hb
  unfold maxLen at hn
  by_cases hbig : 1048576 < n
  · go_enter Try.func12, Try.ntmps12
    go_wp2
    go_ret
    exact ⟨rfl, by (repeat (first | exact New.refl _ | assumption | refine New.alloc ?_ _ | refine New.drew ?_ | refine New.drewN ?_ _ | refine New.setCell ?_ (by first | omega | (simp; omega) | (simp; done)) _ | refine New.trans ?_ (by assumption)))⟩
  have hm : (n : Int) ≤ 1048576 := by omega
  have hm0 : (0 : Int) ≤ (n : Int) := by omega
  go_enter Try.func12, Try.ntmps12
  go_wp2_with fail
  refine (DrawNextTask_any A n c HM.out hnc _ HB.out).mono ?_
  rintro e w1 ⟨B1, m1, d1, zs, rfl, I1, kd, k11, N1a⟩
  have s1 := N1a.le
  have N1 := Lib.hid ((New.refl w).trans N1a); clear N1a
  have HL := Lib.hid I1.len
  have m11 : (m1 : Int) ≤ 11 := by omega
  have m0 : (0 : Int) ≤ (m1 : Int) := by omega
  replace I1 := Lib.hid I1
  by_cases hv : vtk m1 zs = true ∧ 0 < m1
  · obtain ⟨hv, h0⟩ := hv
    obtain ⟨z, hz⟩ : ∃ z, nxA m1 zs = z := ⟨_, rfl⟩
    have EA := Lib.hid hz
    have z0 : 0 ≤ z := by
      rw [← hz, show nxA m1 zs = tid zs (nx zs (m1 - 1)) from if_pos ⟨hv, h0⟩]
      exact ((vtk_at hv).2 _ (by have := nx_le zs (m1 - 1); omega)).1.1.1
    have TOP := Lib.hid (fun k (hk : k < m1) => top1_next hv HL.out hk)
    have ONE := Lib.hid (fun k (hk : k < m1) => lone_next ((vtk_at hv).2 k hk).1)
    have ni : (m1 : Int) ≤ 10 := by have := (vtk_at hv).1; omega
    have kdi : (m1 : Int) ≤ (d1 : Int) := by omega
    clear hv hz
    go_wp2_with fail
    refine (NextTask_any B1 m1 d1 zs (by omega) _ I1.out).mono ?_
    rw [EA.out]
    rintro e w2 ⟨rfl, N2a⟩
    have s2 := N2a.le
    have I1 := Lib.hid (I1.out.new N2a)
    have N2 := Lib.hid (N1.out.trans N2a); clear N2a
    go_wp2_with fail
    refine (SNextTask_any B1 m1 d1 zs (by omega) _ I1.out).mono ?_
    rw [EA.out]
    rintro e w3 ⟨rfl, N3a⟩
    have s3 := N3a.le
    have I1 := Lib.hid (I1.out.new N3a)
    have N3 := Lib.hid (N2.out.trans N3a); clear N3a
    obtain ⟨b, off, rfl, hb, hc⟩ := I1.out.at_ (by omega)
    have HC := Lib.hid (fun k (hk : k < m1) X (hX : New w3 X) => (show X.cell? ⟨b, off + k * 3, none⟩ = some (.int .i64 (tid zs k)) from (hX.cells b _ hb).trans (hc (k * 3) (by omega))))
    have NN := Lib.hid N3.out
    clear hc hb
    go_wp2
    go_loopw [5] (fun i wr => ∃ k : Nat, k ≤ m1 ∧ i = .int .i64 k ∧ Hid (New w3 wr)) (fun i _ => m1 - (intOf i).toNat)
    case atStart => exact ⟨0, Nat.zero_le _, rfl, Lib.hid (New.refl _)⟩
    case round =>
      obtain ⟨k, hk, rfl, HN⟩ := hrel
      have k0 : (0 : Int) ≤ (k : Int) := by omega
      by_cases hlt : k < m1
      · have k1 : (k : Int) < (m1 : Int) := by omega
        have IR := Lib.hid (I1.out.new HN.out)
        have OE := Lib.hid (OwnTask.empty (lo := wr.heap.size) wr (Nat.le_refl _))
        have E0 := Lib.hid (HN.out.alloc (.cells #[] 43))
        obtain ⟨t0, t1⟩ := TOP.out k hlt
        have T0 := Lib.hid t0; have T1 := Lib.hid t1
        have LO := ONE.out k hlt
        have LS := Lib.hid (fun X (hX : New w3 X) => lone_at (c := 0) (I1.out.new hX) hlt rfl)
        have CC := Lib.hid (fun X (hX : New w3 X) => HC.out k hlt X hX)
        clear t0 t1
        go_wp2_with (at_builtin; refine wp_appTaskN rfl _ _ rfl wr.heap.size _ 0 [] rfl OE.out (some ⟨b, off, none⟩) m1 d1 zs rfl (IR.out.new ((New.refl _).alloc _)) (by omega) (by simp) ?_; intro v6 w6 O6 G6; (have N6 := Lib.hid (new_ownTask (HN.out.alloc (.cells #[] 43)) G6 OE.out HN.out.le)); rw [Nat.zero_add, List.nil_append] at O6; (obtain ⟨g, c6, rfl, hg, R6, _, _⟩ := O6.form.resolve_left (fun h => absurd h.2.1 (by omega))); (have f1 := R6.f (k * 3 + 1) (by have := HL.out; omega)); (have f2 := R6.f (k * 3 + 2) (by have := HL.out; omega)); (have o1 := R6.c (k * 3 + 1) (by have := HL.out; omega)); (have o2 := R6.c (k * 3 + 2) (by have := HL.out; omega)); (have O7 := Lib.hid ((O6.set (k * 3 + 1) 0).set (k * 3 + 2) 20)); (have gw : w3.heap.size ≤ g := Nat.le_trans HN.out.le hg); generalize zs.getD (k * 3 + 1) 0 = q1 at *; generalize zs.getD (k * 3 + 2) 0 = q2 at *; (have N7 := Lib.hid ((N6.out.setCell (p := ⟨g, k * 3 + 1, none⟩) gw (.int .i64 0)).setCell (p := ⟨g, k * 3 + 2, none⟩) gw (.int .i64 20))); (have HGW := Lib.hid gw); clear G6 R6 hg O6 gw)
        generalize (w6.setCell ⟨g, k * 3 + 1, none⟩ (.int .i64 0)).setCell ⟨g, k * 3 + 2, none⟩ (.int .i64 20) = W7 at *
        clear f1 f2 o1 o2
        refine (NextTask_any (some ⟨g, 0, none⟩) m1 c6 (top1 zs k) (by omega) W7 (Sts.of_res (Res.of_row O7.out.row.1 O7.out.row.2.1) O7.out.2)).mono ?_
        rintro e w8 ⟨rfl, N8⟩
        have N8 := Lib.hid (N7.out.trans N8)
        obtain ⟨u, hu⟩ : ∃ u, nxA m1 (top1 zs k) = u := ⟨_, rfl⟩
        rw [hu] at T0 T1 ⊢
        have u0 := T0.out
        have u1 := T1.out
        clear hu O7
        have l1 : decide (tid zs k < u) = false := decide_eq_false (by omega)
        have l2 : decide (u < 0) = false := decide_eq_false (by omega)
        have kk : (k : Int) ≤ (k : Int) + 1 := by omega
        have kd1 : (k : Int) + 1 ≤ (d1 : Int) := by omega
        have k10 : (k : Int) + 1 ≤ (m1 : Int) := by omega
        have kt : ((k : Int) + 1).toNat = k + 1 := by omega
        have kt0 : (0 : Int) ≤ (k : Int) + 1 := by omega
        have ks : k + 1 - k = 1 := by omega
        have kw : IntKind.i64.wrap ((k : Int) + 1) = (k : Int) + 1 := IntWalk.i64_in _ (by omega)
        have dk : ¬ d1 = k := by omega
        have kl : k ≤ k + 1 := by omega
        go_wp2
        have ND := Lib.hid N8.out.drew
        generalize tid zs k = t at *
        refine wp_region_noPanic ?_
        refine wp_region_held_drew (S := fun w' => w'.cell? ⟨b, off + k * 3, none⟩ = some (.int .i64 t)) (by kernel_rfl) (CC.out _ ND.out) (fun hHeld => ?_)
        generalize w8.drew = Vd at ND hHeld ⊢
        refine wpAnyH_take (i := 0) (oi := _) (v := ?_) rfl (by kernel_rfl) (by kernel_rfl) (by kernel_rfl) (fun _ _ _ h => h) (Or.inl ⟨by kernel_rfl, ?_⟩) (by assumption) ?_
        rotate_left; (intro w' hSw; (try dsimp only at hSw); go_split_ands; go_simp; (try with_reducible rfl))
        try dsimp only [Act.put]
        refine wpAnyH_take (i := 1) (oi := _) (v := ?_) rfl (by kernel_rfl) (by kernel_rfl) (by kernel_rfl) (fun _ _ _ h => h) (Or.inl ⟨by kernel_rfl, ?_⟩) (by assumption) ?_
        rotate_left; (intro w' hSw; (try dsimp only at hSw); go_split_ands; go_simp; (try with_reducible rfl))
        try dsimp only [Act.put]
        refine wpAnyH_take (i := 2) (oi := _) (v := ?_) rfl (by kernel_rfl) (by kernel_rfl) (by kernel_rfl) (fun _ _ _ h => h) (Or.inl ⟨by kernel_rfl, ?_⟩) (by assumption) ?_
        rotate_left; (intro w' hSw; (try dsimp only at hSw); go_split_ands; go_simp; (try with_reducible rfl))
        try dsimp only [Act.put]
        refine wpAnyH_take (i := 3) (oi := _) (v := ?_) rfl (by kernel_rfl) (by kernel_rfl) (by kernel_rfl) (fun _ _ _ h => h) (Or.inl ⟨by kernel_rfl, ?_⟩) (by assumption) ?_
        rotate_left; (intro w' hSw; (try dsimp only at hSw); go_split_ands; go_simp; (try with_reducible rfl))
        try dsimp only [Act.put]
        refine wpAnyH_take (i := 4) (oi := _) (v := ?_) rfl (by kernel_rfl) (by kernel_rfl) (by kernel_rfl) (fun _ _ _ h => h) (Or.inl ⟨by kernel_rfl, ?_⟩) (by assumption) ?_
        rotate_left; (intro w' hSw; (try dsimp only at hSw); go_split_ands; go_simp; (try with_reducible rfl))
        try dsimp only [Act.put]
        refine wpAnyH_take (i := 6) (oi := _) (v := ?_) rfl (by kernel_rfl) (by kernel_rfl) (by kernel_rfl) (fun _ _ _ h => h) (Or.inl ⟨by kernel_rfl, ?_⟩) (by assumption) ?_
        rotate_left; (intro w' hSw; (try dsimp only at hSw); go_split_ands; go_simp; (try with_reducible rfl))
        try dsimp only [Act.put]
        refine wpAnyH_take (i := 7) (oi := _) (v := ?_) rfl (by kernel_rfl) (by kernel_rfl) (by kernel_rfl) (fun _ _ _ h => h) (Or.inl ⟨by kernel_rfl, ?_⟩) (by assumption) ?_
        rotate_left; (intro w' hSw; (try dsimp only at hSw); go_split_ands; go_simp; (try with_reducible rfl))
        try dsimp only [Act.put]
        refine wpAnyH_take (i := 8) (oi := _) (v := ?_) rfl (by kernel_rfl) (by kernel_rfl) (by kernel_rfl) (fun _ _ _ h => h) (Or.inl ⟨by kernel_rfl, ?_⟩) (by assumption) ?_
        rotate_left; (intro w' hSw; (try dsimp only at hSw); go_split_ands; go_simp; (try with_reducible rfl))
        try dsimp only [Act.put]
        refine wpAnyH_take (i := 9) (oi := _) (v := ?_) rfl (by kernel_rfl) (by kernel_rfl) (by kernel_rfl) (fun _ _ _ h => h) (Or.inl ⟨by kernel_rfl, ?_⟩) (by assumption) ?_
        rotate_left; (intro w' hSw; (try dsimp only at hSw); go_split_ands; go_simp; (try with_reducible rfl))
        try dsimp only [Act.put]
        refine wpAnyH_take (i := 10) (oi := _) (v := ?_) rfl (by kernel_rfl) (by kernel_rfl) (by kernel_rfl) (fun _ _ _ h => h) (Or.inl ⟨by kernel_rfl, ?_⟩) (by assumption) ?_
        rotate_left; (intro w' hSw; (try dsimp only at hSw); go_split_ands; go_simp; (try with_reducible rfl))
        try dsimp only [Act.put]
        refine wpAnyH_ready (rs := [5]) (by kernel_rfl) (by simp) ?_
        refine AllReadyH.cons (o := _) rfl (fun K hK => ?_) AllReadyH.nil
        go_simp
        go_at_call 18
        refine (NextTask_any (some ⟨b, off + k * 3, none⟩) 1 _ (lone zs k) (by omega) _ (LS.out _ ND.out)).mono ?_
        rw [LO]
        rintro e w9 ⟨rfl, N9⟩
        have NF := Lib.hid (ND.out.trans N9)
        clear N9
        go_wp2_with fail
        refine hK.out _ _ (CC.out _ NF.out) (fun hH5 => ?_)
        clear hK K
        try dsimp only [Act.put]
        refine wpAnyH_take (i := 11) (oi := _) (v := ?_) rfl (by kernel_rfl) (by kernel_rfl) (by kernel_rfl) (fun _ _ _ h => h) (Or.inl ⟨by kernel_rfl, ?_⟩) (by assumption) ?_
        rotate_left; (intro w' hSw; (try dsimp only at hSw); go_split_ands; go_simp; (try with_reducible rfl))
        try dsimp only [Act.put]
        refine wpAnyH_take (i := 12) (oi := _) (v := ?_) rfl (by kernel_rfl) (by kernel_rfl) (by kernel_rfl) (fun _ _ _ h => h) (Or.inl ⟨by kernel_rfl, ?_⟩) (by assumption) ?_
        rotate_left; (intro w' hSw; (try dsimp only at hSw); go_split_ands; go_simp; (try with_reducible rfl))
        try dsimp only [Act.put]
        refine wpAnyH_take (i := 13) (oi := _) (v := ?_) rfl (by kernel_rfl) (by kernel_rfl) (by kernel_rfl) (fun _ _ _ h => h) (Or.inl ⟨by kernel_rfl, ?_⟩) (by assumption) ?_
        rotate_left; (intro w' hSw; (try dsimp only at hSw); go_split_ands; go_simp; (try with_reducible rfl))
        try dsimp only [Act.put]
        refine wpAnyH_take (i := 14) (oi := _) (v := ?_) rfl (by kernel_rfl) (by kernel_rfl) (by kernel_rfl) (fun _ _ _ h => h) (Or.inl ⟨by kernel_rfl, ?_⟩) (by assumption) ?_
        rotate_left; (intro w' hSw; (try dsimp only at hSw); go_split_ands; go_simp; (try with_reducible rfl))
        try dsimp only [Act.put]
        refine wpAnyH_take (i := 15) (oi := _) (v := ?_) rfl (by kernel_rfl) (by kernel_rfl) (by kernel_rfl) (fun _ _ _ h => h) (Or.inl ⟨by kernel_rfl, ?_⟩) (by assumption) ?_
        rotate_left; (intro w' hSw; (try dsimp only at hSw); go_split_ands; go_simp; (try with_reducible rfl))
        try dsimp only [Act.put]
        refine wpAnyH_take (i := 16) (oi := _) (v := ?_) rfl (by kernel_rfl) (by kernel_rfl) (by kernel_rfl) (fun _ _ _ h => h) (Or.inl ⟨by kernel_rfl, ?_⟩) (by assumption) ?_
        rotate_left; (intro w' hSw; (try dsimp only at hSw); go_split_ands; go_simp; (try with_reducible rfl))
        try dsimp only [Act.put]
        refine wpAnyH_take (i := 17) (oi := _) (v := ?_) rfl (by kernel_rfl) (by kernel_rfl) (by kernel_rfl) (fun _ _ _ h => h) (Or.inl ⟨by kernel_rfl, ?_⟩) (by assumption) ?_
        rotate_left; (intro w' hSw; (try dsimp only at hSw); go_split_ands; go_simp; (try with_reducible rfl))
        try dsimp only [Act.put]
        refine wpAnyH_take (i := 18) (oi := _) (v := ?_) rfl (by kernel_rfl) (by kernel_rfl) (by kernel_rfl) (fun _ _ _ h => h) (Or.inl ⟨by kernel_rfl, ?_⟩) (by assumption) ?_
        rotate_left; (intro w' hSw; (try dsimp only at hSw); go_split_ands; go_simp; (try with_reducible rfl))
        try dsimp only [Act.put]
        refine wpAnyH_take (i := 19) (oi := _) (v := ?_) rfl (by kernel_rfl) (by kernel_rfl) (by kernel_rfl) (fun _ _ _ h => h) (Or.inl ⟨by kernel_rfl, ?_⟩) (by assumption) ?_
        rotate_left; (intro w' hSw; (try dsimp only at hSw); go_split_ands; go_simp; (try with_reducible rfl))
        try dsimp only [Act.put]
        refine wpAnyH_take (i := 20) (oi := _) (v := ?_) rfl (by kernel_rfl) (by kernel_rfl) (by kernel_rfl) (fun _ _ _ h => h) (Or.inl ⟨by kernel_rfl, ?_⟩) (by assumption) ?_
        rotate_left; (intro w' hSw; (try dsimp only at hSw); go_split_ands; go_simp; (try with_reducible rfl))
        try dsimp only [Act.put]
        refine wpAnyH_take (i := 21) (oi := _) (v := ?_) rfl (by kernel_rfl) (by kernel_rfl) (by kernel_rfl) (fun _ _ _ h => h) (Or.inl ⟨by kernel_rfl, ?_⟩) (by assumption) ?_
        rotate_left; (intro w' hSw; (try dsimp only at hSw); go_split_ands; go_simp; (try with_reducible rfl))
        try dsimp only [Act.put]
        refine wpAnyH_take (i := 22) (oi := _) (v := ?_) rfl (by kernel_rfl) (by kernel_rfl) (by kernel_rfl) (fun _ _ _ h => h) (Or.inl ⟨by kernel_rfl, ?_⟩) (by assumption) ?_
        rotate_left; (intro w' hSw; (try dsimp only at hSw); go_split_ands; go_simp; (try with_reducible rfl))
        try dsimp only [Act.put]
        refine wpAnyH_take (i := 23) (oi := _) (v := ?_) rfl (by kernel_rfl) (by kernel_rfl) (by kernel_rfl) (fun _ _ _ h => h) (Or.inl ⟨by kernel_rfl, ?_⟩) (by assumption) ?_
        rotate_left; (intro w' hSw; (try dsimp only at hSw); go_split_ands; go_simp; (try with_reducible rfl))
        try dsimp only [Act.put]
        refine wpAnyH_take (i := 24) (oi := _) (v := ?_) rfl (by kernel_rfl) (by kernel_rfl) (by kernel_rfl) (fun _ _ _ h => h) (Or.inl ⟨by kernel_rfl, ?_⟩) (by assumption) ?_
        rotate_left; (intro w' hSw; (try dsimp only at hSw); go_split_ands; go_simp; (try with_reducible rfl))
        try dsimp only [Act.put]
        refine wpAnyH_done (by kernel_rfl) ?_ _
        refine NoPanic.normal ?_
        go_simp
        go_wp2
        go_roundw
        case rel => exact ⟨k + 1, by omega, by go_num, NF⟩
        case measure => simp [intOf]; omega
      · obtain rfl : m1 = k := by omega
        go_wp2
        go_ret
        exact ⟨rfl, NN.out.trans HN.out⟩
  · have EA : Hid (nxA m1 zs = -1) := Lib.hid (if_neg hv)
    clear hv
    go_wp2_with fail
    refine (NextTask_any B1 m1 d1 zs (by omega) _ I1.out).mono ?_
    rw [EA.out]
    rintro e w2 ⟨rfl, N2a⟩
    have s2 := N2a.le
    have I1 := Lib.hid (I1.out.new N2a)
    have N2 := Lib.hid (N1.out.trans N2a); clear N2a
    go_wp2_with fail
    refine (SNextTask_any B1 m1 d1 zs (by omega) _ I1.out).mono ?_
    rw [EA.out]
    rintro e w3 ⟨rfl, N3a⟩
    have s3 := N3a.le
    have I1 := Lib.hid (I1.out.new N3a)
    have N3 := Lib.hid (N2.out.trans N3a); clear N3a
    go_wp2_with fail
    refine (SNextTask_any B1 m1 d1 zs (by omega) _ I1.out).mono ?_
    rw [EA.out]
    rintro e w4 ⟨rfl, N4a⟩
    have s4 := N4a.le
    have I1 := Lib.hid (I1.out.new N4a)
    have N4 := Lib.hid (N3.out.trans N4a); clear N4a
    go_wp2
    go_ret
    exact ⟨rfl, N4.out⟩
end Go.Proofs.Ytecnhjofgkhlnaa
