/- The next task, in the program and in the reference. Condition: the tasks can be read. -/
import Derived.Test.YtpkombjmbpgdnaaHeapS
namespace Go.Proofs.Ytpkombjmbpgdnaa
open Go.RowKit

/-- The first k + 1 tasks' next one. -/
def nx (zs : List Int) : Nat → Nat
  | 0 => 0
  | k + 1 => if ltB (tkOf zs (k + 1)) (tkOf zs (nx zs k)) = true then k + 1 else nx zs k
def nxA (n : Nat) (zs : List Int) : Int := if vtk n zs = true ∧ 0 < n then tid zs (nx zs (n - 1)) else -1
section
variable {n k : Nat} {zs : List Int} {t : Tk}
theorem nx_le (zs : List Int) : ∀ k, nx zs k ≤ k
  | 0 => Nat.le_refl _
  | k + 1 => by
    have h := nx_le zs k
    show (if ltB (tkOf zs (k + 1)) (tkOf zs (nx zs k)) = true then k + 1 else nx zs k) ≤ k + 1
    split <;> omega
theorem nx_min (zs : List Int) : ∀ k j, j ≤ k → leK (tkOf zs (nx zs k)) (tkOf zs j)
  | 0, j, h => by obtain rfl : j = 0 := by omega
                  exact leK_refl _
  | k + 1, j, h => by
    show leK (tkOf zs (if ltB (tkOf zs (k + 1)) (tkOf zs (nx zs k)) = true then k + 1 else nx zs k)) (tkOf zs j)
    split
    · next h1 =>
      by_cases e : j = k + 1
      · subst e; exact leK_refl _
      · exact leK_trans (leK_lt (ltK_yes h1)) (nx_min zs k j (by omega))
    · next h1 =>
      by_cases e : j = k + 1
      · subst e; exact leK_no (by simpa using h1)
      · exact nx_min zs k j (by omega)
/-- The next task is the only one that no other is sooner than. -/
theorem nx_is (hv : vtk n zs = true) (h0 : 0 < n) (ht : t ∈ tks zs n) (hm : ∀ u ∈ tks zs n, leK t u) : t = tkOf zs (nx zs (n - 1)) := by
  obtain ⟨k, hk, rfl⟩ := tks_mem.1 ht
  have hx := nx_le zs (n - 1)
  have h1 := hm _ (tks_mem.2 ⟨nx zs (n - 1), by omega, rfl⟩)
  have h2 := nx_min zs (n - 1) k (by omega)
  have e : tid zs k = tid zs (nx zs (n - 1)) := by
    unfold leK at h1 h2
    have a : (tkOf zs k).1 = tid zs k := rfl
    have b : (tkOf zs (nx zs (n - 1))).1 = tid zs (nx zs (n - 1)) := rfl
    rw [a, b] at h1 h2
    omega
  have hv2 := (vtk_at hv).2
  rcases Nat.lt_trichotomy k (nx zs (n - 1)) with h3 | h3 | h3
  · have := (hv2 (nx zs (n - 1)) (by omega)).2 k h3; omega
  · rw [← h3]
  · have := (hv2 k hk).2 _ h3; omega
end
set_option maxHeartbeats 4000000 in
theorem NextTask_any (A : Option Addr) (n c : Nat) (zs : List Int) (hn : n ≤ 1048576) (w : World) (hx : Sts 3 w A n zs) :
    Calls Try.prog 11 #[.slice A n c] w fun e w' => e = .returned (.int .i64 (nxA n zs)) ∧ New w w' := by
  have HC := Lib.hid (queueOf_any A n c zs hn w hx)
  clear hx
  by_cases hv : vtk n zs = true ∧ 0 < n
  · have EL : tkL n zs = tks zs n := if_pos hv.1
    have EA : Hid (nxA n zs = tid zs (nx zs (n - 1))) := Lib.hid (if_pos hv)
    have HV := Lib.hid hv
    have np : 0 < n := hv.2
    have n10 : (n : Int) ≤ 10 := by have := (vtk_at hv.1).1; omega
    have nb : ((n : Int) == 0) = false := by simp; omega
    have ni : (0 : Int) < (n : Int) := by omega
    clear hv
    go_enter Try.func11, Try.ntmps11
    go_wp2_with fail
    refine HC.out.mono ?_
    rintro e w1 ⟨P, rfl, h⟩
    rw [EL, tks_len] at h
    obtain ⟨g, c1, f, hQ, hV, hS, hF, hN⟩ := h
    have c0 := hQ.cell
    have d0 : w1.cell? ⟨g, 0, none⟩ = some (.int .i64 (f 0).1) := by have := (hQ.at_ (k := 0) np).1; rw [Nat.zero_mul] at this; exact this
    have E0 : Hid ((f 0).1 = tid zs (nx zs (n - 1))) := Lib.hid (by
      have h1 := nx_is HV.out.1 np ((hS.mem _).2 ⟨0, np, rfl⟩) (fun u hu => by
        obtain ⟨k, hk, e⟩ := (hS.mem u).1 hu
        rw [← e]; exact heap_min hF k hk)
      rw [h1]; rfl)
    have NN := Lib.hid hN
    clear hQ hV hS hF hN EL
    generalize (f 0).1 = z at *
    go_wp2_with fail
    refine (Len_any _ _ _ _).mono ?_
    rintro e w' ⟨rfl, rfl⟩
    go_wp2
    go_ret
    exact ⟨by rw [EA.out, ← E0.out]; rfl, NN.out⟩
  · have EA : Hid (nxA n zs = -1) := Lib.hid (if_neg hv)
    have EL : tkL n zs = [] := by
      unfold tkL
      split
      · next h =>
        obtain rfl : n = 0 := by
          have h2 : ¬ 0 < n := fun h0 => hv ⟨h, h0⟩
          omega
        rfl
      · rfl
    clear hv
    go_enter Try.func11, Try.ntmps11
    go_wp2_with fail
    refine HC.out.mono ?_
    rintro e w1 ⟨P, rfl, h⟩
    rw [EL] at h
    obtain ⟨g, c1, f, hQ, hV, hS, hF, hN⟩ := h
    have c0 := hQ.cell
    rw [List.length_nil] at c0
    have NN := Lib.hid hN
    clear hQ hV hS hF hN EL
    go_wp2_with fail
    refine (Len_any _ _ _ _).mono ?_
    rintro e w' ⟨rfl, rfl⟩
    go_wp2
    go_ret
    exact ⟨by rw [EA.out]; rfl, NN.out⟩
set_option maxHeartbeats 4000000 in
theorem sooner_any (x0 x1 x2 y0 y1 y2 : Int) (hx : (0 ≤ x1 ∧ x1 ≤ 50) ∧ (0 ≤ x2 ∧ x2 ≤ 20)) (hy : (0 ≤ y1 ∧ y1 ≤ 50) ∧ (0 ≤ y2 ∧ y2 ≤ 20)) (w : World) :
    Calls Try.prog 31 #[.agg #[.int .i64 x0, .int .i64 x1, .int .i64 x2], .agg #[.int .i64 y0, .int .i64 y1, .int .i64 y2]] w fun e w' => e = .returned (.bool (ltB (x0, x1, x2) (y0, y1, y2))) ∧ New w w' := by
  obtain ⟨⟨hx0, hx1⟩, hx2, hx3⟩ := hx
  obtain ⟨⟨hy0, hy1⟩, hy2, hy3⟩ := hy
  have key_ : ltB (x0, x1, x2) (y0, y1, y2) = decide (x1 - 4 * x2 < y1 - 4 * y2 ∨ (x1 - 4 * x2 = y1 - 4 * y2 ∧ x0 < y0)) := rfl
  by_cases h1 : x1 - 4 * x2 < y1 - 4 * y2
  · have E : Hid (ltB (x0, x1, x2) (y0, y1, y2) = true) := Lib.hid (by rw [key_]; exact decide_eq_true (.inl h1))
    have d1 : decide (x1 - 4 * x2 < y1 - 4 * y2) = true := decide_eq_true h1
    clear key_
    go_enter Try.func31, Try.ntmps31
    go_wp2
    go_ret
    exact ⟨by rw [E.out]; first | rfl | simp, by (repeat (first | exact New.refl _ | assumption | refine New.alloc ?_ _ | refine New.drew ?_ | refine New.drewN ?_ _ | refine New.setCell ?_ (by first | omega | (simp; omega) | (simp; done)) _ | refine New.trans ?_ (by assumption)))⟩
  · have d1 : decide (x1 - 4 * x2 < y1 - 4 * y2) = false := decide_eq_false h1
    by_cases h2 : x1 - 4 * x2 = y1 - 4 * y2
    · have d2 : (x1 - 4 * x2 == y1 - 4 * y2) = true := by simpa using h2
      have E : Hid (ltB (x0, x1, x2) (y0, y1, y2) = decide (x0 < y0)) := Lib.hid (by rw [key_, decide_eq_decide]; omega)
      clear key_ h2
      go_enter Try.func31, Try.ntmps31
      go_wp2
      go_ret
      exact ⟨by rw [E.out]; first | rfl | simp, by (repeat (first | exact New.refl _ | assumption | refine New.alloc ?_ _ | refine New.drew ?_ | refine New.drewN ?_ _ | refine New.setCell ?_ (by first | omega | (simp; omega) | (simp; done)) _ | refine New.trans ?_ (by assumption)))⟩
    · have d2 : (x1 - 4 * x2 == y1 - 4 * y2) = false := by simpa using h2
      have E : Hid (ltB (x0, x1, x2) (y0, y1, y2) = false) := Lib.hid (by rw [key_]; exact decide_eq_false (by omega))
      clear key_ h2
      go_enter Try.func31, Try.ntmps31
      go_wp2
      go_ret
      exact ⟨by rw [E.out]; first | rfl | simp, by (repeat (first | exact New.refl _ | assumption | refine New.alloc ?_ _ | refine New.drew ?_ | refine New.drewN ?_ _ | refine New.setCell ?_ (by first | omega | (simp; omega) | (simp; done)) _ | refine New.trans ?_ (by assumption)))⟩
set_option maxRecDepth 100000 in
set_option maxHeartbeats 4000000 in
theorem nextAt_any (A : Option Addr) (n c : Nat) (zs : List Int) (hv : vtk n zs = true) (h0 : 0 < n) (w : World) (hx : Sts 3 w A n zs) :
    Calls Try.prog 19 #[.slice A n c] w fun e w' => e = .returned (.int .i64 (nx zs (n - 1))) ∧ New w w' := by
  obtain ⟨b, off, rfl, hb, hc⟩ := hx.at_ h0
  have HC := Lib.hid (fun k (hk : k < n) X (hX : New w X) => (show X.cell? ⟨b, off + k * 3, none⟩ = some (.int .i64 (tkOf zs k).1) ∧ X.cell? ⟨b, off + k * 3 + 1, none⟩ = some (.int .i64 (tkOf zs k).2.1) ∧ X.cell? ⟨b, off + k * 3 + 2, none⟩ = some (.int .i64 (tkOf zs k).2.2) from ⟨(hX.cells b _ hb).trans (hc (k * 3) (by omega)), (hX.cells b _ hb).trans (hc (k * 3 + 1) (by omega)), (hX.cells b _ hb).trans (hc (k * 3 + 2) (by omega))⟩))
  obtain ⟨n10, hall⟩ := vtk_at hv
  have HA := Lib.hid (fun k (hk : k < n) => (hall k hk).1)
  have ni : (n : Int) ≤ 10 := by omega
  have np : (0 : Int) < (n : Int) := by omega
  clear hx hc hv hall
  go_enter Try.func19, Try.ntmps19
  go_wp2
  go_loopw [3, 4] (fun m i wr => ∃ k : Nat, 1 ≤ k ∧ k ≤ n ∧ m = .int .i64 ((nx zs (k - 1) : Nat) : Int) ∧ i = .int .i64 k ∧ Hid (New w wr)) (fun _ i _ => n - (intOf i).toNat)
  case atStart => exact ⟨1, by omega, by omega, rfl, rfl, Lib.hid (New.refl _)⟩
  case round =>
    obtain ⟨k, hk1, hk, rfl, rfl, HN⟩ := hrel
    have k0 : (0 : Int) ≤ (k : Int) := by omega
    by_cases hlt : k < n
    · have k1 : (k : Int) < (n : Int) := by omega
      have hmle := nx_le zs (k - 1)
      have NXT : Hid (nx zs k = if ltB (tkOf zs k) (tkOf zs (nx zs (k - 1))) = true then k else nx zs (k - 1)) := Lib.hid (by
        obtain ⟨q, rfl⟩ : ∃ q, k = q + 1 := ⟨k - 1, by omega⟩
        rfl)
      have SO := Lib.hid (fun V => sooner_any (tkOf zs k).1 (tkOf zs k).2.1 (tkOf zs k).2.2 (tkOf zs (nx zs (k - 1))).1 (tkOf zs (nx zs (k - 1))).2.1 (tkOf zs (nx zs (k - 1))).2.2 (HA.out k hlt).2 (HA.out _ (by omega)).2 V)
      have H1 := Lib.hid (HC.out k hlt); have H2 := Lib.hid (HC.out (nx zs (k - 1)) (by omega))
      have ek : k + 1 - 1 = k := by omega
      generalize nx zs (k - 1) = m at *
      have m0 : (0 : Int) ≤ (m : Int) := by omega
      have m1 : (m : Int) < (n : Int) := by omega
      have ND := Lib.hid (New.refl wr).drew
      cases hb2 : ltB (tkOf zs k) (tkOf zs m)
      all_goals
        rw [show ltB ((tkOf zs k).1, (tkOf zs k).2.1, (tkOf zs k).2.2) ((tkOf zs m).1, (tkOf zs m).2.1, (tkOf zs m).2.2) = ltB (tkOf zs k) (tkOf zs m) from rfl, hb2] at SO
        rw [hb2] at NXT
        clear hb2
        generalize (tkOf zs k).1 = x0 at *
        generalize (tkOf zs k).2.1 = x1 at *
        generalize (tkOf zs k).2.2 = x2 at *
        generalize (tkOf zs m).1 = y0 at *
        generalize (tkOf zs m).2.1 = y1 at *
        generalize (tkOf zs m).2.2 = y2 at *
        have KF := Lib.hid (fun X (hX : New wr X) => (⟨H1.out X (HN.out.trans hX), H2.out X (HN.out.trans hX)⟩ : (X.cell? ⟨b, off + k * 3, none⟩ = some (.int .i64 x0) ∧ X.cell? ⟨b, off + k * 3 + 1, none⟩ = some (.int .i64 x1) ∧ X.cell? ⟨b, off + k * 3 + 2, none⟩ = some (.int .i64 x2)) ∧ X.cell? ⟨b, off + m * 3, none⟩ = some (.int .i64 y0) ∧ X.cell? ⟨b, off + m * 3 + 1, none⟩ = some (.int .i64 y1) ∧ X.cell? ⟨b, off + m * 3 + 2, none⟩ = some (.int .i64 y2)))
        have NE := NXT.out
        simp only [Bool.false_eq_true, if_false, if_true] at NE
        have NE := Lib.hid NE
        clear H1 H2
        go_wp2
        refine wp_region_noPanic ?_
        refine wp_region_held_drew (S := fun w' => (w'.cell? ⟨b, off + k * 3, none⟩ = some (.int .i64 x0) ∧ w'.cell? ⟨b, off + k * 3 + 1, none⟩ = some (.int .i64 x1) ∧ w'.cell? ⟨b, off + k * 3 + 2, none⟩ = some (.int .i64 x2)) ∧ w'.cell? ⟨b, off + m * 3, none⟩ = some (.int .i64 y0) ∧ w'.cell? ⟨b, off + m * 3 + 1, none⟩ = some (.int .i64 y1) ∧ w'.cell? ⟨b, off + m * 3 + 2, none⟩ = some (.int .i64 y2)) (by kernel_rfl) (KF.out _ ND.out) (fun hHeld => ?_)
        refine wpAnyH_take (i := 0) (oi := _) (v := ?_) rfl (by kernel_rfl) (by kernel_rfl) (by kernel_rfl) (fun _ _ _ h => h) (Or.inl ⟨by kernel_rfl, ?_⟩) (by assumption) ?_
        rotate_left; (intro w' hSw; (try dsimp only at hSw); go_split_ands; go_simp; (try with_reducible rfl))
        try dsimp only [Act.put]
        refine wpAnyH_take (i := 1) (oi := _) (v := ?_) rfl (by kernel_rfl) (by kernel_rfl) (by kernel_rfl) (fun _ _ _ h => h) (Or.inl ⟨by kernel_rfl, ?_⟩) (by assumption) ?_
        rotate_left; (intro w' hSw; (try dsimp only at hSw); go_split_ands; go_simp; (try with_reducible rfl))
        try dsimp only [Act.put]
        refine wpAnyH_take (i := 2) (oi := _) (v := ?_) rfl (by kernel_rfl) (by kernel_rfl) (by kernel_rfl) (fun _ _ _ h => h) (Or.inl ⟨by kernel_rfl, ?_⟩) (by assumption) ?_
        rotate_left; (intro w' hSw; (try dsimp only at hSw); go_split_ands; go_simp; (try with_reducible rfl))
        try dsimp only [Act.put]
        refine wpAnyH_take (i := 3) (oi := _) (v := ?_) rfl (by kernel_rfl) (by kernel_rfl) (by kernel_rfl) (fun _ _ _ h => h) (Or.inl ⟨by kernel_rfl, ?_⟩) (by assumption) ?_
        rotate_left; (intro w' hSw; (try dsimp only at hSw); go_split_ands; go_simp; (try with_reducible rfl))
        try dsimp only [Act.put]
        refine wpAnyH_take (i := 4) (oi := _) (v := ?_) rfl (by kernel_rfl) (by kernel_rfl) (by kernel_rfl) (fun _ _ _ h => h) (Or.inl ⟨by kernel_rfl, ?_⟩) (by assumption) ?_
        rotate_left; (intro w' hSw; (try dsimp only at hSw); go_split_ands; go_simp; (try with_reducible rfl))
        try dsimp only [Act.put]
        refine wpAnyH_take (i := 5) (oi := _) (v := ?_) rfl (by kernel_rfl) (by kernel_rfl) (by kernel_rfl) (fun _ _ _ h => h) (Or.inl ⟨by kernel_rfl, ?_⟩) (by assumption) ?_
        rotate_left; (intro w' hSw; (try dsimp only at hSw); go_split_ands; go_simp; (try with_reducible rfl))
        try dsimp only [Act.put]
        refine wpAnyH_take (i := 6) (oi := _) (v := ?_) rfl (by kernel_rfl) (by kernel_rfl) (by kernel_rfl) (fun _ _ _ h => h) (Or.inl ⟨by kernel_rfl, ?_⟩) (by assumption) ?_
        rotate_left; (intro w' hSw; (try dsimp only at hSw); go_split_ands; go_simp; (try with_reducible rfl))
        try dsimp only [Act.put]
        refine wpAnyH_take (i := 7) (oi := _) (v := ?_) rfl (by kernel_rfl) (by kernel_rfl) (by kernel_rfl) (fun _ _ _ h => h) (Or.inl ⟨by kernel_rfl, ?_⟩) (by assumption) ?_
        rotate_left; (intro w' hSw; (try dsimp only at hSw); go_split_ands; go_simp; (try with_reducible rfl))
        try dsimp only [Act.put]
        refine wpAnyH_ready (rs := [8]) (by kernel_rfl) (by simp) ?_
        refine AllReadyH.cons (o := _) rfl (fun K hK => ?_) AllReadyH.nil
        go_simp
        go_at_call 31
        refine (SO.out _).mono ?_
        rintro e w8 ⟨rfl, N8⟩
        have N8 := Lib.hid (ND.out.trans N8)
        go_wp2_with fail
        refine hK.out _ _ (KF.out _ N8.out) (fun hH8 => ?_)
        clear hK K
        try dsimp only [Act.put]
        refine wpAnyH_done (by kernel_rfl) ?_ _
        refine NoPanic.normal ?_
        go_wp2
        go_roundw
        case rel => exact ⟨k + 1, by omega, by omega, by rw [ek, NE.out], by go_num, Lib.hid (HN.out.trans N8.out)⟩
        case measure => simp [intOf]; omega
    · obtain rfl : n = k := by omega
      go_wp2
      go_ret
      exact ⟨rfl, HN.out⟩
end Go.Proofs.Ytpkombjmbpgdnaa
