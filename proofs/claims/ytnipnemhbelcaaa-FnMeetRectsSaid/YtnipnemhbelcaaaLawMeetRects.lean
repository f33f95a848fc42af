/- The law FnMeetRects, walked: a point is in the common part exactly if it is in both rectangles. Condition: the code can be read. -/
import Derived.Test.YtnipnemhbelcaaaDraw2
import Derived.Test.YtnipnemhbelcaaaMtP
import Derived.Test.YtnipnemhbelcaaaRectA
import Derived.Deep.Cut
import Derived.Lib.Hide
import Derived.Deep.RegionHeld3
namespace Go.Proofs.Ytnipnemhbelcaaa
open Go.RowKit

theorem allRectD {w : World} {g : Nat} {y0 y1 y2 y3 : Int} (h : Row w g [y0, y1, y2, y3]) : w.cell? ⟨g, 0, none⟩ = some (.int .i64 y0) ∧ w.cell? ⟨g, 1, none⟩ = some (.int .i64 y1) ∧ w.cell? ⟨g, 2, none⟩ = some (.int .i64 y2) ∧ w.cell? ⟨g, 3, none⟩ = some (.int .i64 y3) :=
  ⟨by simpa using h.c 0 (by simp), by simpa using h.c 1 (by simp), by simpa using h.c 2 (by simp), by simpa using h.c 3 (by simp)⟩
set_option maxRecDepth 100000 in
set_option maxHeartbeats 40000000 in
theorem lawMeetRects (A : Option Addr) (n c : Nat) (hn : n ≤ maxLen) (hnc : n ≤ c) (w : World) (hb : Bytes w A n) :
    Calls Try.prog 3 #[.slice A n c] w fun e w' => e = .returned (.bool true) ∧ New w w' := by
  have HB := Lib.hid hb; have HM := Lib.hid hn
  clear hb
  unfold maxLen at hn
  by_cases hbig : 1048576 < n
  · go_enter Try.func3, Try.ntmps3
    go_wp2
    go_ret
    exact ⟨rfl, by (repeat (first | exact New.refl _ | assumption | refine New.alloc ?_ _ | refine New.drew ?_ | refine New.drewN ?_ _ | refine New.setCell ?_ (by first | omega | (simp; omega) | (simp; done)) _ | refine New.trans ?_ (by assumption)))⟩
  have hm : (n : Int) ≤ 1048576 := by omega
  have hm0 : (0 : Int) ≤ (n : Int) := by omega
  go_enter Try.func3, Try.ntmps3
  go_wp2_with fail
  refine (DrawMeetRects_any A n c HM.out hnc _ HB.out).mono ?_
  rintro e w1 ⟨ax, ay, aw, ah, bx, by', bw, bh, rfl, N1a⟩
  have s1 := N1a.le
  have N1 := Lib.hid ((New.refl w).trans N1a); clear N1a
  have RA := Lib.hid ((Row.oneRect w1 ax ay aw ah 24).new ((New.refl _).alloc (.cells #[.int .i64 bx, .int .i64 by', .int .i64 bw, .int .i64 bh] 24)))
  have RB := Lib.hid (by have h := Row.oneRect (w1.alloc (.cells #[.int .i64 ax, .int .i64 ay, .int .i64 aw, .int .i64 ah] 24)) bx by' bw bh 24; rw [show (w1.alloc (.cells #[.int .i64 ax, .int .i64 ay, .int .i64 aw, .int .i64 ah] 24)).heap.size = w1.heap.size + 1 by simp] at h; exact h)
  have N1 := Lib.hid ((N1.out.alloc (.cells #[.int .i64 ax, .int .i64 ay, .int .i64 aw, .int .i64 ah] 24)).alloc (.cells #[.int .i64 bx, .int .i64 by', .int .i64 bw, .int .i64 bh] 24))
  go_upto_region 4 with fail
  generalize hw2 : (w1.alloc (.cells #[.int .i64 ax, .int .i64 ay, .int .i64 aw, .int .i64 ah] 24)).alloc (.cells #[.int .i64 bx, .int .i64 by', .int .i64 bw, .int .i64 bh] 24) = w2 at N1 RA RB ⊢
  clear hw2
  obtain ⟨q0, H0⟩ : ∃ q, Hid (mA ax ay aw ah bx by' bw bh = q) := ⟨_, Lib.hid rfl⟩
  obtain ⟨q1, H1⟩ : ∃ q, Hid (mB ax ay aw ah bx by' bw bh = q) := ⟨_, Lib.hid rfl⟩
  obtain ⟨q2, H2⟩ : ∃ q, Hid (mC ax ay aw ah bx by' bw bh = q) := ⟨_, Lib.hid rfl⟩
  obtain ⟨q3, H3⟩ : ∃ q, Hid (mD ax ay aw ah bx by' bw bh = q) := ⟨_, Lib.hid rfl⟩
  obtain ⟨t, HT⟩ : ∃ t, Hid (mOk ax ay aw ah bx by' bw bh = t) := ⟨_, Lib.hid rfl⟩
  obtain ⟨a0, a1, a2, a3⟩ := allRectD RA.out
  obtain ⟨b0, b1, b2, b3⟩ := allRectD RB.out
  have za := RA.out.lt; have zb := RB.out.lt
  go_wp2_with fail
  refine (MeetRects_any _ _ _ _ _ _ _ _ _).mono ?_
  rw [H0.out, H1.out, H2.out, H3.out, HT.out]
  rintro e w3 ⟨rfl, N3a⟩
  have s3 := N3a.le
  clear a0 a1 a2 a3 b0 b1 b2 b3 za zb
  have RA := Lib.hid (RA.out.new N3a)
  have RB := Lib.hid (RB.out.new N3a)
  have N3 := Lib.hid (N1.out.trans N3a); clear N3a
  have R3 := Lib.hid (Row.oneRect w3 q0 q1 q2 q3 24)
  have RA := Lib.hid (RA.out.new ((New.refl w3).alloc (.cells #[.int .i64 q0, .int .i64 q1, .int .i64 q2, .int .i64 q3] 24)))
  have RB := Lib.hid (RB.out.new ((New.refl w3).alloc (.cells #[.int .i64 q0, .int .i64 q1, .int .i64 q2, .int .i64 q3] 24)))
  have M3 := Lib.hid (N3.out.alloc (.cells #[.int .i64 q0, .int .i64 q1, .int .i64 q2, .int .i64 q3] 24))
  obtain ⟨a0, a1, a2, a3⟩ := allRectD RA.out
  obtain ⟨b0, b1, b2, b3⟩ := allRectD RB.out
  have za := RA.out.lt; have zb := RB.out.lt
  go_wp2_with fail
  refine (SMeetRects_any _ _ _ _ _ _ _ _ _).mono ?_
  rw [H0.out, H1.out, H2.out, H3.out, HT.out]
  rintro e w4 ⟨rfl, N4a⟩
  have s4 := N4a.le
  clear a0 a1 a2 a3 b0 b1 b2 b3 za zb
  have RA := Lib.hid (RA.out.new N4a)
  have RB := Lib.hid (RB.out.new N4a)
  have R3 := Lib.hid (R3.out.new N4a)
  have N4 := Lib.hid (M3.out.trans N4a); clear N4a
  have R4 := Lib.hid (Row.oneRect w4 q0 q1 q2 q3 24)
  have RA := Lib.hid (RA.out.new ((New.refl w4).alloc (.cells #[.int .i64 q0, .int .i64 q1, .int .i64 q2, .int .i64 q3] 24)))
  have RB := Lib.hid (RB.out.new ((New.refl w4).alloc (.cells #[.int .i64 q0, .int .i64 q1, .int .i64 q2, .int .i64 q3] 24)))
  have R3 := Lib.hid (R3.out.new ((New.refl w4).alloc (.cells #[.int .i64 q0, .int .i64 q1, .int .i64 q2, .int .i64 q3] 24)))
  have M4 := Lib.hid (N4.out.alloc (.cells #[.int .i64 q0, .int .i64 q1, .int .i64 q2, .int .i64 q3] 24))
  obtain ⟨a0, a1, a2, a3⟩ := allRectD RA.out
  obtain ⟨b0, b1, b2, b3⟩ := allRectD RB.out
  have za := RA.out.lt; have zb := RB.out.lt
  obtain ⟨c0, c1, c2, c3⟩ := allRectD R3.out
  obtain ⟨d0, d1, d2, d3⟩ := allRectD R4.out
  have zg := R3.out.lt; have zs := R4.out.lt
  cases hva : vR ax ay aw ah
  · have VA := Lib.hid hva; clear hva
    go_wp2_with (go_at_call 11; refine (ValidRect_any ax ay aw ah _).mono ?_; rw [VA.out]; rintro e w7 ⟨rfl, N7⟩; (have RA := Lib.hid (RA.out.new N7)); (have RB := Lib.hid (RB.out.new N7)); (have R3 := Lib.hid (R3.out.new N7)); (have R4 := Lib.hid (R4.out.new N7)); (have N7 := Lib.hid (M4.out.trans N7)); (obtain ⟨b0, b1, b2, b3⟩ := allRectD RB.out); (obtain ⟨c0, c1, c2, c3⟩ := allRectD R3.out); (obtain ⟨d0, d1, d2, d3⟩ := allRectD R4.out); (have zb := RB.out.lt); (have zg := R3.out.lt); (have zs := R4.out.lt); clear VA)
    go_ret
    exact ⟨rfl, N7.out⟩
  have VA := Lib.hid hva
  cases hvb : vR bx by' bw bh
  · have VB := Lib.hid hvb; clear hva hvb
    go_wp2_with (first | (go_at_call 11; refine (ValidRect_any ax ay aw ah _).mono ?_; rw [VA.out]; rintro e w7 ⟨rfl, N7⟩; (have RA := Lib.hid (RA.out.new N7)); (have RB := Lib.hid (RB.out.new N7)); (have R3 := Lib.hid (R3.out.new N7)); (have R4 := Lib.hid (R4.out.new N7)); (have N7 := Lib.hid (M4.out.trans N7)); (obtain ⟨b0, b1, b2, b3⟩ := allRectD RB.out); (obtain ⟨c0, c1, c2, c3⟩ := allRectD R3.out); (obtain ⟨d0, d1, d2, d3⟩ := allRectD R4.out); (have zb := RB.out.lt); (have zg := R3.out.lt); (have zs := R4.out.lt); clear VA) | (go_at_call 11; refine (ValidRect_any bx by' bw bh _).mono ?_; rw [VB.out]; rintro e w8 ⟨rfl, N8⟩; (have RA := Lib.hid (RA.out.new N8)); (have RB := Lib.hid (RB.out.new N8)); (have R3 := Lib.hid (R3.out.new N8)); (have R4 := Lib.hid (R4.out.new N8)); (have N8 := Lib.hid (N7.out.trans N8)); (obtain ⟨c0, c1, c2, c3⟩ := allRectD R3.out); (obtain ⟨d0, d1, d2, d3⟩ := allRectD R4.out); (have zg := R3.out.lt); (have zs := R4.out.lt); clear VB))
    go_ret
    exact ⟨rfl, N8.out⟩
  have VB := Lib.hid hvb
  have PT : Hid (∀ px py, (t && iR q0 q1 q2 q3 px py) = (iR ax ay aw ah px py && iR bx by' bw bh px py)) := Lib.hid (fun px py => by
    cases t
    · rw [meet_no hva hvb HT.out]; rfl
    · have h := meet_pt (px := px) (py := py) HT.out
      rw [H0.out, H1.out, H2.out, H3.out] at h
      rw [h]; rfl)
  clear hva hvb H0 H1 H2 H3 HT
  go_wp2_with (first | (go_at_call 11; refine (ValidRect_any ax ay aw ah _).mono ?_; rw [VA.out]; rintro e w7 ⟨rfl, N7⟩; (have RA := Lib.hid (RA.out.new N7)); (have RB := Lib.hid (RB.out.new N7)); (have R3 := Lib.hid (R3.out.new N7)); (have R4 := Lib.hid (R4.out.new N7)); (have N7 := Lib.hid (M4.out.trans N7)); (obtain ⟨b0, b1, b2, b3⟩ := allRectD RB.out); (obtain ⟨c0, c1, c2, c3⟩ := allRectD R3.out); (obtain ⟨d0, d1, d2, d3⟩ := allRectD R4.out); (have zb := RB.out.lt); (have zg := R3.out.lt); (have zs := R4.out.lt); clear VA) | (go_at_call 11; refine (ValidRect_any bx by' bw bh _).mono ?_; rw [VB.out]; rintro e w8 ⟨rfl, N8⟩; (have RA := Lib.hid (RA.out.new N8)); (have RB := Lib.hid (RB.out.new N8)); (have R3 := Lib.hid (R3.out.new N8)); (have R4 := Lib.hid (R4.out.new N8)); (have N8 := Lib.hid (N7.out.trans N8)); (obtain ⟨c0, c1, c2, c3⟩ := allRectD R3.out); (obtain ⟨d0, d1, d2, d3⟩ := allRectD R4.out); (have zg := R3.out.lt); (have zs := R4.out.lt); clear VB))
  clear N7
  clear a0 a1 a2 a3 b0 b1 b2 b3 c0 c1 c2 c3 d0 d1 d2 d3 za zb zg zs
  have NN := N8
  go_loopw [9] (fun yv wr => ∃ k : Nat, k ≤ 28 ∧ yv = .int .i64 (3 * (k : Int) - 12) ∧ Hid (New w8 wr)) (fun yv _ => (72 - intOf yv).toNat)
  case atStart => exact ⟨0, Nat.zero_le _, by simp, Lib.hid (New.refl _)⟩
  case round =>
    obtain ⟨wo, rfl⟩ : ∃ x, x = wr := ⟨wr, rfl⟩
    obtain ⟨k, hk, rfl, HN⟩ := hrel
    obtain ⟨py, hpy⟩ : ∃ py, 3 * (k : Int) - 12 = py := ⟨_, rfl⟩
    rw [hpy]
    by_cases hlt : k < 28
    · have y1 : py < 72 := by omega
      have yw : IntKind.i64.wrap (py + 3) = py + 3 := IntWalk.i64_in _ (by omega)
      have YE : Hid (py + 3 = 3 * ((k + 1 : Nat) : Int) - 12) := Lib.hid (by omega)
      have YL : Hid (-12 ≤ py ∧ py < 72) := Lib.hid (by omega)
      clear hpy
      go_wp2
      go_loopw [10] (fun xv wr => ∃ m : Nat, m ≤ 28 ∧ xv = .int .i64 (3 * (m : Int) - 12) ∧ Hid (New w8 wr)) (fun xv _ => (72 - intOf xv).toNat)
      case atStart => exact ⟨0, Nat.zero_le _, by simp, HN⟩
      case round =>
        obtain ⟨m, hm_, rfl, HM2⟩ := hrel
        obtain ⟨px, hpx⟩ : ∃ px, 3 * (m : Int) - 12 = px := ⟨_, rfl⟩
        rw [hpx]
        by_cases mlt : m < 28
        · have x1 : px < 72 := by omega
          have xw : IntKind.i64.wrap (px + 3) = px + 3 := IntWalk.i64_in _ (by omega)
          have XE : Hid (px + 3 = 3 * ((m + 1 : Nat) : Int) - 12) := Lib.hid (by omega)
          have XL : Hid (-12 ≤ px ∧ px < 72) := Lib.hid (by omega)
          clear hpx
          have P := Lib.hid (PT.out px py)
          have IA := Lib.hid (fun V => InRect_any ax ay aw ah px py V)
          have IB := Lib.hid (fun V => InRect_any bx by' bw bh px py V)
          have IQ := Lib.hid (fun V => InRect_any q0 q1 q2 q3 px py V)
          obtain ⟨ia, hia⟩ : ∃ ia, iR ax ay aw ah px py = ia := ⟨_, rfl⟩
          obtain ⟨ib, hib⟩ : ∃ ib, iR bx by' bw bh px py = ib := ⟨_, rfl⟩
          obtain ⟨iq, hiq⟩ : ∃ iq, iR q0 q1 q2 q3 px py = iq := ⟨_, rfl⟩
          rw [hia, hib, hiq] at P
          rw [hia] at IA
          rw [hib] at IB
          rw [hiq] at IQ
          clear hia hib hiq
          have KX := Lib.hid (fun V (hV : New wr V) => (⟨allRectD (RA.out.new (HM2.out.trans hV)), allRectD (RB.out.new (HM2.out.trans hV)), allRectD (R3.out.new (HM2.out.trans hV))⟩ : (V.cell? ⟨w1.heap.size, 0, none⟩ = some (.int .i64 ax) ∧ V.cell? ⟨w1.heap.size, 1, none⟩ = some (.int .i64 ay) ∧ V.cell? ⟨w1.heap.size, 2, none⟩ = some (.int .i64 aw) ∧ V.cell? ⟨w1.heap.size, 3, none⟩ = some (.int .i64 ah)) ∧ (V.cell? ⟨w1.heap.size + 1, 0, none⟩ = some (.int .i64 bx) ∧ V.cell? ⟨w1.heap.size + 1, 1, none⟩ = some (.int .i64 by') ∧ V.cell? ⟨w1.heap.size + 1, 2, none⟩ = some (.int .i64 bw) ∧ V.cell? ⟨w1.heap.size + 1, 3, none⟩ = some (.int .i64 bh)) ∧ V.cell? ⟨w3.heap.size, 0, none⟩ = some (.int .i64 q0) ∧ V.cell? ⟨w3.heap.size, 1, none⟩ = some (.int .i64 q1) ∧ V.cell? ⟨w3.heap.size, 2, none⟩ = some (.int .i64 q2) ∧ V.cell? ⟨w3.heap.size, 3, none⟩ = some (.int .i64 q3)))
          have ND := Lib.hid (New.refl wr).drew
          have K0 := KX.out _ ND.out
          cases t <;> cases ia
          · clear P
            go_wp2
            refine wp_region_noPanic ?_
            refine wp_region_held_drew (S := fun w' => (w'.cell? ⟨w1.heap.size, 0, none⟩ = some (.int .i64 ax) ∧ w'.cell? ⟨w1.heap.size, 1, none⟩ = some (.int .i64 ay) ∧ w'.cell? ⟨w1.heap.size, 2, none⟩ = some (.int .i64 aw) ∧ w'.cell? ⟨w1.heap.size, 3, none⟩ = some (.int .i64 ah)) ∧ (w'.cell? ⟨w1.heap.size + 1, 0, none⟩ = some (.int .i64 bx) ∧ w'.cell? ⟨w1.heap.size + 1, 1, none⟩ = some (.int .i64 by') ∧ w'.cell? ⟨w1.heap.size + 1, 2, none⟩ = some (.int .i64 bw) ∧ w'.cell? ⟨w1.heap.size + 1, 3, none⟩ = some (.int .i64 bh)) ∧ w'.cell? ⟨w3.heap.size, 0, none⟩ = some (.int .i64 q0) ∧ w'.cell? ⟨w3.heap.size, 1, none⟩ = some (.int .i64 q1) ∧ w'.cell? ⟨w3.heap.size, 2, none⟩ = some (.int .i64 q2) ∧ w'.cell? ⟨w3.heap.size, 3, none⟩ = some (.int .i64 q3)) (by kernel_rfl) (K0) (fun hHeld => ?_)
            refine wpAnyH_take (i := 0) (oi := _) (v := ?_) rfl (by kernel_rfl) (by kernel_rfl) (by kernel_rfl) (fun _ _ _ h => h) (Or.inl ⟨by kernel_rfl, ?_⟩) (by assumption) ?_
            rotate_left; (intro w' hSw; (try dsimp only at hSw); go_split_ands; go_simp; (try with_reducible rfl))
            try dsimp only [Act.put]
            refine wpAnyH_take (i := 1) (oi := _) (v := ?_) rfl (by kernel_rfl) (by kernel_rfl) (by kernel_rfl) (fun _ _ _ h => h) (Or.inl ⟨by kernel_rfl, ?_⟩) (by assumption) ?_
            rotate_left; (intro w' hSw; (try dsimp only at hSw); go_split_ands; go_simp; (try with_reducible rfl))
            try dsimp only [Act.put]
            refine wpAnyH_take (i := 2) (oi := _) (v := undef) rfl (by kernel_rfl) (by kernel_rfl) (by kernel_rfl) (fun _ _ _ h => h) (Or.inr ⟨by kernel_rfl, rfl⟩) (by assumption) ?_
            try dsimp only [Act.put]
            refine wpAnyH_take (i := 3) (oi := _) (v := undef) rfl (by kernel_rfl) (by kernel_rfl) (by kernel_rfl) (fun _ _ _ h => h) (Or.inr ⟨by kernel_rfl, rfl⟩) (by assumption) ?_
            try dsimp only [Act.put]
            refine wpAnyH_take (i := 4) (oi := _) (v := undef) rfl (by kernel_rfl) (by kernel_rfl) (by kernel_rfl) (fun _ _ _ h => h) (Or.inr ⟨by kernel_rfl, rfl⟩) (by assumption) ?_
            try dsimp only [Act.put]
            refine wpAnyH_take (i := 5) (oi := _) (v := undef) rfl (by kernel_rfl) (by kernel_rfl) (by kernel_rfl) (fun _ _ _ h => h) (Or.inr ⟨by kernel_rfl, rfl⟩) (by assumption) ?_
            try dsimp only [Act.put]
            refine wpAnyH_take (i := 6) (oi := _) (v := ?_) rfl (by kernel_rfl) (by kernel_rfl) (by kernel_rfl) (fun _ _ _ h => h) (Or.inl ⟨by kernel_rfl, ?_⟩) (by assumption) ?_
            rotate_left; (intro w' hSw; (try dsimp only at hSw); go_split_ands; go_simp; (try with_reducible rfl))
            try dsimp only [Act.put]
            refine wpAnyH_take (i := 7) (oi := _) (v := ?_) rfl (by kernel_rfl) (by kernel_rfl) (by kernel_rfl) (fun _ _ _ h => h) (Or.inl ⟨by kernel_rfl, ?_⟩) (by assumption) ?_
            rotate_left; (intro w' hSw; (try dsimp only at hSw); go_split_ands; go_simp; (try with_reducible rfl))
            try dsimp only [Act.put]
            refine wpAnyH_take (i := 8) (oi := _) (v := ?_) rfl (by kernel_rfl) (by kernel_rfl) (by kernel_rfl) (fun _ _ _ h => h) (Or.inl ⟨by kernel_rfl, ?_⟩) (by assumption) ?_
            rotate_left; (intro w' hSw; (try dsimp only at hSw); go_split_ands; go_simp; (try with_reducible rfl))
            try dsimp only [Act.put]
            refine wpAnyH_take (i := 9) (oi := _) (v := ?_) rfl (by kernel_rfl) (by kernel_rfl) (by kernel_rfl) (fun _ _ _ h => h) (Or.inl ⟨by kernel_rfl, ?_⟩) (by assumption) ?_
            rotate_left; (intro w' hSw; (try dsimp only at hSw); go_split_ands; go_simp; (try with_reducible rfl))
            try dsimp only [Act.put]
            refine wpAnyH_ready (rs := [10]) (by kernel_rfl) (by simp) ?_
            refine AllReadyH.cons (o := _) rfl (fun K hK => ?_) AllReadyH.nil
            go_simp
            go_at_call 12
            with_reducible refine (IA.out _).mono ?_
            rintro e wk10 ⟨rfl, Nk⟩
            have ND10 := Lib.hid (ND.out.trans Nk)
            clear Nk
            go_wp2_with fail
            refine hK.out _ _ (KX.out _ ND10.out) (fun hH10 => ?_)
            clear hK K
            try dsimp only [Act.put]
            refine wpAnyH_take (i := 11) (oi := _) (v := ?_) rfl (by kernel_rfl) (by kernel_rfl) (by kernel_rfl) (fun _ _ _ h => h) (Or.inl ⟨by kernel_rfl, ?_⟩) (by assumption) ?_
            rotate_left; (intro w' hSw; (try dsimp only at hSw); go_split_ands; go_simp; (try with_reducible rfl))
            try dsimp only [Act.put]
            refine wpAnyH_take (i := 12) (oi := _) (v := undef) rfl (by kernel_rfl) (by kernel_rfl) (by kernel_rfl) (fun _ _ _ h => h) (Or.inr ⟨by kernel_rfl, rfl⟩) (by assumption) ?_
            try dsimp only [Act.put]
            refine wpAnyH_take (i := 13) (oi := _) (v := undef) rfl (by kernel_rfl) (by kernel_rfl) (by kernel_rfl) (fun _ _ _ h => h) (Or.inr ⟨by kernel_rfl, rfl⟩) (by assumption) ?_
            try dsimp only [Act.put]
            refine wpAnyH_take (i := 14) (oi := _) (v := undef) rfl (by kernel_rfl) (by kernel_rfl) (by kernel_rfl) (fun _ _ _ h => h) (Or.inr ⟨by kernel_rfl, rfl⟩) (by assumption) ?_
            try dsimp only [Act.put]
            refine wpAnyH_take (i := 15) (oi := _) (v := undef) rfl (by kernel_rfl) (by kernel_rfl) (by kernel_rfl) (fun _ _ _ h => h) (Or.inr ⟨by kernel_rfl, rfl⟩) (by assumption) ?_
            try dsimp only [Act.put]
            refine wpAnyH_take (i := 16) (oi := _) (v := ?_) rfl (by kernel_rfl) (by kernel_rfl) (by kernel_rfl) (fun _ _ _ h => h) (Or.inl ⟨by kernel_rfl, ?_⟩) (by assumption) ?_
            rotate_left; (intro w' hSw; (try dsimp only at hSw); go_split_ands; go_simp; (try with_reducible rfl))
            try dsimp only [Act.put]
            refine wpAnyH_take (i := 17) (oi := _) (v := ?_) rfl (by kernel_rfl) (by kernel_rfl) (by kernel_rfl) (fun _ _ _ h => h) (Or.inl ⟨by kernel_rfl, ?_⟩) (by assumption) ?_
            rotate_left; (intro w' hSw; (try dsimp only at hSw); go_split_ands; go_simp; (try with_reducible rfl))
            try dsimp only [Act.put]
            refine wpAnyH_done (by kernel_rfl) ?_ _
            refine NoPanic.normal ?_
            go_wp2
            go_roundw
            case rel => exact ⟨m + 1, by omega, by rw [← XE.out], Lib.hid (HM2.out.trans ND10.out)⟩
            case measure => (have := XL.out; simp [intOf]; omega)
          · obtain rfl : ib = false := by have h := P.out; cases ib; rfl; (simp at h)
            clear P
            go_wp2
            refine wp_region_noPanic ?_
            refine wp_region_held_drew (S := fun w' => (w'.cell? ⟨w1.heap.size, 0, none⟩ = some (.int .i64 ax) ∧ w'.cell? ⟨w1.heap.size, 1, none⟩ = some (.int .i64 ay) ∧ w'.cell? ⟨w1.heap.size, 2, none⟩ = some (.int .i64 aw) ∧ w'.cell? ⟨w1.heap.size, 3, none⟩ = some (.int .i64 ah)) ∧ (w'.cell? ⟨w1.heap.size + 1, 0, none⟩ = some (.int .i64 bx) ∧ w'.cell? ⟨w1.heap.size + 1, 1, none⟩ = some (.int .i64 by') ∧ w'.cell? ⟨w1.heap.size + 1, 2, none⟩ = some (.int .i64 bw) ∧ w'.cell? ⟨w1.heap.size + 1, 3, none⟩ = some (.int .i64 bh)) ∧ w'.cell? ⟨w3.heap.size, 0, none⟩ = some (.int .i64 q0) ∧ w'.cell? ⟨w3.heap.size, 1, none⟩ = some (.int .i64 q1) ∧ w'.cell? ⟨w3.heap.size, 2, none⟩ = some (.int .i64 q2) ∧ w'.cell? ⟨w3.heap.size, 3, none⟩ = some (.int .i64 q3)) (by kernel_rfl) (K0) (fun hHeld => ?_)
            refine wpAnyH_take (i := 0) (oi := _) (v := ?_) rfl (by kernel_rfl) (by kernel_rfl) (by kernel_rfl) (fun _ _ _ h => h) (Or.inl ⟨by kernel_rfl, ?_⟩) (by assumption) ?_
            rotate_left; (intro w' hSw; (try dsimp only at hSw); go_split_ands; go_simp; (try with_reducible rfl))
            try dsimp only [Act.put]
            refine wpAnyH_take (i := 1) (oi := _) (v := ?_) rfl (by kernel_rfl) (by kernel_rfl) (by kernel_rfl) (fun _ _ _ h => h) (Or.inl ⟨by kernel_rfl, ?_⟩) (by assumption) ?_
            rotate_left; (intro w' hSw; (try dsimp only at hSw); go_split_ands; go_simp; (try with_reducible rfl))
            try dsimp only [Act.put]
            refine wpAnyH_take (i := 2) (oi := _) (v := undef) rfl (by kernel_rfl) (by kernel_rfl) (by kernel_rfl) (fun _ _ _ h => h) (Or.inr ⟨by kernel_rfl, rfl⟩) (by assumption) ?_
            try dsimp only [Act.put]
            refine wpAnyH_take (i := 3) (oi := _) (v := undef) rfl (by kernel_rfl) (by kernel_rfl) (by kernel_rfl) (fun _ _ _ h => h) (Or.inr ⟨by kernel_rfl, rfl⟩) (by assumption) ?_
            try dsimp only [Act.put]
            refine wpAnyH_take (i := 4) (oi := _) (v := undef) rfl (by kernel_rfl) (by kernel_rfl) (by kernel_rfl) (fun _ _ _ h => h) (Or.inr ⟨by kernel_rfl, rfl⟩) (by assumption) ?_
            try dsimp only [Act.put]
            refine wpAnyH_take (i := 5) (oi := _) (v := undef) rfl (by kernel_rfl) (by kernel_rfl) (by kernel_rfl) (fun _ _ _ h => h) (Or.inr ⟨by kernel_rfl, rfl⟩) (by assumption) ?_
            try dsimp only [Act.put]
            refine wpAnyH_take (i := 6) (oi := _) (v := ?_) rfl (by kernel_rfl) (by kernel_rfl) (by kernel_rfl) (fun _ _ _ h => h) (Or.inl ⟨by kernel_rfl, ?_⟩) (by assumption) ?_
            rotate_left; (intro w' hSw; (try dsimp only at hSw); go_split_ands; go_simp; (try with_reducible rfl))
            try dsimp only [Act.put]
            refine wpAnyH_take (i := 7) (oi := _) (v := ?_) rfl (by kernel_rfl) (by kernel_rfl) (by kernel_rfl) (fun _ _ _ h => h) (Or.inl ⟨by kernel_rfl, ?_⟩) (by assumption) ?_
            rotate_left; (intro w' hSw; (try dsimp only at hSw); go_split_ands; go_simp; (try with_reducible rfl))
            try dsimp only [Act.put]
            refine wpAnyH_take (i := 8) (oi := _) (v := ?_) rfl (by kernel_rfl) (by kernel_rfl) (by kernel_rfl) (fun _ _ _ h => h) (Or.inl ⟨by kernel_rfl, ?_⟩) (by assumption) ?_
            rotate_left; (intro w' hSw; (try dsimp only at hSw); go_split_ands; go_simp; (try with_reducible rfl))
            try dsimp only [Act.put]
            refine wpAnyH_take (i := 9) (oi := _) (v := ?_) rfl (by kernel_rfl) (by kernel_rfl) (by kernel_rfl) (fun _ _ _ h => h) (Or.inl ⟨by kernel_rfl, ?_⟩) (by assumption) ?_
            rotate_left; (intro w' hSw; (try dsimp only at hSw); go_split_ands; go_simp; (try with_reducible rfl))
            try dsimp only [Act.put]
            refine wpAnyH_ready (rs := [10]) (by kernel_rfl) (by simp) ?_
            refine AllReadyH.cons (o := _) rfl (fun K hK => ?_) AllReadyH.nil
            go_simp
            go_at_call 12
            with_reducible refine (IA.out _).mono ?_
            rintro e wk10 ⟨rfl, Nk⟩
            have ND10 := Lib.hid (ND.out.trans Nk)
            clear Nk
            go_wp2_with fail
            refine hK.out _ _ (KX.out _ ND10.out) (fun hH10 => ?_)
            clear hK K
            try dsimp only [Act.put]
            refine wpAnyH_take (i := 11) (oi := _) (v := ?_) rfl (by kernel_rfl) (by kernel_rfl) (by kernel_rfl) (fun _ _ _ h => h) (Or.inl ⟨by kernel_rfl, ?_⟩) (by assumption) ?_
            rotate_left; (intro w' hSw; (try dsimp only at hSw); go_split_ands; go_simp; (try with_reducible rfl))
            try dsimp only [Act.put]
            refine wpAnyH_take (i := 12) (oi := _) (v := ?_) rfl (by kernel_rfl) (by kernel_rfl) (by kernel_rfl) (fun _ _ _ h => h) (Or.inl ⟨by kernel_rfl, ?_⟩) (by assumption) ?_
            rotate_left; (intro w' hSw; (try dsimp only at hSw); go_split_ands; go_simp; (try with_reducible rfl))
            try dsimp only [Act.put]
            refine wpAnyH_take (i := 13) (oi := _) (v := ?_) rfl (by kernel_rfl) (by kernel_rfl) (by kernel_rfl) (fun _ _ _ h => h) (Or.inl ⟨by kernel_rfl, ?_⟩) (by assumption) ?_
            rotate_left; (intro w' hSw; (try dsimp only at hSw); go_split_ands; go_simp; (try with_reducible rfl))
            try dsimp only [Act.put]
            refine wpAnyH_take (i := 14) (oi := _) (v := ?_) rfl (by kernel_rfl) (by kernel_rfl) (by kernel_rfl) (fun _ _ _ h => h) (Or.inl ⟨by kernel_rfl, ?_⟩) (by assumption) ?_
            rotate_left; (intro w' hSw; (try dsimp only at hSw); go_split_ands; go_simp; (try with_reducible rfl))
            try dsimp only [Act.put]
            refine wpAnyH_ready (rs := [15]) (by kernel_rfl) (by simp) ?_
            refine AllReadyH.cons (o := _) rfl (fun K hK => ?_) AllReadyH.nil
            go_simp
            go_at_call 12
            with_reducible refine (IB.out _).mono ?_
            rintro e wk15 ⟨rfl, Nk⟩
            have ND15 := Lib.hid (ND10.out.trans Nk)
            clear Nk
            go_wp2_with fail
            refine hK.out _ _ (KX.out _ ND15.out) (fun hH15 => ?_)
            clear hK K
            try dsimp only [Act.put]
            refine wpAnyH_take (i := 16) (oi := _) (v := ?_) rfl (by kernel_rfl) (by kernel_rfl) (by kernel_rfl) (fun _ _ _ h => h) (Or.inl ⟨by kernel_rfl, ?_⟩) (by assumption) ?_
            rotate_left; (intro w' hSw; (try dsimp only at hSw); go_split_ands; go_simp; (try with_reducible rfl))
            try dsimp only [Act.put]
            refine wpAnyH_take (i := 17) (oi := _) (v := ?_) rfl (by kernel_rfl) (by kernel_rfl) (by kernel_rfl) (fun _ _ _ h => h) (Or.inl ⟨by kernel_rfl, ?_⟩) (by assumption) ?_
            rotate_left; (intro w' hSw; (try dsimp only at hSw); go_split_ands; go_simp; (try with_reducible rfl))
            try dsimp only [Act.put]
            refine wpAnyH_done (by kernel_rfl) ?_ _
            refine NoPanic.normal ?_
            go_wp2
            go_roundw
            case rel => exact ⟨m + 1, by omega, by rw [← XE.out], Lib.hid (HM2.out.trans ND15.out)⟩
            case measure => (have := XL.out; simp [intOf]; omega)
          · obtain rfl : iq = false := by have h := P.out; cases iq; rfl; (simp at h)
            clear P
            go_wp2
            refine wp_region_noPanic ?_
            refine wp_region_held_drew (S := fun w' => (w'.cell? ⟨w1.heap.size, 0, none⟩ = some (.int .i64 ax) ∧ w'.cell? ⟨w1.heap.size, 1, none⟩ = some (.int .i64 ay) ∧ w'.cell? ⟨w1.heap.size, 2, none⟩ = some (.int .i64 aw) ∧ w'.cell? ⟨w1.heap.size, 3, none⟩ = some (.int .i64 ah)) ∧ (w'.cell? ⟨w1.heap.size + 1, 0, none⟩ = some (.int .i64 bx) ∧ w'.cell? ⟨w1.heap.size + 1, 1, none⟩ = some (.int .i64 by') ∧ w'.cell? ⟨w1.heap.size + 1, 2, none⟩ = some (.int .i64 bw) ∧ w'.cell? ⟨w1.heap.size + 1, 3, none⟩ = some (.int .i64 bh)) ∧ w'.cell? ⟨w3.heap.size, 0, none⟩ = some (.int .i64 q0) ∧ w'.cell? ⟨w3.heap.size, 1, none⟩ = some (.int .i64 q1) ∧ w'.cell? ⟨w3.heap.size, 2, none⟩ = some (.int .i64 q2) ∧ w'.cell? ⟨w3.heap.size, 3, none⟩ = some (.int .i64 q3)) (by kernel_rfl) (K0) (fun hHeld => ?_)
            refine wpAnyH_take (i := 0) (oi := _) (v := ?_) rfl (by kernel_rfl) (by kernel_rfl) (by kernel_rfl) (fun _ _ _ h => h) (Or.inl ⟨by kernel_rfl, ?_⟩) (by assumption) ?_
            rotate_left; (intro w' hSw; (try dsimp only at hSw); go_split_ands; go_simp; (try with_reducible rfl))
            try dsimp only [Act.put]
            refine wpAnyH_take (i := 1) (oi := _) (v := ?_) rfl (by kernel_rfl) (by kernel_rfl) (by kernel_rfl) (fun _ _ _ h => h) (Or.inl ⟨by kernel_rfl, ?_⟩) (by assumption) ?_
            rotate_left; (intro w' hSw; (try dsimp only at hSw); go_split_ands; go_simp; (try with_reducible rfl))
            try dsimp only [Act.put]
            refine wpAnyH_take (i := 2) (oi := _) (v := ?_) rfl (by kernel_rfl) (by kernel_rfl) (by kernel_rfl) (fun _ _ _ h => h) (Or.inl ⟨by kernel_rfl, ?_⟩) (by assumption) ?_
            rotate_left; (intro w' hSw; (try dsimp only at hSw); go_split_ands; go_simp; (try with_reducible rfl))
            try dsimp only [Act.put]
            refine wpAnyH_take (i := 3) (oi := _) (v := ?_) rfl (by kernel_rfl) (by kernel_rfl) (by kernel_rfl) (fun _ _ _ h => h) (Or.inl ⟨by kernel_rfl, ?_⟩) (by assumption) ?_
            rotate_left; (intro w' hSw; (try dsimp only at hSw); go_split_ands; go_simp; (try with_reducible rfl))
            try dsimp only [Act.put]
            refine wpAnyH_take (i := 4) (oi := _) (v := ?_) rfl (by kernel_rfl) (by kernel_rfl) (by kernel_rfl) (fun _ _ _ h => h) (Or.inl ⟨by kernel_rfl, ?_⟩) (by assumption) ?_
            rotate_left; (intro w' hSw; (try dsimp only at hSw); go_split_ands; go_simp; (try with_reducible rfl))
            try dsimp only [Act.put]
            refine wpAnyH_take (i := 7) (oi := _) (v := ?_) rfl (by kernel_rfl) (by kernel_rfl) (by kernel_rfl) (fun _ _ _ h => h) (Or.inl ⟨by kernel_rfl, ?_⟩) (by assumption) ?_
            rotate_left; (intro w' hSw; (try dsimp only at hSw); go_split_ands; go_simp; (try with_reducible rfl))
            try dsimp only [Act.put]
            refine wpAnyH_take (i := 8) (oi := _) (v := ?_) rfl (by kernel_rfl) (by kernel_rfl) (by kernel_rfl) (fun _ _ _ h => h) (Or.inl ⟨by kernel_rfl, ?_⟩) (by assumption) ?_
            rotate_left; (intro w' hSw; (try dsimp only at hSw); go_split_ands; go_simp; (try with_reducible rfl))
            try dsimp only [Act.put]
            refine wpAnyH_take (i := 9) (oi := _) (v := ?_) rfl (by kernel_rfl) (by kernel_rfl) (by kernel_rfl) (fun _ _ _ h => h) (Or.inl ⟨by kernel_rfl, ?_⟩) (by assumption) ?_
            rotate_left; (intro w' hSw; (try dsimp only at hSw); go_split_ands; go_simp; (try with_reducible rfl))
            try dsimp only [Act.put]
            refine wpAnyH_ready (rs := [5]) (by kernel_rfl) (by simp) ?_
            refine AllReadyH.cons (o := _) rfl (fun K hK => ?_) AllReadyH.nil
            go_simp
            go_at_call 12
            with_reducible refine (IQ.out _).mono ?_
            rintro e wk5 ⟨rfl, Nk⟩
            have ND5 := Lib.hid (ND.out.trans Nk)
            clear Nk
            go_wp2_with fail
            refine hK.out _ _ (KX.out _ ND5.out) (fun hH5 => ?_)
            clear hK K
            try dsimp only [Act.put]
            refine wpAnyH_take (i := 6) (oi := _) (v := ?_) rfl (by kernel_rfl) (by kernel_rfl) (by kernel_rfl) (fun _ _ _ h => h) (Or.inl ⟨by kernel_rfl, ?_⟩) (by assumption) ?_
            rotate_left; (intro w' hSw; (try dsimp only at hSw); go_split_ands; go_simp; (try with_reducible rfl))
            try dsimp only [Act.put]
            refine wpAnyH_ready (rs := [10]) (by kernel_rfl) (by simp) ?_
            refine AllReadyH.cons (o := _) rfl (fun K hK => ?_) AllReadyH.nil
            go_simp
            go_at_call 12
            with_reducible refine (IA.out _).mono ?_
            rintro e wk10 ⟨rfl, Nk⟩
            have ND10 := Lib.hid (ND5.out.trans Nk)
            clear Nk
            go_wp2_with fail
            refine hK.out _ _ (KX.out _ ND10.out) (fun hH10 => ?_)
            clear hK K
            try dsimp only [Act.put]
            refine wpAnyH_take (i := 11) (oi := _) (v := ?_) rfl (by kernel_rfl) (by kernel_rfl) (by kernel_rfl) (fun _ _ _ h => h) (Or.inl ⟨by kernel_rfl, ?_⟩) (by assumption) ?_
            rotate_left; (intro w' hSw; (try dsimp only at hSw); go_split_ands; go_simp; (try with_reducible rfl))
            try dsimp only [Act.put]
            refine wpAnyH_take (i := 12) (oi := _) (v := undef) rfl (by kernel_rfl) (by kernel_rfl) (by kernel_rfl) (fun _ _ _ h => h) (Or.inr ⟨by kernel_rfl, rfl⟩) (by assumption) ?_
            try dsimp only [Act.put]
            refine wpAnyH_take (i := 13) (oi := _) (v := undef) rfl (by kernel_rfl) (by kernel_rfl) (by kernel_rfl) (fun _ _ _ h => h) (Or.inr ⟨by kernel_rfl, rfl⟩) (by assumption) ?_
            try dsimp only [Act.put]
            refine wpAnyH_take (i := 14) (oi := _) (v := undef) rfl (by kernel_rfl) (by kernel_rfl) (by kernel_rfl) (fun _ _ _ h => h) (Or.inr ⟨by kernel_rfl, rfl⟩) (by assumption) ?_
            try dsimp only [Act.put]
            refine wpAnyH_take (i := 15) (oi := _) (v := undef) rfl (by kernel_rfl) (by kernel_rfl) (by kernel_rfl) (fun _ _ _ h => h) (Or.inr ⟨by kernel_rfl, rfl⟩) (by assumption) ?_
            try dsimp only [Act.put]
            refine wpAnyH_take (i := 16) (oi := _) (v := ?_) rfl (by kernel_rfl) (by kernel_rfl) (by kernel_rfl) (fun _ _ _ h => h) (Or.inl ⟨by kernel_rfl, ?_⟩) (by assumption) ?_
            rotate_left; (intro w' hSw; (try dsimp only at hSw); go_split_ands; go_simp; (try with_reducible rfl))
            try dsimp only [Act.put]
            refine wpAnyH_take (i := 17) (oi := _) (v := ?_) rfl (by kernel_rfl) (by kernel_rfl) (by kernel_rfl) (fun _ _ _ h => h) (Or.inl ⟨by kernel_rfl, ?_⟩) (by assumption) ?_
            rotate_left; (intro w' hSw; (try dsimp only at hSw); go_split_ands; go_simp; (try with_reducible rfl))
            try dsimp only [Act.put]
            refine wpAnyH_done (by kernel_rfl) ?_ _
            refine NoPanic.normal ?_
            go_wp2
            go_roundw
            case rel => exact ⟨m + 1, by omega, by rw [← XE.out], Lib.hid (HM2.out.trans ND10.out)⟩
            case measure => (have := XL.out; simp [intOf]; omega)
          · obtain rfl : ib = iq := by have h := P.out; cases ib <;> cases iq <;> first | rfl | (simp at h)
            clear P
            cases ib
            all_goals
              go_wp2
              refine wp_region_noPanic ?_
              refine wp_region_held_drew (S := fun w' => (w'.cell? ⟨w1.heap.size, 0, none⟩ = some (.int .i64 ax) ∧ w'.cell? ⟨w1.heap.size, 1, none⟩ = some (.int .i64 ay) ∧ w'.cell? ⟨w1.heap.size, 2, none⟩ = some (.int .i64 aw) ∧ w'.cell? ⟨w1.heap.size, 3, none⟩ = some (.int .i64 ah)) ∧ (w'.cell? ⟨w1.heap.size + 1, 0, none⟩ = some (.int .i64 bx) ∧ w'.cell? ⟨w1.heap.size + 1, 1, none⟩ = some (.int .i64 by') ∧ w'.cell? ⟨w1.heap.size + 1, 2, none⟩ = some (.int .i64 bw) ∧ w'.cell? ⟨w1.heap.size + 1, 3, none⟩ = some (.int .i64 bh)) ∧ w'.cell? ⟨w3.heap.size, 0, none⟩ = some (.int .i64 q0) ∧ w'.cell? ⟨w3.heap.size, 1, none⟩ = some (.int .i64 q1) ∧ w'.cell? ⟨w3.heap.size, 2, none⟩ = some (.int .i64 q2) ∧ w'.cell? ⟨w3.heap.size, 3, none⟩ = some (.int .i64 q3)) (by kernel_rfl) (K0) (fun hHeld => ?_)
              refine wpAnyH_take (i := 0) (oi := _) (v := ?_) rfl (by kernel_rfl) (by kernel_rfl) (by kernel_rfl) (fun _ _ _ h => h) (Or.inl ⟨by kernel_rfl, ?_⟩) (by assumption) ?_
              rotate_left; (intro w' hSw; (try dsimp only at hSw); go_split_ands; go_simp; (try with_reducible rfl))
              try dsimp only [Act.put]
              refine wpAnyH_take (i := 1) (oi := _) (v := ?_) rfl (by kernel_rfl) (by kernel_rfl) (by kernel_rfl) (fun _ _ _ h => h) (Or.inl ⟨by kernel_rfl, ?_⟩) (by assumption) ?_
              rotate_left; (intro w' hSw; (try dsimp only at hSw); go_split_ands; go_simp; (try with_reducible rfl))
              try dsimp only [Act.put]
              refine wpAnyH_take (i := 2) (oi := _) (v := ?_) rfl (by kernel_rfl) (by kernel_rfl) (by kernel_rfl) (fun _ _ _ h => h) (Or.inl ⟨by kernel_rfl, ?_⟩) (by assumption) ?_
              rotate_left; (intro w' hSw; (try dsimp only at hSw); go_split_ands; go_simp; (try with_reducible rfl))
              try dsimp only [Act.put]
              refine wpAnyH_take (i := 3) (oi := _) (v := ?_) rfl (by kernel_rfl) (by kernel_rfl) (by kernel_rfl) (fun _ _ _ h => h) (Or.inl ⟨by kernel_rfl, ?_⟩) (by assumption) ?_
              rotate_left; (intro w' hSw; (try dsimp only at hSw); go_split_ands; go_simp; (try with_reducible rfl))
              try dsimp only [Act.put]
              refine wpAnyH_take (i := 4) (oi := _) (v := ?_) rfl (by kernel_rfl) (by kernel_rfl) (by kernel_rfl) (fun _ _ _ h => h) (Or.inl ⟨by kernel_rfl, ?_⟩) (by assumption) ?_
              rotate_left; (intro w' hSw; (try dsimp only at hSw); go_split_ands; go_simp; (try with_reducible rfl))
              try dsimp only [Act.put]
              refine wpAnyH_take (i := 7) (oi := _) (v := ?_) rfl (by kernel_rfl) (by kernel_rfl) (by kernel_rfl) (fun _ _ _ h => h) (Or.inl ⟨by kernel_rfl, ?_⟩) (by assumption) ?_
              rotate_left; (intro w' hSw; (try dsimp only at hSw); go_split_ands; go_simp; (try with_reducible rfl))
              try dsimp only [Act.put]
              refine wpAnyH_take (i := 8) (oi := _) (v := ?_) rfl (by kernel_rfl) (by kernel_rfl) (by kernel_rfl) (fun _ _ _ h => h) (Or.inl ⟨by kernel_rfl, ?_⟩) (by assumption) ?_
              rotate_left; (intro w' hSw; (try dsimp only at hSw); go_split_ands; go_simp; (try with_reducible rfl))
              try dsimp only [Act.put]
              refine wpAnyH_take (i := 9) (oi := _) (v := ?_) rfl (by kernel_rfl) (by kernel_rfl) (by kernel_rfl) (fun _ _ _ h => h) (Or.inl ⟨by kernel_rfl, ?_⟩) (by assumption) ?_
              rotate_left; (intro w' hSw; (try dsimp only at hSw); go_split_ands; go_simp; (try with_reducible rfl))
              try dsimp only [Act.put]
              refine wpAnyH_ready (rs := [5]) (by kernel_rfl) (by simp) ?_
              refine AllReadyH.cons (o := _) rfl (fun K hK => ?_) AllReadyH.nil
              go_simp
              go_at_call 12
              with_reducible refine (IQ.out _).mono ?_
              rintro e wk5 ⟨rfl, Nk⟩
              have ND5 := Lib.hid (ND.out.trans Nk)
              clear Nk
              go_wp2_with fail
              refine hK.out _ _ (KX.out _ ND5.out) (fun hH5 => ?_)
              clear hK K
              try dsimp only [Act.put]
              refine wpAnyH_take (i := 6) (oi := _) (v := ?_) rfl (by kernel_rfl) (by kernel_rfl) (by kernel_rfl) (fun _ _ _ h => h) (Or.inl ⟨by kernel_rfl, ?_⟩) (by assumption) ?_
              rotate_left; (intro w' hSw; (try dsimp only at hSw); go_split_ands; go_simp; (try with_reducible rfl))
              try dsimp only [Act.put]
              refine wpAnyH_ready (rs := [10]) (by kernel_rfl) (by simp) ?_
              refine AllReadyH.cons (o := _) rfl (fun K hK => ?_) AllReadyH.nil
              go_simp
              go_at_call 12
              with_reducible refine (IA.out _).mono ?_
              rintro e wk10 ⟨rfl, Nk⟩
              have ND10 := Lib.hid (ND5.out.trans Nk)
              clear Nk
              go_wp2_with fail
              refine hK.out _ _ (KX.out _ ND10.out) (fun hH10 => ?_)
              clear hK K
              try dsimp only [Act.put]
              refine wpAnyH_take (i := 11) (oi := _) (v := ?_) rfl (by kernel_rfl) (by kernel_rfl) (by kernel_rfl) (fun _ _ _ h => h) (Or.inl ⟨by kernel_rfl, ?_⟩) (by assumption) ?_
              rotate_left; (intro w' hSw; (try dsimp only at hSw); go_split_ands; go_simp; (try with_reducible rfl))
              try dsimp only [Act.put]
              refine wpAnyH_take (i := 12) (oi := _) (v := ?_) rfl (by kernel_rfl) (by kernel_rfl) (by kernel_rfl) (fun _ _ _ h => h) (Or.inl ⟨by kernel_rfl, ?_⟩) (by assumption) ?_
              rotate_left; (intro w' hSw; (try dsimp only at hSw); go_split_ands; go_simp; (try with_reducible rfl))
              try dsimp only [Act.put]
              refine wpAnyH_take (i := 13) (oi := _) (v := ?_) rfl (by kernel_rfl) (by kernel_rfl) (by kernel_rfl) (fun _ _ _ h => h) (Or.inl ⟨by kernel_rfl, ?_⟩) (by assumption) ?_
              rotate_left; (intro w' hSw; (try dsimp only at hSw); go_split_ands; go_simp; (try with_reducible rfl))
              try dsimp only [Act.put]
              refine wpAnyH_take (i := 14) (oi := _) (v := ?_) rfl (by kernel_rfl) (by kernel_rfl) (by kernel_rfl) (fun _ _ _ h => h) (Or.inl ⟨by kernel_rfl, ?_⟩) (by assumption) ?_
              rotate_left; (intro w' hSw; (try dsimp only at hSw); go_split_ands; go_simp; (try with_reducible rfl))
              try dsimp only [Act.put]
              refine wpAnyH_ready (rs := [15]) (by kernel_rfl) (by simp) ?_
              refine AllReadyH.cons (o := _) rfl (fun K hK => ?_) AllReadyH.nil
              go_simp
              go_at_call 12
              with_reducible refine (IB.out _).mono ?_
              rintro e wk15 ⟨rfl, Nk⟩
              have ND15 := Lib.hid (ND10.out.trans Nk)
              clear Nk
              go_wp2_with fail
              refine hK.out _ _ (KX.out _ ND15.out) (fun hH15 => ?_)
              clear hK K
              try dsimp only [Act.put]
              refine wpAnyH_take (i := 16) (oi := _) (v := ?_) rfl (by kernel_rfl) (by kernel_rfl) (by kernel_rfl) (fun _ _ _ h => h) (Or.inl ⟨by kernel_rfl, ?_⟩) (by assumption) ?_
              rotate_left; (intro w' hSw; (try dsimp only at hSw); go_split_ands; go_simp; (try with_reducible rfl))
              try dsimp only [Act.put]
              refine wpAnyH_take (i := 17) (oi := _) (v := ?_) rfl (by kernel_rfl) (by kernel_rfl) (by kernel_rfl) (fun _ _ _ h => h) (Or.inl ⟨by kernel_rfl, ?_⟩) (by assumption) ?_
              rotate_left; (intro w' hSw; (try dsimp only at hSw); go_split_ands; go_simp; (try with_reducible rfl))
              try dsimp only [Act.put]
              refine wpAnyH_done (by kernel_rfl) ?_ _
              refine NoPanic.normal ?_
              go_wp2
              go_roundw
              case rel => exact ⟨m + 1, by omega, by rw [← XE.out], Lib.hid (HM2.out.trans ND15.out)⟩
              case measure => (have := XL.out; simp [intOf]; omega)
        · have x1 : ¬ px < 72 := by omega
          clear hpx
          go_wp2
          go_roundw
          case rel => exact ⟨k + 1, by omega, by rw [← YE.out], HM2⟩
          case measure => (have := YL.out; simp [intOf]; omega)
    · have y1 : ¬ py < 72 := by omega
      clear hpy
      go_wp2
      go_ret
      exact ⟨rfl, NN.out.trans HN.out⟩
end Go.Proofs.Ytnipnemhbelcaaa
