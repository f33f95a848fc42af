/- How many parts each line has, in the reference, walked. Condition: the parts can be read. -/
import Derived.Test.YtpkajdnndognnaaPrtW
import Derived.Test.YtpkajdnndognnaaPrtV
import Derived.Test.YtpkajdnndognnaaAppH
namespace Go.Proofs.Ytpkajdnndognnaa
open Go.RowKit

theorem Own.set_ {lo g n c : Nat} {w : World} {zs : List Int} (h : Own lo w (.slice (some ⟨g, 0, none⟩) n c) zs) (hl : zs.length = n) (j : Nat) (p : Int) : Own lo (w.setCell ⟨g, j, none⟩ (.int .i64 p)) (.slice (some ⟨g, 0, none⟩) n c) (zs.set j p) := by
  subst hl
  have h1 := (World.ownsRow.stored h j (.int .i64 p)).1
  unfold Own
  rw [List.length_set, List.map_set]
  exact h1
set_option maxRecDepth 100000 in
set_option maxHeartbeats 8000000 in
theorem scounts_any (A : Option Addr) (n c : Nat) (zs : List Int) (wd gap : Int) (hn : n ≤ 1048576) (hv : wrOk zs n wd gap = true) (w : World) (hx : Sts 2 w A n zs) :
    Calls Try.prog 41 #[.slice A n c, .int .i64 wd, .int .i64 gap] w (AnsK w (lcA zs n wd gap)) := by
  obtain ⟨hv1, hw, hg⟩ := wrOk_iff.1 hv
  have hn12 := n_le hv1
  have HX := Lib.hid hx
  have BD := Lib.hid (cs_bd (wd := wd) (gap := gap) hv1 hw hg)
  have PB := Lib.hid (fun k (hk : k < n) => (pr_bd hv1 hk).1)
  have FIN : Hid ((cs zs wd gap n).1 = lcA zs n wd gap) := Lib.hid (by rw [cs_all hv, lcA, if_pos hv])
  have YES := Lib.hid (fun i => @cs_yes zs wd gap i)
  have NO := Lib.hid (fun i => @cs_no zs wd gap i)
  have O0 := Lib.hid (Own.empty (lo := w.heap.size) w 0 (Nat.le_refl _) rfl)
  obtain ⟨hw0, hw1⟩ := hw; obtain ⟨hg0, hg1⟩ := hg
  clear hx hv hv1
  go_enter Try.func41, Try.ntmps41
  go_wp2
  go_loopw [7, 8, 9] (fun v u i wr => ∃ k : Nat, k ≤ n ∧ i = .int .i64 k ∧ u = .int .i64 (cs zs wd gap k).2 ∧ Hid (Own w.heap.size wr v (cs zs wd gap k).1) ∧ Hid (New w wr)) (fun _ _ i _ => n - (intOf i).toNat)
  case atStart => exact ⟨0, Nat.zero_le _, rfl, rfl, O0, Lib.hid (by (repeat (first | exact New.refl _ | assumption | refine New.alloc ?_ _ | refine New.drew ?_ | refine New.drewN ?_ _ | refine New.setCell ?_ (by first | omega | (simp; omega) | (simp; done)) _ | refine New.trans ?_ (by assumption))))⟩
  case round =>
    obtain ⟨k, hk, rfl, rfl, HO, HN⟩ := hrel
    have k0 : (0 : Int) ≤ (k : Int) := by omega
    have wl := HN.out.le
    obtain ⟨v, hv'⟩ : ∃ v, v = u7 := ⟨_, rfl⟩
    rw [← hv'] at HO ⊢
    clear hv'
    by_cases hlt : k < n
    · obtain ⟨b, off, rfl, hb, hc⟩ := HX.out.at_ (by omega)
      have g0 : wr.cell? ⟨b, off + k * 2, none⟩ = some (.int .i64 (zs.getD (k * 2) 0)) := (HN.out.cells b _ hb).trans (hc (k * 2) (by omega))
      have GC : Hid (∀ W, New w W → W.cell? ⟨b, off + k * 2, none⟩ = some (.int .i64 (zs.getD (k * 2) 0))) := Lib.hid (fun W hW => (hW.cells b _ hb).trans (hc (k * 2) (by omega)))
      have k1 : (k : Int) < (n : Int) := by omega
      obtain ⟨d1, d2, d3, d4⟩ := BD.out k hk
      obtain ⟨p1, p2⟩ := PB.out k hlt
      have Y := Lib.hid (YES.out k); have N := Lib.hid (NO.out k)
      have PW : Hid (pw zs k = zs.getD (k * 2) 0) := Lib.hid rfl
      rw [PW.out] at p1 p2 Y N
      have d2 := Lib.hid d2
      clear hc YES NO BD PB PW FIN O0
      generalize cs zs wd gap k = cv at *
      obtain ⟨xs, u⟩ := cv
      dsimp only at d1 d2 d3 d4 Y N HO ⊢
      generalize zs.getD (k * 2) 0 = x at *
      have s1 : IntKind.i64.wrap (u + gap) = u + gap := IntWalk.i64_in _ (by omega)
      have s2 : IntKind.i64.wrap (u + gap + x) = u + gap + x := IntWalk.i64_in _ (by omega)
      rcases Nat.eq_zero_or_pos xs.length with hL | hL
      · obtain rfl : xs = [] := List.length_eq_zero_iff.1 hL
        have E := Lib.hid (N.out (.inl rfl))
        obtain ⟨A0, c0, rfl, _, _⟩ := HO.out.res
        go_wp2_with (at_builtin; refine wp_app rfl _ _ rfl w.heap.size _ _ rfl (HO.out.alloc _) (some ⟨wr.heap.size, 0, none⟩) 1 1 [1] rfl (Ints.one wr _ _) (by simp) (by simp; omega) ?_; intro v6 w6 O6 G6; (have N6 := Lib.hid (new_own (HN.out.alloc _) G6 (HO.out.alloc _) (by omega))); (replace O6 := Lib.hid O6); (have g6 := GC.out _ N6.out); clear G6)
        go_roundw
        case rel => exact ⟨k + 1, by omega, by go_num, by rw [E.out], Lib.hid (by rw [E.out]; exact O6.out), N6⟩
        case measure => simp [intOf]; omega
      · by_cases hf : u + gap + x ≤ wd
        · rcases HO.out.form with ⟨_, h⟩ | ⟨g, c0, rfl, hg, HR, hcap, _⟩
          · rw [h] at hL; exact absurd hL (by simp)
          obtain ⟨L, hLe⟩ : ∃ L, xs.length = L + 1 := ⟨xs.length - 1, by omega⟩
          have E := Lib.hid (Y.out (by intro h; rw [h] at hL; exact absurd hL (by simp)) hf)
          have gl := HR.c L (by omega)
          have fl := HR.f L (by omega)
          have SG := Lib.hid (HO.out.set_ rfl L (xs.getD L 0 + 1))
          have q := d2.out L
          obtain ⟨q0, q1⟩ := q
          have hf' : u + gap + x ≤ wd := hf
          rw [hLe] at HO SG E hcap d1 ⊢
          rw [show L + 1 - 1 = L from rfl] at E
          have L1 : ((L : Int) + 1) - 1 = (L : Int) := by omega
          have LL : (0 : Int) ≤ (L : Int) := by omega
          have LK : (L : Int) < (L : Int) + 1 := by omega
          clear hLe hL
          generalize xs.getD L 0 = y at *
          go_wp2
          go_roundw
          case rel => exact ⟨k + 1, by omega, by go_num, by rw [E.out], Lib.hid (by rw [E.out]; exact SG.out), Lib.hid (by (repeat (first | exact New.refl _ | assumption | refine New.alloc ?_ _ | refine New.drew ?_ | refine New.drewN ?_ _ | refine New.setCell ?_ (by first | omega | (simp; omega) | (simp; done)) _ | refine New.trans ?_ (by assumption))))⟩
          case measure => simp [intOf]; omega
        · have E := Lib.hid (N.out (.inr (by omega)))
          have hf' : wd < u + gap + x := by omega
          clear hf
          obtain ⟨A0, c0, rfl, _, _⟩ := HO.out.res
          obtain ⟨L, hLe⟩ : ∃ L, xs.length = L := ⟨_, rfl⟩
          have LB : Hid (xs.length ≤ 12) := Lib.hid (by omega)
          rw [hLe] at HO ⊢
          have L0 : (1 : Int) ≤ (L : Int) := by omega
          have L12 : (L : Int) ≤ 12 := by omega
          clear hLe hL d1
          go_wp2_with (at_builtin; refine wp_app rfl _ _ rfl w.heap.size _ _ rfl (HO.out.alloc _) (some ⟨wr.heap.size, 0, none⟩) 1 1 [1] rfl (Ints.one wr _ _) (by have := LB.out; simp; omega) (by simp; omega) ?_; intro v6 w6 O6 G6; (have N6 := Lib.hid (new_own (HN.out.alloc _) G6 (HO.out.alloc _) (by omega))); (replace O6 := Lib.hid O6); (have g6 := GC.out _ N6.out); clear G6)
          go_roundw
          case rel => exact ⟨k + 1, by omega, by go_num, by rw [E.out], Lib.hid (by rw [E.out]; exact O6.out), N6⟩
          case measure => simp [intOf]; omega
    · obtain rfl : k = n := by omega
      have HP := Lib.hid (FIN.out ▸ HO.out)
      obtain ⟨A8, c8, rfl, hc8, R8⟩ := HO.out.res
      have R8 := Lib.hid R8
      go_wp2
      go_ret
      exact ⟨A8, _, c8, rfl, by rw [FIN.out], hc8, by rw [← FIN.out]; exact R8.out, HN.out⟩
set_option maxHeartbeats 4000000 in
theorem validWrap_any (A : Option Addr) (n c : Nat) (zs : List Int) (wd gap : Int) (hn : n ≤ 1048576) (w : World) (hx : Sts 2 w A n zs) :
    Calls Try.prog 40 #[.slice A n c, .int .i64 wd, .int .i64 gap] w fun e w' => e = .returned (.bool (wrOk zs n wd gap)) ∧ New w w' := by
  have CV := Lib.hid (SvalidParts_any A n c zs hn w hx)
  have EW : wrOk zs n wd gap = (prsB n zs && decide (0 ≤ wd ∧ wd ≤ 10000) && decide (0 ≤ gap ∧ gap ≤ 50)) := rfl
  have EW := Lib.hid EW
  clear hx
  cases hv : prsB n zs
  · go_enter Try.func40, Try.ntmps40
    go_wp2_with (go_at_call 56; refine CV.out.mono ?_; rw [hv]; rintro e w1 ⟨rfl, N1⟩; have N1 := Lib.hid N1)
    go_ret
    exact ⟨ret_bool (by rw [EW.out, hv]; simp), N1.out⟩
  cases h1 : decide (0 ≤ wd ∧ wd ≤ 10000)
  · go_enter Try.func40, Try.ntmps40
    go_wp2_with (first
      | (go_at_call 56; refine CV.out.mono ?_; rw [hv]; rintro e w1 ⟨rfl, N1⟩; have N1 := Lib.hid N1)
      | (go_at_call_of 61 wd; refine (inRange_any _ _ _ _).mono ?_; rw [h1]; rintro e w' ⟨rfl, rfl⟩))
    go_ret
    exact ⟨ret_bool (by rw [EW.out, hv, h1]; simp), N1.out⟩
  cases h2 : decide (0 ≤ gap ∧ gap ≤ 50)
  all_goals
    go_enter Try.func40, Try.ntmps40
    go_wp2_with (first
      | (go_at_call 56; refine CV.out.mono ?_; rw [hv]; rintro e w1 ⟨rfl, N1⟩; have N1 := Lib.hid N1)
      | (go_at_call_of 61 wd; refine (inRange_any _ _ _ _).mono ?_; rw [h1]; rintro e w' ⟨rfl, rfl⟩)
      | (go_at_call_of 61 gap; refine (inRange_any _ _ _ _).mono ?_; rw [h2]; rintro e w' ⟨rfl, rfl⟩))
    go_ret
    exact ⟨ret_bool (by rw [EW.out, hv, h1, h2]; simp), N1.out⟩
end Go.Proofs.Ytpkajdnndognnaa
