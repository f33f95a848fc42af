/- A heap of tasks: a task that goes down. Conditions: the queue is the call's own; its tasks are valid. -/
import Derived.Test.YtpkombjmbpgdnaaHeapU
namespace Go.Proofs.Ytpkombjmbpgdnaa
open Go.RowKit

def Downed (lo P g c m nn s : Nat) (f : Nat → Tk) (l : List Tk) (w : World) (e : Ending) (w' : World) : Prop := (∃ b : Bool, e = .returned (.bool b)) ∧ ∃ f', Hp lo P g c m f' l w w' ∧ HeapF f' nn s ∧ ∀ t, nn ≤ t → f' t = f t
set_option maxRecDepth 100000 in
set_option maxHeartbeats 4000000 in
theorem down_any (lo P g c m nn s : Nat) (f : Nat → Tk) (hm : m ≤ 1000) (hnn : nn ≤ m) (hs : s ≤ 1000) (l : List Tk) (w : World) (h : Hp lo P g c m f l w w) (hd : DownInv f nn s s) :
    Calls Try.prog 38 #[.iface 38 (.pointer (some ⟨P, 0, none⟩)), .int .i64 s, .int .i64 nn] w (Downed lo P g c m nn s f l w) := by
  have H0 := Lib.hid h; have U0 := Lib.hid hd
  have s0 : (0 : Int) ≤ (s : Int) := by omega
  have s1 : (s : Int) ≤ 1000 := by omega
  have n0 : (0 : Int) ≤ (nn : Int) := by omega
  have n1 : (nn : Int) ≤ 1000 := by omega
  clear h hd
  go_enter Try.func38, Try.ntmps38
  go_wp2
  go_loopw [7] (fun i wr => ∃ (k : Nat) (f' : Nat → Tk), k ≤ 1000 ∧ i = .int .i64 k ∧ Hid (Hp lo P g c m f' l w wr) ∧ Hid (DownInv f' nn s k) ∧ Hid (∀ t, nn ≤ t → f' t = f t)) (fun i _ => 1001 - (intOf i).toNat)
  case atStart => exact ⟨s, f, hs, rfl, H0, U0, Lib.hid (fun _ _ => rfl)⟩
  case round =>
    obtain ⟨k, f', hk, rfl, HH, HU, HE⟩ := hrel
    have k0 : (0 : Int) ≤ (k : Int) := by omega
    have kn : (k : Int) ≤ 1000 := by omega
    obtain ⟨j1, hj1⟩ : ∃ j1, 2 * k + 1 = j1 := ⟨_, rfl⟩
    obtain ⟨j2, hj2⟩ : ∃ j2, j1 + 1 = j2 := ⟨_, rfl⟩
    have q0 : (0 : Int) ≤ (j1 : Int) := by omega
    have q1 : (j1 : Int) ≤ 2001 := by omega
    have d2 : decide ((j1 : Int) < 0) = false := decide_eq_false (by omega)
    by_cases h1 : j1 < nn
    · have d1 : decide (nn ≤ j1) = false := decide_eq_false (by omega)
      have d1b : decide ((nn : Int) ≤ (j1 : Int)) = false := decide_eq_false (by omega)
      have d1c : decide ((j1 : Int) ≥ (nn : Int)) = false := decide_eq_false (by omega)
      have k1 : k < nn := by omega
      have MS := Lib.hid (fun W (hW : New wr W) => to_swap P g m c W (HH.out.new hW).1.cell)
      have ML := Lib.hid (fun W (hW : New wr W) => to_less P g m c W (HH.out.new hW).1.cell)
      have P1 : Hid (pa j1 = k) := Lib.hid ((pa_kid (by omega)).2 (by omega))
      have P2 : Hid (pa j2 = k) := Lib.hid ((pa_kid (by omega)).2 (by omega))
      have KD : Hid (∀ c, 0 < c → c < nn → pa c = k → c = j1 ∨ c = j2) := Lib.hid (fun c c0 _ hc => by have := (pa_kid c0).1 hc; omega)
      have N0 := Lib.hid (New.refl wr)
      have m0 := ML.out wr N0.out
      by_cases h2 : j2 < nn
      · have d3 : decide (j2 < nn) = true := decide_eq_true h2
        have d3b : decide ((j2 : Int) < (nn : Int)) = true := decide_eq_true (by omega)
        have LS1 := Lib.hid (fun W (hW : New wr W) => Less_any (HH.out.new hW).1 j2 j1 (by omega) (by omega) hm HH.out.2.1)
        have E1 : 2 * (k : Int) + 1 = (j1 : Int) := by omega
        have E2 : (j1 : Int) + 1 = (j2 : Int) := by omega
        cases hc : ltB (f' j2) (f' j1)
        · rw [hc] at LS1
          have HM : Hid (∀ c, 0 < c → c < nn → pa c = k → leK (f' j1) (f' c)) := Lib.hid (fun c c0 cn hp => by
            rcases KD.out c c0 cn hp with e | e
            · subst e; exact leK_refl _
            · subst e; exact leK_no hc)
          have hj0 : 0 < j1 := by omega
          have hjn : j1 < nn := h1
          have HPJ := P1
          clear hc
          go_wp2_with fail
          refine (LS1.out _ N0.out).mono ?_
          rintro e w1 ⟨rfl, N1⟩
          have N1 := Lib.hid N1
          have m1 := ML.out w1 N1.out
          clear m0
          have LS2 := Lib.hid (fun W (hW : New wr W) => Less_any (HH.out.new hW).1 j1 k (by omega) (by omega) hm HH.out.2.1)
          cases hb : ltB (f' j1) (f' k)
          · rw [hb] at LS2
            have HB := Lib.hid hb
            clear hb
            go_wp2_with fail
            refine (LS2.out _ N1.out).mono ?_
            rintro e wl ⟨rfl, Nl⟩
            have NL := Lib.hid (N1.out.trans Nl)
            clear Nl
            go_wp2
            go_ret
            exact ⟨⟨_, rfl⟩, f', HH.out.new NL.out, down_done HU.out (leK_no HB.out) HM.out, HE.out⟩
          · rw [hb] at LS2
            have HB := Lib.hid (ltK_yes hb)
            clear hb
            go_wp2_with fail
            refine (LS2.out _ N1.out).mono ?_
            rintro e wl ⟨rfl, Nl⟩
            have NL := Lib.hid (N1.out.trans Nl)
            have m4 := MS.out wl NL.out
            clear Nl
            go_wp2_with fail
            refine (Swap_any (HH.out.new NL.out).1 k j1 (by omega) (by omega) hm (by omega)).mono ?_
            rintro e w2 ⟨rfl, Q2, G2⟩
            have HN := Lib.hid ((HH.out.new NL.out).swp (i := k) (j := j1) (by omega) (by omega) Q2 G2)
            have HUN := Lib.hid (down_step HU.out hj0 hjn HPJ.out HM.out HB.out)
            have HEN : Hid (∀ t, nn ≤ t → swp f' k j1 t = f t) := Lib.hid (fun t ht => by rw [swp_o (by omega) (by omega)]; exact HE.out t ht)
            clear m4 Q2 G2
            go_wp2
            go_roundw
            case rel => exact ⟨j1, _, by omega, rfl, HN, HUN, HEN⟩
            case measure => simp [intOf]; omega
        · rw [hc] at LS1
          have HM : Hid (∀ c, 0 < c → c < nn → pa c = k → leK (f' j2) (f' c)) := Lib.hid (fun c c0 cn hp => by
            rcases KD.out c c0 cn hp with e | e
            · subst e; exact leK_lt (ltK_yes hc)
            · subst e; exact leK_refl _)
          have hj0 : 0 < j2 := by omega
          have hjn : j2 < nn := h2
          have HPJ := P2
          clear hc
          go_wp2_with fail
          refine (LS1.out _ N0.out).mono ?_
          rintro e w1 ⟨rfl, N1⟩
          have N1 := Lib.hid N1
          have m1 := ML.out w1 N1.out
          clear m0
          have LS2 := Lib.hid (fun W (hW : New wr W) => Less_any (HH.out.new hW).1 j2 k (by omega) (by omega) hm HH.out.2.1)
          cases hb : ltB (f' j2) (f' k)
          · rw [hb] at LS2
            have HB := Lib.hid hb
            clear hb
            go_wp2_with fail
            refine (LS2.out _ N1.out).mono ?_
            rintro e wl ⟨rfl, Nl⟩
            have NL := Lib.hid (N1.out.trans Nl)
            clear Nl
            go_wp2
            go_ret
            exact ⟨⟨_, rfl⟩, f', HH.out.new NL.out, down_done HU.out (leK_no HB.out) HM.out, HE.out⟩
          · rw [hb] at LS2
            have HB := Lib.hid (ltK_yes hb)
            clear hb
            go_wp2_with fail
            refine (LS2.out _ N1.out).mono ?_
            rintro e wl ⟨rfl, Nl⟩
            have NL := Lib.hid (N1.out.trans Nl)
            have m4 := MS.out wl NL.out
            clear Nl
            go_wp2_with fail
            refine (Swap_any (HH.out.new NL.out).1 k j2 (by omega) (by omega) hm (by omega)).mono ?_
            rintro e w2 ⟨rfl, Q2, G2⟩
            have HN := Lib.hid ((HH.out.new NL.out).swp (i := k) (j := j2) (by omega) (by omega) Q2 G2)
            have HUN := Lib.hid (down_step HU.out hj0 hjn HPJ.out HM.out HB.out)
            have HEN : Hid (∀ t, nn ≤ t → swp f' k j2 t = f t) := Lib.hid (fun t ht => by rw [swp_o (by omega) (by omega)]; exact HE.out t ht)
            clear m4 Q2 G2
            go_wp2
            go_roundw
            case rel => exact ⟨j2, _, by omega, rfl, HN, HUN, HEN⟩
            case measure => simp [intOf]; omega
      · have d3 : decide (j2 < nn) = false := decide_eq_false h2
        have d3b : decide ((j2 : Int) < (nn : Int)) = false := decide_eq_false (by omega)
        have HM : Hid (∀ c, 0 < c → c < nn → pa c = k → leK (f' j1) (f' c)) := Lib.hid (fun c c0 cn hp => by
          rcases KD.out c c0 cn hp with e | e
          · subst e; exact leK_refl _
          · subst e; exact absurd cn h2)
        have hj0 : 0 < j1 := by omega
        have hjn : j1 < nn := h1
        have HPJ := P1
        have E1 : 2 * (k : Int) + 1 = (j1 : Int) := by omega
        have E2 : (j1 : Int) + 1 = (j2 : Int) := by omega
        have LS2 := Lib.hid (fun W (hW : New wr W) => Less_any (HH.out.new hW).1 j1 k (by omega) (by omega) hm HH.out.2.1)
        cases hb : ltB (f' j1) (f' k)
        · rw [hb] at LS2
          have HB := Lib.hid hb
          clear hb
          go_wp2_with fail
          refine (LS2.out _ N0.out).mono ?_
          rintro e wl ⟨rfl, Nl⟩
          have NL := Lib.hid (N0.out.trans Nl)
          clear Nl
          go_wp2
          go_ret
          exact ⟨⟨_, rfl⟩, f', HH.out.new NL.out, down_done HU.out (leK_no HB.out) HM.out, HE.out⟩
        · rw [hb] at LS2
          have HB := Lib.hid (ltK_yes hb)
          clear hb
          go_wp2_with fail
          refine (LS2.out _ N0.out).mono ?_
          rintro e wl ⟨rfl, Nl⟩
          have NL := Lib.hid (N0.out.trans Nl)
          have m4 := MS.out wl NL.out
          clear Nl
          go_wp2_with fail
          refine (Swap_any (HH.out.new NL.out).1 k j1 (by omega) (by omega) hm (by omega)).mono ?_
          rintro e w2 ⟨rfl, Q2, G2⟩
          have HN := Lib.hid ((HH.out.new NL.out).swp (i := k) (j := j1) (by omega) (by omega) Q2 G2)
          have HUN := Lib.hid (down_step HU.out hj0 hjn HPJ.out HM.out HB.out)
          have HEN : Hid (∀ t, nn ≤ t → swp f' k j1 t = f t) := Lib.hid (fun t ht => by rw [swp_o (by omega) (by omega)]; exact HE.out t ht)
          clear m4 Q2 G2
          go_wp2
          go_roundw
          case rel => exact ⟨j1, _, by omega, rfl, HN, HUN, HEN⟩
          case measure => simp [intOf]; omega
    · have d1 : decide (nn ≤ j1) = true := decide_eq_true (by omega)
      have d1b : decide ((nn : Int) ≤ (j1 : Int)) = true := decide_eq_true (by omega)
      have d1c : decide ((j1 : Int) ≥ (nn : Int)) = true := decide_eq_true (by omega)
      have DN := Lib.hid (down_none HU.out (by omega))
      have E1 : 2 * (k : Int) + 1 = (j1 : Int) := by omega
      go_wp2
      go_ret
      exact ⟨⟨_, rfl⟩, f', HH.out, DN.out, HE.out⟩
end Go.Proofs.Ytpkombjmbpgdnaa
