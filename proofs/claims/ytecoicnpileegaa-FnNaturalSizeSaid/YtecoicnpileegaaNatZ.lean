/- NaturalSize, FitsIn and WidestKid of the program and of the reference, walked: both answer alike. Condition: the tree can be read. -/
import Derived.Test.YtecoicnpileegaaNatS
namespace Go.Proofs.Ytecoicnpileegaa
open Go.RowKit

def natW (n : Nat) (zs : List Int) (at_ : Int) : Int := if nodeOk n zs at_ = true then (natL zs n at_.toNat).1 else 0
def natH (n : Nat) (zs : List Int) (at_ : Int) : Int := if nodeOk n zs at_ = true then (natL zs n at_.toNat).2 else 0
def fitB (n : Nat) (zs : List Int) (w h : Int) : Bool := vtB n zs && decide ((natL zs n 0).1 ≤ w) && decide ((natL zs n 0).2 ≤ h)
/-- The widest of the first k boxes of a list, and how wide it is. -/
def widF (f : Nat → Int) : List Nat → Int × Int → Int × Int
  | [], s => s
  | j :: l, s => widF f l (if s.2 < f j then ((j : Int), f j) else s)
def widA (n : Nat) (zs : List Int) (at_ : Int) : Int := if nodeOk n zs at_ = true then (widF (fun j => (natL zs n j).1) (kidL zs n at_.toNat) (-1, -1)).1 else -1
section
variable {n i : Nat} {zs : List Int} {at_ : Int}
theorem natW_at (h : vtB n zs = true) (hi : i < n) : natW n zs (i : Int) = (natL zs n i).1 := by unfold natW; rw [if_pos (nodeOk_iff.2 ⟨h, i, rfl, hi⟩), Int.toNat_natCast]
theorem natH_at (h : vtB n zs = true) (hi : i < n) : natH n zs (i : Int) = (natL zs n i).2 := by unfold natH; rw [if_pos (nodeOk_iff.2 ⟨h, i, rfl, hi⟩), Int.toNat_natCast]
theorem natW_no (h : nodeOk n zs at_ = false) : natW n zs at_ = 0 := by unfold natW; rw [h]; rfl
theorem natH_no (h : nodeOk n zs at_ = false) : natH n zs at_ = 0 := by unfold natH; rw [h]; rfl
theorem fit_no {w h : Int} (hv : vtB n zs = false) : fitB n zs w h = false := by unfold fitB; rw [hv]; rfl
end
set_option maxHeartbeats 1000000 in
theorem NaturalSize_any (A : Option Addr) (n c : Nat) (zs : List Int) (at_ : Int) (hn : n ≤ 1048576) (w : World) (hx : Sts 9 w A n zs) :
    Calls Try.prog 18 #[.slice A n c, .int .i64 at_] w fun e w' => e = .returned (.tuple #[.int .i64 (natW n zs at_), .int .i64 (natH n zs at_), .bool (nodeOk n zs at_)]) ∧ New w w' := by
  cases hok : nodeOk n zs at_
  · rw [natW_no hok, natH_no hok]
    have CT := Lib.hid (nodeAt_no A n c zs at_ hn hok w hx)
    clear hok hx
    go_enter Try.func18, Try.ntmps18
    go_wp2_with (go_at_call 38; refine CT.out.mono ?_; rintro e w1 ⟨rfl, h1⟩; (have N1 := Lib.hid h1); clear h1)
    exact bodyPost_ret (v := .tuple #[.int .i64 0, .int .i64 0, .bool false]) (by simp [results, Try.results18, go_sem]) rfl ⟨rfl, N1.out⟩
  · obtain ⟨hv, i, rfl, hi⟩ := nodeOk_iff.1 hok
    rw [natW_at hv hi, natH_at hv hi]
    have CT := Lib.hid (nodeAt_yes A n c i zs hv hi w hx)
    have NA := Lib.hid (fun (lo : Nat) nb ar fi la ne => natural_any lo nb zs n ar fi la ne hv (n - i) i rfl hi)
    clear hok hx hv
    generalize hX : (natL zs n i).1 = X at *
    generalize hY : (natL zs n i).2 = Y at *
    have HX := Lib.hid hX; have HY := Lib.hid hY
    clear hX hY
    go_enter Try.func18, Try.ntmps18
    go_wp2_with fail
    refine CT.out.mono ?_
    rintro e w1 ⟨h1, nb, ar, fi, la, ne, rfl, h2⟩
    have N1 := Lib.hid h1
    have NC := NA.out _ nb ar fi la ne w1 h2
    rw [HX.out, HY.out] at NC
    replace NC := Lib.hid NC
    clear h1 h2
    go_wp2_with (go_at_call 39; refine NC.out.mono ?_; rintro e w2 ⟨rfl, N2⟩; (replace N2 := Lib.hid (N1.out.trans N2)))
    go_quiet (fail)
    go_wp2
    exact bodyPost_ret (v := .tuple #[.int .i64 X, .int .i64 Y, .bool true]) (by simp [results, Try.results18, go_sem]) rfl ⟨rfl, by (repeat (first | exact New.refl _ | assumption | refine New.alloc ?_ _ | refine New.drew ?_ | refine New.drewN ?_ _ | refine New.setCell ?_ (by first | omega | (simp; omega) | (simp; done)) _ | refine New.trans ?_ (by assumption)))⟩
set_option maxHeartbeats 1000000 in
theorem SNaturalSize_any (A : Option Addr) (n c : Nat) (zs : List Int) (at_ : Int) (hn : n ≤ 1048576) (w : World) (hx : Sts 9 w A n zs) :
    Calls Try.prog 16 #[.slice A n c, .int .i64 at_] w fun e w' => e = .returned (.tuple #[.int .i64 (natW n zs at_), .int .i64 (natH n zs at_), .bool (nodeOk n zs at_)]) ∧ New w w' := by
  have HX := Lib.hid hx
  have CT := Lib.hid (svalidTree_any A n c zs hn w hx)
  have n0 : (0 : Int) ≤ (n : Int) := by omega
  have n1 : (n : Int) ≤ 1048576 := by omega
  clear hx
  cases hv : vtB n zs
  · have hok : nodeOk n zs at_ = false := by unfold nodeOk; rw [hv]; rfl
    rw [natW_no hok, natH_no hok, hok]
    have HV := Lib.hid hv
    clear hv hok
    go_enter Try.func16, Try.ntmps16
    go_wp2_with (go_at_call 34; refine CT.out.mono ?_; rw [HV.out]; rintro e w1 ⟨rfl, h1⟩; (have N1 := Lib.hid h1); clear h1)
    exact bodyPost_ret (v := .tuple #[.int .i64 0, .int .i64 0, .bool false]) (by simp [results, Try.results16, go_sem]) rfl ⟨rfl, N1.out⟩
  · have HV := Lib.hid hv
    cases hd : decide (0 ≤ at_ ∧ at_ ≤ (n : Int) - 1)
    · have hok : nodeOk n zs at_ = false := by unfold nodeOk; rw [hv, hd]; rfl
      rw [natW_no hok, natH_no hok, hok]
      clear hv hok
      go_enter Try.func16, Try.ntmps16
      go_wp2_with (first
        | (go_at_call 34; refine CT.out.mono ?_; rw [HV.out]; rintro e w1 ⟨rfl, h1⟩; (have N1 := Lib.hid h1); clear h1)
        | (go_at_call 35; refine (inRange_any _ _ _ _).mono ?_; rw [hd]; rintro e w' ⟨rfl, rfl⟩))
      exact bodyPost_ret (v := .tuple #[.int .i64 0, .int .i64 0, .bool false]) (by simp [results, Try.results16, go_sem]) rfl ⟨rfl, N1.out⟩
    · have hok : nodeOk n zs at_ = true := by unfold nodeOk; rw [hv, hd]; rfl
      rw [hok]
      obtain ⟨_, i, rfl, hi⟩ := nodeOk_iff.1 hok
      rw [natW_at hv hi, natH_at hv hi]
      have NA := Lib.hid (snatural_any A n c zs hv (n - i) i rfl hi)
      clear hv hok
      generalize hX : (natL zs n i).1 = X at *
      generalize hY : (natL zs n i).2 = Y at *
      have HX2 := Lib.hid hX; have HY2 := Lib.hid hY
      clear hX hY
      go_enter Try.func16, Try.ntmps16
      go_wp2_with fail
      refine CT.out.mono ?_
      rw [HV.out]
      rintro e w1 ⟨rfl, h1⟩
      have N1 := Lib.hid h1
      have NC := NA.out w1 (HX.out.new h1)
      rw [HX2.out, HY2.out] at NC
      replace NC := Lib.hid NC
      clear h1
      go_wp2_with fail
      refine (inRange_any _ _ _ _).mono ?_
      rw [hd]
      rintro e w' ⟨rfl, rfl⟩
      go_wp2_with (go_at_call 36; refine NC.out.mono ?_; rintro e w2 ⟨rfl, N2⟩; (replace N2 := Lib.hid (N1.out.trans N2)))
      exact bodyPost_ret (v := .tuple #[.int .i64 X, .int .i64 Y, .bool true]) (by simp [results, Try.results16, go_sem]) rfl ⟨rfl, N2.out⟩
set_option maxHeartbeats 1000000 in
theorem FitsIn_any (A : Option Addr) (n c : Nat) (zs : List Int) (x y : Int) (hn : n ≤ 1048576) (w : World) (hx : Sts 9 w A n zs) :
    Calls Try.prog 21 #[.slice A n c, .int .i64 x, .int .i64 y] w fun e w' => e = .returned (.bool (fitB n zs x y)) ∧ New w w' := by
  have NC := Lib.hid (NaturalSize_any A n c zs 0 hn w hx)
  clear hx
  cases hok : nodeOk n zs 0
  · have E := Lib.hid (show fitB n zs x y = false by
      cases hv : vtB n zs
      · exact fit_no hv
      · exfalso
        have := (vtB_iff.1 hv).1
        have h2 : nodeOk n zs ((0 : Nat) : Int) = true := nodeOk_iff.2 ⟨hv, 0, rfl, by omega⟩
        rw [show ((0 : Nat) : Int) = 0 from rfl, hok] at h2; cases h2)
    have HO := Lib.hid hok
    clear hok
    go_enter Try.func21, Try.ntmps21
    go_wp2_with (go_at_call 18; refine NC.out.mono ?_; rw [HO.out]; rintro e w1 ⟨rfl, N1⟩; (replace N1 := Lib.hid N1))
    go_ret
    exact ⟨by rw [E.out]; rfl, N1.out⟩
  · obtain ⟨hv, i, hi0, hi⟩ := nodeOk_iff.1 hok
    have E := Lib.hid (show fitB n zs x y = (decide (natW n zs 0 ≤ x) && decide (natH n zs 0 ≤ y)) by
      have hi2 : i = 0 := by omega
      unfold fitB
      rw [hv, Bool.true_and, show (0 : Int) = ((0 : Nat) : Int) from rfl, natW_at hv (by omega), natH_at hv (by omega)])
    have HO := Lib.hid hok
    clear hok hv hi0
    generalize natW n zs 0 = X at *
    generalize natH n zs 0 = Y at *
    by_cases h1 : X ≤ x <;> by_cases h2 : Y ≤ y
    all_goals
      go_enter Try.func21, Try.ntmps21
      go_wp2_with (go_at_call 18; refine NC.out.mono ?_; rw [HO.out]; rintro e w1 ⟨rfl, N1⟩; (replace N1 := Lib.hid N1))
      go_ret
      exact ⟨by rw [E.out]; simp [h1, h2], N1.out⟩
set_option maxHeartbeats 1000000 in
theorem SFitsIn_any (A : Option Addr) (n c : Nat) (zs : List Int) (x y : Int) (hn : n ≤ 1048576) (w : World) (hx : Sts 9 w A n zs) :
    Calls Try.prog 20 #[.slice A n c, .int .i64 x, .int .i64 y] w fun e w' => e = .returned (.bool (fitB n zs x y)) ∧ New w w' := by
  have HX := Lib.hid hx
  have CT := Lib.hid (svalidTree_any A n c zs hn w hx)
  clear hx
  cases hv : vtB n zs
  · rw [fit_no hv]
    have HV := Lib.hid hv
    clear hv
    go_enter Try.func20, Try.ntmps20
    go_wp2_with (go_at_call 34; refine CT.out.mono ?_; rw [HV.out]; rintro e w1 ⟨rfl, h1⟩; (have N1 := Lib.hid h1); clear h1)
    go_ret
    exact ⟨rfl, N1.out⟩
  · have HV := Lib.hid hv
    have hp := (vtB_iff.1 hv).1.1
    have NA := Lib.hid (snatural_any A n c zs hv (n - 0) 0 rfl (by omega))
    have E := Lib.hid (show fitB n zs x y = (decide ((natL zs n 0).1 ≤ x) && decide ((natL zs n 0).2 ≤ y)) by unfold fitB; rw [hv, Bool.true_and])
    have NC := Lib.hid (fun W (hW : Sts 9 W A n zs) => (show Calls Try.prog 36 #[.slice A n c, .int .i64 0] W fun e w' => e = .returned (.tuple #[.int .i64 (natL zs n 0).1, .int .i64 (natL zs n 0).2]) ∧ New W w' from NA.out W hW))
    clear hv
    generalize (natL zs n 0).1 = X at *
    generalize (natL zs n 0).2 = Y at *
    by_cases h1 : X ≤ x <;> by_cases h2 : Y ≤ y
    all_goals
      go_enter Try.func20, Try.ntmps20
      go_wp2_with fail
      refine CT.out.mono ?_
      rw [HV.out]
      rintro e w1 ⟨rfl, h1_⟩
      have N1 := Lib.hid h1_
      clear h1_
      go_wp2_with (go_at_call 36; refine (NC.out w1 (HX.out.new N1.out)).mono ?_; rintro e w2 ⟨rfl, N2⟩; (replace N2 := Lib.hid (N1.out.trans N2)))
      go_ret
      exact ⟨by rw [E.out]; simp [h1, h2], N2.out⟩
theorem widF_snoc (f : Nat → Int) : ∀ (l : List Nat) (j : Nat) (s : Int × Int), widF f (l ++ [j]) s = if (widF f l s).2 < f j then ((j : Int), f j) else widF f l s
  | [], _, _ => rfl
  | x :: l, j, s => by simp only [List.cons_append, widF]; exact widF_snoc f l j _
set_option maxRecDepth 100000 in
set_option maxHeartbeats 1600000 in
theorem WidestKid_any (A : Option Addr) (n c : Nat) (zs : List Int) (at_ : Int) (hn : n ≤ 1048576) (w : World) (hx : Sts 9 w A n zs) :
    Calls Try.prog 23 #[.slice A n c, .int .i64 at_] w fun e w' => e = .returned (.int .i64 (widA n zs at_)) ∧ New w w' := by
  cases hok : nodeOk n zs at_
  · have E1 := Lib.hid (show widA n zs at_ = -1 by unfold widA; rw [hok]; rfl)
    have CT := Lib.hid (nodeAt_no A n c zs at_ hn hok w hx)
    clear hok hx
    go_enter Try.func23, Try.ntmps23
    go_wp2_with (go_at_call 38; refine CT.out.mono ?_; rintro e w1 ⟨rfl, h1⟩; (have N1 := Lib.hid h1); clear h1)
    go_ret
    exact ⟨by rw [E1.out]; rfl, N1.out⟩
  · obtain ⟨hv, i, rfl, hi⟩ := nodeOk_iff.1 hok
    have E1 := Lib.hid (show widA n zs (i : Int) = (widF (fun j => (natL zs n j).1) (kidL zs n i) (-1, -1)).1 by unfold widA; rw [if_pos hok, Int.toNat_natCast])
    have CT := Lib.hid (nodeAt_yes A n c i zs hv hi w hx)
    have NA := Lib.hid (fun j (hj : j < n) (lo : Nat) nb ar fi la ne => natural_any lo nb zs n ar fi la ne hv (n - j) j rfl hj)
    have SM := Lib.hid (fun j (hj : j < n) => (nat_sm hv hj).1)
    clear hok hx hv
    go_enter Try.func23, Try.ntmps23
    go_wp2_with fail
    refine CT.out.mono ?_
    rintro e w1 ⟨h1, nb, ar, fi, la, ne, rfl, h2⟩
    have N1 := Lib.hid h1; have HL := Lib.hid h2
    have g0 := h2.nd.fi i hi
    rw [h2.sh.fi i hi] at g0
    clear h1 h2
    go_wp2
    go_loopw [6, 7, 8] (fun b m p wr => ∃ (done rest : List Nat), Hid (kidL zs n i = done ++ rest) ∧ p = pv nb rest.head? ∧ b = .int .i64 (widF (fun j => (natL zs n j).1) done (-1, -1)).1 ∧ m = .int .i64 (widF (fun j => (natL zs n j).1) done (-1, -1)).2 ∧ Hid (New w1 wr)) (fun _ _ p wr => upOf n wr p)
    case atStart => exact ⟨[], kidL zs n i, Lib.hid rfl, rfl, rfl, rfl, Lib.hid (New.refl _)⟩
    case round =>
      obtain ⟨done, rest, HK, rfl, rfl, rfl, HN⟩ := hrel
      cases rest with
      | nil =>
        simp only [List.head?_nil, pv_none]
        have e1 := HK.out
        rw [List.append_nil] at e1
        have E2 := Lib.hid (show (widF (fun j => (natL zs n j).1) done (-1, -1)).1 = widA n zs (i : Int) by rw [E1.out, e1])
        generalize (widF (fun j => (natL zs n j).1) done (-1, -1)).1 = r at *
        clear e1 HK E1
        go_wp2
        go_ret
        exact ⟨by rw [← E2.out]; rfl, N1.out.trans HN.out⟩
      | cons j rest =>
        have hjm := HL.out.lk.kid_in (j := j) (a := i) (by rw [HK.out]; simp)
        have nj := (HL.out.nd.new HN.out).upOf_some hjm.2.2
        have hnx : ∀ r, rest.head? = some r → j < r ∧ r < n := fun r hr => by
          cases rest with
          | nil => cases hr
          | cons r' rest' =>
            obtain rfl : r' = r := by simpa using hr
            have hs := kid_sorted zs n i
            rw [HK.out] at hs
            obtain ⟨_, hs2, _⟩ := List.pairwise_append.1 hs
            exact ⟨(List.pairwise_cons.1 hs2).1 _ List.mem_cons_self, (HL.out.lk.kid_in (j := r') (a := i) (by rw [HK.out]; simp)).2.2⟩
        have NX := Lib.hid hnx
        have NC := Lib.hid (NA.out j hjm.2.2 _ nb ar fi la ne wr (HL.out.new HN.out))
        have HK2 : Hid (kidL zs n i = (done ++ [j]) ++ rest) := Lib.hid (by rw [HK.out]; simp)
        have hjk := hjm.2.2
        have GN := Lib.hid (fun W (hW : New w1 W) => (And.intro (((HL.out.nd.new hW).ne j hjk).trans (by rw [HL.out.sh.ne i done j rest hi (by rw [HK2.out]; simp)] : some (pv nb (ne j)) = some (pv nb rest.head?))) ((HL.out.nd.new hW).num j hjk)))
        have WS := Lib.hid (widF_snoc (fun j => (natL zs n j).1) done j (-1, -1))
        have sm := SM.out j hjk
        clear hjm hnx HK
        simp only [List.head?_cons, pv_some]
        generalize (natL zs n j).1 = x at *
        generalize (natL zs n j).2 = y at *
        obtain ⟨⟨wb, wm⟩, hw⟩ : ∃ s, widF (fun j => (natL zs n j).1) done (-1, -1) = s := ⟨_, rfl⟩
        rw [hw] at WS ⊢
        clear hw
        dsimp only at WS ⊢
        obtain ⟨sm1, sm2⟩ := sm
        have hfd : ∀ w : World, (Instr.field 57 (.agg #[.int .i64 x, .int .i64 y]) 0).run Try.prog w = .ok (.int .i64 x) w := fun _ => by kernel_rfl
        have NJ := Lib.hid nj
        clear nj
        by_cases hlt : wm < x
        · have WS2 := Lib.hid (WS.out.trans (if_pos hlt))
          clear WS
          go_wp2_with (go_at_call 39; refine NC.out.mono ?_; rintro e w5 ⟨rfl, N5⟩; (have N6 := Lib.hid (HN.out.trans N5)); (obtain ⟨g3, g4⟩ := GN.out w5 N6.out); clear N5)
          go_roundw
          case rel => exact ⟨done ++ [j], rest, HK2, rfl, by rw [WS2.out], by rw [WS2.out], N6⟩
          case measure =>
            have n6 := (HL.out.nd.new N6.out)
            rw [NJ.out]
            cases hh : rest.head? with
            | none => rw [pv_none, upOf_nil]; omega
            | some r =>
              have h1 := NX.out r hh
              rw [pv_some, n6.upOf_some h1.2]
              omega
        · have WS2 := Lib.hid (WS.out.trans (if_neg hlt))
          clear WS
          go_wp2_with (go_at_call 39; refine NC.out.mono ?_; rintro e w5 ⟨rfl, N5⟩; (have N6 := Lib.hid (HN.out.trans N5)); (obtain ⟨g3, g4⟩ := GN.out w5 N6.out); clear N5)
          go_roundw
          case rel => exact ⟨done ++ [j], rest, HK2, rfl, by rw [WS2.out], by rw [WS2.out], N6⟩
          case measure =>
            have n6 := (HL.out.nd.new N6.out)
            rw [NJ.out]
            cases hh : rest.head? with
            | none => rw [pv_none, upOf_nil]; omega
            | some r =>
              have h1 := NX.out r hh
              rw [pv_some, n6.upOf_some h1.2]
              omega
set_option maxHeartbeats 1600000 in
theorem SWidestKid_any (A : Option Addr) (n c : Nat) (zs : List Int) (at_ : Int) (hn : n ≤ 1048576) (w : World) (hx : Sts 9 w A n zs) :
    Calls Try.prog 22 #[.slice A n c, .int .i64 at_] w fun e w' => e = .returned (.int .i64 (widA n zs at_)) ∧ New w w' := by
  have HX := Lib.hid hx
  have CT := Lib.hid (SKidsOf_ans A n c zs at_ hn w hx)
  clear hx
  cases hok : nodeOk n zs at_
  · have E1 := Lib.hid (show widA n zs at_ = -1 by unfold widA; rw [hok]; rfl)
    have LZ := Lib.hid (show (kidsA n zs at_).length = 0 by unfold kidsA; rw [hok]; rfl)
    clear hok
    go_enter Try.func22, Try.ntmps22
    go_wp2_with fail
    refine CT.out.mono ?_
    rintro e w1 ⟨A1, n1, c1, rfl, l1, _, h1⟩
    obtain rfl : 0 = n1 := by have := LZ.out; omega
    have N1 := Lib.hid h1
    clear h1 l1
    go_wp2
    go_loopw [5, 6, 8] (fun b m i wr => b = .int .i64 (-1) ∧ i = .int .i64 0 ∧ wr = w1) (fun _ _ _ _ => 0)
    case atStart => exact ⟨rfl, rfl, rfl⟩
    case round =>
      obtain ⟨rfl, rfl, rfl⟩ := hrel
      go_wp2
      go_ret
      exact ⟨by rw [E1.out]; rfl, N1.out⟩
  · obtain ⟨hv, i, rfl, hi⟩ := nodeOk_iff.1 hok
    have E1 := Lib.hid (show widA n zs (i : Int) = (widF (fun j => (natL zs n j).1) (kidL zs n i) (-1, -1)).1 by unfold widA; rw [if_pos hok, Int.toNat_natCast])
    have NA := Lib.hid (fun j (hj : j < n) => snatural_any A n c zs hv (n - j) j rfl hj)
    have KE := Lib.hid (kidsA_at hv hi)
    have k8 := kids_le (a := i) hv
    have KM := Lib.hid (fun t (ht : t < (kidL zs n i).length) => (kid_mem.1 (kid_get ht)).1)
    obtain ⟨nz, hnz⟩ : ∃ nz, (kidL zs n i).length = nz := ⟨_, rfl⟩
    have LZ := Lib.hid (show (kidsA n zs (i : Int)).length = nz by rw [KE.out, List.length_map]; exact hnz)
    have HNZ := Lib.hid hnz
    rw [hnz] at k8 KM
    have nz8 : (nz : Int) ≤ 8 := by omega
    have WT := Lib.hid (fun t (ht : t < (kidL zs n i).length) => (show widF (fun j => (natL zs n j).1) ((kidL zs n i).take (t + 1)) (-1, -1) = _ by
      rw [List.take_succ_eq_append_getElem ht, widF_snoc, show (kidL zs n i)[t] = (kidL zs n i).getD t 0 by simp [ht]]))
    clear hok hv hnz
    go_enter Try.func22, Try.ntmps22
    go_wp2_with fail
    refine CT.out.mono ?_
    rintro e w1 ⟨A1, n1, c1, rfl, l1, r1, h1⟩
    obtain rfl : nz = n1 := by have := LZ.out; omega
    have N1 := Lib.hid h1
    have I1 := Lib.hid (r1.ints LZ.out)
    clear h1 l1 r1
    go_wp2
    go_loopw [5, 6, 8] (fun b m x wr => ∃ t : Nat, t ≤ nz ∧ x = .int .i64 t ∧ b = .int .i64 (widF (fun j => (natL zs n j).1) ((kidL zs n i).take t) (-1, -1)).1 ∧ m = .int .i64 (widF (fun j => (natL zs n j).1) ((kidL zs n i).take t) (-1, -1)).2 ∧ Hid (New w1 wr)) (fun _ _ x _ => nz - (intOf x).toNat)
    case atStart => exact ⟨0, Nat.zero_le _, rfl, rfl, rfl, Lib.hid (New.refl _)⟩
    case round =>
      obtain ⟨t, ht, rfl, rfl, rfl, HN⟩ := hrel
      have t0 : (0 : Int) ≤ (t : Int) := by omega
      by_cases hlt : t < nz
      · have t1 : (t : Int) < (nz : Int) := by omega
        obtain ⟨b', off', rfl, hb', hc'⟩ := I1.out.at_ (by omega)
        have G1 := Lib.hid (fun W (hW : New w1 W) => (show W.cell? ⟨b', off' + t, none⟩ = some (.int .i64 (((kidL zs n i).getD t 0 : Nat) : Int)) by
          have h := (hW.cells b' _ hb').trans (hc' t hlt)
          rw [KE.out, kid_at] at h
          exact h))
        have ws := WT.out t (by rw [HNZ.out]; exact hlt)
        have km := KM.out t hlt
        have g1 := G1.out wr HN.out
        generalize (kidL zs n i).getD t 0 = u at *
        have NC := Lib.hid (NA.out u km wr (HX.out.new (N1.out.trans HN.out)))
        generalize (natL zs n u).1 = x at *
        generalize (natL zs n u).2 = y at *
        obtain ⟨⟨wb, wm⟩, hw⟩ : ∃ s, widF (fun j => (natL zs n j).1) ((kidL zs n i).take t) (-1, -1) = s := ⟨_, rfl⟩
        rw [hw] at ws ⊢
        clear hw hc' km
        by_cases hl : wm < x
        · have WS2 := Lib.hid (ws.trans (if_pos hl))
          clear ws
          go_wp2_with (go_at_call 36; refine NC.out.mono ?_; rintro e w5 ⟨rfl, N5⟩; (have N6 := Lib.hid (HN.out.trans N5)); (have g2 := G1.out w5 N6.out); clear N5)
          go_roundw
          case rel => exact ⟨t + 1, by omega, by go_num, by rw [WS2.out], by rw [WS2.out], N6⟩
          case measure => simp [intOf]; omega
        · have WS2 := Lib.hid (ws.trans (if_neg hl))
          clear ws
          go_wp2_with (go_at_call 36; refine NC.out.mono ?_; rintro e w5 ⟨rfl, N5⟩; (have N6 := Lib.hid (HN.out.trans N5)); clear N5)
          go_roundw
          case rel => exact ⟨t + 1, by omega, by go_num, by rw [WS2.out], by rw [WS2.out], N6⟩
          case measure => simp [intOf]; omega
      · obtain rfl : t = nz := by omega
        have E2 := Lib.hid (show (widF (fun j => (natL zs n j).1) ((kidL zs n i).take t) (-1, -1)).1 = widA n zs (i : Int) by rw [E1.out, List.take_of_length_le (by rw [HNZ.out]; exact Nat.le_refl _)])
        generalize (widF (fun j => (natL zs n j).1) ((kidL zs n i).take t) (-1, -1)).1 = r at *
        clear E1
        go_wp2
        go_ret
        exact ⟨by rw [← E2.out]; rfl, N1.out.trans HN.out⟩
end Go.Proofs.Ytecoicnpileegaa
