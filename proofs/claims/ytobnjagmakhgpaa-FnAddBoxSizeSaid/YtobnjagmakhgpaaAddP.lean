/- A tree with a box more: the program's way to it is the reference's; moveParents over a list of the call's own. Condition: the tree is short. -/
import Derived.Test.YtobnjagmakhgpaaPartS
import Derived.Test.YtobnjagmakhgpaaInsBox
import Derived.Test.YtobnjagmakhgpaaTreeA
namespace Go.Proofs.Ytobnjagmakhgpaa
open Go.RowKit

theorem getD_apl {xs ys : List Int} {i : Nat} (h : i < xs.length) : (xs ++ ys).getD i 0 = xs.getD i 0 := by
  rw [List.getD_eq_getElem?_getD, List.getElem?_append_left h, List.getD_eq_getElem?_getD]
theorem getD_apr {xs ys : List Int} {i : Nat} (h : xs.length ≤ i) : (xs ++ ys).getD i 0 = ys.getD (i - xs.length) 0 := by
  rw [List.getD_eq_getElem?_getD, List.getElem?_append_right h, List.getD_eq_getElem?_getD]
theorem rowB_at (zs : List Int) (e i r : Nat) (hr : r < 9) : (rowBx zs e i).getD r 0 = if r = 0 then bump e (par zs i) else zs.getD (i * 9 + r) 0 := by
  match r, hr with
  | 0, _ => rfl
  | 1, _ => rfl
  | 2, _ => rfl
  | 3, _ => rfl
  | 4, _ => rfl
  | 5, _ => rfl
  | 6, _ => rfl
  | 7, _ => rfl
  | 8, _ => rfl
theorem tailB_at (zs : List Int) (e m : Nat) : ∀ j, j < m * 9 → (tailB zs e m).getD j 0 = if j % 9 = 0 then bump e (zs.getD (e * 9 + j) 0) else zs.getD (e * 9 + j) 0 := by
  induction m with
  | zero => intro j hj; omega
  | succ m ih =>
    intro j hj
    rw [tailB_succ]
    rcases Nat.lt_or_ge j (m * 9) with h | h
    · rw [getD_apl (by rw [tailB_len]; exact h)]
      exact ih j h
    · rw [getD_apr (by rw [tailB_len]; exact h), tailB_len, rowB_at _ _ _ _ (by omega)]
      by_cases h0 : j - m * 9 = 0
      · rw [if_pos h0, if_pos (show j % 9 = 0 by omega)]
        unfold par
        rw [show (e + m) * 9 = e * 9 + j by omega]
      · rw [if_neg h0, if_neg (show ¬ j % 9 = 0 by omega), show (e + m) * 9 + (j - m * 9) = e * 9 + j by omega]
theorem bump_mvp (e : Nat) (p : Int) : bump e p = mvp (e : Int) 1 p := by
  unfold bump mvp
  by_cases h : (e : Int) ≤ p
  · rw [if_pos h, if_pos h]
  · rw [if_neg h, if_neg h]; omega
/-- The program's way to a tree with a box more is the reference's. -/
theorem add_same {n a : Nat} {zs : List Int} (h : vtB n zs = true) (hz : zs.length = n * 9) (ha : a < n) (bs : List Int) (hb : bs.length = 8) :
    insBox (parF (mvp (en zs n a : Int) 1) zs) (en zs n a) ((a : Int) :: bs) = addL n zs a bs := by
  have eb := en_bd (zs := zs) ha
  obtain ⟨e, he⟩ : ∃ e, en zs n a = e := ⟨_, rfl⟩
  unfold addL
  rw [he] at eb ⊢
  have hl : (parF (mvp (e : Int) 1) zs).length = n * 9 := by rw [parF_len]; exact hz
  refine ext_get (by rw [insBox_len hl (by simp [hb]) (by omega)]; simp [tailB_len, hb, hz]; omega) fun i hi => ?_
  rw [insBox_len hl (by simp [hb]) (by omega)] at hi
  rw [insBox_get hl (by simp [hb]) (by omega)]
  have ht : (zs.take (e * 9)).length = e * 9 := by rw [List.length_take, hz]; omega
  have hm : ((a : Int) :: bs).length = 9 := by simp [hb]
  have hap : zs.take (e * 9) ++ (a : Int) :: bs ++ tailB zs e (n - e) = zs.take (e * 9) ++ (((a : Int) :: bs) ++ tailB zs e (n - e)) := by simp
  rw [hap]
  by_cases h1 : i < e * 9
  · rw [if_pos h1, parF_at (by omega), getD_apl (by rw [ht]; exact h1)]
    have hg : (zs.take (e * 9)).getD i 0 = zs.getD i 0 := by rw [List.getD_eq_getElem?_getD, List.getElem?_take_of_lt h1, List.getD_eq_getElem?_getD]
    rw [hg]
    by_cases h0 : i % 9 = 0
    · rw [if_pos h0]
      have hp : par zs (i / 9) = zs.getD i 0 := by unfold par; rw [show i / 9 * 9 = i by omega]
      rcases Nat.eq_zero_or_pos (i / 9) with hz0 | hz0
      · have := par_root h (show 0 < n by omega)
        rw [hz0] at hp
        rw [← hp, this]
        unfold mvp
        rw [if_neg (show ¬ ((e : Int) ≤ -1) by omega)]
      · obtain ⟨p, e1, hp1⟩ := par_bd h (show i / 9 < n by omega) hz0
        rw [← hp, e1]
        unfold mvp
        rw [if_neg (show ¬ ((e : Int) ≤ (p : Int)) by omega)]
    · rw [if_neg h0]
  · rw [if_neg h1, getD_apr (by rw [ht]; omega), ht]
    by_cases h2 : i < (e + 1) * 9
    · rw [if_pos h2, getD_apl (by rw [hm]; omega)]
    · rw [if_neg h2, getD_apr (by rw [hm]; omega), hm, tailB_at _ _ _ _ (by omega), parF_at (by omega), bump_mvp, show e * 9 + (i - e * 9 - 9) = i - 9 by omega]
      by_cases h0 : (i - 9) % 9 = 0
      · rw [if_pos h0, if_pos (show (i - e * 9 - 9) % 9 = 0 by omega)]
      · rw [if_neg h0, if_neg (show ¬ (i - e * 9 - 9) % 9 = 0 by omega)]
set_option maxRecDepth 100000 in
set_option maxHeartbeats 4000000 in
theorem moveParentsO (lo g n c : Nat) (zs : List Int) (from_ by_ : Int) (hn : n ≤ 1000) (hp : ∀ k, k < n → -1000 ≤ par zs k ∧ par zs k ≤ 1000) (hb : -1000 ≤ by_ ∧ by_ ≤ 1000) (w : World) (O : OwnBox lo w (.slice (some ⟨g, 0, none⟩) n c) n zs) :
    Calls Try.prog 54 #[.slice (some ⟨g, 0, none⟩) n c, .int .i64 from_, .int .i64 by_] w fun e w' => e = .returned (.tuple #[]) ∧ OwnBox lo w' (.slice (some ⟨g, 0, none⟩) n c) n (parF (mvp from_ by_) zs) ∧ w.grownBy w' (some g) := by
  have HO := Lib.hid O; have HZ := Lib.hid O.2; have HP := Lib.hid hp
  have n1 : (n : Int) ≤ 1000 := by omega
  have lt := O.row.1.lt
  clear O hp
  go_enter Try.func54, Try.ntmps54
  go_wp2
  go_loopw [9] (fun i wr => ∃ (k : Nat) (l : List Int), k ≤ n ∧ i = .int .i64 (k : Int) ∧ Hid (MvPar (mvp from_ by_) zs k l) ∧ Hid (OwnBox lo wr (.slice (some ⟨g, 0, none⟩) n c) n l) ∧ Hid (w.grownBy wr (some g))) (fun i _ => n - (intOf i).toNat)
  case atStart => exact ⟨0, zs, Nat.zero_le _, rfl, Lib.hid (MvPar.zero _ _), HO, Lib.hid (World.grownBy.refl _ _)⟩
  case round =>
    obtain ⟨k, l, hk, rfl, HM, HW, HG⟩ := hrel
    have k0 : (0 : Int) ≤ (k : Int) := by omega
    by_cases hlt : k < n
    · have k1 : (k : Int) < (n : Int) := by omega
      have hkz : k * 9 < zs.length := by rw [HZ.out]; omega
      have c0 := HW.out.row.1.c (k * 9) (by rw [HM.out.len]; exact hkz)
      have f0 := HW.out.row.1.f (k * 9) (by rw [HM.out.len]; exact hkz)
      rw [HM.out.here hkz] at c0
      have pb := HP.out k hlt
      obtain ⟨p, hpe⟩ : ∃ p, zs.getD (k * 9) 0 = p := ⟨_, rfl⟩
      have pb2 : -1000 ≤ p ∧ p ≤ 1000 := by rw [← hpe]; exact pb
      rw [hpe] at c0
      by_cases hge : from_ ≤ p
      · have M2 := Lib.hid (HM.out.step (p + by_) (by rw [hpe]; unfold mvp; rw [if_pos hge]))
        have R2 := Lib.hid (HW.out.set (k * 9) (p + by_))
        have G2 := Lib.hid (own_set HG.out (.int .i64 (p + by_)) (k := k * 9))
        have b0 : -2000 ≤ p + by_ := by omega
        have b1 : p + by_ ≤ 2000 := by omega
        clear pb pb2 hpe hkz
        go_wp2
        go_roundw
        case rel => exact ⟨k + 1, _, by omega, by go_num, M2, R2, G2⟩
        case measure => simp [intOf]; omega
      · have M2 := Lib.hid (HM.out.stay (by rw [hpe]; unfold mvp; rw [if_neg hge]))
        have hgb : decide (from_ ≤ p) = false := decide_eq_false hge
        clear pb pb2 hpe hkz
        go_wp2
        go_roundw
        case rel => exact ⟨k + 1, l, by omega, by go_num, M2, HW, HG⟩
        case measure => simp [intOf]; omega
    · obtain rfl : k = n := by omega
      have HE := HM.out.all HZ.out
      subst HE
      go_wp2
      go_end0
      exact ⟨rfl, HW.out, HG.out⟩
end Go.Proofs.Ytobnjagmakhgpaa
