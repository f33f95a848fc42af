/- RemoveBox of the reference, walked. Condition: the tree can be read. -/
import Derived.Test.YtnihklilappimaaRemI
import Derived.Test.YtnihklilappimaaTreeA
namespace Go.Proofs.Ytnihklilappimaa
open Go.RowKit

def rowF (f : Int → Int) (zs : List Int) (i : Nat) : List Int := [f (par zs i), zs.getD (i * 9 + 1) 0, zs.getD (i * 9 + 2) 0, zs.getD (i * 9 + 3) 0, zs.getD (i * 9 + 4) 0, zs.getD (i * 9 + 5) 0, zs.getD (i * 9 + 6) 0, zs.getD (i * 9 + 7) 0, zs.getD (i * 9 + 8) 0]
def tailF (f : Int → Int) (zs : List Int) (e m : Nat) : List Int := (List.range m).flatMap fun d => rowF f zs (e + d)
theorem tailF_succ (f : Int → Int) (zs : List Int) (e m : Nat) : tailF f zs e (m + 1) = tailF f zs e m ++ rowF f zs (e + m) := by
  unfold tailF
  rw [List.range_succ, List.flatMap_append]
  simp
theorem tailF_len (f : Int → Int) (zs : List Int) (e m : Nat) : (tailF f zs e m).length = m * 9 := by
  induction m with
  | zero => rfl
  | succ m ih => rw [tailF_succ, List.length_append, ih]; simp [rowF]; omega
theorem rowF_at (f : Int → Int) (zs : List Int) (i r : Nat) (hr : r < 9) : (rowF f zs i).getD r 0 = if r = 0 then f (par zs i) else zs.getD (i * 9 + r) 0 := by
  match r, hr with
  | 0, _ => rfl
  | 1, _ => rfl
  | 2, _ => rfl
  | 3, _ => rfl
  | 4, _ => rfl
  | 5, _ => rfl
  | 6, _ => rfl
  | 7, _ => rfl
  | 8, _ => rfl
theorem tailF_at (f : Int → Int) (zs : List Int) (e m : Nat) : ∀ j, j < m * 9 → (tailF f zs e m).getD j 0 = if j % 9 = 0 then f (zs.getD (e * 9 + j) 0) else zs.getD (e * 9 + j) 0 := by
  induction m with
  | zero => intro j hj; omega
  | succ m ih =>
    intro j hj
    rw [tailF_succ]
    rcases Nat.lt_or_ge j (m * 9) with h | h
    · rw [getD_apl (by rw [tailF_len]; exact h)]
      exact ih j h
    · rw [getD_apr (by rw [tailF_len]; exact h), tailF_len, rowF_at _ _ _ _ (by omega)]
      by_cases h0 : j - m * 9 = 0
      · rw [if_pos h0, if_pos (show j % 9 = 0 by omega)]
        unfold par
        rw [show (e + m) * 9 = e * 9 + j by omega]
      · rw [if_neg h0, if_neg (show ¬ j % 9 = 0 by omega), show (e + m) * 9 + (j - m * 9) = e * 9 + j by omega]
/-- The program's way to a tree without a box is the reference's. -/
theorem rem_same {n a m : Nat} {zs : List Int} (h : vtB n zs = true) (hz : zs.length = n * 9) (ha : a < n) (hm : en zs n a = a + m) :
    zs.take (a * 9) ++ tailF (mvp (a : Int) (-(m : Int))) zs (a + m) (n - (a + m)) = remL n zs a := by
  have eb := en_bd (zs := zs) ha
  unfold remL
  rw [hm] at eb ⊢
  rw [show a + m - a = m by omega]
  have ht : (zs.take (a * 9)).length = a * 9 := by rw [List.length_take, hz]; omega
  have hd : (zs.drop ((a + m) * 9)).length = (n - (a + m)) * 9 := by rw [List.length_drop, hz]; omega
  refine ext_get (by rw [parF_len, List.length_append, List.length_append, tailF_len, hd]) fun i hi => ?_
  rw [List.length_append, tailF_len, ht] at hi
  rw [parF_at (by rw [List.length_append, ht, hd]; omega)]
  by_cases h1 : i < a * 9
  · have hg : (zs.take (a * 9)).getD i 0 = zs.getD i 0 := by rw [List.getD_eq_getElem?_getD, List.getElem?_take_of_lt h1, List.getD_eq_getElem?_getD]
    rw [getD_apl (by rw [ht]; exact h1), getD_apl (by rw [ht]; exact h1), hg]
    by_cases h0 : i % 9 = 0
    · rw [if_pos h0]
      have hp : par zs (i / 9) = zs.getD i 0 := by unfold par; rw [show i / 9 * 9 = i by omega]
      rcases Nat.eq_zero_or_pos (i / 9) with hz0 | hz0
      · have := par_root h (show 0 < n by omega)
        rw [hz0] at hp
        rw [← hp, this]
        unfold mvp
        rw [if_neg (show ¬ ((a : Int) ≤ -1) by omega)]
      · obtain ⟨p, e1, hp1⟩ := par_bd h (show i / 9 < n by omega) hz0
        rw [← hp, e1]
        unfold mvp
        rw [if_neg (show ¬ ((a : Int) ≤ (p : Int)) by omega)]
    · rw [if_neg h0]
  · rw [getD_apr (by rw [ht]; omega), getD_apr (by rw [ht]; omega), ht, tailF_at _ _ _ _ _ (by omega), List.getD_eq_getElem?_getD (l := zs.drop _), List.getElem?_drop, ← List.getD_eq_getElem?_getD]
    by_cases h0 : i % 9 = 0
    · rw [if_pos h0, if_pos (show (i - a * 9) % 9 = 0 by omega)]
    · rw [if_neg h0, if_neg (show ¬ (i - a * 9) % 9 = 0 by omega)]
set_option maxRecDepth 100000 in
set_option maxHeartbeats 4000000 in
theorem without_any (b off n c a m : Nat) (zs : List Int) (hv : vtB n zs = true) (ha : a < n) (hm : en zs n a = a + m) (hnc : n ≤ c) (w : World) (hx : Sts 9 w (some ⟨b, off, none⟩) n zs) :
    Calls Try.prog 65 #[.slice (some ⟨b, off, none⟩) n c, .int .i64 (a : Int)] w fun ee w' => ∃ v, ee = .returned v ∧ OwnBox w.heap.size w' v (a + (n - (a + m))) (remL n zs a) ∧ New w w' := by
  have HX := Lib.hid hx
  have hn16 := (vtB_iff.1 hv).1
  have HL := Lib.hid (link_vt hv)
  have RS := Lib.hid (rem_same hv hx.len ha hm)
  have eb := en_bd (zs := zs) ha
  have SC := scount_any (some ⟨b, off, none⟩) n c a zs (by omega) ha (link_vt hv).ups w hx
  rw [hm] at SC eb
  rw [show ((a + m : Nat) : Int) - (a : Int) = (m : Int) by omega] at SC
  have SC := Lib.hid SC
  obtain ⟨b', off', ep, hb, hc⟩ := hx.at_ (by omega)
  injection ep with ep
  injection ep with ep1 ep2
  subst ep1 ep2
  have SP := Lib.hid (((hx.pref (show a ≤ n by omega)).new ((New.refl w).alloc (.cells #[] 36))))
  have LP : Hid ((zs.take (a * 9)).length = a * 9) := Lib.hid (by rw [List.length_take, hx.len]; omega)
  clear hx hv hm
  obtain ⟨e, he⟩ : ∃ e, a + m = e := ⟨_, rfl⟩
  rw [he] at RS eb ⊢
  have hes : (a : Int) + (m : Int) = (e : Int) := by omega
  have a0 : (0 : Int) ≤ (a : Int) := by omega
  have a1 : (a : Int) < (n : Int) := by omega
  have ac : (a : Int) ≤ (c : Int) := by omega
  have m0 : (0 : Int) ≤ (m : Int) := by omega
  have m1 : (m : Int) ≤ 16 := by omega
  have n0 : (n : Int) ≤ 16 := by omega
  have e0 : (0 : Int) ≤ (e : Int) := by omega
  have e1 : (e : Int) ≤ (n : Int) := by omega
  go_enter Try.func65, Try.ntmps65
  go_wp2_with (first
    | (go_at_call 60; refine SC.out.mono ?_; rintro e' w' ⟨rfl, rfl⟩)
    | (at_builtin; refine wp_appBoxN rfl _ _ rfl w.heap.size _ 0 [] rfl (OwnBox.empty w (Nat.le_refl _)) (some ⟨b, off, none⟩) a c (zs.take (a * 9)) rfl SP.out (by omega) (by simp) ?_; intro v2 w2 O2 G2; (have N2 := Lib.hid (new_ownBox (New.alloc (New.refl w) _) G2 (OwnBox.empty w (Nat.le_refl _)) (Nat.le_refl _))); (rw [List.nil_append, Nat.zero_add] at O2); (have O2 := Lib.hid O2); clear G2))
  go_loopw [6, 7] (fun v i wr => ∃ k : Nat, e ≤ k ∧ k ≤ n ∧ i = .int .i64 (k : Int) ∧ Hid (OwnBox w.heap.size wr v (a + (k - e)) (zs.take (a * 9) ++ tailF (mvp (a : Int) (-(m : Int))) zs e (k - e))) ∧ Hid (New w wr)) (fun _ i _ => n - (intOf i).toNat)
  case atStart => exact ⟨e, Nat.le_refl _, by omega, rfl, by rw [Nat.sub_self, Nat.add_zero, show tailF (mvp (a : Int) (-(m : Int))) zs e 0 = [] from rfl, List.append_nil]; exact O2, N2⟩
  case round =>
    obtain ⟨k, hek, hk, rfl, HOr, HNr⟩ := hrel
    have sz := HNr.out.le
    by_cases hlt : k < n
    · have k0 : (0 : Int) ≤ (k : Int) := by omega
      have k1 : (k : Int) < (n : Int) := by omega
      obtain ⟨y0, e0y⟩ : ∃ y, zs.getD (k * 9) 0 = y := ⟨_, rfl⟩
      have g0 : wr.cell? ⟨b, off + k * 9, none⟩ = some (.int .i64 y0) := by rw [← e0y]; exact (HNr.out.cells b _ hb).trans (hc (k * 9) (by omega))
      obtain ⟨y1, e1y⟩ : ∃ y, zs.getD (k * 9 + 1) 0 = y := ⟨_, rfl⟩
      have g1 : wr.cell? ⟨b, off + k * 9 + 1, none⟩ = some (.int .i64 y1) := by rw [← e1y]; exact (HNr.out.cells b _ hb).trans (hc (k * 9 + 1) (by omega))
      obtain ⟨y2, e2y⟩ : ∃ y, zs.getD (k * 9 + 2) 0 = y := ⟨_, rfl⟩
      have g2 : wr.cell? ⟨b, off + k * 9 + 2, none⟩ = some (.int .i64 y2) := by rw [← e2y]; exact (HNr.out.cells b _ hb).trans (hc (k * 9 + 2) (by omega))
      obtain ⟨y3, e3y⟩ : ∃ y, zs.getD (k * 9 + 3) 0 = y := ⟨_, rfl⟩
      have g3 : wr.cell? ⟨b, off + k * 9 + 3, none⟩ = some (.int .i64 y3) := by rw [← e3y]; exact (HNr.out.cells b _ hb).trans (hc (k * 9 + 3) (by omega))
      obtain ⟨y4, e4y⟩ : ∃ y, zs.getD (k * 9 + 4) 0 = y := ⟨_, rfl⟩
      have g4 : wr.cell? ⟨b, off + k * 9 + 4, none⟩ = some (.int .i64 y4) := by rw [← e4y]; exact (HNr.out.cells b _ hb).trans (hc (k * 9 + 4) (by omega))
      obtain ⟨y5, e5y⟩ : ∃ y, zs.getD (k * 9 + 5) 0 = y := ⟨_, rfl⟩
      have g5 : wr.cell? ⟨b, off + k * 9 + 5, none⟩ = some (.int .i64 y5) := by rw [← e5y]; exact (HNr.out.cells b _ hb).trans (hc (k * 9 + 5) (by omega))
      obtain ⟨y6, e6y⟩ : ∃ y, zs.getD (k * 9 + 6) 0 = y := ⟨_, rfl⟩
      have g6 : wr.cell? ⟨b, off + k * 9 + 6, none⟩ = some (.int .i64 y6) := by rw [← e6y]; exact (HNr.out.cells b _ hb).trans (hc (k * 9 + 6) (by omega))
      obtain ⟨y7, e7y⟩ : ∃ y, zs.getD (k * 9 + 7) 0 = y := ⟨_, rfl⟩
      have g7 : wr.cell? ⟨b, off + k * 9 + 7, none⟩ = some (.int .i64 y7) := by rw [← e7y]; exact (HNr.out.cells b _ hb).trans (hc (k * 9 + 7) (by omega))
      obtain ⟨y8, e8y⟩ : ∃ y, zs.getD (k * 9 + 8) 0 = y := ⟨_, rfl⟩
      have g8 : wr.cell? ⟨b, off + k * 9 + 8, none⟩ = some (.int .i64 y8) := by rw [← e8y]; exact (HNr.out.cells b _ hb).trans (hc (k * 9 + 8) (by omega))
      obtain ⟨p, ep, hpk, _⟩ := HL.out.up k (by omega) hlt
      have yb : 0 ≤ y0 ∧ y0 ≤ 16 := by
        have h1 : par zs k = y0 := e0y
        omega
      obtain ⟨yb0, yb1⟩ := yb
      clear ep hpk
      by_cases hge : (a : Int) ≤ y0
      · have hd2 : decide (y0 ≥ (a : Int)) = true := decide_eq_true hge
        have w1' : IntKind.i64.wrap (y0 - (m : Int)) = y0 - (m : Int) := IntWalk.i64_in _ (by omega)
        have TS : Hid (tailF (mvp (a : Int) (-(m : Int))) zs e (k + 1 - e) = tailF (mvp (a : Int) (-(m : Int))) zs e (k - e) ++ [(y0 - (m : Int)), y1, y2, y3, y4, y5, y6, y7, y8]) := Lib.hid (by
          have h : k + 1 - e = (k - e) + 1 := by omega
          rw [h, tailF_succ]
          unfold rowF mvp par
          rw [show e + (k - e) = k by omega, e0y, e1y, e2y, e3y, e4y, e5y, e6y, e7y, e8y, if_pos hge, ← Int.sub_eq_add_neg])
        clear e0y e1y e2y e3y e4y e5y e6y e7y e8y
        have NX := Lib.hid ((New.refl wr).alloc (.cells #[.int .i64 y0, .int .i64 y1, .int .i64 y2, .int .i64 y3, .int .i64 y4, .int .i64 y5, .int .i64 y6, .int .i64 y7, .int .i64 y8] 36))
        have ltx : wr.heap.size < (wr.alloc (.cells #[.int .i64 y0, .int .i64 y1, .int .i64 y2, .int .i64 y3, .int .i64 y4, .int .i64 y5, .int .i64 y6, .int .i64 y7, .int .i64 y8] 36)).heap.size := by simp
        have x0 : (wr.alloc (.cells #[.int .i64 y0, .int .i64 y1, .int .i64 y2, .int .i64 y3, .int .i64 y4, .int .i64 y5, .int .i64 y6, .int .i64 y7, .int .i64 y8] 36)).cell? ⟨wr.heap.size, 0, none⟩ = some (.int .i64 y0) := by simp [go_sem]
        have x1 : (wr.alloc (.cells #[.int .i64 y0, .int .i64 y1, .int .i64 y2, .int .i64 y3, .int .i64 y4, .int .i64 y5, .int .i64 y6, .int .i64 y7, .int .i64 y8] 36)).cell? ⟨wr.heap.size, 1, none⟩ = some (.int .i64 y1) := by simp [go_sem]
        have x2 : (wr.alloc (.cells #[.int .i64 y0, .int .i64 y1, .int .i64 y2, .int .i64 y3, .int .i64 y4, .int .i64 y5, .int .i64 y6, .int .i64 y7, .int .i64 y8] 36)).cell? ⟨wr.heap.size, 2, none⟩ = some (.int .i64 y2) := by simp [go_sem]
        have x3 : (wr.alloc (.cells #[.int .i64 y0, .int .i64 y1, .int .i64 y2, .int .i64 y3, .int .i64 y4, .int .i64 y5, .int .i64 y6, .int .i64 y7, .int .i64 y8] 36)).cell? ⟨wr.heap.size, 3, none⟩ = some (.int .i64 y3) := by simp [go_sem]
        have x4 : (wr.alloc (.cells #[.int .i64 y0, .int .i64 y1, .int .i64 y2, .int .i64 y3, .int .i64 y4, .int .i64 y5, .int .i64 y6, .int .i64 y7, .int .i64 y8] 36)).cell? ⟨wr.heap.size, 4, none⟩ = some (.int .i64 y4) := by simp [go_sem]
        have x5 : (wr.alloc (.cells #[.int .i64 y0, .int .i64 y1, .int .i64 y2, .int .i64 y3, .int .i64 y4, .int .i64 y5, .int .i64 y6, .int .i64 y7, .int .i64 y8] 36)).cell? ⟨wr.heap.size, 5, none⟩ = some (.int .i64 y5) := by simp [go_sem]
        have x6 : (wr.alloc (.cells #[.int .i64 y0, .int .i64 y1, .int .i64 y2, .int .i64 y3, .int .i64 y4, .int .i64 y5, .int .i64 y6, .int .i64 y7, .int .i64 y8] 36)).cell? ⟨wr.heap.size, 6, none⟩ = some (.int .i64 y6) := by simp [go_sem]
        have x7 : (wr.alloc (.cells #[.int .i64 y0, .int .i64 y1, .int .i64 y2, .int .i64 y3, .int .i64 y4, .int .i64 y5, .int .i64 y6, .int .i64 y7, .int .i64 y8] 36)).cell? ⟨wr.heap.size, 7, none⟩ = some (.int .i64 y7) := by simp [go_sem]
        have x8 : (wr.alloc (.cells #[.int .i64 y0, .int .i64 y1, .int .i64 y2, .int .i64 y3, .int .i64 y4, .int .i64 y5, .int .i64 y6, .int .i64 y7, .int .i64 y8] 36)).cell? ⟨wr.heap.size, 8, none⟩ = some (.int .i64 y8) := by simp [go_sem]
        have fx : (wr.alloc (.cells #[.int .i64 y0, .int .i64 y1, .int .i64 y2, .int .i64 y3, .int .i64 y4, .int .i64 y5, .int .i64 y6, .int .i64 y7, .int .i64 y8] 36)).frozen? ⟨wr.heap.size, 0, none⟩ = false := by simp [go_sem]
        go_wp2
        generalize wr.alloc (.cells #[.int .i64 y0, .int .i64 y1, .int .i64 y2, .int .i64 y3, .int .i64 y4, .int .i64 y5, .int .i64 y6, .int .i64 y7, .int .i64 y8] 36) = wA at *
        go_still_tail 11, (by kernel_rfl)
        still_call ((toIntT_any _ _).mono fun _ _ h => ⟨h.1, h.2.symm⟩)
        repeat still_step
        refine wpStill_nil ?_
        change wpList _ _ _ _ _ wA.drew
        have NB := Lib.hid NX.out.drew
        have xd : wA.drew.cell? ⟨wr.heap.size, 0, none⟩ = some (.int .i64 y0) ∧ wA.drew.cell? ⟨wr.heap.size, 1, none⟩ = some (.int .i64 y1) ∧ wA.drew.cell? ⟨wr.heap.size, 2, none⟩ = some (.int .i64 y2) ∧ wA.drew.cell? ⟨wr.heap.size, 3, none⟩ = some (.int .i64 y3) ∧ wA.drew.cell? ⟨wr.heap.size, 4, none⟩ = some (.int .i64 y4) ∧ wA.drew.cell? ⟨wr.heap.size, 5, none⟩ = some (.int .i64 y5) ∧ wA.drew.cell? ⟨wr.heap.size, 6, none⟩ = some (.int .i64 y6) ∧ wA.drew.cell? ⟨wr.heap.size, 7, none⟩ = some (.int .i64 y7) ∧ wA.drew.cell? ⟨wr.heap.size, 8, none⟩ = some (.int .i64 y8) ∧ wA.drew.frozen? ⟨wr.heap.size, 0, none⟩ = false := ⟨x0, x1, x2, x3, x4, x5, x6, x7, x8, fx⟩
        clear NX x0 x1 x2 x3 x4 x5 x6 x7 x8 fx
        have ltB : wr.heap.size < wA.drew.heap.size := ltx
        clear ltx
        generalize wA.drew = wB at *
        obtain ⟨x0, x1, x2, x3, x4, x5, x6, x7, x8, fx⟩ := xd
        have NS := Lib.hid (NB.out.setCell (p := ⟨wr.heap.size, 0, none⟩) (Nat.le_refl _) (.int .i64 (y0 - (m : Int))))
        have RX0 := Row.oneBox (wB.setCell ⟨wr.heap.size, 0, none⟩ (.int .i64 (y0 - (m : Int)))) (y0 - (m : Int)) y1 y2 y3 y4 y5 y6 y7 y8 36
        rw [show (wB.setCell ⟨wr.heap.size, 0, none⟩ (.int .i64 (y0 - (m : Int)))).heap.size = wB.heap.size by simp [World.setCell]] at RX0
        have RX := Lib.hid RX0
        clear RX0
        go_wp2_with (at_builtin; refine wp_appBox rfl _ _ rfl w.heap.size _ (a + (k - e)) _ rfl (HOr.out.new (NS.out.alloc _)) _ (y0 - (m : Int)) y1 y2 y3 y4 y5 y6 y7 y8 rfl RX.out (by omega) (Nat.le_trans sz (NS.out.alloc _).le) ?_; intro v6 w6 O6 G6; (have N6 := Lib.hid (new_ownBox (HNr.out.trans (NS.out.alloc _)) G6 (HOr.out.new (NS.out.alloc _)) (Nat.le_refl _))); (have O6 := Lib.hid O6); clear G6)
        go_wp2
        go_roundw
        case rel => exact ⟨k + 1, by omega, by omega, by go_num, Lib.hid (by
          have h2 : a + (k + 1 - e) = a + (k - e) + 1 := by omega
          rw [h2, TS.out, ← List.append_assoc]
          exact O6.out), N6⟩
        case measure => simp [intOf]; omega
      · have hd2 : decide (y0 ≥ (a : Int)) = false := decide_eq_false hge
        have TS : Hid (tailF (mvp (a : Int) (-(m : Int))) zs e (k + 1 - e) = tailF (mvp (a : Int) (-(m : Int))) zs e (k - e) ++ [y0, y1, y2, y3, y4, y5, y6, y7, y8]) := Lib.hid (by
          have h : k + 1 - e = (k - e) + 1 := by omega
          rw [h, tailF_succ]
          unfold rowF mvp par
          rw [show e + (k - e) = k by omega, e0y, e1y, e2y, e3y, e4y, e5y, e6y, e7y, e8y, if_neg hge])
        clear e0y e1y e2y e3y e4y e5y e6y e7y e8y
        have NX := Lib.hid ((New.refl wr).alloc (.cells #[.int .i64 y0, .int .i64 y1, .int .i64 y2, .int .i64 y3, .int .i64 y4, .int .i64 y5, .int .i64 y6, .int .i64 y7, .int .i64 y8] 36))
        have ltx : wr.heap.size < (wr.alloc (.cells #[.int .i64 y0, .int .i64 y1, .int .i64 y2, .int .i64 y3, .int .i64 y4, .int .i64 y5, .int .i64 y6, .int .i64 y7, .int .i64 y8] 36)).heap.size := by simp
        have x0 : (wr.alloc (.cells #[.int .i64 y0, .int .i64 y1, .int .i64 y2, .int .i64 y3, .int .i64 y4, .int .i64 y5, .int .i64 y6, .int .i64 y7, .int .i64 y8] 36)).cell? ⟨wr.heap.size, 0, none⟩ = some (.int .i64 y0) := by simp [go_sem]
        have x1 : (wr.alloc (.cells #[.int .i64 y0, .int .i64 y1, .int .i64 y2, .int .i64 y3, .int .i64 y4, .int .i64 y5, .int .i64 y6, .int .i64 y7, .int .i64 y8] 36)).cell? ⟨wr.heap.size, 1, none⟩ = some (.int .i64 y1) := by simp [go_sem]
        have x2 : (wr.alloc (.cells #[.int .i64 y0, .int .i64 y1, .int .i64 y2, .int .i64 y3, .int .i64 y4, .int .i64 y5, .int .i64 y6, .int .i64 y7, .int .i64 y8] 36)).cell? ⟨wr.heap.size, 2, none⟩ = some (.int .i64 y2) := by simp [go_sem]
        have x3 : (wr.alloc (.cells #[.int .i64 y0, .int .i64 y1, .int .i64 y2, .int .i64 y3, .int .i64 y4, .int .i64 y5, .int .i64 y6, .int .i64 y7, .int .i64 y8] 36)).cell? ⟨wr.heap.size, 3, none⟩ = some (.int .i64 y3) := by simp [go_sem]
        have x4 : (wr.alloc (.cells #[.int .i64 y0, .int .i64 y1, .int .i64 y2, .int .i64 y3, .int .i64 y4, .int .i64 y5, .int .i64 y6, .int .i64 y7, .int .i64 y8] 36)).cell? ⟨wr.heap.size, 4, none⟩ = some (.int .i64 y4) := by simp [go_sem]
        have x5 : (wr.alloc (.cells #[.int .i64 y0, .int .i64 y1, .int .i64 y2, .int .i64 y3, .int .i64 y4, .int .i64 y5, .int .i64 y6, .int .i64 y7, .int .i64 y8] 36)).cell? ⟨wr.heap.size, 5, none⟩ = some (.int .i64 y5) := by simp [go_sem]
        have x6 : (wr.alloc (.cells #[.int .i64 y0, .int .i64 y1, .int .i64 y2, .int .i64 y3, .int .i64 y4, .int .i64 y5, .int .i64 y6, .int .i64 y7, .int .i64 y8] 36)).cell? ⟨wr.heap.size, 6, none⟩ = some (.int .i64 y6) := by simp [go_sem]
        have x7 : (wr.alloc (.cells #[.int .i64 y0, .int .i64 y1, .int .i64 y2, .int .i64 y3, .int .i64 y4, .int .i64 y5, .int .i64 y6, .int .i64 y7, .int .i64 y8] 36)).cell? ⟨wr.heap.size, 7, none⟩ = some (.int .i64 y7) := by simp [go_sem]
        have x8 : (wr.alloc (.cells #[.int .i64 y0, .int .i64 y1, .int .i64 y2, .int .i64 y3, .int .i64 y4, .int .i64 y5, .int .i64 y6, .int .i64 y7, .int .i64 y8] 36)).cell? ⟨wr.heap.size, 8, none⟩ = some (.int .i64 y8) := by simp [go_sem]
        have fx : (wr.alloc (.cells #[.int .i64 y0, .int .i64 y1, .int .i64 y2, .int .i64 y3, .int .i64 y4, .int .i64 y5, .int .i64 y6, .int .i64 y7, .int .i64 y8] 36)).frozen? ⟨wr.heap.size, 0, none⟩ = false := by simp [go_sem]
        go_wp2
        generalize wr.alloc (.cells #[.int .i64 y0, .int .i64 y1, .int .i64 y2, .int .i64 y3, .int .i64 y4, .int .i64 y5, .int .i64 y6, .int .i64 y7, .int .i64 y8] 36) = wA at *
        go_still_tail 11, (by kernel_rfl)
        still_call ((toIntT_any _ _).mono fun _ _ h => ⟨h.1, h.2.symm⟩)
        repeat still_step
        refine wpStill_nil ?_
        change wpList _ _ _ _ _ wA.drew
        have NB := Lib.hid NX.out.drew
        have xd : wA.drew.cell? ⟨wr.heap.size, 0, none⟩ = some (.int .i64 y0) ∧ wA.drew.cell? ⟨wr.heap.size, 1, none⟩ = some (.int .i64 y1) ∧ wA.drew.cell? ⟨wr.heap.size, 2, none⟩ = some (.int .i64 y2) ∧ wA.drew.cell? ⟨wr.heap.size, 3, none⟩ = some (.int .i64 y3) ∧ wA.drew.cell? ⟨wr.heap.size, 4, none⟩ = some (.int .i64 y4) ∧ wA.drew.cell? ⟨wr.heap.size, 5, none⟩ = some (.int .i64 y5) ∧ wA.drew.cell? ⟨wr.heap.size, 6, none⟩ = some (.int .i64 y6) ∧ wA.drew.cell? ⟨wr.heap.size, 7, none⟩ = some (.int .i64 y7) ∧ wA.drew.cell? ⟨wr.heap.size, 8, none⟩ = some (.int .i64 y8) ∧ wA.drew.frozen? ⟨wr.heap.size, 0, none⟩ = false := ⟨x0, x1, x2, x3, x4, x5, x6, x7, x8, fx⟩
        clear NX x0 x1 x2 x3 x4 x5 x6 x7 x8 fx
        have ltB : wr.heap.size < wA.drew.heap.size := ltx
        clear ltx
        generalize wA.drew = wB at *
        obtain ⟨x0, x1, x2, x3, x4, x5, x6, x7, x8, fx⟩ := xd
        have NS := Lib.hid (NB.out.setCell (p := ⟨wr.heap.size, 0, none⟩) (Nat.le_refl _) (.int .i64 y0))
        have RX0 := Row.oneBox (wB.setCell ⟨wr.heap.size, 0, none⟩ (.int .i64 y0)) y0 y1 y2 y3 y4 y5 y6 y7 y8 36
        rw [show (wB.setCell ⟨wr.heap.size, 0, none⟩ (.int .i64 y0)).heap.size = wB.heap.size by simp [World.setCell]] at RX0
        have RX := Lib.hid RX0
        clear RX0
        go_wp2_with (at_builtin; refine wp_appBox rfl _ _ rfl w.heap.size _ (a + (k - e)) _ rfl (HOr.out.new (NS.out.alloc _)) _ y0 y1 y2 y3 y4 y5 y6 y7 y8 rfl RX.out (by omega) (Nat.le_trans sz (NS.out.alloc _).le) ?_; intro v6 w6 O6 G6; (have N6 := Lib.hid (new_ownBox (HNr.out.trans (NS.out.alloc _)) G6 (HOr.out.new (NS.out.alloc _)) (Nat.le_refl _))); (have O6 := Lib.hid O6); clear G6)
        go_wp2
        go_roundw
        case rel => exact ⟨k + 1, by omega, by omega, by go_num, Lib.hid (by
          have h2 : a + (k + 1 - e) = a + (k - e) + 1 := by omega
          rw [h2, TS.out, ← List.append_assoc]
          exact O6.out), N6⟩
        case measure => simp [intOf]; omega
    · obtain rfl : k = n := by omega
      have HO9 := HOr.out
      rw [RS.out] at HO9
      have HO9 := Lib.hid HO9
      clear HOr
      go_wp2
      go_ret
      exact ⟨_, rfl, HO9.out, HNr.out⟩
end Go.Proofs.Ytnihklilappimaa
