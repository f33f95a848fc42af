/- Parts that belong together: ShareM, ShareS, ShareN, ShareO, Sort. Conditions: as each part says. -/
import Derived.Test.YtobnjagmakhgpaaZA
import Derived.Test.YtobnjagmakhgpaaZC
import Derived.Sort.LotA
import Derived.Shelf.SlSortCmp.InsertionK
/- Plain facts on shares: a space split by weights, the rests handed out one by one to the first greatest. No condition. -/
namespace Go.Proofs.Ytobnjagmakhgpaa

/-- The first greatest of the first k + 1 numbers. -/
def amaxTo (r : List Int) : Nat → Nat
  | 0 => 0
  | k + 1 => if r.getD (amaxTo r k) 0 < r.getD (k + 1) 0 then k + 1 else amaxTo r k
theorem amaxTo_le (r : List Int) (k : Nat) : amaxTo r k ≤ k := by
  induction k with
  | zero => exact Nat.le_refl _
  | succ k ih => unfold amaxTo; split <;> omega
/-- The first greatest. -/
def amax (r : List Int) : Nat := amaxTo r (r.length - 1)
/-- One more is handed out. -/
def spin1 (s : List Int × List Int) : List Int × List Int := (s.1.set (amax s.2) (s.1.getD (amax s.2) 0 + 1), s.2.set (amax s.2) (-1))
def spinTo : Nat → List Int × List Int → List Int × List Int
  | 0, s => s
  | j + 1, s => spin1 (spinTo j s)
theorem spinTo_len (j : Nat) (s : List Int × List Int) : (spinTo j s).1.length = s.1.length ∧ (spinTo j s).2.length = s.2.length := by
  induction j with
  | zero => exact ⟨rfl, rfl⟩
  | succ j ih => unfold spinTo spin1; simpa using ih
def baseL (a : Int) (ws : List Int) : List Int := ws.map fun x => a * x / ws.sum
def restL (a : Int) (ws : List Int) : List Int := ws.map fun x => a * x % ws.sum
theorem baseL_len (a : Int) (ws : List Int) : (baseL a ws).length = ws.length := by simp [baseL]
theorem restL_len (a : Int) (ws : List Int) : (restL a ws).length = ws.length := by simp [restL]
/-- What is left to be handed out. -/
def leftL (a : Int) (ws : List Int) : Int := a - (baseL a ws).sum
/-- A space that is split by weights. -/
def shareL (a : Int) (ws : List Int) : List Int := if ws.sum = 0 then List.replicate ws.length 0 else (spinTo (leftL a ws).toNat (baseL a ws, restL a ws)).1
theorem baseL_at (a : Int) (ws : List Int) (k : Nat) (h : k < ws.length) : (baseL a ws).getD k 0 = a * ws.getD k 0 / ws.sum := by simp [baseL, h]
theorem restL_at (a : Int) (ws : List Int) (k : Nat) (h : k < ws.length) : (restL a ws).getD k 0 = a * ws.getD k 0 % ws.sum := by simp [restL, h]
/-- Weights in their range. -/
def Wts (ws : List Int) : Prop := ∀ z ∈ ws, 0 ≤ z ∧ z ≤ 200000
theorem Wts.sml {ws : List Int} (h : Wts ws) : Go.Proofs.Ytobnjagmakhgpaa.Sml ws := fun z hz => by have := h z hz; omega
theorem sum_nonneg {xs : List Int} (h : ∀ z ∈ xs, 0 ≤ z) : 0 ≤ xs.sum := by
  induction xs with
  | nil => simp
  | cons x xs ih =>
    have h1 := h x (by simp)
    have h2 := ih fun z hz => h z (by simp [hz])
    simp; omega
theorem Wts.at_ {ws : List Int} (h : Wts ws) (k : Nat) : 0 ≤ ws.getD k 0 ∧ ws.getD k 0 ≤ 200000 := by
  by_cases hk : k < ws.length
  · have e : ws.getD k 0 = ws[k] := by simp [hk]
    rw [e]; exact h _ (List.getElem_mem hk)
  · have e : ws.getD k 0 = 0 := by simp [Nat.le_of_not_lt hk]
    rw [e]; omega
/-- The rounded shares are no more than the space. -/
theorem quo_sum (a s : Int) (_ha : 0 ≤ a) (hs : 0 < s) (xs : List Int) (h : ∀ z ∈ xs, 0 ≤ z) : (xs.map fun x => a * x / s).sum * s ≤ a * xs.sum := by
  induction xs with
  | nil => simp
  | cons x xs ih =>
    have h1 := ih fun z hz => h z (by simp [hz])
    have h2 : a * x / s * s ≤ a * x := Int.ediv_mul_le _ (by omega)
    simp only [List.map_cons, List.sum_cons, Int.add_mul, Int.mul_add]
    omega
theorem base_le (a : Int) (ws : List Int) (ha : 0 ≤ a) (hw : Wts ws) (hs : ws.sum ≠ 0) : (baseL a ws).sum ≤ a := by
  have h0 : 0 < ws.sum := by have := sum_nonneg (xs := ws) fun z hz => (hw z hz).1; omega
  have h1 := quo_sum a ws.sum ha h0 ws fun z hz => (hw z hz).1
  exact Int.le_of_mul_le_mul_right h1 h0
theorem mem_le_sum {xs : List Int} (h : ∀ z ∈ xs, 0 ≤ z) {y : Int} (hy : y ∈ xs) : y ≤ xs.sum := by
  induction xs with
  | nil => cases hy
  | cons x xs ih =>
    have h1 := h x (by simp)
    have h2 := sum_nonneg (xs := xs) fun z hz => h z (by simp [hz])
    rcases List.mem_cons.1 hy with rfl | hy
    · simp; omega
    · have := ih (fun z hz => h z (by simp [hz])) hy
      simp; omega
theorem base_bd (a : Int) (ws : List Int) (ha : 0 ≤ a) (hw : Wts ws) (hs : ws.sum ≠ 0) : ∀ z ∈ baseL a ws, 0 ≤ z ∧ z ≤ a := by
  have h0 : 0 < ws.sum := by have := sum_nonneg (xs := ws) fun z hz => (hw z hz).1; omega
  intro z hz
  obtain ⟨x, hx, rfl⟩ := List.mem_map.1 hz
  have h1 := (hw x hx).1
  have h2 := mem_le_sum (xs := ws) (fun z hz => (hw z hz).1) hx
  refine ⟨Int.ediv_nonneg (Int.mul_nonneg ha h1) (by omega), Int.ediv_le_of_le_mul h0 ?_⟩
  exact Int.mul_le_mul_of_nonneg_left h2 ha
theorem mul_bd {a z : Int} (ha : 0 ≤ a ∧ a ≤ 200000) (hz : 0 ≤ z ∧ z ≤ 200000) : 0 ≤ a * z ∧ a * z ≤ 40000000000 := by
  refine ⟨Int.mul_nonneg ha.1 hz.1, ?_⟩
  have h := Int.mul_le_mul ha.2 hz.2 hz.1 (by omega)
  omega
theorem spin_bd (j : Nat) (o r : List Int) (M : Int) (h : ∀ i, 0 ≤ o.getD i 0 ∧ o.getD i 0 ≤ M) : ∀ i, 0 ≤ (spinTo j (o, r)).1.getD i 0 ∧ (spinTo j (o, r)).1.getD i 0 ≤ M + (j : Int) := by
  induction j with
  | zero => intro i; have := h i; show 0 ≤ o.getD i 0 ∧ o.getD i 0 ≤ M + ((0 : Nat) : Int); omega
  | succ j ih =>
    intro i
    have hi := ih i
    have hm := ih (amax (spinTo j (o, r)).2)
    unfold spinTo spin1
    simp only []
    by_cases hl : i < (spinTo j (o, r)).1.length
    · rw [getD_set _ _ _ _ hl]
      split <;> omega
    · have e : ∀ v, ((spinTo j (o, r)).1.set (amax (spinTo j (o, r)).2) v).getD i 0 = 0 := fun v => by simp [Nat.le_of_not_lt hl]
      rw [e]; omega
theorem getD_of_mem {xs : List Int} {lo hi : Int} (h0 : lo ≤ 0 ∧ 0 ≤ hi) (h : ∀ z ∈ xs, lo ≤ z ∧ z ≤ hi) (i : Nat) : lo ≤ xs.getD i 0 ∧ xs.getD i 0 ≤ hi := by
  by_cases hk : i < xs.length
  · have e : xs.getD i 0 = xs[i] := by simp [hk]
    rw [e]; exact h _ (List.getElem_mem hk)
  · have e : xs.getD i 0 = 0 := by simp [Nat.le_of_not_lt hk]
    rw [e]; omega
end Go.Proofs.Ytobnjagmakhgpaa

/- The reference's share, walked: a space in 0 to 200000 is split by up to eight weights in 0 to 200000 as the plain function says. Conditions: the weights can be read and are in their range. -/
namespace Go.Proofs.Ytobnjagmakhgpaa
open Go.RowKit

set_option maxHeartbeats 4000000 in
theorem share_any (A : Option Addr) (n c : Nat) (a : Int) (ws : List Int) (hn : n ≤ 8) (ha : 0 ≤ a ∧ a ≤ 200000) (hw : Wts ws) (w : World) (hx : Ints w A n ws) :
    Calls Try.prog 111 #[.int .i64 a, .slice A n c] w fun e w' => ∃ g, e = .returned (.slice (some ⟨g, 0, none⟩) n n) ∧ w.heap.size ≤ g ∧ Row w' g (shareL a ws) ∧ New w w' := by
  have hmk := fun W => run_make_row' (P := Try.prog) 31 3 (.int .i64 0) 8 Try.underlying31 (by kernel_rfl) rfl .i64 .i64 n (by omega) (by omega) W
  have lx := hx.len
  have LX := Lib.hid lx
  have HX := Lib.hid hx
  have HW := Lib.hid hw
  have sb := sum_bd hw.sml n
  rw [List.take_of_length_le (by omega)] at sb
  have s0 := sum_nonneg (xs := ws) fun z hz => (hw z hz).1
  clear hx lx hw
  by_cases hs : ws.sum = 0
  · have HS := Lib.hid hs
    clear hs sb s0
    go_enter Try.func111, Try.ntmps111
    go_wp2_with fail
    refine (ssum_any A n c ws (by omega) _ (HX.out.new (by (repeat (first | exact New.refl _ | assumption | refine New.alloc ?_ _ | refine New.drew ?_ | refine New.drewN ?_ _ | refine New.setCell ?_ (by first | omega | (simp; omega) | (simp; done)) _ | refine New.trans ?_ (by assumption))))) HW.out.sml).mono ?_
    rintro e w' ⟨rfl, rfl⟩
    rw [HS.out]
    go_wp2
    go_ret
    refine ⟨w.heap.size, rfl, Nat.le_refl _, ?_, by (repeat (first | exact New.refl _ | assumption | refine New.alloc ?_ _ | refine New.drew ?_ | refine New.drewN ?_ _ | refine New.setCell ?_ (by first | omega | (simp; omega) | (simp; done)) _ | refine New.trans ?_ (by assumption)))⟩
    have h := Row.made w n 3
    unfold shareL
    rw [if_pos HS.out, LX.out]
    exact h.new (by (repeat (first | exact New.refl _ | assumption | refine New.alloc ?_ _ | refine New.drew ?_ | refine New.drewN ?_ _ | refine New.setCell ?_ (by first | omega | (simp; omega) | (simp; done)) _ | refine New.trans ?_ (by assumption))))
  · have hs1 : 1 ≤ ws.sum := by omega
    have HS := Lib.hid hs
    have n1 : 1 ≤ n := by
      rcases Nat.eq_zero_or_pos n with h | h
      · have e : ws = [] := List.eq_nil_of_length_eq_zero (by rw [LX.out]; exact h)
        exact absurd (by rw [e]; rfl) hs
      · exact h
    have hsb : (ws.sum == 0) = false := by simpa using hs
    clear hs s0
    go_enter Try.func111, Try.ntmps111
    go_wp2_with fail
    refine (ssum_any A n c ws (by omega) _ (HX.out.new (by (repeat (first | exact New.refl _ | assumption | refine New.alloc ?_ _ | refine New.drew ?_ | refine New.drewN ?_ _ | refine New.setCell ?_ (by first | omega | (simp; omega) | (simp; done)) _ | refine New.trans ?_ (by assumption))))) HW.out.sml).mono ?_
    rintro e w' ⟨rfl, rfl⟩
    go_wp2
    have R0 := (Row.made w n 3).new ((New.refl _).alloc (.cells (madeCells #[.int .i64 0] n) 3))
    have R1 := Row.made (w.alloc (.cells (madeCells #[.int .i64 0] n) 3)) n 3
    have N0 : New w ((w.alloc (.cells (madeCells #[.int .i64 0] n) 3)).alloc (.cells (madeCells #[.int .i64 0] n) 3)) := by (repeat (first | exact New.refl _ | assumption | refine New.alloc ?_ _ | refine New.drew ?_ | refine New.drewN ?_ _ | refine New.setCell ?_ (by first | omega | (simp; omega) | (simp; done)) _ | refine New.trans ?_ (by assumption)))
    simp only [World.size_alloc] at R1
    have R0 := Lib.hid R0; have R1 := Lib.hid R1; have N0 := Lib.hid N0
    clear hmk
    generalize hW : (w.alloc (.cells (madeCells #[Value.int .i64 0] n) 3)).alloc (.cells (madeCells #[.int .i64 0] n) 3) = W at R0 R1 N0 ⊢
    clear hW
    have bb := base_bd a ws ha.1 HW.out HS.out
    have SB := Lib.hid (show Sml (baseL a ws) from fun z hz => by have := bb z hz; omega)
    have BB := Lib.hid bb
    have LB := Lib.hid (baseL_len a ws); have LR := Lib.hid (restL_len a ws)
    clear bb
    obtain ⟨ha0, ha1⟩ := ha
    go_loopw [8, 9] (fun l i wr => ∃ k : Nat, k ≤ n ∧ i = .int .i64 k ∧ l = .int .i64 (a - ((baseL a ws).take k).sum) ∧ Hid (Row wr w.heap.size (upTo k (baseL a ws))) ∧ Hid (Row wr (w.heap.size + 1) (upTo k (restL a ws))) ∧ Hid (New w wr)) (fun _ i _ => n - (intOf i).toNat)
    case atStart => exact ⟨0, Nat.zero_le _, rfl, by simp, Lib.hid (by rw [upTo_zero, LB.out, LX.out]; exact R0.out), Lib.hid (by rw [upTo_zero, LR.out, LX.out]; exact R1.out), N0⟩
    case round =>
      obtain ⟨k, hk, rfl, rfl, HG, HH, HN⟩ := hrel
      have bd := sum_bd SB.out k
      by_cases hlt : k < n
      · obtain ⟨b, off, rfl, hb, hc⟩ := HX.out.at_ (by omega)
        have g := (HN.out.cells b _ hb).trans (hc k hlt)
        have lG := upTo_len k (baseL a ws) (by rw [LB.out, LX.out]; omega)
        have lH := upTo_len k (restL a ws) (by rw [LR.out, LX.out]; omega)
        have fG := HG.out.f k (by rw [lG, LB.out, LX.out]; exact hlt)
        have oG := HG.out.c k (by rw [lG, LB.out, LX.out]; exact hlt)
        have fH := HH.out.f k (by rw [lH, LR.out, LX.out]; exact hlt)
        have oH := HH.out.c k (by rw [lH, LR.out, LX.out]; exact hlt)
        have zb := HW.out.at_ k
        have mb := mul_bd ⟨ha0, ha1⟩ zb
        have eb := baseL_at a ws k (by rw [LX.out]; exact hlt)
        have er := restL_at a ws k (by rw [LX.out]; exact hlt)
        have SG := HG.out.set_ (k := k) (by rw [lG, LB.out, LX.out]; exact hlt) ((baseL a ws).getD k 0)
        rw [upTo_step k _ (by rw [LB.out, LX.out]; exact hlt), eb] at SG
        have SH := (HH.out.far (p := ⟨w.heap.size, k, none⟩) (by simp) (.int .i64 (a * ws.getD k 0 / ws.sum))).set_ (k := k) (by rw [lH, LR.out, LX.out]; exact hlt) ((restL a ws).getD k 0)
        rw [upTo_step k _ (by rw [LR.out, LX.out]; exact hlt), er] at SH
        have SG2 := Lib.hid (SG.far (p := ⟨w.heap.size + 1, k, none⟩) (by simp) (.int .i64 (a * ws.getD k 0 % ws.sum)))
        have SH := Lib.hid SH
        have ss := Lib.hid ((sum_snoc (zs := baseL a ws) (k := k) (by rw [LB.out, LX.out]; exact hlt)).trans (by rw [eb]))
        have qb := getD_of_mem ⟨by omega, by omega⟩ BB.out k
        rw [eb] at qb
        have k0 : (0 : Int) ≤ (k : Int) := by omega
        have k1 : (k : Int) < (n : Int) := by omega
        have k8 : (k : Int) ≤ 8 := by omega
        clear hc lG lH eb er SG
        generalize (upTo k (baseL a ws)).getD k 0 = y1 at oG
        generalize (upTo k (restL a ws)).getD k 0 = y2 at oH
        generalize ws.getD k 0 = z at *
        generalize hS : ((baseL a ws).take k).sum = S at *
        clear hS
        generalize ws.sum = T at *
        go_wp2
        go_roundw
        case rel => exact ⟨k + 1, by omega, by go_num, by rw [ss.out]; exact congrArg (Value.int .i64) (by omega), SG2, SH, Lib.hid ((HN.out.setCell (by simp) _).setCell (by simp) _)⟩
        case measure => simp [intOf]; omega
      · have hk' : k = n := by omega
        subst hk'
        have G0 := HG.out; have H0 := HH.out
        have eG : upTo k (baseL a ws) = baseL a ws := by have h := upTo_all (baseL a ws); rw [LB.out, LX.out] at h; exact h
        have eH : upTo k (restL a ws) = restL a ws := by have h := upTo_all (restL a ws); rw [LR.out, LX.out] at h; exact h
        rw [eG] at G0
        rw [eH] at H0
        have G0 := Lib.hid G0; have H0 := Lib.hid H0
        have eS : ((baseL a ws).take k).sum = (baseL a ws).sum := by rw [List.take_of_length_le (by rw [LB.out, LX.out]; omega)]
        have bl := base_le a ws ha0 HW.out HS.out
        have b0 := sum_nonneg (xs := baseL a ws) fun z hz => (BB.out z hz).1
        rw [eS]
        have eL : a - (baseL a ws).sum = leftL a ws := rfl
        rw [eL]
        have l0 : 0 ≤ leftL a ws ∧ leftL a ws ≤ 200000 := by unfold leftL; omega
        clear eG eH eS bl b0 eL HG HH bd sb hs1 hsb
        obtain ⟨L, hL⟩ := Int.eq_ofNat_of_zero_le l0.1
        have EL := Lib.hid hL
        rw [hL] at l0 ⊢
        clear hL
        have L2 : L ≤ 200000 := by omega
        clear l0
        go_wp2
        go_loopw [8] (fun l wr => ∃ j : Nat, j ≤ L ∧ l = .int .i64 ((L : Int) - (j : Int)) ∧ Hid (Row wr w.heap.size (spinTo j (baseL a ws, restL a ws)).1) ∧ Hid (Row wr (w.heap.size + 1) (spinTo j (baseL a ws, restL a ws)).2) ∧ Hid (New w wr)) (fun l _ => (intOf l).toNat)
        case atStart => exact ⟨0, Nat.zero_le _, by simp, G0, H0, HN⟩
        case round =>
          obtain ⟨j, hj, rfl, HG, HH, HN⟩ := hrel
          by_cases hlt : j < L
          · obtain ⟨ln1, ln2⟩ := spinTo_len j (baseL a ws, restL a ws)
            have bo := spin_bd j (baseL a ws) (restL a ws) 200000 (fun i => by have h := getD_of_mem ⟨by omega, by omega⟩ BB.out i; omega) (amax (spinTo j (baseL a ws, restL a ws)).2)
            have E1 := Lib.hid (show (spinTo (j + 1) (baseL a ws, restL a ws)).1 = (spinTo j (baseL a ws, restL a ws)).1.set (amax (spinTo j (baseL a ws, restL a ws)).2) ((spinTo j (baseL a ws, restL a ws)).1.getD (amax (spinTo j (baseL a ws, restL a ws)).2) 0 + 1) from rfl)
            have E2 := Lib.hid (show (spinTo (j + 1) (baseL a ws, restL a ws)).2 = (spinTo j (baseL a ws, restL a ws)).2.set (amax (spinTo j (baseL a ws, restL a ws)).2) (-1) from rfl)
            have l1 := Lib.hid (ln1.trans (LB.out.trans LX.out)); have l2 := Lib.hid (ln2.trans (LR.out.trans LX.out))
            clear ln1 ln2
            generalize (spinTo j (baseL a ws, restL a ws)).1 = o at *
            generalize (spinTo j (baseL a ws, restL a ws)).2 = r at *
            have j0 : (0 : Int) ≤ (j : Int) := by omega
            have j1 : (j : Int) < (L : Int) := by omega
            go_wp2
            go_loopw [10, 11] (fun t i wi => ∃ p : Nat, p + 1 ≤ k ∧ i = .int .i64 ((p : Int) + 1) ∧ t = .int .i64 (amaxTo r p) ∧ ∃ d, wi = wr.drewN d) (fun _ i _ => k - (intOf i).toNat)
            case atStart => exact ⟨0, by omega, by simp, rfl, 0, rfl⟩
            case round =>
              obtain ⟨p, hp, rfl, rfl, d, rfl⟩ := hrel
              have am := amaxTo_le r p
              have gA := HH.out.c (amaxTo r p) (by rw [l2.out]; omega)
              have p0 : (0 : Int) ≤ (p : Int) := by omega
              have a0 : (0 : Int) ≤ (amaxTo r p : Int) := by omega
              have a1 : (amaxTo r p : Int) < (k : Int) := by omega
              by_cases hlt2 : p + 1 < k
              · have gP := HH.out.c (p + 1) (by rw [l2.out]; omega)
                have p1 : (p : Int) + 1 < (k : Int) := by omega
                by_cases hgt : r.getD (amaxTo r p) 0 < r.getD (p + 1) 0
                · have ea := Lib.hid (show amaxTo r (p + 1) = p + 1 from by show (if _ then _ else _) = _; rw [if_pos hgt])
                  generalize r.getD (amaxTo r p) 0 = x at gA hgt
                  generalize r.getD (p + 1) 0 = y at gP hgt
                  go_wp2
                  go_quiet (fail)
                  go_wp2
                  go_roundw
                  case rel => exact ⟨p + 1, by omega, by go_num, by rw [ea.out]; go_num, _, rfl⟩
                  case measure => simp [intOf]; omega
                · have ea := Lib.hid (show amaxTo r (p + 1) = amaxTo r p from by show (if _ then _ else _) = _; rw [if_neg hgt])
                  generalize r.getD (amaxTo r p) 0 = x at gA hgt
                  generalize r.getD (p + 1) 0 = y at gP hgt
                  go_wp2
                  go_quiet (fail)
                  go_wp2
                  go_roundw
                  case rel => exact ⟨p + 1, by omega, by go_num, by rw [ea.out], _, rfl⟩
                  case measure => simp [intOf]; omega
              · have ep : amax r = amaxTo r p := by unfold amax; rw [l2.out]; congr 1; omega
                have hlr : amaxTo r p < r.length := by rw [l2.out]; omega
                have hlo : amaxTo r p < o.length := by rw [l1.out]; omega
                rw [ep] at bo
                have oc := HG.out.c (amaxTo r p) hlo
                have of := HG.out.f (amaxTo r p) hlo
                have rf := HH.out.f (amaxTo r p) hlr
                have SG := ((HG.out.drewN d).set_ hlo (o.getD (amaxTo r p) 0 + 1)).far (p := ⟨w.heap.size + 1, amaxTo r p, none⟩) (by simp) (.int .i64 (-1))
                have SH := ((HH.out.drewN d).far (p := ⟨w.heap.size, amaxTo r p, none⟩) (by simp) (.int .i64 (o.getD (amaxTo r p) 0 + 1))).set_ hlr (-1)
                have e1 := E1.out; have e2 := E2.out
                rw [ep] at e1 e2
                rw [← e1] at SG
                rw [← e2] at SH
                have SG := Lib.hid SG; have SH := Lib.hid SH
                clear e1 e2 ep hlr hlo am
                generalize r.getD (amaxTo r p) 0 = x at gA
                generalize o.getD (amaxTo r p) 0 = y at *
                generalize amaxTo r p = q at *
                go_wp2
                go_roundw
                case rel => exact ⟨j + 1, by omega, by go_num, SG, SH, Lib.hid (((HN.out.drewN d).setCell (by simp) _).setCell (by simp) _)⟩
                case measure => simp [intOf]; omega
          · have hj' : j = L := by omega
            subst hj'
            go_wp2
            go_ret
            refine ⟨w.heap.size, rfl, Nat.le_refl _, ?_, HN.out⟩
            have h := HG.out
            unfold shareL
            rw [if_neg HS.out, EL.out]
            exact h
end Go.Proofs.Ytobnjagmakhgpaa

/- Plain facts on shares: the rests that are handed out one by one to the first greatest go to the first numbers of a list in falling order, equals in front first. No condition. -/
namespace Go.Proofs.Ytobnjagmakhgpaa

theorem amaxTo_eq (s : List Int) (k : Nat) (hb : ∀ i, i < k → s.getD i 0 < s.getD k 0) (m : Nat) (hkm : k ≤ m) (hl : ∀ i, i ≤ m → s.getD i 0 ≤ s.getD k 0) : amaxTo s m = k := by
  induction m with
  | zero =>
    have : k = 0 := by omega
    subst this
    rfl
  | succ m ih =>
    unfold amaxTo
    by_cases hk : k = m + 1
    · subst hk
      have h := hb (amaxTo s m) (by have := amaxTo_le s m; omega)
      rw [if_pos h]
    · have e := ih (by omega) fun i hi => hl i (by omega)
      rw [e]
      have h := hl (m + 1) (by omega)
      rw [if_neg (by omega)]
theorem amax_eq (s : List Int) (k : Nat) (hk : k < s.length) (hb : ∀ i, i < k → s.getD i 0 < s.getD k 0) (hl : ∀ i, i < s.length → s.getD i 0 ≤ s.getD k 0) : amax s = k :=
  amaxTo_eq s k hb (s.length - 1) (by omega) fun i hi => hl i (by omega)
/-- One more at each of these places. -/
def handL (l : List Nat) (o : List Int) : List Int := l.foldl (fun s i => s.set i (s.getD i 0 + 1)) o
/-- Nothing is left at these places. -/
def goneL (l : List Nat) (r : List Int) : List Int := l.foldl (fun s i => s.set i (-1)) r
theorem goneL_len (l : List Nat) (r : List Int) : (goneL l r).length = r.length := by
  unfold goneL
  induction l generalizing r with
  | nil => rfl
  | cons a l ih => simp only [List.foldl_cons]; rw [ih]; simp
theorem goneL_at (l : List Nat) (r : List Int) (i : Nat) (hi : i < r.length) : (goneL l r).getD i 0 = if i ∈ l then -1 else r.getD i 0 := by
  unfold goneL
  induction l generalizing r with
  | nil => simp
  | cons a l ih =>
    simp only [List.foldl_cons]
    rw [ih _ (by simpa using hi), getD_set _ _ _ _ hi]
    by_cases h1 : i ∈ l
    · rw [if_pos h1, if_pos (List.mem_cons_of_mem _ h1)]
    · rw [if_neg h1]
      by_cases h2 : i = a
      · subst h2
        simp
      · have h3 : ¬ (i ∈ a :: l) := by
          intro h
          rcases List.mem_cons.1 h with h | h
          · exact h2 h
          · exact h1 h
        rw [if_neg h3]
        first
          | rw [if_neg h2]
          | rw [if_neg (fun h => h2 h.symm)]
/-- The place a stands in front of the place b. -/
def Front (r : List Int) (a b : Nat) : Prop := r.getD b 0 < r.getD a 0 ∨ r.getD b 0 = r.getD a 0 ∧ a < b
theorem spin_order (σ : List Nat) (o r : List Int) (hp : σ.Pairwise (Front r)) (hall : ∀ i, i < r.length → i ∈ σ) (hin : ∀ i ∈ σ, i < r.length) (hr : ∀ i, i < r.length → 0 ≤ r.getD i 0)
    (j : Nat) (hj : j ≤ σ.length) : spinTo j (o, r) = (handL (σ.take j) o, goneL (σ.take j) r) := by
  induction j with
  | zero => simp [spinTo, handL, goneL]
  | succ j ih =>
    have hj' : j < σ.length := by omega
    unfold spinTo
    rw [ih (by omega)]
    have hk : σ[j] < r.length := hin _ (List.getElem_mem hj')
    have hk0 := hr _ hk
    have hsplit : σ = σ.take j ++ σ[j] :: σ.drop (j + 1) := by
      rw [← List.drop_eq_getElem_cons hj', List.take_append_drop]
    have hpp := hp
    rw [hsplit, List.pairwise_append] at hpp
    obtain ⟨_, hp2, hp3⟩ := hpp
    rw [List.pairwise_cons] at hp2
    have hnot : ¬ (σ[j] ∈ σ.take j) := by
      intro h
      rcases hp3 _ h _ (List.mem_cons_self ..) with h | ⟨_, h⟩
      · exact absurd h (Int.lt_irrefl _)
      · exact absurd h (Nat.lt_irrefl _)
    have hv : (goneL (σ.take j) r).getD σ[j] 0 = r.getD σ[j] 0 := by rw [goneL_at _ _ _ hk, if_neg hnot]
    have hcase : ∀ i, i < r.length → (goneL (σ.take j) r).getD i 0 ≤ r.getD σ[j] 0 ∧ (i < σ[j] → (goneL (σ.take j) r).getD i 0 < r.getD σ[j] 0) := by
      intro i hi
      rw [goneL_at _ _ _ hi]
      by_cases ht : i ∈ σ.take j
      · rw [if_pos ht]
        exact ⟨by omega, fun _ => by omega⟩
      · rw [if_neg ht]
        have hm := hall i hi
        rw [hsplit] at hm
        rcases List.mem_append.1 hm with h | h
        · exact absurd h ht
        · rcases List.mem_cons.1 h with h | h
          · rw [h]
            exact ⟨Int.le_refl _, fun h => absurd h (Nat.lt_irrefl _)⟩
          · rcases hp2.1 i h with h | ⟨h, h'⟩
            · exact ⟨by omega, fun _ => h⟩
            · exact ⟨by omega, fun h2 => by omega⟩
    have ha : amax (goneL (σ.take j) r) = σ[j] :=
      amax_eq _ _ (by rw [goneL_len]; exact hk) (fun i hi => by rw [hv]; exact (hcase i (by omega)).2 hi) fun i hi => by rw [hv]; exact (hcase i (by rw [goneL_len] at hi; exact hi)).1
    unfold spin1
    simp only []
    rw [ha]
    have ht : σ.take (j + 1) = σ.take j ++ [σ[j]] := by simp
    rw [ht]
    unfold handL goneL
    simp only [List.foldl_append, List.foldl_cons, List.foldl_nil]
end Go.Proofs.Ytobnjagmakhgpaa

/- Plain facts on shares: the library's insertion sort, run by falling rest alone over places in their order, leaves equal rests in their order. No condition. -/
namespace Go.Proofs.Ytobnjagmakhgpaa
open Go.Sort

/-- Falling rest. -/
def ltR (x y : Int × Int) : Bool := decide (y.2 < x.2)
/-- Falling rest, equals by place. -/
def ltF (x y : Int × Int) : Bool := decide (y.2 < x.2 ∨ y.2 = x.2 ∧ x.1 < y.1)
theorem ltF_swo : SWO ltF where
  irrefl x := by simp [ltF]
  trans x y z h1 h2 := by
    simp only [ltF, decide_eq_true_eq] at *
    omega
  ntrans x y z h1 h2 := by
    simp only [ltF, decide_eq_false_iff_not] at *
    omega
theorem inner_size {lt : Int × Int → Int × Int → Bool} (a j : Nat) (d : Array (Int × Int)) : (insInner lt a j d).size = d.size := by
  induction j generalizing d with
  | zero => rfl
  | succ j ih =>
    unfold insInner
    split
    · rw [ih, swp_size]
    · rfl
theorem inner_eq (a j : Nat) (d : Array (Int × Int)) (hj : j < d.size) (h : ∀ p, p < j → d[p]!.1 < d[j]!.1) : insInner ltR a j d = insInner ltF a j d := by
  induction j generalizing d with
  | zero => rfl
  | succ j ih =>
    have e : ltR d[j + 1]! d[j]! = ltF d[j + 1]! d[j]! := by
      have := h j (by omega)
      unfold ltR ltF
      rw [decide_eq_decide]
      omega
    unfold insInner
    rw [e]
    split
    · refine ih _ (by rw [swp_size]; omega) fun p hp => ?_
      rw [swp_other _ _ _ _ (by omega) (by omega), swp_right _ _ _ (by omega)]
      exact h p (by omega)
    · rfl
theorem inner_from {lt : Int × Int → Int × Int → Bool} (a j : Nat) (d : Array (Int × Int)) (hj : j < d.size) (q : Nat) : (j < q → (insInner lt a j d)[q]! = d[q]!) ∧ (q ≤ j → ∃ p, p ≤ j ∧ (insInner lt a j d)[q]! = d[p]!) := by
  induction j generalizing d with
  | zero => exact ⟨fun _ => rfl, fun h => ⟨q, h, rfl⟩⟩
  | succ j ih =>
    unfold insInner
    split
    · have hh := ih (swp d (j + 1) j) (by rw [swp_size]; omega)
      refine ⟨fun hq => ?_, fun hq => ?_⟩
      · rw [hh.1 (by omega), swp_other _ _ _ _ (by omega) (by omega)]
      · by_cases h1 : q = j + 1
        · subst h1
          refine ⟨j, by omega, ?_⟩
          rw [hh.1 (by omega), swp_left _ _ _ (by omega) (by omega)]
        · obtain ⟨p, hp, e⟩ := hh.2 (by omega)
          by_cases h2 : p = j
          · subst h2
            exact ⟨p + 1, by omega, by rw [e, swp_right _ _ _ (by omega)]⟩
          · exact ⟨p, by omega, by rw [e, swp_other _ _ _ _ (by omega) (by omega)]⟩
    · exact ⟨fun _ => rfl, fun h => ⟨q, h, rfl⟩⟩
theorem outer_go (lt : Int × Int → Int × Int → Bool) (a b i : Nat) (d : Array (Int × Int)) (h : i < b) : insOuter lt a b i d = insOuter lt a b (i + 1) (insInner lt a i d) := by
  conv => lhs; rw [insOuter]
  rw [if_pos h]
theorem outer_end (lt : Int × Int → Int × Int → Bool) (a b i : Nat) (d : Array (Int × Int)) (h : ¬ i < b) : insOuter lt a b i d = d := by
  conv => lhs; rw [insOuter]
  rw [if_neg h]
theorem outer_eq (a b n i : Nat) (d : Array (Int × Int)) (hn : b - i = n) (hb : b ≤ d.size) (h : ∀ q, i ≤ q → q < b → ∀ p, p < q → d[p]!.1 < d[q]!.1) : insOuter ltR a b i d = insOuter ltF a b i d := by
  induction n generalizing i d with
  | zero =>
    rw [outer_end _ _ _ _ _ (by omega), outer_end _ _ _ _ _ (by omega)]
  | succ n ih =>
    have hi : i < b := by omega
    rw [outer_go _ _ _ _ _ hi, outer_go _ _ _ _ _ hi, inner_eq a i d (by omega) (h i (by omega) hi)]
    refine ih (i + 1) _ (by omega) (by rw [inner_size]; exact hb) fun q hq hqb p hp => ?_
    rw [(inner_from a i d (by omega) q).1 (by omega)]
    by_cases hpi : i < p
    · rw [(inner_from a i d (by omega) p).1 hpi]
      exact h q (by omega) hqb p hp
    · obtain ⟨p', hp', e⟩ := (inner_from (lt := ltF) a i d (by omega) p).2 (by omega)
      rw [e]
      exact h q (by omega) hqb p' (by omega)
/-- The places, each with its rest. -/
def pairsL (r : List Int) : List (Int × Int) := (List.range r.length).map fun (i : Nat) => ((i : Int), r.getD i 0)
theorem pairsL_len (r : List Int) : (pairsL r).length = r.length := by simp [pairsL]
theorem pairsL_at (r : List Int) (i : Nat) (h : i < r.length) : (pairsL r).toArray[i]! = ((i : Int), r.getD i 0) := by
  rw [getElem!_pos _ _ (by simpa [pairsL_len] using h)]
  simp [pairsL]
/-- The sorted pairs. -/
def sortedP (r : List Int) : Array (Int × Int) := Go.Sort.insertionSort ltR (pairsL r).toArray 0 r.length
theorem sortedP_eq (r : List Int) : sortedP r = Go.Sort.insertionSort ltF (pairsL r).toArray 0 r.length := by
  unfold sortedP Go.Sort.insertionSort
  refine outer_eq 0 r.length _ _ _ rfl (by simp [pairsL_len]) fun q hq hqb p hp => ?_
  rw [pairsL_at _ _ hqb, pairsL_at _ _ (by omega)]
  show (p : Int) < (q : Int)
  omega
theorem ext_all (d : Array (Int × Int)) (n : Nat) (h : d.size = n) : d.extract 0 n = d := by
  subst h
  simp
theorem sortedP_perm (r : List Int) : (sortedP r).size = r.length ∧ (sortedP r).toList.Perm (pairsL r) := by
  rw [sortedP_eq]
  obtain ⟨⟨h1, _, h3⟩, _⟩ := insertionSort_holds ltF_swo (pairsL r).toArray 0 r.length (by omega) (by simp [pairsL_len])
  have h1' : (Go.Sort.insertionSort ltF (pairsL r).toArray 0 r.length).size = r.length := by rw [h1]; simp [pairsL_len]
  refine ⟨h1', ?_⟩
  rw [ext_all _ _ h1', ext_all _ _ (by simp [pairsL_len])] at h3
  exact h3
/-- The places in the order of their turn. -/
def turnsL (r : List Int) : List Nat := (sortedP r).toList.map fun x => x.1.toNat
theorem turnsL_perm (r : List Int) : (turnsL r).Perm (List.range r.length) := by
  have h := (sortedP_perm r).2.map fun x => x.1.toNat
  have e : (pairsL r).map (fun x => x.1.toNat) = List.range r.length := by
    unfold pairsL
    rw [List.map_map]
    exact List.map_id' _
  rw [e] at h
  exact h
theorem turnsL_len (r : List Int) : (turnsL r).length = r.length := by
  have := (turnsL_perm r).length_eq
  simpa using this
theorem sortedP_at (r : List Int) (i : Nat) (h : i < r.length) : (turnsL r)[i]? = some ((sortedP r)[i]!.1.toNat) ∧ (sortedP r)[i]! = (((sortedP r)[i]!.1.toNat : Int), r.getD (sortedP r)[i]!.1.toNat 0) ∧ (sortedP r)[i]!.1.toNat < r.length := by
  have hs := (sortedP_perm r).1
  have hi : i < (sortedP r).size := by omega
  have hm : (sortedP r)[i]! ∈ pairsL r := by
    rw [← (sortedP_perm r).2.mem_iff, getElem!_pos (sortedP r) i hi]
    simp
  obtain ⟨k, hk, e⟩ := List.mem_map.1 hm
  have hk' : k < r.length := by simpa using hk
  refine ⟨?_, ?_, ?_⟩
  · unfold turnsL
    rw [getElem!_pos (sortedP r) i hi]
    simp [hi]
  · rw [← e]; simp
  · rw [← e]; simpa using hk'
theorem turnsL_front (r : List Int) : (turnsL r).Pairwise (Front r) := by
  have hs := (sortedP_perm r).1
  have hnd : (turnsL r).Nodup := (turnsL_perm r).nodup_iff.2 List.nodup_range
  rw [List.pairwise_iff_getElem]
  intro i j hi hj hij
  have hi' : i < r.length := by rw [turnsL_len] at hi; exact hi
  have hj' : j < r.length := by rw [turnsL_len] at hj; exact hj
  obtain ⟨a1, a2, _⟩ := sortedP_at r i hi'
  obtain ⟨b1, b2, _⟩ := sortedP_at r j hj'
  have ei : (turnsL r)[i] = (sortedP r)[i]!.1.toNat := by
    have := List.getElem?_eq_getElem hi
    rw [a1] at this
    exact (Option.some.inj this).symm
  have ej : (turnsL r)[j] = (sortedP r)[j]!.1.toNat := by
    have := List.getElem?_eq_getElem hj
    rw [b1] at this
    exact (Option.some.inj this).symm
  have hne : (turnsL r)[i] ≠ (turnsL r)[j] := by
    rw [List.nodup_iff_pairwise_ne, List.pairwise_iff_getElem] at hnd
    exact hnd i j hi hj hij
  have hsort := (insertionSort_holds ltF_swo (pairsL r).toArray 0 r.length (by omega) (by simp [pairsL_len])).2 i j (by omega) hij hj'
  rw [← sortedP_eq] at hsort
  rw [ei, ej] at hne ⊢
  generalize (sortedP r)[i]!.1.toNat = p at *
  generalize (sortedP r)[j]!.1.toNat = q at *
  rw [a2, b2] at hsort
  simp only [ltF, decide_eq_false_iff_not] at hsort
  unfold Front
  omega
/-- Handing out the rests: to the first of the sorted pairs. -/
theorem spin_turns (o r : List Int) (hr : ∀ i, i < r.length → 0 ≤ r.getD i 0) (j : Nat) (hj : j ≤ r.length) : (spinTo j (o, r)).1 = handL ((turnsL r).take j) o := by
  rw [spin_order (turnsL r) o r (turnsL_front r) (fun i hi => (turnsL_perm r).mem_iff.2 (List.mem_range.2 hi)) (fun i hi => List.mem_range.1 ((turnsL_perm r).mem_iff.1 hi)) hr j (by rw [turnsL_len]; exact hj)]
/-- What is left is less than the count. -/
theorem quo_rest (a s : Int) (hs : 0 < s) (xs : List Int) : a * xs.sum ≤ ((xs.map fun x => a * x / s).sum + (xs.length : Int)) * s := by
  induction xs with
  | nil => simp
  | cons x xs ih =>
    have h2 : a * x < (a * x / s + 1) * s := Int.lt_ediv_add_one_mul_self _ hs
    simp only [List.map_cons, List.sum_cons, List.length_cons, Int.add_mul, Int.mul_add, Int.natCast_add, Int.one_mul] at *
    omega
theorem left_le (a : Int) (ws : List Int) (hw : Wts ws) (hs : ws.sum ≠ 0) : leftL a ws ≤ (ws.length : Int) := by
  have h0 : 0 < ws.sum := by have := sum_nonneg (xs := ws) fun z hz => (hw z hz).1; omega
  have h1 := quo_rest a ws.sum h0 ws
  have h2 := Int.le_of_mul_le_mul_right h1 h0
  unfold leftL baseL
  omega
end Go.Proofs.Ytobnjagmakhgpaa

/- The sort of the shares' rests, walked: up to eight pairs are sorted by the library's insertion sort. Condition: the row of pairs lies where the slice says. -/
namespace Go.Proofs.Ytobnjagmakhgpaa
open Go.Shelf Go.RowKit Go.Lib Go.Sort

/-- The numbers of the sort's body and types in this program. -/
def rnm : Ren := ⟨fun x => if x = 20 then 115 else x, fun x => if x = 22 then 126 else if x = 24 then 128 else if x = 25 then 131 else x, fun x => x⟩
theorem sortLays : SlLaysF0.n20 Try.prog rnm where
  mixed := by kernel_rfl
  f20 := ⟨"slices.insertionSortCmpFunc[loop.example/flexlayout/impl.division]", by kernel_rfl, by kernel_rfl⟩
  t0 := Try.underlying0
  a0 := Try.isAgg0
  z0 := Try.sizeOf0
  v0 := Try.zeroValue0
  t3 := Try.underlying3
  a3 := Try.isAgg3
  z3 := Try.sizeOf3
  v3 := Try.zeroValue3
  t4 := Try.underlying4
  a4 := Try.isAgg4
  z4 := Try.sizeOf4
  v4 := Try.zeroValue4
  t22 := Try.underlying126
  a22 := Try.isAgg126
  z22 := Try.sizeOf126
  v22 := Try.zeroValue126
  t25 := Try.underlying131
  a25 := Try.isAgg131
  z25 := Try.sizeOf131
  v25 := Try.zeroValue131
/-- A pair's two cells. -/
def encD (x : Int × Int) : List Value := [.int .i64 x.1, .int .i64 x.2]
/-- What the comparison of two numbers returns. -/
def cmpI (x y : Int) : Int := if x < y then -1 else if y < x then 1 else 0
def cfR (x y : Int × Int) : Int := cmpI y.2 x.2
theorem ltOf_cfR : ltOf cfR = ltR := by
  funext x y
  unfold ltOf ltR cfR cmpI
  rw [decide_eq_decide]
  split
  · omega
  · split <;> omega
theorem isNaN_any (x : Int) (w : World) : Calls Try.prog 113 #[.int .i64 x] w fun e w' => e = .returned (.bool false) ∧ w' = w := by
  go_enter Try.func113, Try.ntmps113
  go_wp2
  go_ret
  exact ⟨rfl, rfl⟩
theorem compare_any (x y : Int) (w : World) : Calls Try.prog 104 #[.int .i64 x, .int .i64 y] w fun e w' => e = .returned (.int .i64 (cmpI x y)) ∧ w' = w := by
  go_enter Try.func104, Try.ntmps104
  by_cases h1 : x < y
  · have e : cmpI x y = -1 := by unfold cmpI; rw [if_pos h1]
    rw [e]
    go_wp2_with (go_at_call 113; refine (isNaN_any _ _).mono ?_; rintro e w' ⟨rfl, rfl⟩)
    go_ret
    exact ⟨rfl, rfl⟩
  · by_cases h2 : y < x
    · have e : cmpI x y = 1 := by unfold cmpI; rw [if_neg h1, if_pos h2]
      rw [e]
      go_wp2_with (go_at_call 113; refine (isNaN_any _ _).mono ?_; rintro e w' ⟨rfl, rfl⟩)
      go_ret
      exact ⟨rfl, rfl⟩
    · have e : cmpI x y = 0 := by unfold cmpI; rw [if_neg h1, if_neg h2]
      rw [e]
      go_wp2_with (go_at_call 113; refine (isNaN_any _ _).mono ?_; rintro e w' ⟨rfl, rfl⟩)
      go_ret
      exact ⟨rfl, rfl⟩
/-- The comparison that the sort is given. -/
theorem closure_any (x y : Int × Int) (W : World) : Calls Try.prog 103 #[.agg #[.int .i64 x.1, .int .i64 x.2], .agg #[.int .i64 y.1, .int .i64 y.2]] W fun e w' => e = .returned (.int .i64 (cfR x y)) ∧ ∃ q os', w' = grow (W.drewN q) os' := by
  unfold cfR
  go_enter Try.func103, Try.ntmps103
  go_wp2_with (go_at_call 104; refine (compare_any _ _ _).mono ?_; rintro e w' ⟨rfl, rfl⟩)
  go_ret
  exact ⟨rfl, 0, _, by rw [alloc_eq_grow, alloc_eq_grow, grow_grow]; rfl⟩
theorem insertion_any (g n : Nat) (d : Array (Int × Int)) (hn : d.size = n) (h8 : n ≤ 8) (w : World) (hH : HoldsK encD 2 w g 0 d) (hg : g < w.heap.size) :
    Calls Try.prog 115 #[.slice (some ⟨g, 0, none⟩) n n, .int .i64 0, .int .i64 n, .func (.func 103) #[] #[]] w fun e w' => e = .returned (.tuple #[]) ∧ ∃ k os, w' = sortWorldK encD 2 w g 0 k (Go.Sort.insertionSort ltR d 0 n) os := by
  subst hn
  have eg : ∀ args w, (callFunc 103 args).run Try.prog w = .ok (.enter 103 args) w := enters_of Try.func103 (by kernel_rfl) rfl
  have hcon := AnyQ.insertionSortCmpFunc sortLays 2 Try.isAgg128 Try.sizeOf128 encD (fun _ => rfl) (fun x v hv => by simp [encD] at hv; rcases hv with rfl | rfl <;> rfl) cfR 103 #[] g 0 d.size 0 d.size d w eg (fun _ _ _ _ x y => closure_any x y _) hH hg (Nat.zero_le _) (Nat.le_refl _) (by omega)
  rw [ltOf_cfR] at hcon
  exact hcon
theorem stableCmp_any (g n : Nat) (d : Array (Int × Int)) (hn : d.size = n) (h8 : n ≤ 8) (w : World) (hH : HoldsK encD 2 w g 0 d) (hg : g < w.heap.size) :
    Calls Try.prog 112 #[.slice (some ⟨g, 0, none⟩) n n, .int .i64 n, .func (.func 103) #[] #[]] w fun e w' => e = .returned (.tuple #[]) ∧ ∃ k os, w' = sortWorldK encD 2 w g 0 k (Go.Sort.insertionSort ltR d 0 n) os := by
  have hcon := insertion_any g n d hn h8 w hH hg
  have h20 : ¬ ((20 : Int) ≤ (n : Int)) := by omega
  have h21 : ¬ ((20 : Int) < (n : Int)) := by omega
  clear hH
  go_enter Try.func112, Try.ntmps112
  go_wp2
  go_loopw [7, 8] (fun a b wr => a = .int .i64 0 ∧ b = .int .i64 20 ∧ wr = w) (fun _ _ _ => 0)
  case atStart => exact ⟨rfl, rfl, rfl⟩
  case round =>
    obtain ⟨rfl, rfl, rfl⟩ := hrel
    go_wp2_with (go_at_call 115; refine hcon.mono ?_; rintro e w' ⟨rfl, k, os, rfl⟩)
    go_loopw [6] (fun b wq => b = .int .i64 20 ∧ wq = sortWorldK encD 2 wr g 0 k (Go.Sort.insertionSort ltR d 0 n) os) (fun _ _ => 0)
    case atStart => exact ⟨rfl, rfl⟩
    case round =>
      obtain ⟨rfl, rfl⟩ := hrel
      go_wp2
      go_end0
      exact ⟨rfl, k, os, rfl⟩
theorem sortStable_any (g n : Nat) (d : Array (Int × Int)) (hn : d.size = n) (h8 : n ≤ 8) (w : World) (hH : HoldsK encD 2 w g 0 d) (hg : g < w.heap.size) :
    Calls Try.prog 102 #[.slice (some ⟨g, 0, none⟩) n n, .func (.func 103) #[] #[]] w fun e w' => e = .returned (.tuple #[]) ∧ ∃ k os, w' = sortWorldK encD 2 w g 0 k (Go.Sort.insertionSort ltR d 0 n) os := by
  have hcon := stableCmp_any g n d hn h8 w hH hg
  clear hH
  go_enter Try.func102, Try.ntmps102
  go_wp2_with (go_at_call 112; refine hcon.mono ?_; rintro e w' ⟨rfl, k, os, rfl⟩)
  go_end0
  exact ⟨rfl, k, os, rfl⟩
end Go.Proofs.Ytobnjagmakhgpaa
