/- Items placed in a grid, in the program, walked. Condition: the widths can be read. -/
import Derived.Test.YtnipnemhbelcaaaAutM
import Derived.Test.YtnipnemhbelcaaaLstP
import Derived.Test.YtnipnemhbelcaaaListV
namespace Go.Proofs.Ytnipnemhbelcaaa
open Go.RowKit

theorem setc_at {w : World} {b f j : Nat} {v u : Value} (h : w.cell? ⟨b, f, none⟩ = some v) : (w.setCell ⟨b, f, none⟩ u).cell? ⟨b, j, none⟩ = if j = f then some u else w.cell? ⟨b, j, none⟩ := by
  by_cases e : j = f
  · subst e; simp [go_sem, h]
  · rw [if_neg e, World.cell?_setCell_other _ _ _ _ (by simp; first | done | omega)]
/-- The first k of n pairs lie there; the others are nothing yet. -/
structure PrT (lo : Nat) (w : World) (g : Nat) (h : Nat → Nat) (k n : Nat) (p : Nat → Int × Int) : Prop where
  lt : g < w.heap.size
  g0 : lo ≤ g
  c : ∀ i, i < k → w.cell? ⟨g, i, none⟩ = some (.slice (some ⟨h i, 0, none⟩) 2 2)
  z : ∀ i, k ≤ i → i < n → w.cell? ⟨g, i, none⟩ = some (.slice none 0 0)
  f : ∀ i, i < n → w.frozen? ⟨g, i, none⟩ = false
  h0 : ∀ i, i < k → g < h i
  inj : ∀ i j, i < k → j < k → h i = h j → i = j
  r : ∀ i, i < k → Row w (h i) [(p i).1, (p i).2]
theorem PrT.step {lo : Nat} {w : World} {g : Nat} {h : Nat → Nat} {k n : Nat} {p : Nat → Int × Int} (q : PrT lo w g h k n p) (hk : k < n) (t : TypeId) :
    PrT lo ((w.setCell ⟨g, k, none⟩ (.slice (some ⟨w.heap.size, 0, none⟩) 2 2)).alloc (.cells #[.int .i64 (p k).1, .int .i64 (p k).2] t)) g (fun i => if i = k then w.heap.size else h i) (k + 1) n p := by
  have hz := q.z k (Nat.le_refl _) hk
  have hs : (w.setCell ⟨g, k, none⟩ (.slice (some ⟨w.heap.size, 0, none⟩) 2 2)).heap.size = w.heap.size := by simp [World.setCell]
  have N : New (w.setCell ⟨g, k, none⟩ (.slice (some ⟨w.heap.size, 0, none⟩) 2 2)) ((w.setCell ⟨g, k, none⟩ (.slice (some ⟨w.heap.size, 0, none⟩) 2 2)).alloc (.cells #[.int .i64 (p k).1, .int .i64 (p k).2] t)) := (New.refl _).alloc _
  have hgl : g < (w.setCell ⟨g, k, none⟩ (.slice (some ⟨w.heap.size, 0, none⟩) 2 2)).heap.size := by rw [hs]; exact q.lt
  refine ⟨Nat.lt_of_lt_of_le hgl N.le, q.g0, fun i hi => ?_, fun i h1 h2 => ?_, fun i hi => ?_, fun i hi => ?_, fun i j hi hj e => ?_, fun i hi => ?_⟩
  · rw [N.cells _ _ hgl, setc_at hz]
    by_cases e : i = k
    · rw [if_pos e]; simp [e]
    · rw [if_neg e]; simp only [if_neg e]; exact q.c i (by omega)
  · rw [N.cells _ _ hgl, setc_at hz, if_neg (by omega)]
    exact q.z i (by omega) h2
  · rw [N.marks _ _ hgl]
    have := q.f i hi
    simpa [go_sem] using this
  · by_cases e : i = k
    · simp only [if_pos e]; exact q.lt
    · simp only [if_neg e]; exact q.h0 i (by omega)
  · by_cases e1 : i = k
    · by_cases e2 : j = k
      · omega
      · simp only [if_pos e1, if_neg e2] at e
        have := (q.r j (by omega)).lt
        omega
    · by_cases e2 : j = k
      · simp only [if_neg e1, if_pos e2] at e
        have := (q.r i (by omega)).lt
        omega
      · simp only [if_neg e1, if_neg e2] at e
        exact q.inj i j (by omega) (by omega) e
  · by_cases e : i = k
    · subst e
      simp only [if_pos]
      refine ⟨by rw [World.size_alloc, hs]; omega, fun j hj => ?_, fun j hj => ?_⟩
      · have e1 := World.cell?_alloc_new (w.setCell ⟨g, i, none⟩ (.slice (some ⟨w.heap.size, 0, none⟩) 2 2)) #[.int .i64 (p i).1, .int .i64 (p i).2] t j
        rw [hs] at e1
        rw [e1]
        match j, hj with
        | 0, _ => rfl
        | 1, _ => rfl
      · have e2 : ∀ W : World, (W.alloc (.cells #[.int .i64 (p i).1, .int .i64 (p i).2] t)).frozen? ⟨W.heap.size, j, none⟩ = false := fun W => by simp [go_sem]
        have e2 := e2 (w.setCell ⟨g, i, none⟩ (.slice (some ⟨w.heap.size, 0, none⟩) 2 2))
        rw [hs] at e2
        exact e2
    · simp only [if_neg e]
      have r := q.r i (by omega)
      have hne : (⟨g, k, none⟩ : Addr).block ≠ h i := by have := q.h0 i (by omega); simp; omega
      exact (r.far hne _).new N
theorem PrT.prs {lo : Nat} {w : World} {g : Nat} {h : Nat → Nat} {n : Nat} {p : Nat → Int × Int} (q : PrT lo w g h n n p) : Prs lo w.heap.size w (some ⟨g, 0, none⟩) n (pairsL n p) :=
  ⟨Nat.le_refl _, fun _ => ⟨g, h, rfl, q.g0, q.lt, q.c, fun i hi => by have := q.h0 i hi; have := q.g0; omega, fun i hi => (q.r i hi).lt, fun i hi => by have := q.h0 i hi; omega, q.inj,
    fun i hi => by rw [pairsL_fst p hi, pairsL_snd p hi]; exact q.r i hi⟩⟩
set_option maxHeartbeats 1000000 in
theorem Index_any (A : Option Addr) (n c : Nat) (xs : List Int) (x : Int) (hn : n ≤ 1048576) (w : World) (hx : Ints w A n xs) :
    Calls Try.prog 74 #[.slice A n c, .int .i64 x] w fun e w' => ∃ r : Int, e = .returned (.int .i64 r) ∧ (0 ≤ r ↔ x ∈ xs) ∧ w = w' := by
  have HX := Lib.hid hx
  have LX := Lib.hid hx.len
  clear hx
  go_enter Try.func74, Try.ntmps74
  go_wp2
  go_loop [8] (fun i => ∃ k : Nat, k ≤ n ∧ i = .int .i64 k ∧ Hid (x ∉ xs.take k)) (fun i => n - (intOf i).toNat)
  case atStart => exact ⟨0, Nat.zero_le _, rfl, Lib.hid (by simp)⟩
  case round =>
    obtain ⟨k, hk, rfl, HA⟩ := hrel
    have k0 : (0 : Int) ≤ (k : Int) := by omega
    by_cases hlt : k < n
    · obtain ⟨b, off, rfl, hb, hc⟩ := HX.out.at_ (by omega)
      have g := hc k hlt
      have k1 : (k : Int) < (n : Int) := by omega
      have TK := Lib.hid (take_snoc_i (zs := xs) (k := k) (by rw [LX.out]; exact hlt))
      have ME : Hid (xs.getD k 0 ∈ xs) := Lib.hid (by rw [show xs.getD k 0 = xs[k]'(by rw [LX.out]; exact hlt) by simp [LX.out, hlt]]; exact List.getElem_mem _)
      clear hc
      generalize xs.getD k 0 = z at *
      by_cases hz : x = z
      · subst hz
        have hd : (x == x) = true := by simp
        have IN := Lib.hid ME.out
        go_wp2
        go_ret
        exact ⟨_, rfl, by simp [IN.out], rfl⟩
      · have hd : (x == z) = false := by simp [hz]
        go_wp2
        go_round
        case rel => exact ⟨k + 1, by omega, by go_num, Lib.hid (by rw [TK.out, List.mem_append]; intro h; rcases h with h | h; { exact HA.out h }; { exact hz (by simpa using h) })⟩
        case measure => simp [intOf]; omega
    · obtain rfl : n = k := by omega
      have NI := Lib.hid HA.out
      go_wp2
      go_ret
      refine ⟨_, rfl, ?_, rfl⟩
      have h := NI.out
      rw [List.take_of_length_le (by rw [LX.out]; exact Nat.le_refl _)] at h
      simp [h]
set_option maxHeartbeats 1000000 in
theorem Contains_any (A : Option Addr) (n c : Nat) (xs : List Int) (x : Int) (hn : n ≤ 1048576) (w : World) (hx : Ints w A n xs) :
    Calls Try.prog 66 #[.slice A n c, .int .i64 x] w fun e w' => e = .returned (.bool (decide (x ∈ xs))) ∧ w = w' := by
  have C := Lib.hid (Index_any A n c xs x hn w hx)
  clear hx
  go_enter Try.func66, Try.ntmps66
  go_wp2_with (go_at_call 74; refine C.out.mono ?_; rintro e w' ⟨r, rfl, hr, rfl⟩)
  go_ret
  exact ⟨rfl, rfl⟩
set_option maxHeartbeats 1000000 in
theorem validItems_any (A : Option Addr) (n c : Nat) (ws : List Int) (cols : Int) (hn : n ≤ 1048576) (w : World) (hx : Ints w A n ws) :
    Calls Try.prog 48 #[.slice A n c, .int .i64 cols] w fun e w' => e = .returned (.bool (apOk ws cols)) ∧ w = w' := by
  have CL := Lib.hid (validList_any A n c ws 12 cols hn w hx)
  have CC := Lib.hid (Contains_any A n c ws 0 hn w hx)
  clear hx
  cases h1 : decide (1 ≤ cols ∧ cols ≤ 8)
  · have e0 : apOk ws cols = false := by unfold apOk; rw [h1]; rfl
    rw [e0]
    clear e0
    go_enter Try.func48, Try.ntmps48
    go_wp2_with (go_at_call 38; refine (within_any _ _ _ _).mono ?_; rw [h1]; rintro e w' ⟨rfl, rfl⟩)
    go_ret
    exact ⟨rfl, rfl⟩
  cases h2 : listB 12 cols ws
  · have e0 : apOk ws cols = false := by
      rw [Bool.eq_false_iff]
      intro h
      obtain ⟨_, h3, h4⟩ := apOk_iff.1 h
      unfold listB at h2
      rw [decide_eq_true h3, Bool.true_and, allB_iff.2 (fun z hz => by have := h4 z hz; omega)] at h2
      cases h2
    rw [e0]
    clear e0
    go_enter Try.func48, Try.ntmps48
    go_wp2_with (first
      | (go_at_call 38; refine (within_any _ _ _ _).mono ?_; rw [h1]; rintro e w' ⟨rfl, rfl⟩)
      | (go_at_call 65; refine CL.out.mono ?_; rw [h2]; rintro e w' ⟨rfl, rfl⟩))
    go_ret
    exact ⟨rfl, rfl⟩
  have e0 : apOk ws cols = !decide ((0 : Int) ∈ ws) := by
    unfold listB at h2
    rw [Bool.and_eq_true, decide_eq_true_eq, allB_iff] at h2
    rw [Bool.eq_iff_iff, apOk_iff]
    constructor
    · rintro ⟨_, _, h4⟩
      have : (0 : Int) ∉ ws := fun h => by have := h4 _ h; omega
      simp [this]
    · intro h
      have hz : (0 : Int) ∉ ws := by simpa using h
      exact ⟨of_decide_eq_true h1, h2.1, fun z hm => by
        have := h2.2 z hm
        have : z ≠ 0 := fun e => hz (e ▸ hm)
        omega⟩
  rw [e0]
  clear e0
  go_enter Try.func48, Try.ntmps48
  go_wp2_with (first
    | (go_at_call 38; refine (within_any _ _ _ _).mono ?_; rw [h1]; rintro e w' ⟨rfl, rfl⟩)
    | (go_at_call 65; refine CL.out.mono ?_; rw [h2]; rintro e w' ⟨rfl, rfl⟩)
    | (go_at_call 66; refine CC.out.mono ?_; rintro e w' ⟨rfl, rfl⟩))
  go_ret
  exact ⟨rfl, rfl⟩
/-- An answer that is a list of pairs of its own, just as long as its room. -/
def AnsPN (w : World) (zs : List Int) (e : Ending) (w' : World) : Prop :=
  ∃ (A : Option Addr) (n : Nat), e = .returned (.slice A n n) ∧ zs.length = n * 2 ∧ Prs w.heap.size w'.heap.size w' A n zs ∧ New w w'
set_option maxRecDepth 100000 in
set_option maxHeartbeats 4000000 in
theorem AutoPlaces_anyN (A : Option Addr) (n c : Nat) (ws : List Int) (cols : Int) (hn : n ≤ 1048576) (w : World) (hx : Ints w A n ws) :
    Calls Try.prog 22 #[.slice A n c, .int .i64 cols] w (AnsPN w (apA ws cols)) := by
  have CV := Lib.hid (validItems_any A n c ws cols hn w hx)
  cases hv : apOk ws cols
  · have e0 : apA ws cols = [] := if_neg (by rw [hv]; simp)
    rw [e0]
    clear e0 hx
    go_enter Try.func22, Try.ntmps22
    go_wp2_with (go_at_call 48; refine CV.out.mono ?_; rw [hv]; rintro e w' ⟨rfl, rfl⟩)
    go_ret
    exact ⟨none, 0, rfl, rfl, ⟨Nat.le_refl _, fun h => absurd h (by omega)⟩, New.refl _⟩
  have e0 : apA ws cols = pairsL n (plc ws cols) := by unfold apA; rw [if_pos hv, hx.len]
  rw [e0]
  obtain ⟨⟨c1, c8⟩, l12, hw⟩ := apOk_iff.1 hv
  rw [hx.len] at l12
  have HX := Lib.hid hx
  have SB := Lib.hid (fun k (hk : k ≤ n) => stp_bd c1 hw k (by rw [hx.len]; exact hk))
  have WB := Lib.hid (fun k (hk : k < n) => at_mem hw (by rw [hx.len]; exact hk))
  have SS := Lib.hid (fun k => stp_succ (ws := ws) (cols := cols) k)
  have PN := Lib.hid (fun k (h : cols < (stp ws cols k).2 + ws.getD k 0) => plc_new h)
  have PS := Lib.hid (fun k (h : ¬ cols < (stp ws cols k).2 + ws.getD k 0) => plc_same h)
  have hmk := fun W => run_make_row' (P := Try.prog) 43 36 (.slice none 0 0) 24 Try.underlying43 (by kernel_rfl) rfl .i64 .i64 n (by omega) (by omega) W
  have n0 : (0 : Int) ≤ (n : Int) := by omega
  clear hx e0 hw
  go_enter Try.func22, Try.ntmps22
  go_wp2_with (go_at_call 48; refine CV.out.mono ?_; rw [hv]; rintro e w' ⟨rfl, rfl⟩)
  have T0 : PrT w.heap.size (w.alloc (.cells (madeCells #[.slice none 0 0] n) 36)) w.heap.size (fun _ => 0) 0 n (plc ws cols) := by
    refine ⟨by simp, Nat.le_refl _, fun i h => absurd h (by omega), fun i _ hi => ?_, fun i hi => by simp [go_sem], fun i h => absurd h (by omega), fun i j h => absurd h (by omega), fun i h => absurd h (by omega)⟩
    have e : (w.alloc (.cells (madeCells #[.slice none 0 0] n) 36)).cell? ⟨w.heap.size, i, none⟩ = (madeCells #[.slice none 0 0] n)[i]? := World.cell?_alloc_new w _ _ i
    rw [e]
    have hm : i % 1 = 0 := Nat.mod_one i
    simp [madeCells, hi, hm]
  have T0 := Lib.hid T0
  have N0 : Hid (New w (w.alloc (.cells (madeCells #[.slice none 0 0] n) 36))) := Lib.hid (by (repeat (first | exact New.refl _ | assumption | refine New.alloc ?_ _ | refine New.drew ?_ | refine New.drewN ?_ _ | refine New.setCell ?_ (by first | omega | (simp; omega) | (simp; done)) _ | refine New.trans ?_ (by assumption))))
  generalize w.alloc (.cells (madeCells #[.slice none 0 0] n) 36) = w1 at *
  clear hmk CV hv
  go_loopw [6, 7, 19] (fun r q i wr => ∃ (k : Nat) (h : Nat → Nat), k ≤ n ∧ i = .int .i64 k ∧ r = .int .i64 (stp ws cols k).1 ∧ q = .int .i64 (stp ws cols k).2 ∧ Hid (PrT w.heap.size wr w.heap.size h k n (plc ws cols)) ∧ Hid (New w wr)) (fun _ _ i _ => n - (intOf i).toNat)
  case atStart => exact ⟨0, _, Nat.zero_le _, rfl, rfl, rfl, T0, N0⟩
  case round =>
    obtain ⟨k, h, hk, rfl, rfl, rfl, HT, HN⟩ := hrel
    have k0 : (0 : Int) ≤ (k : Int) := by omega
    by_cases hlt : k < n
    · have k1 : (k : Int) < (n : Int) := by omega
      obtain ⟨b, off, rfl, hb, hc⟩ := HX.out.at_ (by omega)
      have g0 := (HN.out.cells b _ hb).trans (hc k hlt)
      have og := HT.out.z k (Nat.le_refl _) hlt
      have fg := HT.out.f k hlt
      have lg := HT.out.lt
      have ST := Lib.hid (HT.out.step hlt 3)
      have ss := SS.out k
      obtain ⟨⟨a0, a1⟩, a2, a3⟩ := SB.out k hk
      obtain ⟨x0, x1⟩ := WB.out k hlt
      have pn := PN.out k; have ps := PS.out k
      have NS := Lib.hid (fun (v : Value) => HN.out.setCell (p := ⟨w.heap.size, k, none⟩) (Nat.le_refl _) v)
      clear hc
      by_cases hq : cols < (stp ws cols k).2 + ws.getD k 0
      · have e1 := pn hq
        rw [e1] at ss
        have e2 : (plc ws cols k).1 = (stp ws cols k).1 + 1 := by rw [e1]
        have e3 : (plc ws cols k).2 = 0 := by rw [e1]
        rw [e2, e3] at ST
        have e4 : (stp ws cols (k + 1)).1 = (stp ws cols k).1 + 1 := by rw [ss]
        have e5 : (stp ws cols (k + 1)).2 = ws.getD k 0 := by rw [ss]; simp
        have E4 := Lib.hid e4; have E5 := Lib.hid e5
        have a1' : (stp ws cols k).1 ≤ 12 := by omega
        clear ss pn ps e1 e2 e3 e4 e5 a1
        generalize (stp ws cols k).1 = r at *
        generalize (stp ws cols k).2 = q at *
        generalize ws.getD k 0 = x at *
        have hd : decide (q + x > cols) = true := decide_eq_true hq
        go_wp2
        go_roundw
        case rel => exact ⟨k + 1, _, by omega, by go_num, by rw [E4.out], by rw [E5.out], ST, Lib.hid ((NS.out _).alloc _)⟩
        case measure => simp [intOf]; omega
      · have e1 := ps (by omega)
        rw [e1] at ss
        rw [e1] at ST
        have e4 : (stp ws cols (k + 1)).1 = (stp ws cols k).1 := by rw [ss]
        have e5 : (stp ws cols (k + 1)).2 = (stp ws cols k).2 + ws.getD k 0 := by rw [ss]
        have E4 := Lib.hid e4; have E5 := Lib.hid e5
        have a1' : (stp ws cols k).1 ≤ 12 := by omega
        clear ss pn ps e1 e4 e5 a1
        generalize (stp ws cols k).1 = r at *
        generalize (stp ws cols k).2 = q at *
        generalize ws.getD k 0 = x at *
        have hd : decide (q + x > cols) = false := decide_eq_false hq
        go_wp2
        go_roundw
        case rel => exact ⟨k + 1, _, by omega, by go_num, by rw [E4.out], by rw [E5.out], ST, Lib.hid ((NS.out _).alloc _)⟩
        case measure => simp [intOf]; omega
    · obtain rfl : n = k := by omega
      go_wp2
      go_ret
      exact ⟨_, n, rfl, pairsL_len _ _, HT.out.prs, HN.out⟩
theorem AutoPlaces_any (A : Option Addr) (n c : Nat) (ws : List Int) (cols : Int) (hn : n ≤ 1048576) (w : World) (hx : Ints w A n ws) :
    Calls Try.prog 22 #[.slice A n c, .int .i64 cols] w (AnsP w (apA ws cols)) :=
  (AutoPlaces_anyN A n c ws cols hn w hx).mono fun e w' h => by
    obtain ⟨A, n, h1, h2, h3, h4⟩ := h
    exact ⟨A, n, n, h1, h2, h3, h4⟩
end Go.Proofs.Ytnipnemhbelcaaa
