/- Items placed in a grid, in the reference, walked. Condition: the widths can be read. -/
import Derived.Test.YtnipnemhbelcaaaAutM
import Derived.Test.YtnipnemhbelcaaaLstP
import Derived.Test.YtnipnemhbelcaaaAppH
import Derived.Deep.RegionWith
namespace Go.Proofs.Ytnipnemhbelcaaa
open Go.RowKit

/-- The slice value v owns a list of k pairs, the pair i in block h i. -/
def OwnL (lo : Nat) (w : World) (v : Value) (k : Nat) (h : Nat → Nat) : Prop := w.ownsRow lo 36 1 v k ((List.range k).map fun i => Value.slice (some ⟨h i, 0, none⟩) 2 2)
section
variable {lo k : Nat} {w w' : World} {v : Value} {h : Nat → Nat}
theorem OwnL.form (o : OwnL lo w v k h) : (v = .slice none 0 0 ∧ k = 0) ∨ ∃ g c, v = .slice (some ⟨g, 0, none⟩) k c ∧ lo ≤ g ∧ g < w.heap.size ∧ (∀ i, i < k → w.cell? ⟨g, i, none⟩ = some (.slice (some ⟨h i, 0, none⟩) 2 2)) ∧ v.ownBlock = some g := by
  rcases o.2 with ⟨hv, hn⟩ | ⟨g, cap, cur, hv, hg, hh, hc, hm, hs, ht⟩
  · exact .inl ⟨hv, hn⟩
  · have hlt : g < w.heap.size := by
      rcases Nat.lt_or_ge g w.heap.size with h1 | h1
      · exact h1
      · rw [Array.getElem?_eq_none h1] at hh; cases hh
    refine .inr ⟨g, cap, hv, hg, hlt, fun i hi => ?_, by rw [hv]; rfl⟩
    have hcell := cell_of_row w g i cur 36 (0, 0) hh
    rw [hcell]
    have e : cur[i]? = (cur.toList.take (k * 1))[i]? := by
      rw [List.getElem?_take_of_lt (by omega)]
      simp
    rw [e, ht]
    simp [hi]
theorem OwnL.below (o : OwnL lo w v k h) {g : Nat} (hg : v.ownBlock = some g) : lo ≤ g := by
  rcases o.form with ⟨rfl, _⟩ | ⟨g', c, rfl, hg', _, _, e⟩
  · simp [Value.ownBlock] at hg
  · rw [e] at hg; have := Option.some.inj hg; omega
theorem OwnL.alloc (o : OwnL lo w v k h) (ob : Obj) : OwnL lo (w.alloc ob) v k h := by
  refine ⟨o.1, ?_⟩
  rcases o.2 with hn | ⟨g, cap, cur, hv, hg, hh, hc, hm, hs, ht⟩
  · exact .inl hn
  · have hlt : g < w.heap.size := by
      rcases Nat.lt_or_ge g w.heap.size with h1 | h1
      · exact h1
      · rw [Array.getElem?_eq_none h1] at hh; cases hh
    exact .inr ⟨g, cap, cur, hv, hg, (((New.refl w).alloc ob).block g hlt).trans hh, hc, hm, hs, ht⟩
theorem OwnL.empty (w : World) : OwnL w.heap.size (w.alloc (.cells #[] 36)) (.slice (some ⟨w.heap.size, 0, none⟩) 0 0) 0 h :=
  ⟨rfl, .inr ⟨w.heap.size, 0, #[], rfl, Nat.le_refl _, heap_alloc_new w _, Nat.le_refl _, Nat.zero_le _, rfl, rfl⟩⟩
end
theorem info_row : (Try.prog.info? 36).map (fun i => (i.zero, i.size, i.bytes)) = some (some (.slice none 0 0), 1, 24) := by kernel_rfl
theorem wp_appL {w : World} {ops : Array Oper} {rest : List Oper} {o : Oper} {a : Act} {Q : Exit → Act → World → Prop} (hgd : o.guard = none) (s x : Operand)
    (ho : o.op = .call { callee := .builtin .append, args := #[s, x], argTypes := #[43, 43] }) (lo : Nat) (v : Value) (k : Nat) (h : Nat → Nat) (hs : a.eval s = v) (hown : OwnL lo w v k h)
    (g1 hh : Nat) (hx : a.eval x = .slice (some ⟨g1, 0, none⟩) 1 1) (hc : w.cell? ⟨g1, 0, none⟩ = some (.slice (some ⟨hh, 0, none⟩) 2 2)) (hk : k ≤ 1000) (hlo : lo ≤ w.heap.size)
    (H : ∀ v' w', OwnL lo w' v' (k + 1) (fun i => if i = k then hh else h i) → w.grownBy w' v.ownBlock → (v'.ownBlock = v.ownBlock ∨ v'.ownBlock = some w.heap.size) → wpList Try.prog ops Q rest (a.put o.dst v') w') : wpList Try.prog ops Q (o :: rest) a w := by
  obtain ⟨i0, hi, hz0, hz1, hz2⟩ := info_parts info_row
  refine wpList_append_own_at (P := Try.prog) w hgd s x 43 ho lo 36 i0 (.slice none 0 0) 1 24 Try.underlying43 hi hz0 hz1 hz2 rfl (by decide) v k _ hs hown ⟨g1, 0, none⟩ 1 1 [.slice (some ⟨hh, 0, none⟩) 2 2] hx rfl (fun j u hu => by
    match j, hu with
    | 0, hu => simp at hu; subst hu; simpa [Addr.add] using hc) (fun u hu => by simp at hu; subst hu; rfl) (by unfold maxLen; omega) (by omega) hlo ?_
  intro v' w' h1 h2 _ h4
  refine H v' w' ?_ h2 h4
  unfold OwnL
  have e : (List.range (k + 1)).map (fun i => Value.slice (some ⟨if i = k then hh else h i, 0, none⟩) 2 2) = (List.range k).map (fun i => Value.slice (some ⟨h i, 0, none⟩) 2 2) ++ [.slice (some ⟨hh, 0, none⟩) 2 2] := by
    have e1 : (List.range k).map (fun i => Value.slice (some ⟨if i = k then hh else h i, 0, none⟩) 2 2) = (List.range k).map (fun i => Value.slice (some ⟨h i, 0, none⟩) 2 2) := by
      refine List.map_congr_left fun i hi => ?_
      have := List.mem_range.1 hi
      rw [if_neg (by omega)]
    rw [List.range_succ, List.map_append, e1, List.map_cons, List.map_nil, if_pos rfl]
  rw [e]
  exact h1
/-- The pairs themselves, each in a block of its own. -/
structure InP (lo : Nat) (w : World) (h : Nat → Nat) (k : Nat) (p : Nat → Int × Int) : Prop where
  h0 : ∀ i, i < k → lo ≤ h i
  inj : ∀ i j, i < k → j < k → h i = h j → i = j
  r : ∀ i, i < k → Row w (h i) [(p i).1, (p i).2]
theorem InP.step {lo : Nat} {w : World} {h : Nat → Nat} {k : Nat} {p : Nat → Int × Int} (q : InP lo w h k p) (hl : lo ≤ w.heap.size) (t : TypeId) :
    InP lo (w.alloc (.cells #[.int .i64 (p k).1, .int .i64 (p k).2] t)) (fun i => if i = k then w.heap.size else h i) (k + 1) p := by
  have N : New w (w.alloc (.cells #[.int .i64 (p k).1, .int .i64 (p k).2] t)) := (New.refl _).alloc _
  refine ⟨fun i hi => ?_, fun i j hi hj e => ?_, fun i hi => ?_⟩
  · by_cases e : i = k
    · simp only [if_pos e]; exact hl
    · simp only [if_neg e]; exact q.h0 i (by omega)
  · by_cases e1 : i = k
    · by_cases e2 : j = k
      · omega
      · simp only [if_pos e1, if_neg e2] at e
        have := (q.r j (by omega)).lt
        omega
    · by_cases e2 : j = k
      · simp only [if_neg e1, if_pos e2] at e
        have := (q.r i (by omega)).lt
        omega
      · simp only [if_neg e1, if_neg e2] at e
        exact q.inj i j (by omega) (by omega) e
  · by_cases e : i = k
    · subst e
      simp only [if_pos]
      refine ⟨by rw [World.size_alloc]; omega, fun j hj => ?_, fun j _ => by simp [go_sem]⟩
      rw [World.cell?_alloc_new w #[.int .i64 (p i).1, .int .i64 (p i).2] t j]
      match j, hj with
      | 0, _ => rfl
      | 1, _ => rfl
    · simp only [if_neg e]
      exact (q.r i (by omega)).new N
theorem InP.keep {lo : Nat} {w w' : World} {h : Nat → Nat} {k : Nat} {p : Nat → Int × Int} {r : Option Nat} (q : InP lo w h k p) (hG : w.grownBy w' r) (hr : ∀ i, i < k → r ≠ some (h i)) : InP lo w' h k p :=
  ⟨q.h0, q.inj, fun i hi => (q.r i hi).keep hG (hr i hi)⟩
theorem InP.prs {w w' : World} {v : Value} {h : Nat → Nat} {n : Nat} {p : Nat → Int × Int} (q : InP w.heap.size w' h n p) (o : OwnL w.heap.size w' v n h) (hv : ∀ i, i < n → v.ownBlock ≠ some (h i)) : ∃ A c, v = .slice A n c ∧ Prs w.heap.size w'.heap.size w' A n (pairsL n p) := by
  rcases o.form with ⟨rfl, rfl⟩ | ⟨g, c, rfl, hg, hl, hc, e⟩
  · exact ⟨none, 0, rfl, Nat.le_refl _, fun h => absurd h (by omega)⟩
  · refine ⟨_, c, rfl, Nat.le_refl _, fun _ => ⟨g, h, rfl, hg, hl, hc, q.h0, fun i hi => (q.r i hi).lt, fun i hi e2 => hv i hi (by rw [e, e2]), q.inj, fun i hi => ?_⟩⟩
    rw [pairsL_fst p hi, pairsL_snd p hi]
    exact q.r i hi
set_option maxRecDepth 100000 in
set_option maxHeartbeats 4000000 in
theorem SAutoPlaces_any (A : Option Addr) (n c : Nat) (ws : List Int) (cols : Int) (hn : n ≤ 1048576) (w : World) (hx : Ints w A n ws) :
    Calls Try.prog 24 #[.slice A n c, .int .i64 cols] w (AnsP w (apA ws cols)) := by
  have HX := Lib.hid hx
  have lx := hx.len
  have CA := Lib.hid (fun W (hW : New w W) => allIn_any A n c ws 1 cols hn W (hx.new hW))
  have n0 : (0 : Int) ≤ (n : Int) := by omega
  cases h1 : decide (1 ≤ cols ∧ cols ≤ 8)
  · have e0 : apA ws cols = [] := if_neg (fun h => by rw [decide_eq_true (apOk_iff.1 h).1] at h1; cases h1)
    rw [e0]
    clear e0 hx
    go_enter Try.func24, Try.ntmps24
    go_wp2_with (go_at_call 43; refine (inRange_any _ _ _ _).mono ?_; rw [h1]; rintro e w' ⟨rfl, rfl⟩)
    go_ret
    exact AnsP.none_ rfl (by (repeat (first | exact New.refl _ | assumption | refine New.alloc ?_ _ | refine New.drew ?_ | refine New.drewN ?_ _ | refine New.setCell ?_ (by first | omega | (simp; omega) | (simp; done)) _ | refine New.trans ?_ (by assumption))))
  by_cases h2 : 12 < (n : Int)
  · have e0 : apA ws cols = [] := if_neg (fun h => by have := (apOk_iff.1 h).2.1; rw [lx] at this; omega)
    rw [e0]
    have hd : decide ((n : Int) > 12) = true := decide_eq_true h2
    clear e0 hx
    go_enter Try.func24, Try.ntmps24
    go_wp2_with (go_at_call 43; refine (inRange_any _ _ _ _).mono ?_; rw [h1]; rintro e w' ⟨rfl, rfl⟩)
    go_ret
    exact AnsP.none_ rfl (by (repeat (first | exact New.refl _ | assumption | refine New.alloc ?_ _ | refine New.drew ?_ | refine New.drewN ?_ _ | refine New.setCell ?_ (by first | omega | (simp; omega) | (simp; done)) _ | refine New.trans ?_ (by assumption))))
  have hd : decide ((n : Int) > 12) = false := decide_eq_false h2
  cases h3 : allB 1 cols ws
  · have e0 : apA ws cols = [] := if_neg (fun h => by have := (apOk_iff.1 h).2.2; rw [allB_iff.2 this] at h3; cases h3)
    rw [e0]
    clear e0 hx
    go_enter Try.func24, Try.ntmps24
    go_wp2_with (first
      | (go_at_call 43; refine (inRange_any _ _ _ _).mono ?_; rw [h1]; rintro e w' ⟨rfl, rfl⟩)
      | (go_at_call 49; refine (CA.out _ (by (repeat (first | exact New.refl _ | assumption | refine New.alloc ?_ _ | refine New.drew ?_ | refine New.drewN ?_ _ | refine New.setCell ?_ (by first | omega | (simp; omega) | (simp; done)) _ | refine New.trans ?_ (by assumption))))).mono ?_; rw [h3]; rintro e w' ⟨rfl, rfl⟩))
    go_ret
    exact AnsP.none_ rfl (by (repeat (first | exact New.refl _ | assumption | refine New.alloc ?_ _ | refine New.drew ?_ | refine New.drewN ?_ _ | refine New.setCell ?_ (by first | omega | (simp; omega) | (simp; done)) _ | refine New.trans ?_ (by assumption))))
  have hv : apOk ws cols = true := apOk_iff.2 ⟨of_decide_eq_true h1, by rw [lx]; omega, allB_iff.1 h3⟩
  have e0 : apA ws cols = pairsL n (plc ws cols) := by unfold apA; rw [if_pos hv, lx]
  rw [e0]
  obtain ⟨⟨c1, c8⟩, l12, hw⟩ := apOk_iff.1 hv
  rw [lx] at l12
  have SB := Lib.hid (fun k (hk : k ≤ n) => stp_bd c1 hw k (by rw [lx]; exact hk))
  have WB := Lib.hid (fun k (hk : k < n) => at_mem hw (by rw [lx]; exact hk))
  have SS := Lib.hid (fun k => stp_succ (ws := ws) (cols := cols) k)
  have PN := Lib.hid (fun k (h : cols < (stp ws cols k).2 + ws.getD k 0) => plc_new h)
  have PS := Lib.hid (fun k (h : ¬ cols < (stp ws cols k).2 + ws.getD k 0) => plc_same h)
  have O0 := Lib.hid (OwnL.empty (h := fun _ => 0) w)
  clear hx e0 hw hv
  go_enter Try.func24, Try.ntmps24
  go_wp2_with (first
    | (go_at_call 43; refine (inRange_any _ _ _ _).mono ?_; rw [h1]; rintro e w' ⟨rfl, rfl⟩)
    | (go_at_call 49; refine (CA.out _ (by (repeat (first | exact New.refl _ | assumption | refine New.alloc ?_ _ | refine New.drew ?_ | refine New.drewN ?_ _ | refine New.setCell ?_ (by first | omega | (simp; omega) | (simp; done)) _ | refine New.trans ?_ (by assumption))))).mono ?_; rw [h3]; rintro e w' ⟨rfl, rfl⟩))
  clear CA h1 h2 h3 hd
  go_loopw [5, 6, 7, 8] (fun v r q i wr => ∃ (k : Nat) (h : Nat → Nat), k ≤ n ∧ i = .int .i64 k ∧ r = .int .i64 (stp ws cols k).1 ∧ q = .int .i64 (stp ws cols k).2 ∧ Hid (OwnL w.heap.size wr v k h) ∧ Hid (InP w.heap.size wr h k (plc ws cols)) ∧ Hid (∀ i, i < k → v.ownBlock ≠ some (h i)) ∧ Hid (New w wr)) (fun _ _ _ i _ => n - (intOf i).toNat)
  case atStart => exact ⟨0, _, Nat.zero_le _, rfl, rfl, rfl, O0, Lib.hid ⟨fun i h => absurd h (by omega), fun i j h => absurd h (by omega), fun i h => absurd h (by omega)⟩, Lib.hid (fun i h => absurd h (by omega)), Lib.hid (by (repeat (first | exact New.refl _ | assumption | refine New.alloc ?_ _ | refine New.drew ?_ | refine New.drewN ?_ _ | refine New.setCell ?_ (by first | omega | (simp; omega) | (simp; done)) _ | refine New.trans ?_ (by assumption))))⟩
  case round =>
    obtain ⟨k, h, hk, rfl, rfl, rfl, HO, HI, HV, HN⟩ := hrel
    have k0 : (0 : Int) ≤ (k : Int) := by omega
    obtain ⟨v, hv'⟩ : ∃ v, v = u5 := ⟨_, rfl⟩
    rw [← hv'] at HO HV ⊢
    clear hv'
    by_cases hlt : k < n
    · have k1 : (k : Int) < (n : Int) := by omega
      obtain ⟨b, off, rfl, hb, hc⟩ := HX.out.at_ (by omega)
      have g0 := (HN.out.cells b _ hb).trans (hc k hlt)
      have szw := HN.out.le
      have ss := SS.out k
      obtain ⟨⟨a0, a1⟩, a2, a3⟩ := SB.out k hk
      obtain ⟨x0, x1⟩ := WB.out k hlt
      have pn := PN.out k; have ps := PS.out k
      have IS := HI.out.step szw 3
      have FC := Lib.hid (fun W (hW : New w W) => (hW.cells b _ hb).trans (hc k hlt))
      have HFIN : Hid (∀ (w2 w6 : World) (v6 : Value), w2 = wr.alloc (.cells #[.int .i64 (plc ws cols k).1, .int .i64 (plc ws cols k).2] 3) → (w2.alloc (.cells #[.slice (some ⟨wr.heap.size, 0, none⟩) 2 2] 36)).grownBy w6 v.ownBlock → (v6.ownBlock = v.ownBlock ∨ v6.ownBlock = some (w2.alloc (.cells #[.slice (some ⟨wr.heap.size, 0, none⟩) 2 2] 36)).heap.size) → InP w.heap.size w6 (fun i => if i = k then wr.heap.size else h i) (k + 1) (plc ws cols) ∧ (∀ i, i < k + 1 → v6.ownBlock ≠ some (if i = k then wr.heap.size else h i)) ∧ New w w6) := Lib.hid (fun w2 w6 v6 e2 G6 B6 => by
        subst e2
        have hvk : ∀ i, i < k + 1 → v.ownBlock ≠ some (if i = k then wr.heap.size else h i) := fun i hi => by
          by_cases e : i = k
          · rw [if_pos e]
            intro e2
            rcases HO.out.form with ⟨e3, _⟩ | ⟨g, _, _, _, hl, _, e3⟩
            · rw [e3] at e2; cases e2
            · rw [e3] at e2; have := Option.some.inj e2; omega
          · rw [if_neg e]; exact HV.out i (by omega)
        have I2 : InP w.heap.size ((wr.alloc (.cells #[.int .i64 (plc ws cols k).1, .int .i64 (plc ws cols k).2] 3)).alloc (.cells #[.slice (some ⟨wr.heap.size, 0, none⟩) 2 2] 36)) _ (k + 1) (plc ws cols) := IS.keep (((New.refl _).alloc _).grown none) (fun _ _ e => by cases e)
        refine ⟨I2.keep G6 hvk, fun i hi => ?_, ?_⟩
        · refine own_ne B6 (hvk i hi) ?_
          have := (I2.r i hi).lt
          omega
        · have N2 := (HN.out.alloc (.cells #[.int .i64 (plc ws cols k).1, .int .i64 (plc ws cols k).2] 3)).alloc (.cells #[.slice (some ⟨wr.heap.size, 0, none⟩) 2 2] 36)
          exact ⟨G6.os.trans N2.os, G6.tape.trans N2.tape, G6.output.trans N2.output, Nat.le_trans N2.size G6.size, fun i hi => (G6.block i (Nat.lt_of_lt_of_le hi N2.size) (fun e => by have := HO.out.below e.symm; omega)).trans (N2.block i hi)⟩)
      clear hc IS
      by_cases hq : cols < (stp ws cols k).2 + ws.getD k 0
      · have e1 := pn hq
        rw [e1] at ss
        have e2 : (plc ws cols k).1 = (stp ws cols k).1 + 1 := by rw [e1]
        have e3 : (plc ws cols k).2 = 0 := by rw [e1]
        rw [e2, e3] at HFIN
        have e4 : (stp ws cols (k + 1)).1 = (stp ws cols k).1 + 1 := by rw [ss]
        have e5 : (stp ws cols (k + 1)).2 = ws.getD k 0 := by rw [ss]; simp
        have E4 := Lib.hid e4; have E5 := Lib.hid e5
        have a1' : (stp ws cols k).1 ≤ 12 := by omega
        clear ss pn ps e1 e2 e3 e4 e5 a1
        generalize (stp ws cols k).1 = r at *
        generalize (stp ws cols k).2 = q at *
        generalize ws.getD k 0 = x at *
        have hd : decide (q + x > cols) = true := decide_eq_true hq
        go_wp2_with (at_builtin; refine wp_appL rfl _ _ rfl w.heap.size v k h rfl ((HO.out.alloc _).alloc _) (wr.heap.size + 1) wr.heap.size (by simp [Act.eval]) (by simp [go_sem]) (by omega) (by simp; omega) ?_; intro v6 w6 O6 G6 B6; obtain ⟨I6, V6, N6⟩ := HFIN.out _ w6 v6 rfl G6 B6; have g1 := FC.out w6 N6; (have O6 := Lib.hid O6; have I6 := Lib.hid I6; have V6 := Lib.hid V6; have N6 := Lib.hid N6); clear G6 B6)
        go_roundw
        case rel => exact ⟨k + 1, _, by omega, by go_num, by rw [E4.out], by rw [E5.out], O6, I6, V6, N6⟩
        case measure => simp [intOf]; omega
      · have e1 := ps (by omega)
        rw [e1] at ss
        rw [e1] at HFIN
        have e4 : (stp ws cols (k + 1)).1 = (stp ws cols k).1 := by rw [ss]
        have e5 : (stp ws cols (k + 1)).2 = (stp ws cols k).2 + ws.getD k 0 := by rw [ss]
        have E4 := Lib.hid e4; have E5 := Lib.hid e5
        have a1' : (stp ws cols k).1 ≤ 12 := by omega
        clear ss pn ps e1 e4 e5 a1
        generalize (stp ws cols k).1 = r at *
        generalize (stp ws cols k).2 = q at *
        generalize ws.getD k 0 = x at *
        have hd : decide (q + x > cols) = false := decide_eq_false hq
        go_wp2_with (at_builtin; refine wp_appL rfl _ _ rfl w.heap.size v k h rfl ((HO.out.alloc _).alloc _) (wr.heap.size + 1) wr.heap.size (by simp [Act.eval]) (by simp [go_sem]) (by omega) (by simp; omega) ?_; intro v6 w6 O6 G6 B6; obtain ⟨I6, V6, N6⟩ := HFIN.out _ w6 v6 rfl G6 B6; have g1 := FC.out w6 N6; (have O6 := Lib.hid O6; have I6 := Lib.hid I6; have V6 := Lib.hid V6; have N6 := Lib.hid N6); clear G6 B6)
        go_roundw
        case rel => exact ⟨k + 1, _, by omega, by go_num, by rw [E4.out], by rw [E5.out], O6, I6, V6, N6⟩
        case measure => simp [intOf]; omega
    · obtain rfl : n = k := by omega
      obtain ⟨A9, c9, rfl, P9⟩ := HI.out.prs HO.out HV.out
      have P9 := Lib.hid P9
      go_wp2
      go_ret
      exact ⟨A9, n, c9, rfl, pairsL_len _ _, P9.out, HN.out⟩
end Go.Proofs.Ytnipnemhbelcaaa
