/- The next task is taken out of a heap, and all others become older. Condition: the queue is the call's own. -/
import Derived.Test.YtpkombjmbpgdnaaHeapN
namespace Go.Proofs.Ytpkombjmbpgdnaa
open Go.RowKit

/-- A task that has waited once more. -/
def age1 (t : Tk) : Tk := (t.1, t.2.1, min (t.2.2 + 1) 20)
def agF (f : Nat → Tk) (k i : Nat) : Tk := if i < k then age1 (f i) else f i
section
variable {f : Nat → Tk} {n k : Nat} {l : List Tk} {t : Tk}
theorem age_vt (h : VT t) : VT (age1 t) := by unfold VT age1 at *; dsimp only; omega
theorem agF_zero : agF f 0 = f := by funext i; unfold agF; rw [if_neg (by omega)]
theorem agF_step (k : Nat) : upd1 (agF f k) k (age1 (f k)) = agF f (k + 1) := by
  funext i
  unfold upd1 agF
  by_cases h : i = k
  · subst h; rw [if_pos rfl, if_pos (by omega)]
  · rw [if_neg h]
    by_cases h2 : i < k
    · rw [if_pos h2, if_pos (by omega)]
    · rw [if_neg h2, if_neg (by omega)]
theorem same_age (h : Same f n l) : Same (agF f n) n (l.map age1) := by
  have e : ∀ k, k < n → agF f n k = age1 (f k) := fun k hk => if_pos hk
  refine ⟨by rw [List.length_map, h.len], ?_, fun i j hi hj e2 => ?_, fun u => ?_⟩
  · exact List.pairwise_map.2 (h.asc.imp fun {a b} hab => hab)
  · rw [e i hi, e j hj] at e2
    exact h.inj i j hi hj e2
  · rw [List.mem_map]
    constructor
    · rintro ⟨v, hv, rfl⟩
      obtain ⟨k, hk, ek⟩ := (h.mem v).1 hv
      exact ⟨k, hk, by rw [e k hk, ek]⟩
    · rintro ⟨k, hk, ek⟩
      exact ⟨f k, (h.mem _).2 ⟨k, hk, rfl⟩, by rw [← ek, e k hk]⟩
/-- The age of one task stored. -/
theorem Qu.older {lo P g c : Nat} {w : World} (h : Qu lo w P g c n f) (hk : k < n) : Qu lo (w.setCell ⟨g, k * 3 + 2, none⟩ (.int .i64 (min ((f k).2.2 + 1) 20))) P g c n (upd1 f k (age1 (f k))) := by
  have hne := h.ne
  refine ⟨(World.cell?_setCell_other _ _ _ _ (fun e => hne (congrArg Addr.block e))).trans h.cell, (World.frozen?_of_block (w := w) (Below.heap_setCell _ _ _ _ (fun e => hne (by simpa using e.symm)))).trans h.fz, ?_, hne, h.lo_⟩
  have o := h.own.set (k * 3 + 2) (min ((f k).2.2 + 1) 20)
  have e : (flatF f n).set (k * 3 + 2) (min ((f k).2.2 + 1) 20) = flatF (upd1 f k (age1 (f k))) n := by
    rw [← flatF_set f (age1 (f k)) k n]
    obtain ⟨a0, a1, a2⟩ := flatF_at f hk
    have hl := flatF_len f n
    apply ext_flat
    · simp only [List.length_set]
    · intro i hi
      simp only [List.length_set] at hi
      rw [getD_set _ _ _ _ (by omega), getD_set _ _ _ _ (by simp only [List.length_set]; omega), getD_set _ _ _ _ (by simp only [List.length_set]; omega), getD_set _ _ _ _ (by omega)]
      by_cases h2 : k * 3 + 2 = i
      · rw [if_pos h2, if_pos h2]; rfl
      · rw [if_neg h2, if_neg h2]
        by_cases h1 : k * 3 + 1 = i
        · rw [if_pos h1, ← h1, a1]; rfl
        · rw [if_neg h1]
          by_cases h0 : k * 3 = i
          · rw [if_pos h0, ← h0, a0]; rfl
          · rw [if_neg h0]
  rw [e] at o
  exact o
end
theorem Row.kp {P g b : Nat} {w w' : World} {zs : List Int} (h : Row w b zs) (k : Kp P g w w') (h1 : b ≠ P) (h2 : b ≠ g) : Row w' b zs :=
  ⟨Nat.lt_of_lt_of_le h.lt k.1, fun i hi => (k.cell h.lt h1 h2).trans (h.c i hi), fun i hi => (k.mark h.lt h1 h2).trans (h.f i hi)⟩
theorem Qu.far3 {lo P g c n b : Nat} {w : World} {f : Nat → Tk} (h : Qu lo w P g c n f) (h1 : b ≠ P) (h2 : b ≠ g) (o : Nat) (u : Value) : Qu lo (w.setCell ⟨b, o, none⟩ u) P g c n f :=
  ⟨(World.cell?_setCell_other _ _ _ _ (fun e => by first | exact h1 (congrArg Addr.block e) | exact h1 (congrArg Addr.block e).symm)).trans h.cell, (World.frozen?_of_block (w := w) (Below.heap_setCell _ _ _ _ (fun e => h1 (by simpa using e.symm)))).trans h.fz, h.own.far h2 u, h.ne, h.lo_⟩
/-- Of the elder blocks only P and the one that P points to have turned. -/
def Kq (P : Nat) (w w' : World) : Prop := w.heap.size ≤ w'.heap.size ∧ ∀ k, k < w.heap.size → k ≠ P → (∀ m c, w.cell? ⟨P, 0, none⟩ ≠ some (.slice (some ⟨k, 0, none⟩) m c)) → w'.heap[k]? = w.heap[k]?
theorem Kp.sets {P g b : Nat} {a c : World} (h : Kp P g a c) (hb : a.heap.size ≤ b) (o : Nat) (u : Value) : Kp P g a (c.setCell ⟨b, o, none⟩ u) := ⟨by simpa [World.setCell] using h.1, fun i hi h1 h2 => (Below.heap_setCell _ _ _ _ (by simp; omega)).trans (h.2 i hi h1 h2)⟩
theorem Kp.kq {P g n c : Nat} {a b : World} (h : Kp P g a b) (hc : a.cell? ⟨P, 0, none⟩ = some (.slice (some ⟨g, 0, none⟩) n c)) : Kq P a b := ⟨h.1, fun k hk h1 h2 => h.2 k hk h1 (fun e => by subst e; exact h2 n c hc)⟩
/-- What taking the next task leaves. -/
def TakenA (lo P n : Nat) (l : List Tk) (w0 w : World) (e : Ending) (w' : World) : Prop := ∃ t : Tk, e = .returned (.agg #[.int .i64 t.1, .int .i64 t.2.1, .int .i64 t.2.2]) ∧ t ∈ l ∧ (∀ u ∈ l, leK t u) ∧ Kq P w w' ∧ QH lo P n ((l.filter fun u => u ≠ t).map age1) w0 w'
set_option maxRecDepth 100000 in
set_option maxHeartbeats 4000000 in
theorem take_any (lo P n : Nat) (l : List Tk) (hn : n ≤ 900) (w0 w : World) (h : QH lo P (n + 1) l w0 w) (hl : w0.heap.size ≤ lo) :
    Calls Try.prog 17 #[.pointer (some ⟨P, 0, none⟩)] w (TakenA lo P n l w0 w) := by
  have HQ := Lib.hid h; have LW := Lib.hid hl
  have RZ := Lib.hid (Row.oneTask w 0 0 0 30)
  have N0 := Lib.hid ((New.refl w).alloc (.cells #[.int .i64 0, .int .i64 0, .int .i64 0] 30))
  have HMN := Lib.hid (fun (a b : Int) (P_ : Program) (W : World) (ts : Array TypeId) (t : TypeId) => run_mn P_ W ts t a b)
  have n9 : (n : Int) ≤ 900 := by omega
  have n00 : (0 : Int) ≤ (n : Int) := by omega
  obtain ⟨g, c, f, hQ, hV, hS, hF, hN⟩ := h
  have b2 := hQ.lt
  have g2 := hQ.row.2.1
  have CQ := Lib.hid hQ.cell
  have LB : Hid (w0.heap.size ≤ w.heap.size) := Lib.hid hN.le
  have hP := hPop_any lo P g c n f l hn w0 _ (hQ.new N0.out) hV hS hF (hN.trans N0.out) hl
  have HP := Lib.hid hP
  clear hl hQ hV hS hF hN hP
  go_enter Try.func17, Try.ntmps17
  go_wp2_with fail
  refine HP.out.mono ?_
  rintro e w1 ⟨⟨t0, t1, t2⟩, f1, rfl, ht, hm, hQ, hV, hS, hF, hN, hK⟩
  have HT := Lib.hid ht; have HM := Lib.hid hm
  have hta : ∀ W : World, (Instr.typeAssert (.iface 30 (.agg #[.int .i64 t0, .int .i64 t1, .int .i64 t2])) 20 30 false).run Try.prog W = .ok (.agg #[.int .i64 t0, .int .i64 t1, .int .i64 t2]) W := fun W => by kernel_rfl
  have c0 := hQ.cell
  have pl := hQ.lt
  have gl := hQ.row.2.1
  have A1 := Lib.hid ((New.refl w1).alloc (.cells #[.int .i64 t0, .int .i64 t1, .int .i64 t2] 30))
  have RT := Lib.hid (Row.oneTask w1 t0 t1 t2 30)
  have Q1 : Hid (Qu lo (w1.alloc (.cells #[.int .i64 t0, .int .i64 t1, .int .i64 t2] 30)) P g c n (agF f1 0)) := Lib.hid (by rw [agF_zero]; exact hQ.new A1.out)
  have NN : Hid (New w0 (w1.alloc (.cells #[.int .i64 t0, .int .i64 t1, .int .i64 t2] 30))) := Lib.hid (hN.trans A1.out)
  have HV := Lib.hid hV; have HS := Lib.hid hS
  have KW : Hid (Kp P g w (w1.alloc (.cells #[.int .i64 t0, .int .i64 t1, .int .i64 t2] 30))) := Lib.hid (((Kp.of_new N0.out).trans hK).trans (Kp.of_new A1.out))
  have z0 : w.heap.size < w1.heap.size := by have := hK.1; simp at this; omega
  have RZ1 : Hid (Row (w1.alloc (.cells #[.int .i64 t0, .int .i64 t1, .int .i64 t2] 30)) w.heap.size [0, 0, 0]) := Lib.hid ((RZ.out.kp hK (by omega) (by omega)).new A1.out)
  clear ht hm hQ hV hS hF hN hK
  dsimp only
  go_wp2
  generalize hW : w1.alloc (.cells #[.int .i64 t0, .int .i64 t1, .int .i64 t2] 30) = W1 at *
  clear hW
  go_loopw [14] (fun i wr => ∃ k : Nat, k ≤ n ∧ i = .int .i64 k ∧ Hid (Qu lo wr P g c n (agF f1 k)) ∧ Hid (New w0 wr ∧ Kp P g W1 wr)) (fun i _ => n - (intOf i).toNat)
  case atStart => exact ⟨0, Nat.zero_le _, rfl, Q1, Lib.hid ⟨NN.out, Kp.refl _ _ _⟩⟩
  case round =>
    obtain ⟨k, hk, rfl, HQk, HNk⟩ := hrel
    have k0 : (0 : Int) ≤ (k : Int) := by omega
    by_cases hlt : k < n
    · have k1 : (k : Int) < (n : Int) := by omega
      have ef : agF f1 k k = f1 k := if_neg (by omega)
      obtain ⟨e0, e1, e2⟩ := HQk.out.at_ hlt
      have vt := (HV.out k hlt).2.2
      have OLD := Lib.hid (fun X (hX : Qu lo X P g c n (agF f1 k)) => (show Qu lo (X.setCell ⟨g, k * 3 + 2, none⟩ (.int .i64 (mn ((f1 k).2.2 + 1) 20))) P g c n (agF f1 (k + 1)) by
        have q := hX.older hlt
        rw [ef, agF_step] at q
        exact q))
      have MK := Lib.hid (fun X (hX : Qu lo X P g c n (agF f1 k)) => (hX.marks_ hlt).2.2)
      have CK := Lib.hid (fun X (hX : Qu lo X P g c n (agF f1 k)) => (show X.cell? ⟨g, k * 3 + 2, none⟩ = some (.int .i64 (f1 k).2.2) by rw [← ef]; exact (hX.at_ hlt).2.2))
      rw [ef] at e0 e1 e2
      clear ef
      have pk := HQk.out.lt
      have gk := HQk.out.row.2.1
      have pg := HQk.out.ne
      generalize (f1 k).1 = a0 at *
      generalize (f1 k).2.1 = a1 at *
      generalize (f1 k).2.2 = a2 at *
      obtain ⟨va0, va1⟩ := vt
      have aw : IntKind.i64.wrap (a2 + 1) = a2 + 1 := IntWalk.i64_in _ (by omega)
      have NV := Lib.hid ((New.refl wr).alloc (.cells #[.int .i64 a0, .int .i64 a1, .int .i64 a2] 30))
      have CV := Lib.hid (show (wr.alloc (.cells #[.int .i64 a0, .int .i64 a1, .int .i64 a2] 30)).cell? ⟨wr.heap.size, 2, none⟩ = some (.int .i64 a2) by simp [go_sem])
      have QV := Lib.hid (HQk.out.new NV.out)
      have hmn := run_mn Try.prog
      clear c0
      have cq := HQk.out.cell
      go_wp2
      clear cq e0 e1 e2
      obtain ⟨bv, hbv⟩ : ∃ b, wr.heap.size = b := ⟨_, rfl⟩
      rw [hbv] at CV ⊢
      have gb : g ≠ bv := by omega
      have HNV : Hid (New w0 (wr.alloc (.cells #[.int .i64 a0, .int .i64 a1, .int .i64 a2] 30)) ∧ Kp P g W1 (wr.alloc (.cells #[.int .i64 a0, .int .i64 a1, .int .i64 a2] 30))) := Lib.hid ⟨HNk.out.1.trans NV.out, HNk.out.2.trans (Kp.of_new NV.out)⟩
      generalize wr.alloc (.cells #[.int .i64 a0, .int .i64 a1, .int .i64 a2] 30) = V0 at *
      clear NV HQk HNk hbv pk gk
      have QD := Lib.hid (QV.out.new (New.refl V0).drew)
      have CD : V0.drew.cell? ⟨bv, 2, none⟩ = some (.int .i64 a2) := CV.out
      have CD := Lib.hid CD
      have HND : Hid (New w0 V0.drew ∧ Kp P g W1 V0.drew) := Lib.hid ⟨HNV.out.1.drew, HNV.out.2.trans (Kp.of_new (New.refl V0).drew)⟩
      clear CV QV HNV
      refine wp_region_noPanic ?_
      refine wp_region_held_drew (S := fun w' => w'.cell? ⟨P, 0, none⟩ = some (.slice (some ⟨g, 0, none⟩) n c) ∧ w'.cell? ⟨bv, 2, none⟩ = some (.int .i64 a2)) (by kernel_rfl) (⟨QD.out.cell, CD.out⟩) (fun hHeld => ?_)
      generalize V0.drew = V at *
      refine wpAnyH_take (i := 0) (oi := _) (v := ?_) rfl (by kernel_rfl) (by kernel_rfl) (by kernel_rfl) (fun _ _ _ h => h) (Or.inl ⟨by kernel_rfl, ?_⟩) (by assumption) ?_
      rotate_left; (intro w' hSw; (try dsimp only at hSw); go_split_ands; go_simp; (try with_reducible rfl))
      try dsimp only [Act.put]
      refine wpAnyH_take (i := 1) (oi := _) (v := ?_) rfl (by kernel_rfl) (by kernel_rfl) (by kernel_rfl) (fun _ _ _ h => h) (Or.inl ⟨by kernel_rfl, ?_⟩) (by assumption) ?_
      rotate_left; (intro w' hSw; (try dsimp only at hSw); go_split_ands; go_simp; (try with_reducible rfl))
      try dsimp only [Act.put]
      refine wpAnyH_take (i := 2) (oi := _) (v := ?_) rfl (by kernel_rfl) (by kernel_rfl) (by kernel_rfl) (fun _ _ _ h => h) (Or.inl ⟨by kernel_rfl, ?_⟩) (by assumption) ?_
      rotate_left; (intro w' hSw; (try dsimp only at hSw); go_split_ands; go_simp; (try with_reducible rfl))
      try dsimp only [Act.put]
      refine wpAnyH_take (i := 3) (oi := _) (v := ?_) rfl (by kernel_rfl) (by kernel_rfl) (by kernel_rfl) (fun _ _ _ h => h) (Or.inl ⟨by kernel_rfl, ?_⟩) (by assumption) ?_
      rotate_left; (intro w' hSw; (try dsimp only at hSw); go_split_ands; go_simp; (try with_reducible rfl))
      try dsimp only [Act.put]
      refine wpAnyH_take (i := 4) (oi := _) (v := ?_) rfl (by kernel_rfl) (by kernel_rfl) (by kernel_rfl) (fun _ _ _ h => h) (Or.inl ⟨by kernel_rfl, ?_⟩) (by assumption) ?_
      rotate_left; (intro w' hSw; (try dsimp only at hSw); go_split_ands; go_simp; (try with_reducible rfl))
      try dsimp only [Act.put]
      refine wpAnyH_take (i := 5) (oi := _) (v := ?_) rfl (by kernel_rfl) (by kernel_rfl) (by kernel_rfl) (fun _ _ _ h => h) (Or.inl ⟨by kernel_rfl, ?_⟩) (by assumption) ?_
      rotate_left; (intro w' hSw; (try dsimp only at hSw); go_split_ands; go_simp; (try with_reducible rfl))
      try dsimp only [Act.put]
      refine wpAnyH_take (i := 6) (oi := _) (v := ?_) rfl (by kernel_rfl) (by kernel_rfl) (by kernel_rfl) (fun _ _ _ h => h) (Or.inl ⟨by kernel_rfl, ?_⟩) (by assumption) ?_
      rotate_left; (intro w' hSw; (try dsimp only at hSw); go_split_ands; go_simp; (try with_reducible rfl))
      try dsimp only [Act.put]
      refine wpAnyH_take (i := 7) (oi := _) (v := ?_) rfl (by kernel_rfl) (by kernel_rfl) (by kernel_rfl) (fun _ _ _ h => h) (Or.inl ⟨by kernel_rfl, ?_⟩) (by assumption) ?_
      rotate_left; (intro w' hSw; (try dsimp only at hSw); go_split_ands; go_simp; (try with_reducible rfl))
      try dsimp only [Act.put]
      refine wpAnyH_take (i := 8) (oi := _) (v := ?_) rfl (by kernel_rfl) (by kernel_rfl) (by kernel_rfl) (fun _ _ _ h => h) (Or.inl ⟨by kernel_rfl, ?_⟩) (by assumption) ?_
      rotate_left; (intro w' hSw; (try dsimp only at hSw); go_split_ands; go_simp; (try with_reducible rfl))
      try dsimp only [Act.put]
      refine wpAnyH_take (i := 9) (oi := _) (v := ?_) rfl (by kernel_rfl) (by kernel_rfl) (by kernel_rfl) (fun _ _ _ h => h) (Or.inl ⟨by kernel_rfl, ?_⟩) (by assumption) ?_
      rotate_left; (intro w' hSw; (try dsimp only at hSw); go_split_ands; go_simp; (try with_reducible rfl))
      try dsimp only [Act.put]
      refine wpAnyH_ready (rs := [10]) (by kernel_rfl) (by simp) ?_
      refine AllReadyH.cons (o := _) rfl (fun K hK => ?_) AllReadyH.nil
      have mk := MK.out V QD.out
      have ck := CK.out V QD.out
      have QN := Lib.hid (OLD.out V QD.out)
      have SK : (V.setCell ⟨g, k * 3 + 2, none⟩ (.int .i64 (mn (a2 + 1) 20))).cell? ⟨P, 0, none⟩ = some (.slice (some ⟨g, 0, none⟩) n c) ∧ (V.setCell ⟨g, k * 3 + 2, none⟩ (.int .i64 (mn (a2 + 1) 20))).cell? ⟨bv, 2, none⟩ = some (.int .i64 a2) := ⟨QN.out.cell, (World.cell?_setCell_other _ _ _ _ (fun e => gb (congrArg Addr.block e))).trans CD.out⟩
      have SK := Lib.hid SK
      have NN2 : Hid (New w0 (V.setCell ⟨g, k * 3 + 2, none⟩ (.int .i64 (mn (a2 + 1) 20))) ∧ Kp P g W1 (V.setCell ⟨g, k * 3 + 2, none⟩ (.int .i64 (mn (a2 + 1) 20)))) := Lib.hid ⟨HND.out.1.setCell (Nat.le_trans LW.out QD.out.row.1) _, HND.out.2.trans (Kp.of_grown (own_set (World.grownBy.refl _ _) _))⟩
      go_simp
      refine hK.out _ _ (SK.out) (fun hH10 => ?_)
      clear hK K
      try dsimp only [Act.put]
      clear mk ck
      refine wpAnyH_done (by kernel_rfl) ?_ _
      refine NoPanic.normal ?_
      go_wp2
      go_roundw
      case rel => exact ⟨k + 1, by omega, by go_num, QN, NN2⟩
      case measure => simp [intOf]; omega
    · obtain rfl : n = k := by omega
      have HH : Hid (Hp lo P g c n (agF f1 n) ((l.filter fun u => u ≠ (t0, t1, t2)).map age1) wr wr) := Lib.hid ⟨HQk.out, fun i hi => by
        rw [show agF f1 n i = age1 (f1 i) from if_pos hi]
        exact age_vt (HV.out i hi), same_age HS.out, World.grownBy.refl _ _⟩
      clear c0
      have cq := HQk.out.cell
      go_wp2_with fail
      refine (Init_any lo P g c n _ (by omega) _ wr HH.out).mono ?_
      rintro e w5 ⟨rfl, f5, H5, F5⟩
      have K5 : Kp P g W1 w5 := HNk.out.2.trans (Kp.of_grown H5.2.2.2)
      have N5 := Lib.hid (new_only HNk.out.1 (Nat.le_trans LW.out H5.1.row.1) H5.2.2.2)
      have KE := Lib.hid (KW.out.trans K5)
      have R5 := Lib.hid (RT.out.kp K5 (by omega) (by omega))
      have Z5 := Lib.hid (RZ1.out.kp K5 (by omega) (by omega))
      have HF5 := Lib.hid F5; have HH5 := Lib.hid H5
      clear H5 F5 K5 cq
      have y0 := R5.out.c 0 (by simp); have y1 := R5.out.c 1 (by simp); have y2 := R5.out.c 2 (by simp)
      have x0 := Z5.out.c 0 (by simp); have x1 := Z5.out.c 1 (by simp); have x2 := Z5.out.c 2 (by simp)
      have v0 := Z5.out.f 0 (by simp); have v1 := Z5.out.f 1 (by simp); have v2 := Z5.out.f 2 (by simp)
      simp only [List.getD_cons_zero, List.getD_cons_succ] at y0 y1 y2 x0 x1 x2
      have Q5 : Hid (Qu lo (((w5.setCell ⟨w.heap.size, 0, none⟩ (.int .i64 t0)).setCell ⟨w.heap.size, 1, none⟩ (.int .i64 t1)).setCell ⟨w.heap.size, 2, none⟩ (.int .i64 t2)) P g c n f5) := Lib.hid (((HH5.out.1.far3 (by omega) (by omega) 0 _).far3 (by omega) (by omega) 1 _).far3 (by omega) (by omega) 2 _)
      have M5 : Hid (New w0 (((w5.setCell ⟨w.heap.size, 0, none⟩ (.int .i64 t0)).setCell ⟨w.heap.size, 1, none⟩ (.int .i64 t1)).setCell ⟨w.heap.size, 2, none⟩ (.int .i64 t2))) := Lib.hid (((N5.out.setCell (Nat.le_trans LB.out (Nat.le_refl _)) _).setCell LB.out _).setCell LB.out _)
      have KF5 : Hid (Kq P w (((w5.setCell ⟨w.heap.size, 0, none⟩ (.int .i64 t0)).setCell ⟨w.heap.size, 1, none⟩ (.int .i64 t1)).setCell ⟨w.heap.size, 2, none⟩ (.int .i64 t2))) := Lib.hid ((((KE.out.sets (Nat.le_refl _) 0 _).sets (Nat.le_refl _) 1 _).sets (Nat.le_refl _) 2 _).kq CQ.out)
      go_wp2
      have h0 : ((((w5.setCell ⟨w.heap.size, 0, none⟩ (.int .i64 t0)).setCell ⟨w.heap.size, 1, none⟩ (.int .i64 t1)).setCell ⟨w.heap.size, 2, none⟩ (.int .i64 t2))).cell? ⟨w.heap.size, 0, none⟩ = some (.int .i64 t0) := by simp [go_sem, x0]
      have h1 : ((((w5.setCell ⟨w.heap.size, 0, none⟩ (.int .i64 t0)).setCell ⟨w.heap.size, 1, none⟩ (.int .i64 t1)).setCell ⟨w.heap.size, 2, none⟩ (.int .i64 t2))).cell? ⟨w.heap.size, 1, none⟩ = some (.int .i64 t1) := by simp [go_sem, x1]
      have h2 : ((((w5.setCell ⟨w.heap.size, 0, none⟩ (.int .i64 t0)).setCell ⟨w.heap.size, 1, none⟩ (.int .i64 t1)).setCell ⟨w.heap.size, 2, none⟩ (.int .i64 t2))).cell? ⟨w.heap.size, 2, none⟩ = some (.int .i64 t2) := by simp [go_sem, x2]
      generalize ((w5.setCell ⟨w.heap.size, 0, none⟩ (.int .i64 t0)).setCell ⟨w.heap.size, 1, none⟩ (.int .i64 t1)).setCell ⟨w.heap.size, 2, none⟩ (.int .i64 t2) = W6 at *
      refine bodyPost_ret (v := .agg #[.int .i64 t0, .int .i64 t1, .int .i64 t2]) (by simp [results, Try.results17, go_sem, h0, h1, h2]) rfl ⟨(t0, t1, t2), rfl, HT.out, HM.out, KF5.out, g, c, f5, Q5.out, ?_, HH5.out.2.2.1, HF5.out, M5.out⟩
      exact HH5.out.2.1
end Go.Proofs.Ytpkombjmbpgdnaa
