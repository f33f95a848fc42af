/- A heap made, a task pushed, the next one taken. Conditions: the queue is the call's own; its tasks are valid. -/
import Derived.Test.YtpkombjmbpgdnaaHeapP
namespace Go.Proofs.Ytpkombjmbpgdnaa
open Go.RowKit

theorem swp_self {f : Nat → Tk} {i : Nat} : swp f i i = f := by
  funext k
  unfold swp
  by_cases h : k = i
  · rw [if_pos h, h]
  · rw [if_neg h, if_neg h]
/-- Of the elder blocks only P and g have turned. -/
def Kp (P g : Nat) (w w' : World) : Prop := w.heap.size ≤ w'.heap.size ∧ ∀ k, k < w.heap.size → k ≠ P → k ≠ g → w'.heap[k]? = w.heap[k]?
theorem Kp.refl (P g : Nat) (w : World) : Kp P g w w := ⟨Nat.le_refl _, fun _ _ _ _ => rfl⟩
theorem Kp.trans {P g : Nat} {a b c : World} (h : Kp P g a b) (k : Kp P g b c) : Kp P g a c := ⟨Nat.le_trans h.1 k.1, fun i hi h1 h2 => (k.2 i (Nat.lt_of_lt_of_le hi h.1) h1 h2).trans (h.2 i hi h1 h2)⟩
theorem Kp.of_new {P g : Nat} {a b : World} (h : New a b) : Kp P g a b := ⟨h.le, fun i hi _ _ => h.block i hi⟩
theorem Kp.of_grown {P g : Nat} {a b : World} (h : a.grownBy b (some g)) : Kp P g a b := ⟨h.size, fun i hi _ h2 => h.block i hi (by simpa using h2)⟩
theorem Kp.set {P g : Nat} {a b : World} (h : Kp P g a b) (o : Nat) (u : Value) : Kp P g a (b.setCell ⟨P, o, none⟩ u) := ⟨by simpa [World.setCell] using h.1, fun i hi h1 h2 => (Below.heap_setCell _ _ _ _ (by simpa using h1)).trans (h.2 i hi h1 h2)⟩
theorem Kp.cell {P g k o : Nat} {a b : World} (h : Kp P g a b) (hk : k < a.heap.size) (h1 : k ≠ P) (h2 : k ≠ g) : b.cell? ⟨k, o, none⟩ = a.cell? ⟨k, o, none⟩ := World.cell?_of_block (h.2 k hk h1 h2)
theorem Kp.mark {P g k o : Nat} {a b : World} (h : Kp P g a b) (hk : k < a.heap.size) (h1 : k ≠ P) (h2 : k ≠ g) : b.frozen? ⟨k, o, none⟩ = a.frozen? ⟨k, o, none⟩ := World.frozen?_of_block (w := a) (h.2 k hk h1 h2)
/-- The last task given away. -/
def Popped (lo P g c n : Nat) (f : Nat → Tk) (w0 w : World) (e : Ending) (w' : World) : Prop := e = .returned (.iface 30 (.agg #[.int .i64 (f n).1, .int .i64 (f n).2.1, .int .i64 (f n).2.2])) ∧ Qu lo w' P g c n f ∧ New w0 w' ∧ Kp P g w w'
set_option maxHeartbeats 4000000 in
theorem qPop_any (lo P g c n : Nat) (f : Nat → Tk) (hn : n ≤ 1000) (w0 w : World) (h : Qu lo w P g c (n + 1) f) (hN : New w0 w) (hl : w0.heap.size ≤ lo) :
    Calls Try.prog 75 #[.pointer (some ⟨P, 0, none⟩)] w (Popped lo P g c n f w0 w) := by
  have HQ := Lib.hid h; have NW := Lib.hid hN; have LW := Lib.hid hl
  have hc := h.cell
  have hz := h.fz
  have pl := h.lt
  obtain ⟨g0, g1, g2⟩ := h.at_ (k := n) (by omega)
  have gl := h.row.2.1
  have cn := h.row.2.2.1
  have n0 : (0 : Int) ≤ (n : Int) := by omega
  have n1 : (n : Int) ≤ 1000 := by omega
  have n2 : (n : Int) < ((n + 1 : Nat) : Int) := by omega
  have n3 : (n : Int) ≤ (c : Int) := by omega
  have nc : (n : Int) + 1 - 1 = (n : Int) := by omega
  have Q1 : Hid (Qu lo (w.setCell ⟨P, 0, none⟩ (.slice (some ⟨g, 0, none⟩) n c)) P g c n f) := Lib.hid ⟨by simp [go_sem, hc], by simpa [go_sem] using hz, by
    have o := (h.own.first (k := n) (by omega)).far (p := ⟨P, 0, none⟩) (fun e => h.ne e.symm) (.slice (some ⟨g, 0, none⟩) n c)
    rw [flatF_first f (by omega)] at o
    exact o, h.ne, h.lo_⟩
  obtain ⟨t0, h0⟩ : ∃ t, (f n).1 = t := ⟨_, rfl⟩
  obtain ⟨t1, h1⟩ : ∃ t, (f n).2.1 = t := ⟨_, rfl⟩
  obtain ⟨t2, h2⟩ : ∃ t, (f n).2.2 = t := ⟨_, rfl⟩
  rw [h0] at g0; rw [h1] at g1; rw [h2] at g2
  have H0 := Lib.hid h0; have H1 := Lib.hid h1; have H2 := Lib.hid h2
  clear h hN hl h0 h1 h2
  go_enter Try.func75, Try.ntmps75
  go_wp2
  go_ret
  exact ⟨by rw [H0.out, H1.out, H2.out]; rfl, Q1.out.new ((New.refl _).alloc _), (NW.out.setCell (Nat.le_trans LW.out HQ.out.lo_) _).alloc _, ((Kp.refl _ _ _).set _ _).trans (Kp.of_new ((New.refl _).alloc _))⟩
set_option maxRecDepth 100000 in
set_option maxHeartbeats 4000000 in
theorem Swap_self {lo P g c n : Nat} {w : World} {f : Nat → Tk} (h : Qu lo w P g c n f) (i : Nat) (hi : i < n) (_hn : n ≤ 1000) :
    Calls Try.prog 77 #[.slice (some ⟨g, 0, none⟩) n c, .int .i64 i, .int .i64 i] w fun e w' => e = .returned (.tuple #[]) ∧ Qu lo w' P g c n f ∧ w.grownBy w' (some g) := by
  obtain ⟨a0, a1, a2⟩ := h.at_ hi
  obtain ⟨e0, e1, e2⟩ := h.marks_ hi
  have Q2 : Hid (Qu lo (((((((w.setCell ⟨g, i * 3, none⟩ (.int .i64 (f i).1)).setCell ⟨g, i * 3 + 1, none⟩ (.int .i64 (f i).2.1)).setCell ⟨g, i * 3 + 2, none⟩ (.int .i64 (f i).2.2)).setCell ⟨g, i * 3, none⟩ (.int .i64 (f i).1)).setCell ⟨g, i * 3 + 1, none⟩ (.int .i64 (f i).2.1)).setCell ⟨g, i * 3 + 2, none⟩ (.int .i64 (f i).2.2)).drew) P g c n f) := Lib.hid (by
    have q := (h.swp i i).new (New.refl _).drew
    have e : swp f i i = f := swp_self
    rw [e] at q
    exact q)
  have i0 : (0 : Int) ≤ (i : Int) := by omega
  have i1 : (i : Int) < (n : Int) := by omega
  generalize (f i).1 = x0 at *
  generalize (f i).2.1 = x1 at *
  generalize (f i).2.2 = x2 at *
  clear h
  go_enter Try.func77, Try.ntmps77
  go_wp2
  go_region
  go_end0
  exact ⟨rfl, Q2.out, only6 _ _ _ _ _ _ _ _ _ _ _ _⟩
set_option maxHeartbeats 4000000 in
theorem Init_any (lo P g c m : Nat) (f : Nat → Tk) (hm : m ≤ 1000) (l : List Tk) (w : World) (h : Hp lo P g c m f l w w) :
    Calls Try.prog 29 #[.iface 38 (.pointer (some ⟨P, 0, none⟩))] w fun e w' => e = .returned (.tuple #[]) ∧ Heaped lo P g c m 0 l w w' := by
  have H0 := Lib.hid h
  have ml := to_len P g m c w h.1.cell
  have m0 : (0 : Int) ≤ (m : Int) := by omega
  have m1 : (m : Int) ≤ 1000 := by omega
  clear h
  go_enter Try.func29, Try.ntmps29
  go_wp2_with fail
  refine (Len_any _ _ _ _).mono ?_
  rintro e w' ⟨rfl, rfl⟩
  clear ml
  go_wp2
  go_loopw [3] (fun i wr => ∃ (k : Nat) (z : Int) (f' : Nat → Tk), i = .int .i64 z ∧ Hid (z = (k : Int) - 1) ∧ -1 ≤ z ∧ z ≤ 1000 ∧ Hid (Hp lo P g c m f' l w wr) ∧ Hid (HeapF f' m k)) (fun i _ => (intOf i + 1).toNat)
  case atStart => exact ⟨m / 2, _, f, rfl, Lib.hid (by omega), by omega, by omega, H0, Lib.hid (heap_half (by omega))⟩
  case round =>
    obtain ⟨k, z, f', rfl, HZ, z0, z1, HH, HF⟩ := hrel
    cases k with
    | zero =>
      obtain rfl : z = -1 := by have := HZ.out; omega
      go_wp2
      go_end0
      exact ⟨rfl, f', HH.out, HF.out⟩
    | succ k =>
      obtain rfl : z = (k : Int) := by have := HZ.out; omega
      have k0 : (0 : Int) ≤ (k : Int) := by omega
      have HB : Hid (Hp lo P g c m f' l wr wr) := Lib.hid ⟨HH.out.1, HH.out.2.1, HH.out.2.2.1, World.grownBy.refl _ _⟩
      go_wp2_with fail
      refine (down_any lo P g c m m k f' hm (Nat.le_refl _) (by omega) l wr HB.out (down_start HF.out)).mono ?_
      rintro e w1 ⟨⟨b, rfl⟩, f2, H2, F2, _⟩
      have HN : Hid (Hp lo P g c m f2 l w w1) := Lib.hid ⟨H2.1, H2.2.1, H2.2.2.1, only_trans HH.out.2.2.2 H2.2.2.2⟩
      have FN := Lib.hid F2
      clear H2 F2
      go_wp2
      go_roundw
      case rel => exact ⟨k, (k : Int) - 1, f2, rfl, Lib.hid rfl, by omega, by omega, HN, FN⟩
      case measure => simp [intOf]
/-- A heap of the tasks of l, since w0 all in new blocks. -/
def QH (lo P n : Nat) (l : List Tk) (w0 w' : World) : Prop := ∃ g c f, Qu lo w' P g c n f ∧ (∀ k, k < n → VT (f k)) ∧ Same f n l ∧ HeapF f n 0 ∧ New w0 w'
section
variable {f : Nat → Tk} {n : Nat} {l : List Tk} {t : Tk}
theorem same_push (h : Same f n l) (ht : ∀ u ∈ l, u.1 < t.1) : Same (upd1 f n t) (n + 1) (l ++ [t]) := by
  have un : upd1 f n t n = t := if_pos rfl
  have uk : ∀ k, k < n → upd1 f n t k = f k := fun k hk => if_neg (by omega)
  refine ⟨by simp [h.len], ?_, ?_, ?_⟩
  · exact List.pairwise_append.2 ⟨h.asc, List.pairwise_singleton _ _, fun a ha b hb => by rw [List.mem_singleton.1 hb]; exact ht a ha⟩
  · intro i j hi hj e
    rcases Nat.lt_or_ge i n with h1 | h1
    · rcases Nat.lt_or_ge j n with h2 | h2
      · rw [uk i h1, uk j h2] at e; exact h.inj i j h1 h2 e
      · obtain rfl : j = n := by omega
        rw [uk i h1, un] at e
        have := ht (f i) ((h.mem _).2 ⟨i, h1, rfl⟩); omega
    · obtain rfl : i = n := by omega
      rcases Nat.lt_or_ge j i with h2 | h2
      · rw [uk j h2, un] at e
        have := ht (f j) ((h.mem _).2 ⟨j, h2, rfl⟩); omega
      · omega
  · intro u
    rw [List.mem_append, List.mem_singleton, h.mem]
    constructor
    · rintro (⟨k, hk, e⟩ | e)
      · exact ⟨k, by omega, by rw [uk k hk]; exact e⟩
      · exact ⟨n, by omega, by rw [un]; exact e.symm⟩
    · rintro ⟨k, hk, e⟩
      rcases Nat.lt_or_ge k n with h1 | h1
      · exact .inl ⟨k, h1, by rw [← uk k h1]; exact e⟩
      · obtain rfl : k = n := by omega
        exact .inr (by rw [← e, un])
theorem same_pop (h : Same f (n + 1) l) : Same f n (l.filter fun u => u ≠ f n) := by
  have hmn : f n ∈ l := (h.mem _).2 ⟨n, by omega, rfl⟩
  have hnd : l.Nodup := List.Pairwise.imp (fun {a b} hab e => by rw [e] at hab; omega) h.asc
  refine ⟨?_, h.asc.filter _, fun i j hi hj e => h.inj i j (by omega) (by omega) e, fun u => ?_⟩
  · have e1 : l.filter (fun u => decide (u ≠ f n)) = l.erase (f n) := by
      rw [hnd.erase_eq_filter]
      refine List.filter_congr fun u _ => ?_
      by_cases hu : u = f n
      · simp [hu]
      · simp [hu]
    rw [e1, List.length_erase_of_mem hmn, h.len]; rfl
  · rw [List.mem_filter, decide_eq_true_eq, h.mem]
    constructor
    · rintro ⟨⟨k, hk, e⟩, hne⟩
      refine ⟨k, ?_, e⟩
      rcases Nat.lt_or_ge k n with h1 | h1
      · exact h1
      · obtain rfl : k = n := by omega
        exact absurd e.symm hne
    · rintro ⟨k, hk, e⟩
      refine ⟨⟨k, by omega, e⟩, fun e2 => ?_⟩
      have := h.inj k n (by omega) (by omega) (by rw [e, e2])
      omega
end
set_option maxHeartbeats 4000000 in
theorem hPush_any (lo P n : Nat) (l : List Tk) (t0 t1 t2 : Int) (hn : n ≤ 900) (w0 w : World) (h : QH lo P n l w0 w) (hl : w0.heap.size ≤ lo) (hlo : lo ≤ w.heap.size) (hv : VT (t0, t1, t2)) (ht : ∀ u ∈ l, u.1 < t0) :
    Calls Try.prog 27 #[.iface 38 (.pointer (some ⟨P, 0, none⟩)), .iface 30 (.agg #[.int .i64 t0, .int .i64 t1, .int .i64 t2])] w fun e w' => e = .returned (.tuple #[]) ∧ QH lo P (n + 1) (l ++ [(t0, t1, t2)]) w0 w' := by
  obtain ⟨g, c, f, hQ, hV, hS, hF, hN⟩ := h
  have HQ := Lib.hid hQ; have HV := Lib.hid hV; have HS := Lib.hid (same_push (t := (t0, t1, t2)) hS ht); have HF := Lib.hid hF; have NW := Lib.hid hN; have HVT := Lib.hid hv
  have LW := Lib.hid hl; have LO := Lib.hid hlo
  have mp := to_push P w
  have n0 : (0 : Int) ≤ (n : Int) := by omega
  have n1 : (n : Int) ≤ 900 := by omega
  clear hQ hV hS hF hN hl hlo hv ht
  go_enter Try.func27, Try.ntmps27
  go_wp2_with fail
  refine (qPush_any lo P g c n f t0 t1 t2 (by omega) w0 w HQ.out NW.out LW.out LO.out).mono ?_
  rintro e w1 ⟨rfl, g1, c1, q1, k1⟩
  have Q1 := Lib.hid q1; have K1 := Lib.hid k1
  have ml := to_len P g1 (n + 1) c1 w1 q1.cell
  clear mp q1 k1
  go_wp2_with fail
  refine (Len_any _ _ _ _).mono ?_
  rintro e w' ⟨rfl, rfl⟩
  have HH : Hid (Hp lo P g1 c1 (n + 1) (upd1 f n (t0, t1, t2)) (l ++ [(t0, t1, t2)]) w1 w1) := Lib.hid ⟨Q1.out, fun k hk => by
    unfold upd1
    split
    · exact HVT.out
    · exact HV.out k (by omega), HS.out, World.grownBy.refl _ _⟩
  have UI := Lib.hid (up_start (g := upd1 f n (t0, t1, t2)) HF.out (fun k hk => if_neg (by omega)))
  have nc : ((n + 1 : Nat) : Int) - 1 = (n : Int) := by omega
  have nc2 : (n : Int) + 1 - 1 = (n : Int) := by omega
  clear ml
  go_wp2_with fail
  refine (up_any lo P g1 c1 (n + 1) n _ (by omega) (by omega) _ w1 HH.out UI.out).mono ?_
  rintro e w2 ⟨rfl, f2, H2, F2⟩
  have HE : Hid (QH lo P (n + 1) (l ++ [(t0, t1, t2)]) w0 w2) := Lib.hid ⟨g1, c1, f2, H2.1, H2.2.1, H2.2.2.1, F2, new_only K1.out (Nat.le_trans LW.out H2.1.row.1) H2.2.2.2⟩
  clear H2 F2
  go_wp2
  go_end0
  exact ⟨rfl, HE.out⟩
/-- The next task taken out of a heap. -/
def Taken (lo P g c n : Nat) (l : List Tk) (w0 w : World) (e : Ending) (w' : World) : Prop := ∃ (t : Tk) (f' : Nat → Tk), e = .returned (.iface 30 (.agg #[.int .i64 t.1, .int .i64 t.2.1, .int .i64 t.2.2])) ∧ t ∈ l ∧ (∀ u ∈ l, leK t u) ∧ Qu lo w' P g c n f' ∧ (∀ k, k < n → VT (f' k)) ∧ Same f' n (l.filter fun u => u ≠ t) ∧ HeapF f' n 0 ∧ New w0 w' ∧ Kp P g w w'
set_option maxHeartbeats 4000000 in
theorem hPop_any (lo P g c n : Nat) (f : Nat → Tk) (l : List Tk) (hn : n ≤ 900) (w0 w : World) (hQ : Qu lo w P g c (n + 1) f) (hV : ∀ k, k < n + 1 → VT (f k)) (hS : Same f (n + 1) l) (hF : HeapF f (n + 1) 0) (hN : New w0 w) (hl : w0.heap.size ≤ lo) :
    Calls Try.prog 28 #[.iface 38 (.pointer (some ⟨P, 0, none⟩))] w (Taken lo P g c n l w0 w) := by
  have HQ := Lib.hid hQ; have HV := Lib.hid hV; have HS := Lib.hid hS; have HF := Lib.hid hF; have NW := Lib.hid hN
  have LW := Lib.hid hl
  have ml := to_len P g (n + 1) c w hQ.cell
  have ms := to_swap P g (n + 1) c w hQ.cell
  have n0 : (0 : Int) ≤ (n : Int) := by omega
  have n1 : (n : Int) ≤ 900 := by omega
  have nc : ((n + 1 : Nat) : Int) - 1 = (n : Int) := by omega
  have nc2 : (n : Int) + 1 - 1 = (n : Int) := by omega
  have SW : Hid (Calls Try.prog 77 #[.slice (some ⟨g, 0, none⟩) (n + 1) c, .int .i64 (0 : Int), .int .i64 n] w fun e w' => e = .returned (.tuple #[]) ∧ Qu lo w' P g c (n + 1) (swp f 0 n) ∧ w.grownBy w' (some g)) := Lib.hid (by
    rcases Nat.eq_zero_or_pos n with e | e
    · subst e
      have h := Swap_self hQ 0 (by omega) (by omega)
      have e2 : swp f 0 0 = f := swp_self
      rw [e2]; exact h
    · exact Swap_any hQ 0 n (by omega) (by omega) (by omega) (by omega))
  clear hQ hV hS hF hN hl
  go_enter Try.func28, Try.ntmps28
  go_wp2_with fail
  refine (Len_any _ _ _ _).mono ?_
  rintro e w' ⟨rfl, rfl⟩
  clear ml
  go_wp2_with fail
  refine SW.out.mono ?_
  rintro e w1 ⟨rfl, q1, g1⟩
  have HH : Hid (Hp lo P g c (n + 1) (swp f 0 n) l w1 w1) := Lib.hid ⟨q1, fun k hk => by rw [swp_ix]; exact HV.out _ (ix_lt (by omega) (by omega) hk), HS.out.swp (by omega) (by omega), World.grownBy.refl _ _⟩
  have K1 := Lib.hid (new_only NW.out (Nat.le_trans LW.out q1.row.1) g1)
  have J1 : Hid (Kp P g w w1) := Lib.hid (Kp.of_grown g1)
  have DI : Hid (DownInv (swp f 0 n) n 0 0) := Lib.hid (by
    refine ⟨fun k k0 kn _ hne => ?_, .inl rfl, Nat.le_refl _⟩
    have hpk := pa_lt k0
    rw [swp_o (k := pa k) hne (by omega), swp_o (k := k) (by omega) (by omega)]
    exact HF.out k k0 (by omega) (Nat.zero_le _))
  clear q1 g1 ms
  go_wp2_with fail
  refine (show Calls Try.prog 38 #[.iface 38 (.pointer (some ⟨P, 0, none⟩)), .int .i64 0, .int .i64 n] w1 (Downed lo P g c (n + 1) n 0 (swp f 0 n) l w1) from down_any lo P g c (n + 1) n 0 _ (by omega) (by omega) (by omega) l w1 HH.out DI.out).mono ?_
  rintro e w2 ⟨⟨b, rfl⟩, f2, H2, F2, E2⟩
  have K2 := Lib.hid (new_only K1.out (Nat.le_trans LW.out H2.1.row.1) H2.2.2.2)
  have J2 : Hid (Kp P g w w2) := Lib.hid (J1.out.trans (Kp.of_grown H2.2.2.2))
  have HH2 := Lib.hid H2; have HF2 := Lib.hid F2
  have ET : Hid (f2 n = f 0) := Lib.hid (by rw [E2 n (Nat.le_refl _), swp_r])
  have mp := to_pop P w2
  clear H2 F2 E2
  go_wp2_with fail
  refine (qPop_any lo P g c n f2 (by omega) w0 w2 HH2.out.1 K2.out LW.out).mono ?_
  rintro e w3 ⟨rfl, q3, k3, j3⟩
  have FIN : Hid (Taken lo P g c n l w0 w (.returned (.iface 30 (.agg #[.int .i64 (f2 n).1, .int .i64 (f2 n).2.1, .int .i64 (f2 n).2.2]))) w3) := Lib.hid ⟨f2 n, f2, rfl, (HH2.out.2.2.1.mem _).2 ⟨n, by omega, rfl⟩, fun u hu => by
    obtain ⟨k, hk, e⟩ := (HS.out.mem u).1 hu
    rw [ET.out, ← e]
    exact heap_min HF.out k hk, q3, fun k hk => HH2.out.2.1 k (by omega), same_pop HH2.out.2.2.1, HF2.out, k3, J2.out.trans j3⟩
  generalize (f2 n).1 = y0 at *
  generalize (f2 n).2.1 = y1 at *
  generalize (f2 n).2.2 = y2 at *
  clear q3 k3 j3 mp
  go_wp2
  go_ret
  exact FIN.out
end Go.Proofs.Ytpkombjmbpgdnaa
