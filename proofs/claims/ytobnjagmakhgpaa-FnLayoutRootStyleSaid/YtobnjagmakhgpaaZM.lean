/- Parts that belong together: Repeat, Spare. Conditions: as each part says. -/
import Derived.Test.YtobnjagmakhgpaaZC
import Derived.Laws.CopyOwn
import Derived.Deep.RegionLaw
import Derived.RegionTactic
import Derived.BigRegion
import Derived.Test.YtobnjagmakhgpaaZL
import Derived.Test.YtobnjagmakhgpaaZK
import Derived.Deep.RegionHeld3
/- A list of ones: slices.Repeat of a list of one number, at most seven times. No condition. -/
namespace Go.Proofs.Ytobnjagmakhgpaa
open Go.RowKit

theorem eight {c : Nat} (h : c < 8) : c = 0 ∨ c = 1 ∨ c = 2 ∨ c = 3 ∨ c = 4 ∨ c = 5 ∨ c = 6 ∨ c = 7 := by omega
theorem pair_end {a b : Int} (ha : a = 0) {c : Int} (hb : b = c) : Ending.returned (.tuple #[.int .u64 a, .int .u64 b]) = .returned (.tuple #[.int .u64 0, .int .u64 c]) := by rw [ha, hb]
set_option maxHeartbeats 1000000 in
theorem Mul64_small (c : Nat) (h : c < 8) (w : World) :
    Calls Try.prog 152 #[.int .u64 1, .int .u64 c] w fun e w' => e = .returned (.tuple #[.int .u64 0, .int .u64 c]) ∧ w = w' := by
  rcases eight h with rfl | rfl | rfl | rfl | rfl | rfl | rfl | rfl
  all_goals
    go_enter Try.func152, Try.ntmps152
    go_wp2
    go_ret2
    exact ⟨pair_end (by decide +kernel) (by decide +kernel), rfl⟩
set_option maxHeartbeats 1000000 in
theorem Mul_small (c : Nat) (h : c < 8) (w : World) :
    Calls Try.prog 150 #[.int .u64 1, .int .u64 c] w fun e w' => e = .returned (.tuple #[.int .u64 0, .int .u64 c]) ∧ w = w' := by
  go_enter Try.func150, Try.ntmps150
  go_wp2_with fail
  refine (Mul64_small c h _).mono ?_
  rintro e w' ⟨rfl, rfl⟩
  go_wp2
  go_ret2
  exact ⟨rfl, rfl⟩
/-- Block g holds just the numbers zs. -/
def Blk (w : World) (g : Nat) (zs : List Int) : Prop := w.heap[g]? = some (.cells (zs.map (Value.int .i64)).toArray 3 (0, 0))
theorem Blk.row {w : World} {g : Nat} {zs : List Int} (h : Blk w g zs) : Row w g zs := by
  unfold Blk at h
  have hlt : g < w.heap.size := by
    rcases Nat.lt_or_ge g w.heap.size with h1 | h1
    · exact h1
    · rw [Array.getElem?_eq_none h1] at h; cases h
  refine ⟨hlt, fun i hi => ?_, fun i _ => by simp [World.frozen?, h]⟩
  rw [cell_of_row w g i _ 3 (0, 0) h]
  simp [hi]
theorem Blk.new {w w' : World} {g : Nat} {zs : List Int} (h : Blk w g zs) (k : New w w') : Blk w' g zs := (k.block g h.row.lt).trans h
theorem Blk.made (w : World) (n : Nat) : Blk (w.alloc (.cells (madeCells #[.int .i64 0] n) 3)) w.heap.size (List.replicate n 0) := by
  have e : (madeCells #[Value.int .i64 0] n) = ((List.replicate n (0 : Int)).map (Value.int .i64)).toArray := by
    apply Array.ext
    · simp [madeCells]
    · intro i h1 h2
      simp [madeCells, Nat.mod_one]
  unfold Blk
  rw [← e]
  exact heap_alloc_new w _
theorem size_int : (Try.prog.info? 3).map (·.size) = some 1 := by kernel_rfl
/-- The first n are one, the others 0. -/
def oneTo (n c : Nat) : List Int := List.replicate n 1 ++ List.replicate (c - n) 0
theorem oneTo_splice (n m c : Nat) : splice (oneTo n c) n (List.replicate m (1 : Int)) = oneTo (n + m) c := by
  unfold splice oneTo
  rw [List.take_append_of_le_length (by simp), List.drop_append]
  simp
  rw [show c - n - m = c - (n + m) by omega]
  have e : List.replicate (n + m) (1 : Int) = List.replicate n 1 ++ List.replicate m 1 := by rw [List.replicate_append_replicate]
  rw [e, List.append_assoc]
theorem splice_map (L : List Int) (off : Nat) (cs : List Int) : splice (L.map (Value.int .i64)) off (cs.map (Value.int .i64)) = (splice L off cs).map (Value.int .i64) := by
  unfold splice
  simp
theorem src_of {w : World} {A : Option Addr} {n m : Nat} {xs : List Int} (hx : Ints w A n xs) (hm : m ≤ n) (h0 : 0 < m) : ∃ ad, A = some ad ∧ ∀ (j : Nat) (v : Value), ((xs.take m).map (Value.int .i64))[j]? = some v → w.cell? (ad.add j) = some v := by
  obtain ⟨b, off, rfl, hb, hc⟩ := hx.at_ (by omega)
  refine ⟨_, rfl, fun j v hv => ?_⟩
  have hl := hx.len
  have hj : j < m := by
    rcases Nat.lt_or_ge j m with h1 | h1
    · exact h1
    · rw [List.getElem?_eq_none (by simp; omega)] at hv; cases hv
  have e : v = .int .i64 (xs.getD j 0) := by
    simp [hj] at hv
    obtain ⟨z, hz, rfl⟩ := hv
    simp [hz]
  rw [e, Go.WideShapes.add_plain]
  exact hc j (by omega)
theorem ones_cell (xs : List Int) : ∀ v ∈ xs.map (Value.int .i64), v.oneCell' = true := fun u hu => by
  obtain ⟨z, _, rfl⟩ := List.mem_map.1 hu
  rfl
/-- Numbers are copied into a block of the call's own that is known whole. -/
theorem run_cp (w : World) (ty : TypeId) (g off dLen dCap : Nat) (A : Option Addr) (n c : Nat) (xs : List Int) (cur : List Int) (hg : Blk w g cur) (hx : Ints w A n xs) (m : Nat) (hm : m = Nat.min n dLen) (hfit : off + m ≤ cur.length) :
    ∃ w', (Builtin.copy_ #[31, 31] ty #[.slice (some ⟨g, off, none⟩) dLen dCap, .slice A n c]).run Try.prog w = .ok (.int .i64 m) w' ∧ Blk w' g (splice cur off (xs.take m)) ∧ ∀ w0, New w0 w → w0.heap.size ≤ g → New w0 w' := by
  have hmn : m ≤ n := by rw [hm]; exact Nat.min_le_left _ _
  have hlen : ((xs.take m).map (Value.int .i64)).length = m := by have := hx.len; simp; omega
  rcases Nat.eq_zero_or_pos m with h0 | h0
  · refine ⟨w, ?_, ?_, fun _ h _ => h⟩
    · rw [run_copy_none (P := Try.prog) w 31 31 ty 3 _ A dLen dCap n c Try.underlying31 size_int (by rw [← hm]; exact h0), h0]
      rfl
    · rw [h0]
      simpa [splice] using hg
  · obtain ⟨ad, rfl, hsrc⟩ := src_of hx hmn h0
    refine ⟨_, (run_copy_row (P := Try.prog) w 31 31 ty 3 g off dLen dCap ad n c (cur.map (Value.int .i64)).toArray 3 ((xs.take m).map (Value.int .i64)) Try.underlying31 size_int hg (by rw [hlen, hm]) hsrc (by rw [hlen]; simpa using hfit) (ones_cell _)).trans (by rw [hlen]; rfl), ?_, fun w0 h hl => below_setRow h hl _⟩
    unfold Blk
    have h := setRow_heap w g (cur.map (Value.int .i64)).toArray (((cur.map (Value.int .i64)).take off ++ (xs.take m).map (Value.int .i64) ++ (cur.map (Value.int .i64)).drop (off + m)).toArray) 3 (0, 0) hg
    refine h.trans ?_
    congr 2
    rw [← splice_map]
    unfold splice
    rw [hlen, List.append_assoc]
theorem step_copy {w : World} {ops : Array Oper} {o : Oper} {a : Act} {K : Act → World → Prop} {Q : Exit → Act → World → Prop} {E : Prop} (hgd : o.guard = none) (d s : Operand)
    (ho : o.op = .call { callee := .builtin .copy, args := #[d, s], argTypes := #[31, 31] }) (g off dLen dCap : Nat) (hd : a.eval d = .slice (some ⟨g, off, none⟩) dLen dCap)
    (A : Option Addr) (n c : Nat) (xs : List Int) (hs : a.eval s = .slice A n c) (cur : List Int) (hg : Blk w g cur) (hx : Ints w A n xs) (m : Nat) (hm : m = Nat.min n dLen) (hfit : off + m ≤ cur.length) (w0 : World) (hN : New w0 w) (hl : w0.heap.size ≤ g)
    (h : ∀ w', Hid (Blk w' g (splice cur off (xs.take m))) → New w0 w' → K (a.put o.dst (.int .i64 m)) w') :
    if Region.wanted o (yielded ops a.tmps) = true then Oper.wp Try.prog o a w K Q else E := by
  have hmn : m ≤ n := by rw [hm]; exact Nat.min_le_left _ _
  have hlen : ((xs.take m).map (Value.int .i64)).length = m := by have := hx.len; simp; omega
  refine step_copy_splice hgd d s 31 31 ho 3 Try.underlying31 size_int _ A dLen dCap n c hd hs g off (cur.map (Value.int .i64)) 3 hg ((xs.take m).map (Value.int .i64)) (by rw [hlen, hm]) (fun h0 => ⟨rfl, src_of hx hmn (by omega)⟩) (by rw [hlen, List.length_map]; exact hfit) (ones_cell _) w0.heap.size w0 hN hl ?_
  intro w' hw' hb
  have e : goInt ((xs.take m).map (Value.int .i64)).length = .int .i64 m := by rw [hlen]; rfl
  rw [e]
  refine h w' (show Blk w' g _ from ?_) hb
  have h2 := hw'.out
  rw [splice_map] at h2
  exact h2
theorem oneTo_len (n c : Nat) (h : n ≤ c) : (oneTo n c).length = c := by unfold oneTo; simp; omega
set_option maxRecDepth 100000 in
set_option maxHeartbeats 4000000 in
theorem Repeat_any (c : Nat) (h : c < 8) (A : Option Addr) (d : Nat) (w : World) (hx : Ints w A 1 [1]) :
    Calls Try.prog 149 #[.slice A 1 d, .int .i64 c] w fun e w' => ∃ g, e = .returned (.slice (some ⟨g, 0, none⟩) c c) ∧ w.heap.size ≤ g ∧ Row w' g (onesL c) ∧ New w w' := by
  have hmk := fun W => run_make_row' (P := Try.prog) 31 3 (.int .i64 0) 8 Try.underlying31 (by kernel_rfl) rfl .i64 .i64 c (by omega) (by omega) W
  have HX := Lib.hid hx
  obtain ⟨b, off, rfl, hb, hc⟩ := hx.at_ (by omega)
  have g0 := hc 0 (by omega)
  clear hx hc
  have c0 : (0 : Int) ≤ (c : Int) := by omega
  have c8 : (c : Int) < 8 := by omega
  have hh := Lib.hid h
  clear h
  go_enter Try.func149, Try.ntmps149
  go_wp2_with fail
  refine (Mul_small c hh.out _).mono ?_
  rintro e w' ⟨rfl, rfl⟩
  have B0 := Blk.made w c
  have N0 : New w (w.alloc (.cells (madeCells #[.int .i64 0] c) 3)) := by (repeat (first | exact New.refl _ | assumption | refine New.alloc ?_ _ | refine New.drew ?_ | refine New.drewN ?_ _ | refine New.setCell ?_ (by first | omega | (simp; omega) | (simp; done)) _ | refine New.trans ?_ (by assumption)))
  have z0 : w.heap.size ≤ (w.alloc (.cells (madeCells #[.int .i64 0] c) 3)).heap.size := N0.le
  rcases Nat.eq_zero_or_pos c with rfl | h1
  · obtain ⟨w2, hcp, B2, N2⟩ := run_cp _ 3 w.heap.size 0 0 0 (some ⟨b, off, none⟩) 1 d [1] _ B0 (HX.out.new N0) 0 rfl (by simp)
    have N2 := Lib.hid (N2 w N0 (Nat.le_refl _))
    have B2' : Hid (Row w2 w.heap.size (onesL 0)) := Lib.hid (by have h := B2.row; simpa [onesL, splice] using h)
    have hmk0 : ∀ W : World, (Instr.makeSlice 31 (.int .i64 0) (.int .i64 0)).run Try.prog W = .ok (.slice (some ⟨W.heap.size, 0, none⟩) 0 0) (W.alloc (.cells (madeCells #[.int .i64 0] 0) 3)) := fun W => hmk W
    clear hmk
    clear B0 N0 z0 B2
    go_wp2
    go_loopw [8] (fun k wr => k = .int .i64 0 ∧ wr = w2) (fun _ _ => 0)
    case atStart => exact ⟨rfl, rfl⟩
    case round =>
      obtain ⟨rfl, rfl⟩ := hrel
      go_wp2
      go_ret
      exact ⟨_, rfl, Nat.le_refl _, B2'.out, N2.out⟩
  · obtain ⟨w2, hcp, B2, N2⟩ := run_cp _ 3 w.heap.size 0 c c (some ⟨b, off, none⟩) 1 d [1] _ B0 (HX.out.new N0) 1 (Nat.min_eq_left h1).symm (by simp; omega)
    have N2 := Lib.hid (N2 w N0 (Nat.le_refl _))
    have B2' : Hid (Blk w2 w.heap.size (oneTo 1 c)) := Lib.hid (by
      have h : splice (oneTo 0 c) 0 (List.replicate 1 (1 : Int)) = oneTo 1 c := by rw [oneTo_splice]
      have e : oneTo 0 c = List.replicate c 0 := by simp [oneTo]
      rw [e] at h
      have h2 := B2
      rw [show List.take 1 [(1 : Int)] = List.replicate 1 1 from rfl, h] at h2
      exact h2)
    clear B0 N0 z0 B2
    go_wp2
    go_loopw [8] (fun s wr => ∃ k : Nat, 1 ≤ k ∧ k ≤ c ∧ s = .int .i64 k ∧ Hid (Blk wr w.heap.size (oneTo k c)) ∧ Hid (New w wr)) (fun s _ => c - (intOf s).toNat)
    case atStart => exact ⟨1, Nat.le_refl _, h1, rfl, B2', N2⟩
    case round =>
      obtain ⟨k, hk1, hk, rfl, HB, HN⟩ := hrel
      by_cases hlt : k < c
      · obtain ⟨m, hm, m1, m2⟩ : ∃ m, m = Nat.min k (c - k) ∧ 1 ≤ m ∧ k + m ≤ c := ⟨Nat.min k (c - k), rfl, by have h1 := Nat.min_le_left k (c - k); have h2 := Nat.min_le_right k (c - k); have h3 : Nat.min k (c - k) = if k ≤ c - k then k else c - k := rfl; split at h3 <;> omega, by have h2 := Nat.min_le_right k (c - k); have h3 : Nat.min k (c - k) ≤ c - k := h2; omega⟩
        have S : Hid (Ints wr (some ⟨w.heap.size, 0, none⟩) k (List.replicate k 1)) := Lib.hid ⟨by simp, fun _ => ⟨w.heap.size, 0, rfl, HB.out.row.lt, fun i hi => by
          have h := HB.out.row.c i (by rw [oneTo_len k c hk]; omega)
          have e : (oneTo k c).getD i 0 = (List.replicate k (1 : Int)).getD i 0 := by unfold oneTo; simp [List.getElem?_append_left, hi]
          rw [e] at h
          simpa using h⟩⟩
        have HM := Lib.hid hm
        have k0 : (0 : Int) ≤ (k : Int) := by omega
        have kc : (k : Int) < (c : Int) := by omega
        have kc' : (k : Int) ≤ (c : Int) := by omega
        have hne : ¬ c = k := by omega
        have mm : (m : Int) ≤ 8 := by omega
        have m0 : (0 : Int) ≤ (m : Int) := by omega
        have LO := Lib.hid (oneTo_len k c hk)
        clear hm
        have HBd : Hid (Blk wr.drew w.heap.size (oneTo k c)) := Lib.hid HB.out
        have Sd : Hid (Ints wr.drew (some ⟨w.heap.size, 0, none⟩) k (List.replicate k 1)) := Lib.hid ⟨S.out.len, S.out.at_⟩
        have HNd : Hid (New w wr.drew) := Lib.hid HN.out.drew
        clear HB S HN
        obtain ⟨w3, hcp2, B3, N3⟩ := run_cp wr.drew 3 w.heap.size k (c - k) (c - k) (some ⟨w.heap.size, 0, none⟩) k c (List.replicate k 1) (oneTo k c) HBd.out Sd.out m HM.out (by rw [LO.out]; omega)
        have N3 := Lib.hid (N3 w HNd.out (Nat.le_refl _))
        have B3 : Hid (Blk w3 w.heap.size (oneTo (k + m) c)) := Lib.hid (by
          have hk2 : m ≤ k := by rw [HM.out]; exact Nat.min_le_left _ _
          have e : (List.replicate k (1 : Int)).take m = List.replicate m 1 := by rw [List.take_replicate, Nat.min_eq_left hk2]
          rw [e, oneTo_splice] at B3
          exact B3)
        go_wp2
        go_region
        go_wp2
        go_roundw
        case rel => exact ⟨k + m, by omega, m2, by go_num, B3, N3⟩
        case measure => simp [intOf]; omega
      · obtain rfl : k = c := by omega
        have BR : Hid (Row wr w.heap.size (onesL k)) := Lib.hid (by have h := HB.out.row; simpa [oneTo, onesL] using h)
        go_wp2
        go_ret
        exact ⟨_, rfl, Nat.le_refl _, BR.out, HN.out⟩
end Go.Proofs.Ytobnjagmakhgpaa

/- The program's spareInFront, walked: what is in front of each size, by the way to justify. Condition: a spare space and up to eight sizes. -/
namespace Go.Proofs.Ytobnjagmakhgpaa
open Go.RowKit

/-- What is in front of each of n sizes. -/
def frontL (s : Int) (n : Nat) (j : Int) : List Int :=
  if j = 1 then (List.replicate n 0).set 0 s else if j = 2 then (List.replicate n 0).set 0 (s / 2) else if j = 3 then splice (List.replicate n 0) 1 (shareA s (onesL (n - 1))) else List.replicate n 0
theorem shareA_ones (s : Int) (n : Nat) (hs : 0 ≤ s ∧ s ≤ 200000) (hn : n ≤ 8) : (shareA s (onesL (n - 1))).length = n - 1 := by
  unfold shareA
  by_cases h : 1 ≤ n - 1
  · have ok : shOk s (onesL (n - 1)) = true := by
      unfold shOk
      rw [Bool.and_eq_true, decide_eq_true_eq]
      exact ⟨hs, rowB_iff.2 ⟨by rw [ones_len]; omega, ones_wts _⟩⟩
    rw [if_pos ok, shareL_len, ones_len]
  · have ok : ¬ shOk s (onesL (n - 1)) = true := by
      unfold shOk
      rw [Bool.and_eq_true]
      intro h'
      have := (rowB_len h'.2).1
      rw [ones_len] at this
      omega
    rw [if_neg ok]
    simp; omega
theorem ints1 {w : World} {g : Nat} {z : Int} (h : w.cell? ⟨g, 0, none⟩ = some (.int .i64 z)) : Ints w (some ⟨g, 0, none⟩) 1 [z] :=
  ⟨rfl, fun _ => ⟨g, 0, rfl, World.block_lt_of_cell? w _ h, fun i hi => by
    obtain rfl : i = 0 := by omega
    exact h⟩⟩
theorem Repeat_any' (c : Nat) (z : Int) (hz : z = (c : Int)) (h : c < 8) (A : Option Addr) (d : Nat) (w : World) (hx : Ints w A 1 [1]) :
    Calls Try.prog 149 #[.slice A 1 d, .int .i64 z] w fun e w' => ∃ g, e = .returned (.slice (some ⟨g, 0, none⟩) c c) ∧ w.heap.size ≤ g ∧ Row w' g (onesL c) ∧ New w w' := by
  subst hz
  exact Repeat_any c h A d w hx
set_option maxRecDepth 100000 in
set_option maxHeartbeats 4000000 in
theorem spare_any (s : Int) (n : Nat) (j : Int) (hs : 0 ≤ s ∧ s ≤ 200000) (hn : 1 ≤ n ∧ n ≤ 8) (w : World) :
    Calls Try.prog 148 #[.int .i64 s, .int .i64 n, .int .i64 j] w fun e w' => ∃ g, e = .returned (.slice (some ⟨g, 0, none⟩) n n) ∧ w.heap.size ≤ g ∧ Row w' g (frontL s n j) ∧ New w w' := by
  obtain ⟨n1, n8⟩ := hn
  obtain ⟨s0, s1⟩ := hs
  obtain ⟨W0, hmk, B0, N0⟩ : ∃ W0, (Instr.makeSlice 31 (.int .i64 (n : Int)) (.int .i64 (n : Int))).run Try.prog w = .ok (.slice (some ⟨w.heap.size, 0, none⟩) n n) W0 ∧ Blk W0 w.heap.size (List.replicate n 0) ∧ New w W0 :=
    ⟨_, run_make_row' (P := Try.prog) 31 3 (.int .i64 0) 8 Try.underlying31 (by kernel_rfl) rfl .i64 .i64 n (by omega) (by omega) w, Blk.made w n, by (repeat (first | exact New.refl _ | assumption | refine New.alloc ?_ _ | refine New.drew ?_ | refine New.drewN ?_ _ | refine New.setCell ?_ (by first | omega | (simp; omega) | (simp; done)) _ | refine New.trans ?_ (by assumption)))⟩
  have i1 : (1 : Int) ≤ (n : Int) := by omega
  have i8 : (n : Int) ≤ 8 := by omega
  have f0 := B0.row.f 0 (by simp; omega)
  have o0 := B0.row.c 0 (by simp; omega)
  have BH := Lib.hid B0; have NH := Lib.hid N0
  have zz := B0.row.lt
  clear B0 N0
  generalize (List.replicate n (0 : Int)).getD 0 0 = z0 at o0
  by_cases h1 : j = 1
  · subst h1
    go_enter Try.func148, Try.ntmps148
    go_wp2
    go_ret
    exact ⟨_, rfl, Nat.le_refl _, BH.out.row.set_ (by simp; omega) s, NH.out.setCell (Nat.le_refl _) _⟩
  by_cases h2 : j = 2
  · subst h2
    clear h1
    go_enter Try.func148, Try.ntmps148
    go_wp2
    go_ret
    exact ⟨_, rfl, Nat.le_refl _, BH.out.row.set_ (by simp; omega) (s / 2), NH.out.setCell (Nat.le_refl _) _⟩
  by_cases h3 : j = 3
  · subst h3
    clear h1 h2
    by_cases hk : n = 1
    · subst hk
      have hmk1 : (Instr.makeSlice 31 (.int .i64 1) (.int .i64 1)).run Try.prog w = .ok (.slice (some ⟨w.heap.size, 0, none⟩) 1 1) W0 := hmk
      clear hmk
      have HH := Lib.hid (shareA_ones s 1 ⟨s0, s1⟩ n8)
      go_enter Try.func148, Try.ntmps148
      go_wp2
      go_region_held3 (fun w' => Hid (New w w'))
        (first | assumption | (refine Lib.hid (NH.out.trans ?_); ((repeat (first | exact New.refl _ | assumption | refine New.alloc ?_ _ | refine New.drew ?_ | refine New.drewN ?_ _ | refine New.setCell ?_ (by first | omega | (simp; omega) | (simp; done)) _ | refine New.trans ?_ (by assumption))); done)))
        (first
          | (go_at_call 149; refine (Repeat_any' 0 0 (by omega) (by omega) _ 1 _ (ints1 (by simp [go_sem]))).mono ?_; rintro e w2 ⟨g2, rfl, hg2, R2, N2⟩; (have B2 : Hid (Blk w2 w.heap.size (List.replicate 1 0)) := Lib.hid (BH.out.new (New.trans (by (repeat (first | exact New.refl _ | assumption | refine New.alloc ?_ _ | refine New.drew ?_ | refine New.drewN ?_ _ | refine New.setCell ?_ (by first | omega | (simp; omega) | (simp; done)) _ | refine New.trans ?_ (by assumption)))) N2))); (have I2 := R2.ints); (rw [ones_len] at I2); (have I2 := Lib.hid I2); (have N2 := Lib.hid (NH.out.trans (New.trans (by (repeat (first | exact New.refl _ | assumption | refine New.alloc ?_ _ | refine New.drew ?_ | refine New.drewN ?_ _ | refine New.setCell ?_ (by first | omega | (simp; omega) | (simp; done)) _ | refine New.trans ?_ (by assumption)))) N2))); clear R2)
          | (go_at_call 83; refine (ShareSpace_ans s (onesL 0) _ 0 _ _ I2.out (by omega)).mono ?_; rintro e w3 ⟨A3, n3, c3, rfl, l3, R3, N3⟩; (have B3 : Hid (Blk w3 w.heap.size (List.replicate 1 0)) := Lib.hid (B2.out.new N3)); (have N3 := Lib.hid (N2.out.trans N3)); (have I3 := Lib.hid (R3.ints l3)); (obtain ⟨w4, hcp, B4, N4⟩ := run_cp w3 3 w.heap.size 0 0 0 A3 n3 c3 _ _ B3.out I3.out 0 (by rw [← l3, HH.out]; exact (Nat.min_self _).symm) (by first | omega | (simp; done) | (simp; omega))); (have N4 := Lib.hid (N4 w N3.out (Nat.le_refl _))); (have B4 := Lib.hid B4); clear R3))
      go_wp2
      go_ret
      refine ⟨_, rfl, Nat.le_refl _, ?_, N4.out⟩
      have h := B4.out.row
      unfold frontL
      rw [if_neg (by omega), if_neg (by omega), if_pos rfl]
      have e : shareA s (onesL 0) = [] := List.eq_nil_of_length_eq_zero HH.out
      rw [Nat.sub_self, e]
      rw [e] at h
      simpa [splice] using h
    · have hn2 : 2 ≤ n := by omega
      have hi2 : (2 : Int) ≤ (n : Int) := by omega
      have HH := Lib.hid (shareA_ones s n ⟨s0, s1⟩ n8)
      have iw : IntKind.i64.wrap ((n : Int) - 1) = (n : Int) - 1 := IntWalk.i64_in _ (by omega)
      go_enter Try.func148, Try.ntmps148
      go_wp2
      go_region_held3 (fun w' => Hid (New w w'))
        (first | assumption | (refine Lib.hid (NH.out.trans ?_); ((repeat (first | exact New.refl _ | assumption | refine New.alloc ?_ _ | refine New.drew ?_ | refine New.drewN ?_ _ | refine New.setCell ?_ (by first | omega | (simp; omega) | (simp; done)) _ | refine New.trans ?_ (by assumption))); done)))
        (first
          | (go_at_call 149; refine (Repeat_any' (n - 1) ((n : Int) - 1) (by omega) (by omega) _ 1 _ (ints1 (by simp [go_sem]))).mono ?_; rintro e w2 ⟨g2, rfl, hg2, R2, N2⟩; (have B2 : Hid (Blk w2 w.heap.size (List.replicate n 0)) := Lib.hid (BH.out.new (New.trans (by (repeat (first | exact New.refl _ | assumption | refine New.alloc ?_ _ | refine New.drew ?_ | refine New.drewN ?_ _ | refine New.setCell ?_ (by first | omega | (simp; omega) | (simp; done)) _ | refine New.trans ?_ (by assumption)))) N2))); (have I2 := R2.ints); (rw [ones_len] at I2); (have I2 := Lib.hid I2); (have N2 := Lib.hid (NH.out.trans (New.trans (by (repeat (first | exact New.refl _ | assumption | refine New.alloc ?_ _ | refine New.drew ?_ | refine New.drewN ?_ _ | refine New.setCell ?_ (by first | omega | (simp; omega) | (simp; done)) _ | refine New.trans ?_ (by assumption)))) N2))); clear R2)
          | (go_at_call 83; refine (ShareSpace_ans s (onesL (n - 1)) _ (n - 1) _ _ I2.out (by omega)).mono ?_; rintro e w3 ⟨A3, n3, c3, rfl, l3, R3, N3⟩; (have B3 : Hid (Blk w3 w.heap.size (List.replicate n 0)) := Lib.hid (B2.out.new N3)); (have N3 := Lib.hid (N2.out.trans N3)); (have I3 := Lib.hid (R3.ints l3)); (obtain ⟨w4, hcp, B4, N4⟩ := run_cp w3 3 w.heap.size 1 (n - 1) (n - 1) A3 n3 c3 _ _ B3.out I3.out (n - 1) (by rw [← l3, HH.out]; exact (Nat.min_self _).symm) (by first | omega | (simp; done) | (simp; omega))); (have N4 := Lib.hid (N4 w N3.out (Nat.le_refl _))); (have B4 := Lib.hid B4); clear R3))
      go_wp2
      go_ret
      refine ⟨_, rfl, Nat.le_refl _, ?_, N4.out⟩
      have h := B4.out.row
      unfold frontL
      rw [if_neg (by omega), if_neg (by omega), if_pos rfl]
      rw [List.take_of_length_le (by rw [HH.out]; exact Nat.le_refl _)] at h
      exact h
  · go_enter Try.func148, Try.ntmps148
    go_wp2
    go_ret
    refine ⟨_, rfl, Nat.le_refl _, ?_, NH.out⟩
    unfold frontL
    rw [if_neg h1, if_neg h2, if_neg h3]
    exact BH.out.row
end Go.Proofs.Ytobnjagmakhgpaa
