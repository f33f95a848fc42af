/- The lines, one by one: what the iterator of the program hands to a loop's body. Condition: the parts can be read. -/
import Derived.Test.YtpkajdnndognnaaPrtI
import Derived.Test.YtpkajdnndognnaaAppH
import Derived.RangeFuncBox
import Derived.RangeFuncLeaves
import Derived.Shelf.Abstract
import Derived.WalkKit
import Derived.OwnWalkIn
import Derived.TacticsInMore
import Derived.LoopNIn
import Derived.LoopIn
namespace Go.Proofs.Ytpkajdnndognnaa
open Go.RowKit Go.Shelf
attribute [local go_sem] Oper.semAt_some

/-- What a round keeps: whatever lay below n₀, and the three blocks from B on. -/
structure Keep3 (n₀ B : Nat) (w w' : World) : Prop where
  size : w.heap.size ≤ w'.heap.size
  block : ∀ k, k < w.heap.size → (k < n₀ ∨ (B ≤ k ∧ k < B + 3)) → w'.heap[k]? = w.heap[k]?
theorem Keep3.refl (n₀ B : Nat) (w : World) : Keep3 n₀ B w w := ⟨Nat.le_refl _, fun _ _ _ => rfl⟩
theorem Keep3.trans {n₀ B : Nat} {a b c : World} (h : Keep3 n₀ B a b) (k : Keep3 n₀ B b c) : Keep3 n₀ B a c :=
  ⟨Nat.le_trans h.size k.size, fun i hi hc => (k.block i (Nat.lt_of_lt_of_le hi h.size) hc).trans (h.block i hi hc)⟩
theorem Keep3.new {n₀ B : Nat} {a b : World} (h : New a b) : Keep3 n₀ B a b := ⟨h.size, fun i hi _ => h.block i hi⟩
theorem Keep3.b {n₀ B : Nat} {w : World} (h0 : n₀ ≤ w.heap.size) (h3 : B + 3 ≤ w.heap.size) : ∀ (W : World) (l : Nat) (o o' : Obj), w.heap.size ≤ l → W.heap[l]? = some o → o.isCells = false → o.isWalk = false → Keep3 n₀ B W (W.putObj l o') := fun W l o o' hl _ _ _ =>
  ⟨(grownBy_putObj' W l o').size, fun k hk hc => (grownBy_putObj' W l o').block k hk (fun e => by have := Option.some.inj e; omega)⟩
theorem Keep3.cell {n₀ B : Nat} {w w' : World} (h : Keep3 n₀ B w w') {b : Nat} (o : Nat) (hb : b < w.heap.size) (hc : b < n₀ ∨ (B ≤ b ∧ b < B + 3)) : w'.cell? ⟨b, o, none⟩ = w.cell? ⟨b, o, none⟩ := World.cell?_of_block (h.block b hb hc)
theorem Keep3.sts {n₀ B : Nat} {w w' : World} (h : Keep3 n₀ B w w') {A : Option Addr} {n : Nat} {zs : List Int} (hx : Sts 2 w A n zs) (hA : ∀ b off, A = some ⟨b, off, none⟩ → b < n₀) : Sts 2 w' A n zs :=
  ⟨hx.len, fun hn => by
    obtain ⟨b, off, e, hb, hc⟩ := hx.at_ hn
    exact ⟨b, off, e, Nat.lt_of_lt_of_le hb h.size, fun i hi => (h.cell _ hb (.inl (hA b off e))).trans (hc i hi)⟩⟩
/-- The numbers of the first k of N lines, each with the proof that it is one. -/
def upN (N : Nat) : (k : Nat) → k ≤ N → List { k : Nat // k < N }
  | 0, _ => []
  | k + 1, h => upN N k (by omega) ++ [⟨k, h⟩]
theorem upN_len (N : Nat) : ∀ k h, (upN N k h).length = k
  | 0, _ => rfl
  | k + 1, h => by rw [upN, List.length_append, upN_len N k]; rfl
theorem upN_map {α : Type} (N : Nat) (f : Nat → α) : ∀ k h, (upN N k h).map (fun x => f x.1) = (List.range k).map f
  | 0, _ => rfl
  | k + 1, h => by rw [upN, List.map_append, upN_map N f k, List.range_succ, List.map_append]; rfl
def slen : Value → Nat
  | .slice _ n _ => n
  | _ => 0
set_option maxHeartbeats 1000000 in
theorem linesOf_any (A : Option Addr) (n c : Nat) (wd gap : Int) (w : World) :
    Calls Try.prog 43 #[.slice A n c, .int .i64 wd, .int .i64 gap] w fun e w' => e = .returned (.func (.func 63) #[] #[.pointer (some ⟨w.heap.size, 0, none⟩), .pointer (some ⟨w.heap.size + 1, 0, none⟩), .pointer (some ⟨w.heap.size + 2, 0, none⟩)]) ∧ w' = ((w.alloc (.cells #[.slice A n c] 26)).alloc (.cells #[.int .i64 wd] 3)).alloc (.cells #[.int .i64 gap] 3) := by
  go_enter Try.func43, Try.ntmps43
  go_wp2
  go_ret
  exact ⟨rfl, rfl⟩
/-- What a line hands to the body: its parts. -/
def encL (zs : List Int) (n : Nat) (wd gap : Int) (b off c : Nat) (x : { k : Nat // k < nl zs n wd gap }) : Array Value := #[.slice (some ⟨b, off + st zs n wd gap x.1 * 2, none⟩) (ln zs n wd gap (st zs n wd gap x.1)) (c - st zs n wd gap x.1)]
set_option maxRecDepth 100000 in
set_option maxHeartbeats 4000000 in
/-- The iterator, at parts that are valid and at least one. -/
theorem lines1_in (n₀ Bl b off n c : Nat) (zs : List Int) (wd gap : Int) (hok : wrOk zs n wd gap = true) (h0 : 0 < n) (hnc : n ≤ c) (hb : b < n₀) (l : Nat) (J Jx : List { k : Nat // k < nl zs n wd gap } → World → Prop)
    (W : World) (hx : Sts 2 W (some ⟨b, off, none⟩) n zs) (hl : W.cell? ⟨Bl, 0, none⟩ = some (.slice (some ⟨b, off, none⟩) n c)) (hw : W.cell? ⟨Bl + 1, 0, none⟩ = some (.int .i64 wd)) (hg : W.cell? ⟨Bl + 2, 0, none⟩ = some (.int .i64 gap))
    (hJn : ∀ pre W1 W2, J pre W1 → New W1 W2 → J pre W2)
    (hY : ∀ pre x W1, J pre W1 → pre.length < nl zs n wd gap → YieldAt Fence.wide (5 - 1) Try.prog l (encL zs n wd gap b off c x) W1 fun e W' =>
      (e = .returned (.bool true) ∧ J (pre ++ [x]) W' ∧ Keep3 n₀ Bl W1 W') ∨ (e = .returned (.bool false) ∧ Jx (pre ++ [x]) W'))
    (h00 : J [] W) :
    CallsIn Fence.wide 5 Try.prog 63 #[.func (.yield l) #[] #[], .pointer (some ⟨Bl, 0, none⟩), .pointer (some ⟨Bl + 1, 0, none⟩), .pointer (some ⟨Bl + 2, 0, none⟩)] W fun e W' => (∃ v, e = .returned v) ∧
      ((∃ ys, ys = upN (nl zs n wd gap) (nl zs n wd gap) (Nat.le_refl _) ∧ J ys W') ∨ (∃ pre, (∃ k h, pre = upN (nl zs n wd gap) k h) ∧ Jx pre W')) := by
  have n12 := n_le (wrOk_iff.1 hok).1
  have bl2 : Bl + 2 < W.heap.size := World.block_lt_of_cell? W ⟨Bl + 2, 0, none⟩ hg
  have blt : b < W.heap.size := by obtain ⟨b', off', e, hb', _⟩ := hx.at_ h0; simp only [Option.some.injEq, Addr.mk.injEq, and_true] at e; obtain ⟨rfl, rfl⟩ := e; exact hb'
  have VL := Lib.hid (validLines_any (some ⟨b, off, none⟩) n c zs wd gap (by omega) W hx)
  have HX := Lib.hid hx
  refine callsIn_of_wp Try.func63 rfl trivial ?_ rfl
  simp only [Try.ntmps63, List.size_toArray, List.length_cons, List.length_nil, Nat.reduceAdd, Nat.reduceSub, Array.replicate_succ, Array.replicate_zero, List.push_toArray, List.append_toArray, List.nil_append, List.cons_append]
  gi_wp2_with (first | (refine ⟨trivial, ?_⟩; gi_at_call 50; refine (callsIn_wide.2 VL.out).mono ?_; rw [hok]; rintro e w1 ⟨rfl, N1⟩; have N1 := Lib.hid N1; have hl1 := (N1.out.cells Bl 0 (by omega)).trans hl))
  have hw1 := (N1.out.cells (Bl + 1) 0 (by omega)).trans hw
  have hg1 := (N1.out.cells (Bl + 2) 0 (by omega)).trans hg
  have HX1 := Lib.hid (HX.out.new N1.out)
  have J1 := Lib.hid (hJn _ _ _ h00 N1.out)
  have s1 := N1.out.le
  have NP : Hid (0 < nl zs n wd gap) := Lib.hid (by
    rcases Nat.eq_zero_or_pos (nl zs n wd gap) with h | h
    · have := st_nl (zs := zs) (n := n) (wd := wd) (gap := gap); rw [h] at this; simp [st] at this; omega
    · exact h)
  gi_loopw [5] (fun s wr => ∃ (k : Nat) (h : k ≤ nl zs n wd gap), (k < nl zs n wd gap → s = tailS b off (st zs n wd gap k) n c) ∧ (k = nl zs n wd gap → slen s = 0 ∧ ∃ A' c', s = .slice A' 0 c') ∧ Hid (J (upN (nl zs n wd gap) k h) wr) ∧ Hid (Keep3 n₀ Bl w1 wr)) (fun s _ => slen s)
  case atStart => exact ⟨0, Nat.zero_le _, fun _ => by unfold tailS; simp [st], fun h => absurd NP.out (by omega), J1, Lib.hid (Keep3.refl _ _ _)⟩
  case round =>
    obtain ⟨k, hk, hs1, hs2, HJ, HK⟩ := hrel
    have gw := (HK.out.cell 0 (b := Bl + 1) (by omega) (.inr (by omega))).trans hw1
    have gg := (HK.out.cell 0 (b := Bl + 2) (by omega) (.inr (by omega))).trans hg1
    by_cases hlt : k < nl zs n wd gap
    · obtain rfl := hs1 hlt
      have sl := st_lt hlt
      have le := line_in hlt
      have ge := ln_ge (zs := zs) (n := n) (wd := wd) (gap := gap) (st zs n wd gap k)
      have ss := st_succ (zs := zs) (n := n) (wd := wd) (gap := gap) k
      have HXr := HK.out.sts HX1.out (fun b' off' e => by simp only [Option.some.injEq, Addr.mk.injEq, and_true] at e; omega)
      have LL := Lib.hid (lineLength_any b off n c (st zs n wd gap k) zs wd gap hok sl hnc wr HXr)
      have NO := Lib.hid (fun (h : st zs n wd gap (k + 1) = n) => nl_of (zs := zs) (n := n) (wd := wd) (gap := gap) (k := k + 1) (by omega) (by omega))
      have NM := Lib.hid (fun (h : k + 1 = nl zs n wd gap) => (show st zs n wd gap (k + 1) = n by rw [h]; exact st_nl))
      have HY := Lib.hid (fun W1 (hj : J (upN (nl zs n wd gap) k hk) W1) => hY _ ⟨k, hlt⟩ W1 hj (by rw [upN_len]; exact hlt))
      have UP : Hid (upN (nl zs n wd gap) (k + 1) hlt = upN (nl zs n wd gap) k hk ++ [⟨k, hlt⟩]) := Lib.hid rfl
      clear hs1 hs2 HXr
      unfold tailS at LL ⊢
      dsimp only [encL] at HY
      generalize hS : st zs n wd gap k = S at *
      generalize hL : ln zs n wd gap S = L at *
      obtain ⟨p, hp⟩ : ∃ p, n - S = p := ⟨_, rfl⟩
      obtain ⟨r, hr⟩ : ∃ r, c - S = r := ⟨_, rfl⟩
      rw [hp, hr] at LL ⊢
      rw [hr] at HY
      have n0 : (0 : Int) < (p : Int) := by omega
      have lp : (L : Int) ≤ (p : Int) := by omega
      have pr : (p : Int) ≤ (r : Int) := by omega
      have lr : (L : Int) ≤ (r : Int) := by omega
      have l0 : (0 : Int) ≤ (L : Int) := by omega
      have rr : (r : Int) ≤ (r : Int) := Int.le_refl _
      have lpn : L ≤ p := by omega
      have lrn : L ≤ r := by omega
      gi_wp2_with (first | (refine ⟨trivial, ?_⟩; gi_at_call 64; refine (callsIn_wide.2 LL.out).mono ?_; rintro e w2 ⟨rfl, N2⟩; have N2 := Lib.hid N2; obtain ⟨fn, tmps, assign, body, hy, hR⟩ := HY.out w2 (hJn _ _ _ HJ.out N2.out)))
      refine hR.mono ?_
      rintro e W3 (⟨rfl, hJ3, hk3⟩ | ⟨rfl, hJx3⟩)
      · have HJ3 := Lib.hid hJ3
        have HK3 := Lib.hid (HK.out.trans ((Keep3.new N2.out).trans hk3))
        clear hJ3 hk3 hR hy
        by_cases hlast : k + 1 < nl zs n wd gap
        · have sl2 := st_lt hlast
          have hcap : L ≠ r := by omega
          gi_wp2
          go_roundw
          case rel => exact ⟨k + 1, hlt, fun _ => by rw [ss, show off + (S + L) * 2 = off + S * 2 + L * 2 by omega, show n - (S + L) = p - L by omega, show c - (S + L) = r - L by omega], fun h => absurd hlast (by omega), Lib.hid (by rw [UP.out]; exact HJ3.out), HK3⟩
          case measure => simp [slen]; omega
        · have e1 : k + 1 = nl zs n wd gap := by omega
          have e2 := NM.out e1
          obtain rfl : p = L := by omega
          gi_wp2
          all_goals
            go_roundw
            case rel => exact ⟨k + 1, hlt, fun h => absurd h hlast, fun _ => ⟨by simp [slen], ⟨_, _, by first | rfl | simp⟩⟩, Lib.hid (by rw [UP.out]; exact HJ3.out), HK3⟩
            case measure => simp [slen]; omega
      · gi_wp2
        refine bodyPost_ret (results_none rfl _ _ _) rfl ?_
        exact ⟨⟨_, rfl⟩, .inr ⟨_, ⟨k + 1, hlt, UP.out.symm⟩, hJx3⟩⟩
    · have e1 : k = nl zs n wd gap := by omega
      obtain ⟨_, A', c', rfl⟩ := hs2 e1
      subst e1
      gi_wp2
      go_end0
      exact ⟨⟨_, rfl⟩, .inl HJ.out⟩
/-- The iterator's contract, at parts that are valid and at least one. -/
theorem lines_stops (n₀ Bl b off n c : Nat) (zs : List Int) (wd gap : Int) (hok : wrOk zs n wd gap = true) (h0 : 0 < n) (hnc : n ≤ c) (hb : b < n₀) (w : World) (hx : Sts 2 w (some ⟨b, off, none⟩) n zs) (hl : w.cell? ⟨Bl, 0, none⟩ = some (.slice (some ⟨b, off, none⟩) n c)) (hw : w.cell? ⟨Bl + 1, 0, none⟩ = some (.int .i64 wd)) (hg : w.cell? ⟨Bl + 2, 0, none⟩ = some (.int .i64 gap)) :
    SeqStopsK Fence.wide 5 Try.prog 63 #[.pointer (some ⟨Bl, 0, none⟩), .pointer (some ⟨Bl + 1, 0, none⟩), .pointer (some ⟨Bl + 2, 0, none⟩)] (encL zs n wd gap b off c) (Keep3 n₀ Bl) (fun ys => ys = upN (nl zs n wd gap) (nl zs n wd gap) (Nat.le_refl _)) (fun pre => ∃ k h, pre = upN (nl zs n wd gap) k h) (nl zs n wd gap) w := fun l J Jx W hW hJ _ hY h00 =>
  lines1_in n₀ Bl b off n c zs wd gap hok h0 hnc hb l J Jx W (hx.new hW) ((New.cells hW Bl 0 (World.block_lt_of_cell? w ⟨Bl, 0, none⟩ hl)).trans hl) ((New.cells hW (Bl + 1) 0 (World.block_lt_of_cell? w ⟨Bl + 1, 0, none⟩ hw)).trans hw) ((New.cells hW (Bl + 2) 0 (World.block_lt_of_cell? w ⟨Bl + 2, 0, none⟩ hg)).trans hg)
    (fun pre W1 W2 h hN => hJ pre W1 W2 none h (hN.grown none) (fun _ e => by cases e)) hY h00
set_option maxRecDepth 100000 in
set_option maxHeartbeats 2000000 in
/-- The iterator where there is no line. -/
theorem lines0_in (Bl n c : Nat) (A : Option Addr) (zs : List Int) (wd gap : Int) (hok : wrOk zs n wd gap = false ∨ n = 0) (hn : n ≤ 1048576) (l : Nat) (W : World) (hx : Sts 2 W A n zs) (hl : W.cell? ⟨Bl, 0, none⟩ = some (.slice A n c)) (hw : W.cell? ⟨Bl + 1, 0, none⟩ = some (.int .i64 wd)) (hg : W.cell? ⟨Bl + 2, 0, none⟩ = some (.int .i64 gap)) :
    CallsIn Fence.wide 5 Try.prog 63 #[.func (.yield l) #[] #[], .pointer (some ⟨Bl, 0, none⟩), .pointer (some ⟨Bl + 1, 0, none⟩), .pointer (some ⟨Bl + 2, 0, none⟩)] W fun e W' => (∃ v, e = .returned v) ∧ New W W' := by
  have bl2 : Bl + 2 < W.heap.size := World.block_lt_of_cell? W ⟨Bl + 2, 0, none⟩ hg
  have VL := Lib.hid (validLines_any A n c zs wd gap hn W hx)
  cases hv : wrOk zs n wd gap
  · refine callsIn_of_wp Try.func63 rfl trivial ?_ rfl
    simp only [Try.ntmps63, List.size_toArray, List.length_cons, List.length_nil, Nat.reduceAdd, Nat.reduceSub, Array.replicate_succ, Array.replicate_zero, List.push_toArray, List.append_toArray, List.nil_append, List.cons_append]
    gi_wp2_with (first | (refine ⟨trivial, ?_⟩; gi_at_call 50; refine (callsIn_wide.2 VL.out).mono ?_; rw [hv]; rintro e w1 ⟨rfl, N1⟩; have N1 := Lib.hid N1))
    refine bodyPost_ret (results_none rfl _ _ _) rfl ?_
    exact ⟨⟨_, rfl⟩, N1.out⟩
  · obtain rfl : n = 0 := by rcases hok with h | h; rw [h] at hv; cases hv; exact h
    refine callsIn_of_wp Try.func63 rfl trivial ?_ rfl
    simp only [Try.ntmps63, List.size_toArray, List.length_cons, List.length_nil, Nat.reduceAdd, Nat.reduceSub, Array.replicate_succ, Array.replicate_zero, List.push_toArray, List.append_toArray, List.nil_append, List.cons_append]
    gi_wp2_with (first | (refine ⟨trivial, ?_⟩; gi_at_call 50; refine (callsIn_wide.2 VL.out).mono ?_; rw [hv]; rintro e w1 ⟨rfl, N1⟩; have N1 := Lib.hid N1; have hl1 := (N1.out.cells Bl 0 (by omega)).trans hl))
    gi_loopw [5] (fun s wr => s = .slice A 0 c ∧ wr = w1) (fun _ _ => 0)
    case atStart => exact ⟨rfl, rfl⟩
    case round =>
      obtain ⟨rfl, rfl⟩ := hrel
      gi_wp2
      go_end0
      exact ⟨⟨_, rfl⟩, N1.out⟩
theorem lines_none (n₀ Bl n c : Nat) (A : Option Addr) (zs : List Int) (wd gap : Int) (b off c2 : Nat) (hok : wrOk zs n wd gap = false ∨ n = 0) (hn : n ≤ 1048576) (w : World) (hx : Sts 2 w A n zs) (hl : w.cell? ⟨Bl, 0, none⟩ = some (.slice A n c)) (hw : w.cell? ⟨Bl + 1, 0, none⟩ = some (.int .i64 wd)) (hg : w.cell? ⟨Bl + 2, 0, none⟩ = some (.int .i64 gap)) :
    SeqStopsK Fence.wide 5 Try.prog 63 #[.pointer (some ⟨Bl, 0, none⟩), .pointer (some ⟨Bl + 1, 0, none⟩), .pointer (some ⟨Bl + 2, 0, none⟩)] (encL zs n wd gap b off c2) (Keep3 n₀ Bl) (fun ys => ys = []) (fun _ => False) 0 w := fun l J Jx W hW hJ _ _ h00 =>
  (lines0_in Bl n c A zs wd gap hok hn l W (hx.new hW) ((New.cells hW Bl 0 (World.block_lt_of_cell? w ⟨Bl, 0, none⟩ hl)).trans hl) ((New.cells hW (Bl + 1) 0 (World.block_lt_of_cell? w ⟨Bl + 1, 0, none⟩ hw)).trans hw) ((New.cells hW (Bl + 2) 0 (World.block_lt_of_cell? w ⟨Bl + 2, 0, none⟩ hg)).trans hg)).mono
    fun e W' ⟨h1, h2⟩ => ⟨h1, .inl ⟨[], rfl, hJ [] W W' none h00 (h2.grown none) (fun _ e => by cases e)⟩⟩
end Go.Proofs.Ytpkajdnndognnaa
