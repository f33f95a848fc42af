/- Parts that belong together: PtM, PtA, RfS, SqI, PtP, PtE, HandS, DoorN, LawEParseTree. Conditions: as each part says. -/
import Derived.Test.YtffggmjhaaehlaaGreatDoorPbM
import Derived.Test.YtffggmjhaaehlaaGreatDoorPbW
import Derived.Test.YtffggmjhaaehlaaGreatDoorTreeE
import Derived.WalkKit
import Derived.Test.YtffggmjhaaehlaaGreatDoorSPbX
import Derived.RangeFuncBox
import Derived.RangeFuncLeaves
import Derived.RangeFuncCalls
import Derived.Shelf.Abstract
import Derived.Test.YtffggmjhaaehlaaGreatDoorTreeN
import Derived.OwnWalkIn
import Derived.TacticsInMore
import Derived.LoopNIn
import Derived.LoopIn
import Derived.Test.YtffggmjhaaehlaaGreatDoorSPbT
import Derived.Test.YtffggmjhaaehlaaGreatDoorPbR
import Derived.Shelf.RegionOpen
import Derived.Test.YtffggmjhaaehlaaGreatDoorAnsT
import Derived.HandedShaped
import Derived.Handed
import Derived.Lay
import Derived.Test.YtffggmjhaaehlaaGreatDoorBoxH
import Derived.Test.YtffggmjhaaehlaaGreatDoorTxtP
/- How many pieces a text has whose pieces are not empty: plain. No condition. -/
namespace Go.Proofs.YtffggmjhaaehlaaGreatDoor

theorem pcs_sum (c : UInt8) : ∀ l : List UInt8, ((pcs c l).map (fun x => x.length + 1)).sum = l.length + 1
  | [] => rfl
  | b :: r => by
    have ih := pcs_sum c r
    obtain ⟨h, t, e⟩ := pcs_ne c r
    rw [e] at ih
    simp only [List.map_cons, List.sum_cons] at ih
    rw [pcs_cons, e]
    split
    · simp only [List.map_cons, List.sum_cons, List.length_nil, List.length_cons]
      omega
    · simp only [List.headD_cons, List.tail_cons, List.map_cons, List.sum_cons, List.length_cons, List.length_append, List.length_nil]
      omega
theorem sum_two : ∀ (ls : List (List UInt8)) (k : Nat), k ≤ ls.length → (∀ i, i < k → 1 ≤ (ls.getD i []).length) → 2 * k ≤ (ls.map (fun x => x.length + 1)).sum
  | _, 0, _, _ => Nat.zero_le _
  | [], k + 1, hk, _ => by simp at hk
  | x :: r, k + 1, hk, h => by
    have ih := sum_two r k (by simpa using hk) (fun i hi => by have := h (i + 1) (by omega); simpa using this)
    have h0 := h 0 (by omega)
    simp only [List.getD_cons_zero] at h0
    simp only [List.map_cons, List.sum_cons]
    omega
theorem pcs_two {c : UInt8} {l : List UInt8} {k : Nat} (hk : k ≤ (pcs c l).length) (h : ∀ i, i < k → 1 ≤ ((pcs c l).getD i []).length) : 2 * k ≤ l.length + 1 := by
  rw [← pcs_sum c l]
  exact sum_two _ _ hk h
end Go.Proofs.YtffggmjhaaehlaaGreatDoor

/- The texts' iterator made, and a tree handed on where it is valid. Condition: the tree can be read. -/
namespace Go.Proofs.YtffggmjhaaehlaaGreatDoor
open Go.RowKit

theorem ifValidTree_any (A : Option Addr) (n c : Nat) (zs : List Int) (hn : n ≤ 1048576) (w : World) (hx : Sts 9 w A n zs) :
    Calls Tryz.prog 22 #[.slice A n c] w fun e w' => New w w' ∧ ((vtB n zs = false ∧ e = .returned (.tuple #[.slice none 0 0, .bool false])) ∨ (vtB n zs = true ∧ e = .returned (.tuple #[.slice A n c, .bool true]))) := by
  have CT := Lib.hid (ValidTree_any A n c zs hn w hx)
  clear hx
  cases hv : vtB n zs
  · go_enter Tryz.func22, Tryz.ntmps22
    go_wp2_with fail
    refine CT.out.mono ?_
    rw [hv]
    rintro e w1 ⟨rfl, h1⟩
    have N1 := Lib.hid h1
    clear h1
    go_wp2
    refine bodyPost_ret (v := .tuple #[.slice none 0 0, .bool false]) (by simp [results, Tryz.results22, go_sem]) rfl ?_
    exact ⟨N1.out, .inl ⟨by first | rfl | trivial, rfl⟩⟩
  · go_enter Tryz.func22, Tryz.ntmps22
    go_wp2_with fail
    refine CT.out.mono ?_
    rw [hv]
    rintro e w1 ⟨rfl, h1⟩
    have N1 := Lib.hid h1
    clear h1
    go_wp2
    refine bodyPost_ret (v := .tuple #[.slice A n c, .bool true]) (by simp [results, Tryz.results22, go_sem]) rfl ?_
    exact ⟨N1.out, .inr ⟨by first | rfl | trivial, rfl⟩⟩
set_option maxRecDepth 100000 in
set_option maxHeartbeats 1000000 in
theorem SplitSeq_any (s : List UInt8) (w : World) :
    Calls Tryz.prog 20 #[str s, str [10]] w fun e w' => e = .returned (.func (.func 61) #[] #[.pointer (some ⟨w.heap.size + 1, 0, none⟩), .pointer (some ⟨w.heap.size, 0, none⟩), .pointer (some ⟨w.heap.size + 2, 0, none⟩)]) ∧ w' = ((w.alloc (.cells #[str s] 9)).alloc (.cells #[str [10]] 9)).alloc (.cells #[.int .i64 0] 3) := by
  have C : Hid (∀ W : World, Calls Tryz.prog 40 #[str s, str [10], .int .i64 0] W fun e w' => e = .returned (.func (.func 61) #[] #[.pointer (some ⟨W.heap.size + 1, 0, none⟩), .pointer (some ⟨W.heap.size, 0, none⟩), .pointer (some ⟨W.heap.size + 2, 0, none⟩)]) ∧ w' = ((W.alloc (.cells #[str s] 9)).alloc (.cells #[str [10]] 9)).alloc (.cells #[.int .i64 0] 3)) := Lib.hid (fun W => by
    go_enter Tryz.func40, Tryz.ntmps40
    go_wp2
    go_ret
    exact ⟨rfl, rfl⟩)
  go_enter Tryz.func20, Tryz.ntmps20
  go_wp2_with fail
  refine (C.out _).mono ?_
  rintro e w1 ⟨rfl, rfl⟩
  go_wp2
  go_ret
  exact ⟨rfl, rfl⟩
end Go.Proofs.YtffggmjhaaehlaaGreatDoor

/- Ranging over a function whose iterator keeps a state of its own in one cell: the law for the caller. -/
namespace Go.Proofs.YtffggmjhaaehlaaGreatDoor
open Go.RowKit Go.Shelf

/-- What an iterator owes that writes the cell r between two rounds: it hands out enc 0, enc 1, .., enc (N-1). -/
def SeqSt (F : Fence) (n : Nat) (P : Program) (g : Nat) (lb : Array Value) (enc : Nat → Array Value) (Kp : World → World → Prop) (r N : Nat) (w : World) : Prop :=
  ∀ (l : Nat) (J Jx : Nat → World → Prop), (∀ k W W', J k W → W.grownBy W' (some r) → J k W') →
    (∀ k W1, J k W1 → k < N → YieldAt F (n - 1) P l (enc k) W1 fun e W' => (e = .returned (.bool true) ∧ J (k + 1) W' ∧ Kp W1 W') ∨ (e = .returned (.bool false) ∧ Jx (k + 1) W')) →
    ∀ W, Below w.heap.size w W → J 0 W → CallsIn F n P g (#[.func (.yield l) #[] #[]] ++ lb) W fun e W' => (∃ v, e = .returned v) ∧ (J N W' ∨ ∃ k, Jx k W')
/-- What a round of the caller's loop leaves. -/
def stPost (B : Nat) (Kp : World → World → Prop) (I : Nat → World → Prop) (Ix : Code → World → Prop) (k : Nat) (W : World) : Exit → Act → World → Prop
  | .normal, _, W' => KeepsFrom B W W' ∧ Kp W W' ∧ I k W'
  | .ret, _, W' => KeepsFrom B W W' ∧ Ix .ret W'
  | .exit id, _, W' => KeepsFrom B W W' ∧ Ix (.exit id) W'
  | .goto t, _, W' => KeepsFrom B W W' ∧ Ix (.goto t) W'
  | .panic _, _, _ => False
  | .outgrown, _, _ => False
theorem wpIn_rangeFunc_st {F : Fence} {n : Nat} {P : Program} {g : Operand} {ps : Array Tmp} {assign body : Code} {Q : Exit → Act → World → Prop} {a : Act} {w : World}
    (hr : F.round = none) (hn : 1 ≤ n) {gf : Nat} {lb : Array Value} (hg : a.eval g = .func (.func gf) #[] lb) (hf : F.fn gf)
    (hent : ∀ (args : Array Value) (w : World), Sem.run P (callFunc gf args) w = .ok (.enter gf args) w)
    {enc : Nat → Array Value} {Kp : World → World → Prop} {r N : Nat} {w0 : World} (hseq : SeqSt F (n - 1) P gf lb enc Kp r N w0)
    (hT : ∀ {A B C : World}, Kp A B → Kp B C → Kp A C) (hK : ∀ (W : World) (l : Nat) (o' : Obj), w.heap.size ≤ l → l < W.heap.size → Kp W (W.putObj l o'))
    (hw : Below w0.heap.size w0 w) (hrw : r < w.heap.size) (hsz : ∀ k, (enc k).size = ps.size)
    (I : Nat → World → Prop) (Ix : Code → World → Prop) (hI : OwnFrom w.heap.size I) (hIx : OwnFrom w.heap.size Ix)
    (hIs : ∀ k W W', I k W → W.grownBy W' (some r) → I k W') (h0 : I 0 w) (a₁ : Nat → Act)
    (hassign : ∀ (l k : Nat) (W : World) (K : Act → World → Prop), K (a₁ k) W → Code.wpIn (F.inRound l) (n - 1 - 1) P assign (Exit.then K fun _ _ _ => False)
      { tmps := Array.foldl (fun t x => match x with | (p, v) => t.setIfInBounds p v) a.tmps (ps.zip (enc k)), defers := [] } W)
    (hbody : ∀ (l k : Nat) (W : World), I k W → k < N → Code.wpIn (F.inRound l) (n - 1 - 1) P body (stPost w.heap.size Kp I Ix (k + 1) W) (a₁ k) W)
    (hend : ∀ (D : Nat) (W : World), w.heap.size ≤ D → I N W → W.heap[D]? = some (.deferred (some [])) → Q .normal { tmps := a.tmps, defers := { target := .collected D, args := #[] } :: a.defers } W)
    (hjump : ∀ (D : Nat) (c : Code) (W : World), w.heap.size ≤ D → Ix c W → W.heap[D]? = some (.deferred (some [])) → Code.wpIn F n P c Q { tmps := a.tmps, defers := { target := .collected D, args := #[] } :: a.defers } W) :
    Code.wpIn F n P (.rangeFunc g ps assign body) Q a w := by
  refine wpIn_rangeFunc fun fn hfn => ?_
  have e1 := run_enterLoop_outer (P := P) (w := w) fn a.tmps ps assign body
  rw [← hr] at e1
  have AL := World.alloc_heap_new w (.deferred (some []))
  obtain ⟨lp, hlp⟩ : ∃ lp : LoopState → Option Code → Loop, lp = fun st pd => { state := st, pending := pd, fn := fn, tmps := a.tmps, params := ps, assign := assign, body := body, defers := w.heap.size } := ⟨_, rfl⟩
  have e2 : (Obj.loop { state := .ready, pending := none, fn := fn, tmps := a.tmps, params := ps, assign := assign, body := body, defers := w.heap.size }) = .loop (lp .ready none) := by rw [hlp]
  have f1 : ∀ st pd, (lp st pd).fn = fn ∧ (lp st pd).tmps = a.tmps ∧ (lp st pd).params = ps ∧ (lp st pd).assign = assign ∧ (lp st pd).body = body ∧ (lp st pd).state = st ∧ (lp st pd).pending = pd := by intro st pd; subst hlp; exact ⟨rfl, rfl, rfl, rfl, rfl, rfl, rfl⟩
  have b1 : ∀ {W : World} {l : Nat} {st : LoopState} {pd : Option Code}, W.heap[l]? = some (.loop (lp st pd)) → st = .ready → Sem.run P (Instr.beginRound l) W = .ok () (W.putObj l (.loop (lp .busy pd))) := by
    intro W l st pd h hs; subst hlp; subst hs; exact run_beginRound h rfl
  have b2 : ∀ {W : World} {l : Nat} {st : LoopState} {pd : Option Code} (j : Option Code), W.heap[l]? = some (.loop (lp st pd)) → Sem.run P (Instr.endRound l j) W = .ok (.bool j.isNone) (W.putObj l (.loop (lp (if j.isNone = true then .ready else .done) j))) := by
    intro W l st pd j h; subst hlp; exact run_endRound j h
  have b3 : ∀ {W : World} {l : Nat} {st : LoopState} {pd : Option Code}, W.heap[l]? = some (.loop (lp st pd)) → st ≠ .busy → Sem.run P (Instr.endLoop l) W = .ok pd (W.putObj l (.loop (lp .exhausted pd))) := by
    intro W l st pd h hs; subst hlp; exact run_endLoop h hs
  rw [e2] at e1
  clear e2 hlp
  have z1 : (w.alloc (.deferred (some []))).heap.size = w.heap.size + 1 := by simp
  have lt_of : ∀ {W : World} {k : Nat} {o : Obj}, W.heap[k]? = some o → k < W.heap.size := by
    intro W k o h
    rcases Nat.lt_or_ge k W.heap.size with h1 | h1
    · exact h1
    · rw [Array.getElem?_eq_none h1] at h; cases h
  -- a put of the loop's object
  have put : ∀ {W : World} {o : Obj} (o' : Obj), W.heap[w.heap.size]? = some (.deferred (some [])) → W.heap[w.heap.size + 1]? = some o → (W.putObj (w.heap.size + 1) o').heap[w.heap.size]? = some (.deferred (some [])) ∧ (W.putObj (w.heap.size + 1) o').heap[w.heap.size + 1]? = some o' := by
    intro W o o' h1 h2
    exact ⟨(World.putObj_heap_other (by omega)).trans h1, World.putObj_heap_same (lt_of h2)⟩
  refine ⟨_, _, _, { target := .fn (.func gf) lb, args := #[.func (.yield (w.heap.size + 1)) #[] #[]] }, (w.alloc (.deferred (some []))).alloc (.loop (lp .ready none)), gf, #[.func (.yield (w.heap.size + 1)) #[] #[]] ++ lb, (w.alloc (.deferred (some []))).alloc (.loop (lp .ready none)), e1, ?_, ?_, ?_, fun _ => hn, ?_⟩
  · have hy : a.eval (.const (.func (.yield (w.heap.size + 1)) #[] #[])) = .func (.yield (w.heap.size + 1)) #[] #[] := rfl
    unfold resolve
    simp only [hg, List.map_toArray, List.map_cons, List.map_nil, hy, Deferred.ofValue]
    rfl
  · intro f' h
    simp [Target.leads] at h
    exact h ▸ hf
  · exact hent _ _
  · refine (hseq (w.heap.size + 1)
      (fun k W => I k W ∧ W.heap[w.heap.size]? = some (.deferred (some [])) ∧ W.heap[w.heap.size + 1]? = some (.loop (lp .ready none)))
      (fun _ W => ∃ c, Ix c W ∧ W.heap[w.heap.size]? = some (.deferred (some [])) ∧ W.heap[w.heap.size + 1]? = some (.loop (lp .done (some c))))
      ?_ ?_ _ ?_ ?_).mono ?_
    · rintro k W W' ⟨h1, h2, h3⟩ hG
      exact ⟨hIs k W W' h1 hG, (hG.block _ (lt_of h2) (fun e => by have := Option.some.inj e; omega)).trans h2, (hG.block _ (lt_of h3) (fun e => by have := Option.some.inj e; omega)).trans h3⟩
    · rintro k W1 ⟨h1, h2, h3⟩ hk
      refine ⟨_, _, _, _, run_yield h3 (by rw [(f1 _ _).2.2.1]; exact hsz k), ?_⟩
      rw [(f1 _ _).1, (f1 _ _).2.1, (f1 _ _).2.2.1, (f1 _ _).2.2.2.1, (f1 _ _).2.2.2.2.1]
      refine roundIn_of_wpIn hfn ?_
      refine hassign _ k W1 _ ⟨_, b1 h3 rfl, ?_⟩
      have hp := put (.loop (lp .busy none)) h2 h3
      have hI2 := hI.putObj (.loop (lp .busy none)) h1 (by omega) h3 rfl
      have hK1 := hK W1 (w.heap.size + 1) (.loop (lp .busy none)) (by omega) (lt_of h3)
      generalize W1.putObj (w.heap.size + 1) (.loop (lp .busy none)) = W2 at *
      have jump : ∀ (c : Code) (W' : World), KeepsFrom w.heap.size W2 W' → Ix c W' → ∃ v w', Sem.run P (Instr.endRound (w.heap.size + 1) (some c)) W' = .ok v w' ∧ ((Ending.returned v = .returned (.bool true) ∧ (I (k + 1) w' ∧ w'.heap[w.heap.size]? = some (.deferred (some [])) ∧ w'.heap[w.heap.size + 1]? = some (.loop (lp .ready none))) ∧ Kp W1 w') ∨ (Ending.returned v = .returned (.bool false) ∧ ∃ c, Ix c w' ∧ w'.heap[w.heap.size]? = some (.deferred (some [])) ∧ w'.heap[w.heap.size + 1]? = some (.loop (lp .done (some c))))) := by
        intro c W' k1 k3
        have d1 := k1.same _ _ (Nat.le_refl _) hp.1 rfl
        have d2 := k1.same _ _ (by omega) hp.2 rfl
        have hq := put (.loop (lp .done (some c))) d1 d2
        exact ⟨_, _, b2 (some c) d2, Or.inr ⟨rfl, c, hIx.putObj _ k3 (by omega) d2 rfl, hq.1, hq.2⟩⟩
      refine wpIn_mono (hbody _ k W2 hI2 hk) ?_
      rintro (_ | _ | _ | _ | _ | _) b W' hpost
      all_goals first
        | (exact absurd hpost id)
        | (obtain ⟨k1, k3⟩ := hpost; exact jump _ W' k1 k3)
        | (obtain ⟨k1, k2, k3⟩ := hpost
           have d1 := k1.same _ _ (Nat.le_refl _) hp.1 rfl
           have d2 := k1.same _ _ (by omega) hp.2 rfl
           have hq := put (.loop (lp .ready none)) d1 d2
           exact ⟨_, _, b2 none d2, Or.inl ⟨rfl, ⟨hI.putObj _ k3 (by omega) d2 rfl, hq.1, hq.2⟩, hT (hT hK1 k2) (hK W' _ _ (by omega) (lt_of d2))⟩⟩)
    · exact (hw.trans (((Below.refl w0.heap.size w).alloc hw.size _).alloc (Nat.le_trans hw.size (by simp)) _))
    · refine ⟨hI.alloc _ (hI.alloc _ h0), ?_, ?_⟩
      · rw [Below.heap_alloc _ _ _ (by simp)]; exact AL
      · rw [← z1]; exact World.alloc_heap_new _ _
    · rintro e W ⟨⟨v, rfl⟩, ⟨h1, h2, h3⟩ | ⟨_, c, h1, h2, h3⟩⟩
      · have hq := put (.loop (lp .exhausted none)) h2 h3
        exact ⟨_, _, b3 h3 (by decide), hend _ _ (Nat.le_refl _) (hI.putObj _ h1 (by omega) h3 rfl) hq.1⟩
      · have hq := put (.loop (lp .exhausted (some c))) h2 h3
        exact ⟨_, _, b3 h3 (by decide), hjump _ c _ (Nat.le_refl _) (hIx.putObj _ h1 (by omega) h3 rfl) hq.1⟩
end Go.Proofs.YtffggmjhaaehlaaGreatDoor

/- strings.SplitSeq: its iterator hands out the pieces of a text, one by one. Condition: the text is not too long. -/
namespace Go.Proofs.YtffggmjhaaehlaaGreatDoor
open Go.RowKit Go.Shelf
attribute [local go_sem] Oper.semAt_some

/-- What the body of a loop over a text's pieces keeps: the three cells of the iterator. -/
structure KeepB (B : Nat) (w w' : World) : Prop where
  size : w.heap.size ≤ w'.heap.size
  block : ∀ k, B ≤ k → k < B + 3 → w'.heap[k]? = w.heap[k]?
theorem KeepB.trans {B : Nat} {a b c : World} (h : KeepB B a b) (k : KeepB B b c) : KeepB B a c := ⟨Nat.le_trans h.size k.size, fun i h1 h2 => (k.block i h1 h2).trans (h.block i h1 h2)⟩
theorem KeepB.cell {B : Nat} {w w' : World} (h : KeepB B w w') (b o : Nat) (h1 : B ≤ b) (h2 : b < B + 3) : w'.cell? ⟨b, o, none⟩ = w.cell? ⟨b, o, none⟩ := World.cell?_of_block (h.block b h1 h2)
theorem pcs_step {c : UInt8} {l : List UInt8} {i : Nat} (h : Lib.indexByte l c = (i : Int)) : pcs c l = l.take i :: pcs c (l.drop (i + 1)) := by
  obtain ⟨h1, h2⟩ := Lib.indexByte_some h
  obtain ⟨hi, h3⟩ := List.getElem?_eq_some_iff.1 h1
  have e : l = l.take i ++ c :: l.drop (i + 1) := by
    rw [← h3, ← List.drop_eq_getElem_cons hi, List.take_append_drop]
  conv => lhs; rw [e]
  refine pcs_hit _ (fun b hb hc => ?_)
  obtain ⟨k, hk, hk2⟩ := List.getElem_of_mem hb
  have hk3 : k < i := by rw [List.length_take] at hk; omega
  refine h2 k hk3 ?_
  rw [List.getElem_take] at hk2
  rw [List.getElem?_eq_getElem (by omega), hk2, hc]
theorem pcs_stop {c : UInt8} {l : List UInt8} (h : Lib.indexByte l c = -1) : pcs c l = [l] :=
  pcs_none (fun b hb hc => by
    obtain ⟨k, hk, hk2⟩ := List.getElem_of_mem hb
    exact Lib.indexByte_none h k (by rw [List.getElem?_eq_getElem hk, hk2, hc]))
theorem grown_setI (w : World) (a k : Nat) (v : Value) : w.grownBy (w.setCell ⟨a, k, none⟩ v) (some a) :=
  ⟨rfl, rfl, rfl, by rw [World.size_setCell]; exact Nat.le_refl _, fun i _ hne => Below.heap_setCell _ _ _ _ (by simp; exact fun h => hne (by rw [h]))⟩
def cellLen (B : Nat) (w : World) : Nat := match w.cell? ⟨B, 0, none⟩ with
  | some (.string b) => b.size
  | _ => 0
theorem cellLen_of {B : Nat} {w : World} {l : List UInt8} (h : w.cell? ⟨B, 0, none⟩ = some (str l)) : cellLen B w = l.length := by
  unfold cellLen
  rw [h]
  rfl
set_option maxRecDepth 100000 in
set_option maxHeartbeats 4000000 in
theorem splitSeq1_in (s : List UInt8) (hs : s.length ≤ 2000000) (Bl : Nat) (w : World) (c0 : w.cell? ⟨Bl, 0, none⟩ = some (str s)) (c1 : w.cell? ⟨Bl + 1, 0, none⟩ = some (str [10])) (c2 : w.cell? ⟨Bl + 2, 0, none⟩ = some (.int .i64 0)) (c3 : w.frozen? ⟨Bl, 0, none⟩ = false) :
    SeqSt Fence.wide 5 Tryz.prog 61 #[.pointer (some ⟨Bl + 1, 0, none⟩), .pointer (some ⟨Bl, 0, none⟩), .pointer (some ⟨Bl + 2, 0, none⟩)] (fun k => #[str ((pcs 10 s).getD k [])]) (KeepB Bl) Bl (pcs 10 s).length w := by
  intro l J Jx hJs hY W hW hJ0
  refine callsIn_of_wp Tryz.func61 rfl trivial ?_ rfl
  simp only [Tryz.ntmps61, List.size_toArray, List.length_cons, List.length_nil, Nat.reduceAdd, Nat.reduceSub, Array.replicate_succ, Array.replicate_zero, List.push_toArray, List.append_toArray, List.nil_append, List.cons_append]
  have lt2 : Bl + 2 < w.heap.size := World.block_lt_of_cell? w ⟨Bl + 2, 0, none⟩ c2
  have d0 := (New.cells hW Bl 0 (by omega)).trans c0
  have d1 := (New.cells hW (Bl + 1) 0 (by omega)).trans c1
  have d2 := (New.cells hW (Bl + 2) 0 (by omega)).trans c2
  have D3 := Lib.hid ((New.marks hW Bl 0 (by omega)).trans c3)
  have LT : Bl + 2 < W.heap.size := Nat.lt_of_lt_of_le lt2 hW.size
  have HJ0 := Lib.hid hJ0
  have HJS := Lib.hid hJs
  have HYH := Lib.hid hY
  have HS := Lib.hid hs
  have IX := Lib.hid (fun (x : List UInt8) (W : World) => (show Calls Tryz.prog 63 #[str x, str [10]] W fun e w' => e = .returned (.int .i64 (Lib.indexByte x 10)) ∧ W = w' from (Shf.strings_Index_one ⟨x.toArray⟩ 10 W).mono fun e w' ⟨he, hw⟩ => ⟨he, hw.symm⟩))
  clear hJ0 hJs hY hs c0 c1 c2 c3 lt2
  have D0 := Lib.hid d0
  have D2 := Lib.hid d2
  clear d0 d2
  gi_wp2
  have D1 := Lib.hid d1
  clear d1
  gi_loopw [7] (fun _ wr => ∃ (k : Nat) (sk : List UInt8), Hid (k + (pcs 10 sk).length = (pcs 10 s).length ∧ (pcs 10 s).drop k = pcs 10 sk) ∧ sk.length ≤ 2000000 ∧ Hid (wr.cell? ⟨Bl, 0, none⟩ = some (str sk)) ∧ Hid (wr.cell? ⟨Bl + 1, 0, none⟩ = some (str [10])) ∧ Hid (wr.cell? ⟨Bl + 2, 0, none⟩ = some (.int .i64 0)) ∧ Hid (J k wr) ∧ Hid (wr.frozen? ⟨Bl, 0, none⟩ = false) ∧ Bl + 2 < wr.heap.size) (fun _ wr => cellLen Bl wr)
  case atStart => exact ⟨0, s, Lib.hid ⟨Nat.zero_add _, rfl⟩, HS.out, D0, D1, D2, HJ0, D3, LT⟩
  case round =>
    obtain ⟨k, sk, HK, hsk, E0, E1, E2, HJ, E3, HL⟩ := hrel
    have e0 := E0.out; have e1 := E1.out; have e2 := E2.out
    have KLT : k < (pcs 10 s).length := by
      obtain ⟨a, t, e⟩ := pcs_ne 10 sk
      have := HK.out.1
      rw [e] at this
      simp only [List.length_cons] at this
      omega
    by_cases hi : Lib.indexByte sk 10 = -1
    · have PS := pcs_stop hi
      have KN : Hid (k + 1 = (pcs 10 s).length) := Lib.hid (by have := HK.out.1; rw [PS] at this; exact this)
      have PK : (pcs 10 s).getD k [] = sk := by
        have := HK.out.2
        rw [PS] at this
        rw [List.getD_eq_getElem?_getD, ← List.head?_drop, this]
        rfl
      have HY1 := HYH.out k wr HJ.out KLT
      rw [PK] at HY1
      obtain ⟨fn, tmps, assign, body, hy, hR⟩ := HY1
      clear PS PK KLT HK
      gi_wp2_with (first | (refine ⟨trivial, ?_⟩; gi_at_call 63; refine (callsIn_wide.2 (IX.out _ _)).mono ?_; rw [hi]; rintro e w2 ⟨rfl, rfl⟩))
      refine hR.mono ?_
      rintro e W3 (⟨rfl, hJ3, _⟩ | ⟨rfl, hJx3⟩)
      · have FIN : J (pcs 10 s).length W3 ∨ ∃ k, Jx k W3 := Or.inl (by rw [← KN.out]; exact hJ3)
        clear hJ3 hR hy
        gi_wp2
        go_end0
        exact ⟨⟨_, rfl⟩, FIN⟩
      · have FIN : J (pcs 10 s).length W3 ∨ ∃ k, Jx k W3 := Or.inr ⟨_, hJx3⟩
        clear hJx3 hR hy
        gi_wp2
        go_end0
        exact ⟨⟨_, rfl⟩, FIN⟩
    · obtain ⟨i, hi2⟩ : ∃ i : Nat, Lib.indexByte sk 10 = (i : Int) := ⟨(Lib.indexByte sk 10).toNat, by have := Lib.indexByte_ge sk 10; omega⟩
      have PS := pcs_step hi2
      have HI := (List.getElem?_eq_some_iff.1 (Lib.indexByte_some hi2).1).1
      have PK : (pcs 10 s).getD k [] = sk.take i := by
        have := HK.out.2
        rw [PS] at this
        rw [List.getD_eq_getElem?_getD, ← List.head?_drop, this]
        rfl
      have KN : Hid ((k + 1) + (pcs 10 (sk.drop (i + 1))).length = (pcs 10 s).length ∧ (pcs 10 s).drop (k + 1) = pcs 10 (sk.drop (i + 1))) := Lib.hid ⟨by
        have := HK.out.1; rw [PS] at this; simp only [List.length_cons] at this; omega, by
        have := HK.out.2; rw [PS] at this; rw [← List.drop_drop, this]; rfl⟩
      have HY1 := HYH.out k wr HJ.out KLT
      rw [PK] at HY1
      obtain ⟨fn, tmps, assign, body, hy, hR⟩ := HY1
      clear PS PK KLT HK hi
      have i0 : (0 : Int) ≤ (i : Int) := by omega
      have in0 : ¬ (i : Int) < 0 := by omega
      have id0 : decide ((i : Int) < 0) = false := decide_eq_false in0
      have i1 : (i : Int) ≤ (sk.length : Int) := by omega
      have i2 : (i : Int) + 1 ≤ (sk.length : Int) := by omega
      have w0' : IntKind.i64.wrap ((i : Int) + 0) = (i : Int) := by rw [Int.add_zero]; exact IntWalk.i64_in _ (by omega)
      have w1' : IntKind.i64.wrap ((i : Int) + 1) = ((i + 1 : Nat) : Int) := by rw [Int.natCast_add]; exact IntWalk.i64_in _ (by omega)
      have X1 : (⟨sk.toArray⟩ : ByteArray).extract 0 i = ⟨(sk.take i).toArray⟩ := by
        rw [Lib.extract_mk sk 0 i]; rfl
      have X2 : (⟨sk.toArray⟩ : ByteArray).extract (i + 1) sk.length = ⟨(sk.drop (i + 1)).toArray⟩ := by
        rw [Lib.extract_mk sk (i + 1) sk.length, List.take_of_length_le (by rw [List.length_drop]; omega)]
      gi_wp2_with (first | (refine ⟨trivial, ?_⟩; gi_at_call 63; refine (callsIn_wide.2 (IX.out _ _)).mono ?_; rw [hi2]; rintro e w2 ⟨rfl, rfl⟩))
      refine hR.mono ?_
      rintro e W3 (⟨rfl, hJ3, hk3⟩ | ⟨rfl, hJx3⟩)
      · have s0 := (hk3.cell Bl 0 (by omega) (by omega)).trans E0.out
        have s1 := (hk3.cell (Bl + 1) 0 (by omega) (by omega)).trans E1.out
        have S2 := Lib.hid ((hk3.cell (Bl + 2) 0 (by omega) (by omega)).trans E2.out)
        have s3 := (World.frozen?_of_block (w := wr) (hk3.block Bl (by omega) (by omega))).trans E3.out
        have S1 := Lib.hid s1
        have S0 := Lib.hid s0
        have S3 := Lib.hid s3
        have SL : Hid (Bl + 2 < W3.heap.size) := Lib.hid (Nat.lt_of_lt_of_le HL hk3.size)
        have M0 : Hid (cellLen Bl wr = sk.length) := Lib.hid (cellLen_of E0.out)
        have J3 := Lib.hid (fun v => HJS.out (k + 1) W3 (W3.setCell ⟨Bl, 0, none⟩ v) hJ3 (grown_setI W3 Bl 0 v))
        clear hJ3 hk3 hR hy e0 e1 e2
        gi_wp2
        go_roundw
        case rel => exact ⟨k + 1, sk.drop (i + 1), KN, by rw [List.length_drop]; omega, Lib.hid (by rw [set_cell_at S0.out, if_pos rfl]), Lib.hid (by rw [World.cell?_setCell_other _ _ _ _ (by simp)]; exact S1.out), Lib.hid (by rw [World.cell?_setCell_other _ _ _ _ (by simp)]; exact S2.out), Lib.hid (J3.out _), Lib.hid (set_frozen S3.out), by rw [World.size_setCell]; exact SL.out⟩
        case measure =>
          rw [cellLen_of (l := sk.drop (i + 1)) (by rw [set_cell_at S0.out, if_pos rfl]), M0.out, List.length_drop]
          omega
      · have FIN : J (pcs 10 s).length W3 ∨ ∃ k, Jx k W3 := Or.inr ⟨_, hJx3⟩
        clear hJx3 hR hy
        gi_wp2
        refine bodyPost_ret (results_none rfl _ _ _) rfl ?_
        exact ⟨⟨_, rfl⟩, FIN⟩
end Go.Proofs.YtffggmjhaaehlaaGreatDoor

/- ParseTree of the program. Condition: the text is not too long. -/
namespace Go.Proofs.YtffggmjhaaehlaaGreatDoor
open Go.RowKit Go.Shelf
attribute [local go_sem] Oper.semAt_some

theorem bxOk_nil : ¬ bxOk [] := by decide
theorem lnOk_len {l : List UInt8} {q : Nat} (h : lnOk l q) : 1 ≤ l.length := by
  rcases Nat.eq_zero_or_pos l.length with h1 | h1
  · obtain rfl := List.eq_nil_of_length_eq_zero h1
    exact absurd h.1 bxOk_nil
  · exact h1
/-- What one line's reading leaves: all below lo but the scanner's record, and all that is no row. -/
structure KA (a lo : Nat) (w0 w w' : World) : Prop where
  new : New w0 w'
  le : lo ≤ w'.heap.size
  size : w.heap.size ≤ w'.heap.size
  block : ∀ k, k < lo → k ≠ a → w'.heap[k]? = w.heap[k]?
  keep : ∀ k o, lo ≤ k → w.heap[k]? = some o → o.isCells = false → w'.heap[k]? = some o
theorem lt_of_some {w : World} {k : Nat} {o : Obj} (h : w.heap[k]? = some o) : k < w.heap.size := by
  rcases Nat.lt_or_ge k w.heap.size with h1 | h1
  · exact h1
  · rw [Array.getElem?_eq_none h1] at h; cases h
theorem ka_refl {a lo : Nat} {w0 w : World} (h : New w0 w) (hl : lo ≤ w.heap.size) : KA a lo w0 w w := ⟨h, hl, Nat.le_refl _, fun _ _ _ => rfl, fun _ _ _ h _ => h⟩
theorem ka_clo {a lo : Nat} {w0 w : World} (h0 : w0.heap.size ≤ a) (al : a < lo) : Clo a lo (KA a lo w0 w) where
  new := fun {x y} h k => ⟨h.new.trans k, Nat.le_trans h.le k.size, Nat.le_trans h.size k.size, fun i hi hne => (k.block i (Nat.lt_of_lt_of_le hi h.le)).trans (h.block i hi hne), fun i o hi ho hc => by
    have := h.keep i o hi ho hc
    exact (k.block i (lt_of_some this)).trans this⟩
  own := fun {x y r} h G hr => ⟨⟨G.os.trans h.new.os, G.tape.trans h.new.tape, G.output.trans h.new.output, Nat.le_trans h.new.size G.size, fun i hi => (G.block i (Nat.lt_of_lt_of_le hi h.new.size) (fun e => by have := (hr i e.symm).1; omega)).trans (h.new.block i hi)⟩, Nat.le_trans h.le G.size, Nat.le_trans h.size G.size, fun i hi hne => (G.block i (Nat.lt_of_lt_of_le hi h.le) (fun e => by have := (hr i e.symm).1; omega)).trans (h.block i hi hne), fun i o hi ho hc => by
    have := h.keep i o hi ho hc
    refine (G.block i (lt_of_some this) (fun e => ?_)).trans this
    obtain ⟨_, cs, t, h3⟩ := hr i e.symm
    rw [this] at h3
    injection h3 with h3
    rw [h3] at hc
    cases hc⟩
  set := fun {x} k u h => by
    have e : ∀ i, i ≠ a → (x.setCell ⟨a, k, none⟩ u).heap[i]? = x.heap[i]? := fun i hi => Below.heap_setCell _ _ _ _ (by simp; omega)
    exact ⟨h.new.setCell (p := ⟨a, k, none⟩) h0 u, by rw [World.size_setCell]; exact h.le, by rw [World.size_setCell]; exact h.size, fun i hi hne => (e i hne).trans (h.block i hi hne), fun i o hi ho hc => (e i (by omega)).trans (h.keep i o hi ho hc)⟩
theorem ownsRow_grown {w w' : World} {lo t z n : Nat} {v : Value} {xs : List Value} {r : Option Nat} (h : w.ownsRow lo t z v n xs) (G : w.grownBy w' r) (hr : ∀ i, r = some i → i < lo ∨ ∃ o, w.heap[i]? = some o ∧ o.isCells = false) : w'.ownsRow lo t z v n xs := by
  refine ⟨h.1, h.2.imp id ?_⟩
  rintro ⟨g, cap, cur, a, hg, hh, rest⟩
  refine ⟨g, cap, cur, a, hg, (G.block g (lt_of_some hh) (fun e => ?_)).trans hh, rest⟩
  rcases hr g e.symm with h1 | ⟨o, h1, h2⟩
  · omega
  · rw [hh] at h1
    injection h1 with h1
    rw [← h1] at h2
    cases h2
theorem ScI.grown {a lo n : Nat} {zs ps : List Int} {w w' : World} {r : Option Nat} (h : ScI a lo n zs ps w) (G : w.grownBy w' r) (hr : ∀ i, r = some i → i ≠ a ∧ (i < lo ∨ ∃ o, w.heap[i]? = some o ∧ o.isCells = false)) : ScI a lo n zs ps w' := by
  obtain ⟨h1, h2, h3, h4, tv, pv, h5, h6, h7, h8⟩ := h
  have ha := G.block a (by omega) (fun e => (hr a e.symm).1 rfl)
  exact ⟨h1, Nat.le_trans h2 G.size, (World.frozen?_of_block (w := w) ha).trans h3, (World.frozen?_of_block (w := w) ha).trans h4, tv, pv, (World.cell?_of_block ha).trans h5, (World.cell?_of_block ha).trans h6, ⟨ownsRow_grown h7.1 G (fun i e => (hr i e).2), h7.2⟩, ownsRow_grown h8 G (fun i e => (hr i e).2)⟩
/-- What stands around the loop: the results, and all that was there. -/
structure FrP (w W : World) : Prop where
  nw : New w W
  le : w.heap.size + 6 ≤ W.heap.size
  c0 : W.cell? ⟨w.heap.size, 0, none⟩ = some (.slice none 0 0)
  c1 : W.cell? ⟨w.heap.size + 1, 0, none⟩ = some (.bool false)
  f0 : W.frozen? ⟨w.heap.size, 0, none⟩ = false
  f1 : W.frozen? ⟨w.heap.size + 1, 0, none⟩ = false
theorem FrP.grown {w W W' : World} {r : Option Nat} (h : FrP w W) (G : W.grownBy W' r) (hr : ∀ i, r = some i → w.heap.size + 3 ≤ i) : FrP w W' := by
  have := h.le
  have b0 := G.block w.heap.size (by omega) (fun e => by have := hr _ e.symm; omega)
  have b1 := G.block (w.heap.size + 1) (by omega) (fun e => by have := hr _ e.symm; omega)
  exact ⟨⟨G.os.trans h.nw.os, G.tape.trans h.nw.tape, G.output.trans h.nw.output, Nat.le_trans h.nw.size G.size, fun i hi => (G.block i (Nat.lt_of_lt_of_le hi h.nw.size) (fun e => by have := hr i e.symm; omega)).trans (h.nw.block i hi)⟩, Nat.le_trans h.le G.size, (World.cell?_of_block b0).trans h.c0, (World.cell?_of_block b1).trans h.c1, (World.frozen?_of_block (w := W) b0).trans h.f0, (World.frozen?_of_block (w := W) b1).trans h.f1⟩
theorem FrP.ka {w W W' : World} (h : FrP w W) (k : KA (w.heap.size + 2) (w.heap.size + 6) w W W') : FrP w W' := by
  have b0 := k.block w.heap.size (by omega) (by omega)
  have b1 := k.block (w.heap.size + 1) (by omega) (by omega)
  exact ⟨k.new, k.le, (World.cell?_of_block b0).trans h.c0, (World.cell?_of_block b1).trans h.c1, (World.frozen?_of_block (w := W) b0).trans h.f0, (World.frozen?_of_block (w := W) b1).trans h.f1⟩
theorem FrP.sets {w W : World} (h : FrP w W) : FrP w ((W.setCell ⟨w.heap.size, 0, none⟩ (.slice none 0 0)).setCell ⟨w.heap.size + 1, 0, none⟩ (.bool false)) :=
  ⟨(h.nw.setCell (p := ⟨w.heap.size, 0, none⟩) (Nat.le_refl _) _).setCell (p := ⟨w.heap.size + 1, 0, none⟩) (Nat.le_succ _) _, by rw [World.size_setCell, World.size_setCell]; exact h.le, by rw [World.cell?_setCell_other _ _ _ _ (by simp), set_cell_at h.c0, if_pos rfl], by rw [set_cell_at (v := .bool false) (by rw [World.cell?_setCell_other _ _ _ _ (by simp)]; exact h.c1), if_pos rfl], set_frozen (set_frozen h.f0), set_frozen (set_frozen h.f1)⟩
theorem keeps_sets {a : Nat} {u v : Value} {W W' : World} (h : KeepsFrom (a + 6) W W') : KeepsFrom (a + 6) W ((W'.setCell ⟨a, 0, none⟩ u).setCell ⟨a + 1, 0, none⟩ v) :=
  ⟨by rw [World.size_setCell, World.size_setCell]; exact h.size, fun k o hk ho hc => by
    rw [Below.heap_setCell _ _ _ _ (by simp; omega), Below.heap_setCell _ _ _ _ (by simp; omega)]
    exact h.same k o hk ho hc⟩
theorem KA.keeps {a lo lo' : Nat} {w0 w w' : World} (h : KA a lo w0 w w') (hl : lo ≤ lo') : KeepsFrom lo' w w' := ⟨h.size, fun k o hk ho hc => h.keep k o (by omega) ho hc⟩
theorem KA.keepB {a : Nat} {w0 w w' : World} (h : KA (a + 2) (a + 6) w0 w w') : KeepB (a + 3) w w' := ⟨h.size, fun k h1 h2 => h.block k (by omega) (by omega)⟩
/-- The end: the results are written, what was deferred is taken. -/
theorem FrP.fin {w W : World} {D : Nat} (h : FrP w W) (u v : Value) (hD : w.heap.size + 6 ≤ D) (hd : W.heap[D]? = some (.deferred (some []))) :
    ((W.setCell ⟨w.heap.size, 0, none⟩ u).setCell ⟨w.heap.size + 1, 0, none⟩ v).heap[D]? = some (.deferred (some [])) ∧ New w (((W.setCell ⟨w.heap.size, 0, none⟩ u).setCell ⟨w.heap.size + 1, 0, none⟩ v).putObj D (.deferred none)) ∧
      (((W.setCell ⟨w.heap.size, 0, none⟩ u).setCell ⟨w.heap.size + 1, 0, none⟩ v).putObj D (.deferred none)).cell? ⟨w.heap.size, 0, none⟩ = some u ∧ (((W.setCell ⟨w.heap.size, 0, none⟩ u).setCell ⟨w.heap.size + 1, 0, none⟩ v).putObj D (.deferred none)).cell? ⟨w.heap.size + 1, 0, none⟩ = some v ∧
      ∀ k o, w.heap.size + 6 ≤ k → W.heap[k]? = some o → o.isCells = true → (((W.setCell ⟨w.heap.size, 0, none⟩ u).setCell ⟨w.heap.size + 1, 0, none⟩ v).putObj D (.deferred none)).heap[k]? = some o := by
  have nw := (h.nw.setCell (p := ⟨w.heap.size, 0, none⟩) (Nat.le_refl _) u).setCell (p := ⟨w.heap.size + 1, 0, none⟩) (Nat.le_succ _) v
  have e0 : ((W.setCell ⟨w.heap.size, 0, none⟩ u).setCell ⟨w.heap.size + 1, 0, none⟩ v).cell? ⟨w.heap.size, 0, none⟩ = some u := by rw [World.cell?_setCell_other _ _ _ _ (by simp), set_cell_at h.c0, if_pos rfl]
  have e1 : ((W.setCell ⟨w.heap.size, 0, none⟩ u).setCell ⟨w.heap.size + 1, 0, none⟩ v).cell? ⟨w.heap.size + 1, 0, none⟩ = some v := by rw [set_cell_at (v := .bool false) (by rw [World.cell?_setCell_other _ _ _ _ (by simp)]; exact h.c1), if_pos rfl]
  have ek : ∀ k, w.heap.size + 6 ≤ k → ((W.setCell ⟨w.heap.size, 0, none⟩ u).setCell ⟨w.heap.size + 1, 0, none⟩ v).heap[k]? = W.heap[k]? := fun k hk => by
    rw [Below.heap_setCell _ _ _ _ (by simp; omega), Below.heap_setCell _ _ _ _ (by simp; omega)]
  have hl := h.le
  have sz : ((W.setCell ⟨w.heap.size, 0, none⟩ u).setCell ⟨w.heap.size + 1, 0, none⟩ v).heap.size = W.heap.size := by rw [World.size_setCell, World.size_setCell]
  generalize (W.setCell ⟨w.heap.size, 0, none⟩ u).setCell ⟨w.heap.size + 1, 0, none⟩ v = V at *
  have G := grownBy_putObj' V D (.deferred none)
  refine ⟨(ek D hD).trans hd, ⟨G.os.trans nw.os, G.tape.trans nw.tape, G.output.trans nw.output, Nat.le_trans nw.size G.size, fun i hi => (World.putObj_heap_other (by omega)).trans (nw.block i hi)⟩, (World.cell?_of_block (World.putObj_heap_other (by show w.heap.size ≠ D; omega))).trans e0, (World.cell?_of_block (World.putObj_heap_other (by show w.heap.size + 1 ≠ D; omega))).trans e1, fun k o hk ho hc => ?_⟩
  refine (World.putObj_heap_other (fun e => ?_)).trans ((ek k hk).trans ho)
  subst e
  rw [hd] at ho
  injection ho with ho
  rw [← ho] at hc
  cases hc
/-- The loop's invariant: k lines are taken up. -/
structure InvP (s : List UInt8) (w : World) (k : Nat) (W : World) : Prop where
  fr : FrP w W
  sc : ∃ zs ps, ScI (w.heap.size + 2) (w.heap.size + 6) k zs ps W ∧ ps.length ≤ k ∧ runL (pcs 10 s) 0 [] [] = runL ((pcs 10 s).drop k) k zs ps
  ln : ∀ i, i < k → 1 ≤ ((pcs 10 s).getD i []).length
theorem InvP.grown {s : List UInt8} {w W W' : World} {k : Nat} {r : Option Nat} (h : InvP s w k W) (G : W.grownBy W' r) (hr : ∀ i, r = some i → w.heap.size + 3 ≤ i ∧ (i < w.heap.size + 6 ∨ ∃ o, W.heap[i]? = some o ∧ o.isCells = false)) : InvP s w k W' := by
  obtain ⟨zs, ps, h1, h2, h3⟩ := h.sc
  exact ⟨h.fr.grown G (fun i e => (hr i e).1), ⟨zs, ps, h1.grown G (fun i e => ⟨by have := (hr i e).1; omega, (hr i e).2⟩), h2, h3⟩, h.ln⟩
set_option maxRecDepth 100000 in
set_option maxHeartbeats 4000000 in
theorem ParseTree_in (s : List UInt8) (hs : s.length ≤ 1700000) (w : World) (hL : LibC w) :
    CallsIn Fence.wide 6 Tryz.prog 7 #[str s] w (AnsTr w (prT s)) := by
  refine callsIn_of_wp_marks Tryz.func7 rfl trivial ?_ rfl
  simp only [Tryz.ntmps7, List.size_toArray, List.length_cons, List.length_nil, Nat.reduceAdd, Nat.reduceSub, Array.replicate_succ, Array.replicate_zero, List.push_toArray, List.append_toArray, List.nil_append, List.cons_append]
  gi_wp2_with (first | (refine ⟨trivial, ?_⟩; gi_at_call 20; refine (callsIn_wide.2 (SplitSeq_any s _)).mono ?_; rintro e w' ⟨rfl, rfl⟩))
  obtain ⟨W0, hW0⟩ : ∃ W0, ((((((w.alloc (.cells #[.slice none 0 0] 22)).alloc (.cells #[.bool false] 4)).alloc (.cells #[.slice none 0 0, .slice none 0 0] 42)).alloc (.cells #[str s] 9)).alloc (.cells #[str [10]] 9)).alloc (.cells #[.int .i64 0] 3)) = W0 := ⟨_, rfl⟩
  have N0 : New w W0 := by rw [← hW0]; (repeat (first | exact New.refl _ | assumption | refine New.alloc ?_ _ | refine New.drew ?_ | refine New.drewN ?_ _ | refine New.setCell ?_ (by first | omega | (simp; omega) | (simp; done)) _ | refine New.trans ?_ (by assumption)))
  have sz : W0.heap.size = w.heap.size + 6 := by rw [← hW0]; simp
  have FR : FrP w W0 := ⟨N0, by omega, by rw [← hW0]; simp [go_sem], by rw [← hW0]; simp [go_sem], by rw [← hW0]; simp [go_sem], by rw [← hW0]; simp [go_sem]⟩
  have q0 : W0.cell? ⟨w.heap.size + 3, 0, none⟩ = some (str s) := by rw [← hW0]; simp [go_sem]
  have q1 : W0.cell? ⟨w.heap.size + 3 + 1, 0, none⟩ = some (str [10]) := by rw [← hW0]; simp [go_sem]
  have q2 : W0.cell? ⟨w.heap.size + 3 + 2, 0, none⟩ = some (.int .i64 0) := by rw [← hW0]; simp [go_sem]
  have q3 : W0.frozen? ⟨w.heap.size + 3, 0, none⟩ = false := by rw [← hW0]; simp [go_sem]
  have I0 : InvP s w 0 W0 := ⟨FR, ⟨[], [], ⟨by omega, by omega, by rw [← hW0]; simp [go_sem], by rw [← hW0]; simp [go_sem], .slice none 0 0, .slice none 0 0, by rw [← hW0]; simp [go_sem], by rw [← hW0]; simp [go_sem], ⟨World.ownsRow_nil _ _ _ _, rfl⟩, World.ownsRow_nil _ _ _ _⟩, Nat.le_refl _, rfl⟩, fun i hi => absurd hi (by omega)⟩
  rw [hW0]
  clear hW0
  refine wpIn_rangeFunc_st rfl (by omega) (gf := 61) (lb := #[.pointer (some ⟨w.heap.size + 3 + 1, 0, none⟩), .pointer (some ⟨w.heap.size + 3, 0, none⟩), .pointer (some ⟨w.heap.size + 3 + 2, 0, none⟩)]) rfl trivial (enters_of Tryz.func61 (by kernel_rfl) rfl)
    (splitSeq1_in s (by omega) (w.heap.size + 3) W0 q0 q1 q2 q3) KeepB.trans
    (fun W l o' h1 h2 => ⟨(grownBy_putObj' W l o').size, fun k h3 h4 => World.putObj_heap_other (by omega)⟩)
    (Below.refl _ _) (by omega) (fun _ => rfl)
    (InvP s w) (fun c W => c = .ret ∧ prT s = none ∧ FrP w W)
    (fun k W W' row h G hr => h.grown G (fun i e => ⟨by have := (hr i e).1; omega, .inr (hr i e).2⟩))
    (fun c W W' row h G hr => ⟨h.1, h.2.1, h.2.2.grown G (fun i e => by have := (hr i e).1; omega)⟩)
    (fun k W W' h G => h.grown G (fun i e => by have := Option.some.inj e; exact ⟨by omega, .inl (by omega)⟩))
    I0
    (fun k => { tmps := #[str s, undef, .pointer (some ⟨w.heap.size, 0, none⟩), .pointer (some ⟨w.heap.size + 1, 0, none⟩), .pointer (some ⟨w.heap.size + 2, 0, none⟩), str ((pcs 10 s).getD k []), str s, .func (.func 61) #[] #[.pointer (some ⟨w.heap.size + 3 + 1, 0, none⟩), .pointer (some ⟨w.heap.size + 3, 0, none⟩), .pointer (some ⟨w.heap.size + 3 + 2, 0, none⟩)], str ((pcs 10 s).getD k []), undef, undef, undef, undef, undef, undef, undef, undef], defers := [] })
    ?assign ?body ?done ?stop
  case assign =>
    intro l k W K hK
    gi_wp2
    exact hK
  case body =>
    rintro l k W ⟨FRW, ⟨zs, ps, SC, hp, hr⟩, hl⟩ hk
    have K2 := pcs_two (Nat.le_of_lt hk) hl
    have LW := pcs_at_len 10 s k
    obtain ⟨ln, hln⟩ : ∃ ln, (pcs 10 s).getD k [] = ln := ⟨_, rfl⟩
    rw [hln] at LW ⊢
    have RA := Lib.hid (read_any ln (by omega) (w.heap.size + 2) (w.heap.size + 6) k zs ps (KA (w.heap.size + 2) (w.heap.size + 6) w W) (ka_clo (by omega) (by omega)) W (ka_refl FRW.nw FRW.le) (by omega) hp (hL.new FRW.nw) SC)
    have HLN := Lib.hid hln
    have FH := Lib.hid FRW
    have HR := Lib.hid hr
    have HLL := Lib.hid hl
    have HK := Lib.hid hk
    have HP := Lib.hid hp
    have HS := Lib.hid hs
    clear hln FRW SC hr hl K2 LW hk hp I0 q0 q1 q2 q3 FR N0
    gi_wp2_with (first | (refine ⟨trivial, ?_⟩; gi_at_call 21; refine (CallsIn.inRound l (callsIn_wide.2 RA.out)).mono ?_; rintro e w1 ⟨K1, hh⟩; have FR1 := FH.out.ka K1; have c0 := FR1.c0; have c1 := FR1.c1; have f0 := FR1.f0; have f1 := FR1.f1; have K1 := Lib.hid K1; have FR1 := Lib.hid FR1; rcases hh with ⟨hb, rfl⟩ | ⟨hb, rfl, SC1⟩))
    · have PN : prT s = none := prT_none_of (by rw [HR.out]; exact run_stop HK.out HLN.out hb)
      exact ⟨by rw [sz]; exact keeps_sets (K1.out.keeps (by omega)), rfl, PN, FR1.out.sets⟩
    · exact ⟨by rw [sz]; exact K1.out.keeps (Nat.le_refl _), K1.out.keepB, FR1.out, ⟨_, _, SC1, by rw [List.length_append, List.length_take]; have := HP.out; simp; omega, by rw [HR.out]; exact run_next HK.out HLN.out hb⟩, fun i hi => by
        rcases Nat.lt_or_ge i k with h1 | h1
        · exact HLL.out i h1
        · obtain rfl : i = k := by omega
          rw [HLN.out]; exact lnOk_len hb⟩
  case done =>
    rintro D W hD ⟨FRW, ⟨zs, ps, SC, hp, hr⟩, hl⟩ hd
    obtain ⟨al, lol, m0, m1, tv, pv, t0, t1, OB, OP⟩ := SC
    have LP : 0 < (pcs 10 s).length := by obtain ⟨a, t, e⟩ := pcs_ne 10 s; rw [e]; simp
    have K2 := pcs_two (Nat.le_refl _) hl
    have PT : Hid (prT s = if vtB (pcs 10 s).length zs = true then some zs else none) := Lib.hid (prT_of (by rw [hr, List.drop_length]; rfl))
    obtain ⟨N, hN⟩ : ∃ N, (pcs 10 s).length = N := ⟨_, rfl⟩
    rw [hN] at OB PT LP K2
    rcases OB.form with ⟨_, hk0, _⟩ | ⟨g, cc, rfl, hg, RW, hcc, _⟩
    · omega
    · have ZL : Hid (zs.length = N * 9) := Lib.hid OB.2
      have CA := Lib.hid (OB.cellsAt (g := g) rfl).2
      have RH := Lib.hid RW
      have GH := Lib.hid hg
      have CH := Lib.hid hcc
      have VT := Lib.hid (ifValidTree_any (some ⟨g, 0, none⟩) N cc zs (by omega) W (Sts.of_res (n := N) (Res.of_row RW (Nat.zero_le _)) ZL.out))
      have FH := Lib.hid FRW
      have c0 := FRW.c0
      clear RW hg hcc OB OP t1 hp hr hl K2 hN
      have HD := Lib.hid hD
      have HDD := Lib.hid hd
      clear hd hD
      gi_wp2_with (first | (refine ⟨trivial, ?_⟩; gi_at_call 22; refine (callsIn_wide.2 VT.out).mono ?_; rintro e w1 ⟨N1, hh⟩; have FR1 := FH.out.grown (N1.grown none) (fun i e => by cases e); have c0 := FR1.c0; have c1 := FR1.c1; have f0 := FR1.f0; have f1 := FR1.f1; have N1 := Lib.hid N1; have FR1 := Lib.hid FR1; rcases hh with ⟨hv, rfl⟩ | ⟨hv, rfl⟩))
      · have hd1 := (N1.out.block D (lt_of_some HDD.out)).trans HDD.out
        obtain ⟨k0, nw, d0, d1, _⟩ := FR1.out.fin (.slice none 0 0) (.bool false) (by have := HD.out; omega) hd1
        refine ⟨by simp, .inl ⟨_, _, rfl, run_takeDeferred k0, ?_⟩⟩
        refine ⟨.tuple #[.slice none 0 0, .bool false], ?_, nw, Or.inl ⟨by rw [PT.out, if_neg (by rw [hv]; simp)], rfl⟩⟩
        simp [results, Tryz.results7, go_sem, d0, d1]
      · have hd1 := (N1.out.block D (lt_of_some HDD.out)).trans HDD.out
        obtain ⟨k0, nw, d0, d1, kk⟩ := FR1.out.fin (.slice (some ⟨g, 0, none⟩) N cc) (.bool true) (by have := HD.out; omega) hd1
        refine ⟨by simp, .inl ⟨_, _, rfl, run_takeDeferred k0, ?_⟩⟩
        obtain ⟨cs, ty, hcs⟩ := CA.out
        have hc1 := (N1.out.block g (lt_of_some hcs)).trans hcs
        have hk := kk g _ GH.out hc1 rfl
        have R1 := RH.out.new N1.out
        have eb := hk.trans hc1.symm
        refine ⟨.tuple #[.slice (some ⟨g, 0, none⟩) N cc, .bool true], ?_, nw, Or.inr ⟨zs, N, cc, g, by rw [PT.out, if_pos hv], rfl, by have := GH.out; omega, CH.out, ZL.out, lt_of_some hk, fun i hi => (World.cell?_of_block eb).trans (R1.c i hi), fun i hi => (World.frozen?_of_block (w := w1) eb).trans (R1.f i hi)⟩⟩
        simp [results, Tryz.results7, go_sem, d0, d1]
  case stop =>
    rintro D c W hD ⟨rfl, hp, FR⟩ hd
    have c0 := FR.c0
    have c1 := FR.c1
    gi_wp2
    have FR2 := FR.grown (grownBy_putObj' W D (.deferred none)) (fun i e => by have := Option.some.inj e; omega)
    refine ⟨by simp, .inl ⟨_, _, rfl, run_takeDeferred hd, ?_⟩⟩
    refine ⟨.tuple #[.slice none 0 0, .bool false], ?_, FR2.nw, Or.inl ⟨hp, rfl⟩⟩
    have d0 := FR2.c0
    have d1 := FR2.c1
    simp [results, Tryz.results7, go_sem, d0, d1]
end Go.Proofs.YtffggmjhaaehlaaGreatDoor

/- ParseTree of both, as the laws want it. Condition: the text is not too long. -/
namespace Go.Proofs.YtffggmjhaaehlaaGreatDoor
open Go.RowKit

theorem AnsTr.ansT {w w' : World} {o : Option (List Int)} {e : Ending} (h : AnsTr w o e w') : AnsT 9 w o.isSome (o.getD []) e w' := by
  obtain ⟨N, ⟨rfl, rfl⟩ | ⟨zs, n, c, g, rfl, rfl, hg, _, hl, hR⟩⟩ := h
  · exact ⟨none, 0, 0, rfl, rfl, Res.nil _ _ _, N⟩
  · exact ⟨some ⟨g, 0, none⟩, n, c, rfl, hl, Res.of_row hR hg, N⟩
theorem prT_some {s : List UInt8} {zs : List Int} (h : prT s = some zs) : (pcs 10 s).length ≤ 16 ∧ zs.length = (pcs 10 s).length * 9 ∧ vtB (pcs 10 s).length zs = true ∧ runL (pcs 10 s) 0 [] [] = some zs := by
  have h16 : (pcs 10 s).length ≤ 16 := by
    rcases Nat.lt_or_ge 16 (pcs 10 s).length with h1 | h1
    · rw [prT_long h1] at h; cases h
    · exact h1
  cases hr : runL (pcs 10 s) 0 [] [] with
  | none => rw [prT_none_of hr] at h; cases h
  | some zs' =>
    rw [prT_of hr] at h
    by_cases hv : vtB (pcs 10 s).length zs' = true
    · rw [if_pos hv] at h
      obtain rfl := Option.some.inj h
      obtain ⟨t, e, ht⟩ := runL_ext _ _ _ _ hr
      rw [List.nil_append] at e
      exact ⟨h16, by rw [e]; exact ht, hv, rfl⟩
    · rw [if_neg hv] at h; cases h
theorem prT_len (s : List UInt8) : ((prT s).getD []).length ≤ 1048576 := by
  cases h : prT s with
  | none => exact Nat.zero_le _
  | some zs =>
    have := prT_some h
    show zs.length ≤ _
    omega
theorem ParseTree_any (s : List UInt8) (hs : s.length ≤ 1048576) (w : World) (hL : LibC w) : Calls Tryz.prog 7 #[str s] w (AnsT 9 w (prT s).isSome ((prT s).getD [])) :=
  (callsIn_wide.1 (ParseTree_in s (by omega) w hL)).mono fun _ _ h => h.ansT
theorem SParseTree_ansT (s : List UInt8) (hs : s.length ≤ 1048576) (w : World) : Calls Tryz.prog 6 #[str s] w (AnsT 9 w (prT s).isSome ((prT s).getD [])) :=
  (SParseTree_any s (by omega) w).mono fun _ _ h => h.ansT
end Go.Proofs.YtffggmjhaaehlaaGreatDoor

/- A row that lists package-level variables and needs the world's shape besides: both at once. No condition. -/
namespace Go.Proofs.YtffggmjhaaehlaaGreatDoor
open Go.RowKit

theorem handed_and_shaped {H : Type} {enc : TypeId × Value → H} {a : Assume} {C : Checked} {os : Os} {f : FuncId} {fn : Func} {s : ChangeSpec} {conds : List PathCond} {apart fresh handsOn again : Bool} {X : World → Array Value → Prop}
    (hX : ∀ (w w' : World) (args : Array Value), w.heap = w'.heap → X w args → X w' args) (own : ownKnob C.prog.godebug = none) (started : os.Started) (noInit : C.prog.inits.idxOf? f = none) (hfn : C.prog.funcs[f]? = some fn)
    (witness : ∃ (w : World) (tape : Tape) (i : Input), w.os = os ∧ (w.forCall tape i).Shaped C.prog ∧ i.vars = [] ∧ Input.okWide C.prog (w.forCall tape i) .any w.heap.size f i ∧
      ((s.pre enc C.prog fn conds apart (w.forCall tape i).memory i.args ∧ X (w.forCall tape i).memory i.args) ∧ sizedMet enc C.prog fn (OpenSpec.ofChange s) apart (w.forCall tape i).memory i.args) ∧ a.holds C.prog (lone (Frame.enter C.prog f i.args .normal) [] (w.forCall tape i)))
    (contract : ∀ (W : World) (base : Nat) (args : Array Value) (ds gs : List (DataW H)) (before : List MemPlace),
      (∀ (j : Nat) t v, fn.params[j]? = some t → args[j]? = some v → Value.okWide C.prog W .any base t v) →
      DataW.Whole enc C.prog fn.params.toList s.vars apart W args.toList ds gs before →
      X W args → W.ShapedOpen C.prog →
      Calls C.prog f args W fun e W' => ∃ v, e = .returned v ∧ s.post enc C.prog fn apart fresh handsOn again W args v W') :
    ReturnsInHanded a C os f .any (fun w args => (s.pre enc C.prog fn conds apart w args ∧ X w args) ∧ sizedMet enc C.prog fn (OpenSpec.ofChange s) apart w args) (s.post enc C.prog fn apart fresh handsOn again) := by
  refine returnsInHanded_of_calls own started noInit witness ?_
  intro w tape i _ hsh _ hok hpre _
  obtain ⟨_, _, _, fn', hfn', _, _, _, _, hval⟩ := hok
  obtain rfl : fn' = fn := Option.some.inj (hfn'.symm.trans hfn)
  obtain ⟨⟨⟨ds, gs, before, hw, _⟩, hx⟩, _⟩ := hpre
  refine (contract (w.forCall tape i) w.heap.size i.args ds gs before hval (DataW.Whole.of_heap (w' := w.forCall tape i) (by rfl) hw) (hX (w.forCall tape i).memory _ _ rfl hx) hsh).mono fun e W' ⟨v, he, hp⟩ => ?_
  subst he
  exact ChangeSpec.post_blind hp
end Go.Proofs.YtffggmjhaaehlaaGreatDoor

/- What the rows that list package-level variables have in common: the program's own start meets the condition; the listed variable of the program's own reads on as it did. No condition. -/
namespace Go.Proofs.YtffggmjhaaehlaaGreatDoor
open Go.ChangeShapes Go.WideShapes Go.ChangeAt Go.WideMaps Go.WideElems Go.RowKit

theorem ownD : ownKnob Tryz.prog.godebug = none := by kernel_rfl
theorem laidD : laidOutB Tryz.prog = true := by kernel_rfl
/-- A world in which the listed variables are laid meets the condition. -/
theorem laid_met (os : Os) (args : Array Value) : laidMetH Tryz.prog laids ((World.laidAll Tryz.prog os laids).forCall (fun _ _ => 0) ⟨#[], args, []⟩).memory := by
  rw [MakeChecks.laidMetH_plain _ _ _ (by kernel_rfl)]
  exact laidMet_laidAll _ (by kernel_rfl) (by kernel_rfl)
theorem laid_shaped (os : Os) : (World.laidAll Tryz.prog os laids).Shaped Tryz.prog := World.shaped_of_ZipB (by kernel_rfl) (by kernel_rfl)
theorem vars_stay {H : Type} {enc : TypeId × Value → H} {W W' : World} {gs : List (DataW H)} {q : List MemPlace} (hN : New W W') (hV : DataW.TrodVars enc Tryz.prog W (fun _ => true) [knName] gs q) :
    ∃ d, gs = [d] ∧ DataW.TrodVars enc Tryz.prog W' (fun b => decide (b < W.heap.size)) [knName] [d] q := by
  obtain ⟨g, t, cs, fuel, d, p, rfl, hg, ht, hv, hd, rfl⟩ := trodVars_one hV
  obtain rfl := Option.some.inj (gKn.symm.trans hg)
  obtain rfl := Option.some.inj (tKn.symm.trans ht)
  have hlt : 0 < W.heap.size := by
    rcases Nat.lt_or_ge 0 W.heap.size with h' | h'
    · exact h'
    · unfold World.var? at hv
      rw [hg] at hv
      simp only [Option.bind_some] at hv
      rw [Array.getElem?_eq_none h'] at hv
      cases hv
  have lt : ∀ x ∈ p, x.block < W.heap.size := DataW.trod_lt fuel _ _ _ hd
  exact ⟨d, rfl, trodVars_mk1 hg ht (var?_below hN hg hlt hv)
    (DataW.trod_stays (kids_book laidD (show Tryz.prog.readableRec 88 = true by kernel_rfl)) (book_sized (show Tryz.prog.readableRec 88 = true by kernel_rfl)) (fun h => by cases h) ⟨of_decide_eq_true (by kernel_rfl), book_self _⟩ hd (fun x hx => hN.same (lt x hx)) (fun x hx => by simpa using lt x hx))⟩
end Go.Proofs.YtffggmjhaaehlaaGreatDoor

/- The law FnExactParseTree, walked over what both functions do: whatever the text, both answers are the same, and the answer shares no memory. Condition: both functions answer alike. -/
namespace Go.Proofs.YtffggmjhaaehlaaGreatDoor
open Go.RowKit

set_option maxHeartbeats 4000000 in
theorem lawExactParseTree (s : List UInt8) (ok : Bool) (zs : List Int) (hz : zs.length ≤ 1048576)
    (w : World)
    (hI : s.length ≤ 1048576 → ∀ W : World, New w W → Calls Tryz.prog 7 #[str s] W (AnsT 9 W ok zs))
    (hS : s.length ≤ 1048576 → ∀ W : World, New w W → Calls Tryz.prog 6 #[str s] W (AnsT 9 W ok zs)) :
    Calls Tryz.prog 3 #[str s] w fun e w' => e = .returned (.bool true) ∧ New w w' := by
  by_cases hb : 1048576 < s.length
  · have hi : (1048576 : Int) < (s.length : Int) := by omega
    go_enter Tryz.func3, Tryz.ntmps3
    go_wp2
    go_ret
    exact ⟨rfl, by (repeat (first | exact New.refl _ | assumption | refine New.alloc ?_ _ | refine New.drew ?_ | refine New.drewN ?_ _ | refine New.setCell ?_ (by first | omega | (simp; omega) | (simp; done)) _ | refine New.trans ?_ (by assumption)))⟩
  have hi : ¬ (1048576 : Int) < (s.length : Int) := by omega
  have HI := Lib.hid (hI (by omega)); have HS := Lib.hid (hS (by omega))
  clear hI hS
  go_enter Tryz.func3, Tryz.ntmps3
  go_wp2_with fail
  refine (HS.out _ (New.refl w)).mono ?_
  rintro e w1 ⟨A1, n1, c1, rfl, l1, r1, N1a⟩
  have s1 := N1a.le
  have N1 := Lib.hid N1a; clear N1a
  have L1 := Lib.hid l1; have R1 := Lib.hid r1; have b1 : n1 ≤ 1048576 := by { have := L1.out; omega }
  have i1 : (n1 : Int) ≤ 1048576 := by omega
  have j1 : (0 : Int) ≤ (n1 : Int) := by omega
  clear l1 r1
  go_wp2_with fail
  refine (HI.out _ N1.out).mono ?_
  rintro e w2 ⟨A2, n2, c2, rfl, l2, r2, N2a⟩
  have s2 := N2a.le
  have R1 := Lib.hid (R1.out.new N2a)
  have N2 := Lib.hid (N1.out.trans N2a); clear N2a
  have L2 := Lib.hid l2; have R2 := Lib.hid r2; have b2 : n2 ≤ 1048576 := by { have := L2.out; omega }
  have i2 : (n2 : Int) ≤ 1048576 := by omega
  have j2 : (0 : Int) ≤ (n2 : Int) := by omega
  clear l2 r2
  go_wp2_with fail
  refine (eqBoxS_any _ _ _ _ _ _ _ b2 b1 _ (Sts.of_res R2.out L2.out) (Sts.of_res R1.out L1.out)).mono ?_
  rintro e w3 ⟨rfl, N3a⟩
  have s3 := N3a.le
  have R1 := Lib.hid (R1.out.new N3a)
  have R2 := Lib.hid (R2.out.new N3a)
  have N3 := Lib.hid (N2.out.trans N3a); clear N3a
  go_wp2_with fail
  refine (markBoxS_any _ _ _ _ _ _ _ (by omega) (by omega) b2 L2.out _ R2.out).mono ?_
  rintro e w4 ⟨rfl, M4, C4⟩
  have s4 := C4.size
  have R1 := Lib.hid (R1.out.chg C4 (by omega))
  have N4 := Lib.hid (C4.new N3.out (by omega)); clear C4
  have M4 := Lib.hid M4
  go_wp2_with fail
  refine (heldBoxS_any _ _ _ 1 (by omega) (by omega) b2 _ (Sts.of_res M4.out (marks_len _ _))).mono ?_
  rintro e w' ⟨rfl, rfl⟩
  go_wp2_with fail
  refine (HI.out _ N4.out).mono ?_
  rintro e w5 ⟨A5, n5, c5, rfl, l5, r5, N5a⟩
  have s5 := N5a.le
  have R1 := Lib.hid (R1.out.new N5a)
  have M4 := Lib.hid (M4.out.new N5a)
  have N5 := Lib.hid (N4.out.trans N5a); clear N5a
  have L5 := Lib.hid l5; have R5 := Lib.hid r5; have b5 : n5 ≤ 1048576 := by { have := L5.out; omega }
  have i5 : (n5 : Int) ≤ 1048576 := by omega
  have j5 : (0 : Int) ≤ (n5 : Int) := by omega
  clear l5 r5
  go_wp2_with fail
  refine (eqBoxS_any _ _ _ _ _ _ _ b5 b1 _ (Sts.of_res R5.out L5.out) (Sts.of_res R1.out L1.out)).mono ?_
  rintro e w6 ⟨rfl, N6a⟩
  have s6 := N6a.le
  have R1 := Lib.hid (R1.out.new N6a)
  have M4 := Lib.hid (M4.out.new N6a)
  have N6 := Lib.hid (N5.out.trans N6a); clear N6a
  go_wp2_with fail
  refine (heldBoxS_any _ _ _ 1 (by omega) (by omega) b2 _ (Sts.of_res M4.out (marks_len _ _))).mono ?_
  rintro e w' ⟨rfl, rfl⟩
  go_wp2
  go_ret
  exact ⟨rfl, N6.out⟩
end Go.Proofs.YtffggmjhaaehlaaGreatDoor
