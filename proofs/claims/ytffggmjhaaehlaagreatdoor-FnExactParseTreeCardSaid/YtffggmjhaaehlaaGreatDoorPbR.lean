/- read of a scanner: a line more. Condition: what the library wants to find lies there; the scanner's lists are its own. -/
import Derived.Test.YtffggmjhaaehlaaGreatDoorPbO
import Derived.Test.YtffggmjhaaehlaaGreatDoorAppG
import Derived.Test.YtffggmjhaaehlaaGreatDoorBoxB
import Derived.Deep.Cut
import Derived.Deep.CutRange
namespace Go.Proofs.YtffggmjhaaehlaaGreatDoor
open Go.RowKit

/-- The text of a line, and how deep it is. -/
def txL (l : List UInt8) : List UInt8 := Lib.trimLeftB l 45
def dpL (l : List UInt8) : Nat := l.length - (txL l).length
/-- The box of a line, in a box. -/
def bxL (p : Int) (l : List UInt8) : List Int := p :: (rdI (pcs 32 (txL l))).drop 1
def parL (ps : List Int) (d : Nat) : Int := if d = 0 then -1 else ps.getD (d - 1) 0
def lnOk (l : List UInt8) (q : Nat) : Prop := bxOk (txL l) ∧ dpL l ≤ q
instance (l : List UInt8) (q : Nat) : Decidable (lnOk l q) := by unfold lnOk; infer_instance
theorem txL_le (l : List UInt8) : (txL l).length ≤ l.length := by
  unfold txL Lib.trimLeftB
  exact (List.dropWhile_sublist _).length_le
theorem Own.take {lo m d c : Nat} {w : World} {A : Option Addr} {zs : List Int} (h : Own lo w (.slice A m c) zs) (hl : zs.length = m) (hd : d ≤ m) : Own lo w (.slice A d c) (zs.take d) := by
  refine ⟨by simp, ?_⟩
  rcases h.2 with ⟨hv, hn⟩ | ⟨g, cap, cur, hv, hg, hh, hc, hm, hs, ht⟩
  · left
    simp only [Value.slice.injEq] at hv
    obtain ⟨rfl, rfl, rfl⟩ := hv
    have : d = 0 := by omega
    subst this
    exact ⟨rfl, by simp⟩
  · right
    simp only [Value.slice.injEq] at hv
    obtain ⟨rfl, h1, rfl⟩ := hv
    refine ⟨g, c, cur, ?_, hg, hh, ?_, hm, hs, ?_⟩
    · congr; simp; omega
    · simp; omega
    · rw [List.map_take, ← ht, List.take_take]
      congr 1; simp
theorem step_appBox {w : World} {ops : Array Oper} {o : Oper} {a : Act} {K : Act → World → Prop} {Q : Exit → Act → World → Prop} {E : Prop} (hgd : o.guard = none) (s x : Operand)
    (ho : o.op = .call { callee := .builtin .append, args := #[s, x], argTypes := #[22, 22] }) (lo : Nat) (v : Value) (n : Nat) (zs : List Int) (hs : a.eval s = v) (hown : OwnBox lo w v n zs)
    (A : Option Addr) (k c : Nat) (xs : List Int) (hx : a.eval x = .slice A k c) (hr : Sts 9 w A k xs) (hn : n + k ≤ 1000000) (hlo : lo ≤ w.heap.size)
    (h : ∀ v' w', OwnBox lo w' v' (n + k) (zs ++ xs) → w.grownBy w' v.ownBlock → K (a.put o.dst v') w') :
    if Region.wanted o (yielded ops a.tmps) = true then Oper.wp Tryz.prog o a w K Q else E := by
  have hw : Region.wanted o (yielded ops a.tmps) = true := by simp [Region.wanted, hgd]
  rw [if_pos hw]
  obtain ⟨v', w', hrun, h2, h3, _⟩ := run_appBox w o.type lo v n zs hown A k c xs hr hn hlo
  unfold Oper.wp execOp
  simp only [ho, resolve, invoke, builtin, Sem.run_bind, Sem.run_pure, Result.andThen_ok, List.map_toArray, List.map_cons, List.map_nil, hs, hx, hrun]
  exact h v' w' h2 h3
/-- The scanner at block a: its tree and its path, lists of its own. -/
structure ScI (a lo n : Nat) (zs ps : List Int) (w : World) : Prop where
  al : a < lo
  le : lo ≤ w.heap.size
  f0 : w.frozen? ⟨a, 0, none⟩ = false
  f1 : w.frozen? ⟨a, 1, none⟩ = false
  own : ∃ tv pv, w.cell? ⟨a, 0, none⟩ = some tv ∧ w.cell? ⟨a, 1, none⟩ = some pv ∧ OwnBox lo w tv n zs ∧ Own lo w pv ps
theorem ScI.new {a lo n : Nat} {zs ps : List Int} {w w' : World} (h : ScI a lo n zs ps w) (k : New w w') : ScI a lo n zs ps w' := by
  obtain ⟨h1, h2, h3, h4, tv, pv, h5, h6, h7, h8⟩ := h
  exact ⟨h1, Nat.le_trans h2 k.le, (k.marks a 0 (by omega)).trans h3, (k.marks a 1 (by omega)).trans h4, tv, pv, (k.cells a 0 (by omega)).trans h5, (k.cells a 1 (by omega)).trans h6, h7.new k, h8.new k⟩
theorem grown_set (w : World) (a k : Nat) (v : Value) : w.grownBy (w.setCell ⟨a, k, none⟩ v) (some a) :=
  ⟨rfl, rfl, rfl, by rw [World.size_setCell]; exact Nat.le_refl _, fun i _ hne => Below.heap_setCell _ _ _ _ (by simp; exact fun h => hne (by rw [h]))⟩
theorem grown_mark {w w' : World} {r : Option Nat} (h : w.grownBy w' r) {a k : Nat} (ha : a < w.heap.size) (hr : some a ≠ r) (hf : w.frozen? ⟨a, k, none⟩ = false) : w'.frozen? ⟨a, k, none⟩ = false :=
  (World.frozen?_of_block (w := w) (h.block a ha hr)).trans hf
theorem own_ne {a lo : Nat} {w : World} {v : Value} {zs : List Int} (h : Own lo w v zs) (ha : a < lo) : some a ≠ v.ownBlock := fun e => by
  have := h.below e.symm
  omega
theorem ownBox_ne {a lo n : Nat} {w : World} {v : Value} {zs : List Int} (h : OwnBox lo w v n zs) (ha : a < lo) : some a ≠ v.ownBlock := fun e => by
  have := h.below e.symm
  omega
theorem OwnBox.setA {a k lo n : Nat} {w : World} {v u : Value} {zs : List Int} (h : OwnBox lo w v n zs) (ha : a < lo) : OwnBox lo (w.setCell ⟨a, k, none⟩ u) v n zs :=
  h.kept (grown_set w a k u) (fun g e => by obtain rfl := Option.some.inj e; exact ha)
theorem Own.setA {a k lo : Nat} {w : World} {v u : Value} {zs : List Int} (h : Own lo w v zs) (ha : a < lo) : Own lo (w.setCell ⟨a, k, none⟩ u) v zs :=
  h.kept (grown_set w a k u) (fun g e => by obtain rfl := Option.some.inj e; exact ha)
theorem ownsRow_cells {w : World} {lo t z n g : Nat} {v : Value} {xs : List Value} (h : w.ownsRow lo t z v n xs) (e : v.ownBlock = some g) : lo ≤ g ∧ ∃ cs t, w.heap[g]? = some (.cells cs t) := by
  rcases h.2 with ⟨rfl, _⟩ | ⟨g', cap, cur, rfl, hg, hh, _⟩
  · simp [Value.ownBlock] at e
  · obtain rfl : g' = g := by simpa [Value.ownBlock] using e
    exact ⟨hg, _, _, hh⟩
theorem Own.cellsAt {w : World} {lo g : Nat} {v : Value} {zs : List Int} (h : Own lo w v zs) (e : v.ownBlock = some g) : lo ≤ g ∧ ∃ cs t, w.heap[g]? = some (.cells cs t) := ownsRow_cells h e
theorem OwnBox.cellsAt {w : World} {lo n g : Nat} {v : Value} {zs : List Int} (h : OwnBox lo w v n zs) (e : v.ownBlock = some g) : lo ≤ g ∧ ∃ cs t, w.heap[g]? = some (.cells cs t) := ownsRow_cells h.1 e
/-- What stays where only the scanner's record and lists of later blocks turn. -/
structure Clo (a lo : Nat) (X : World → Prop) : Prop where
  new : ∀ {w w' : World}, X w → New w w' → X w'
  own : ∀ {w w' : World} {r : Option Nat}, X w → w.grownBy w' r → (∀ g, r = some g → lo ≤ g ∧ ∃ cs t, w.heap[g]? = some (.cells cs t)) → X w'
  set : ∀ {w : World} (k : Nat) (u : Value), X w → X (w.setCell ⟨a, k, none⟩ u)
/-- What is known of the world while a line is taken up. -/
structure StR (X : World → Prop) (a lo n gb : Nat) (zs ps ys : List Int) (tv cv bv pv : Value) (w : World) : Prop where
  cl : Clo a lo X
  nw : X w
  le : lo ≤ w.heap.size
  c0 : w.cell? ⟨a, 0, none⟩ = some tv
  c1 : w.cell? ⟨a, 1, none⟩ = some cv
  m0 : w.frozen? ⟨a, 0, none⟩ = false
  m1 : w.frozen? ⟨a, 1, none⟩ = false
  ob : OwnBox lo w bv n zs
  op : Own lo w pv ps
  row : Row w gb ys
section
variable {X : World → Prop} {w w' : World} {a lo n gb : Nat} {zs ps ys xs : List Int} {tv cv bv pv v' u : Value}
theorem StR.new (h : StR X a lo n gb zs ps ys tv cv bv pv w) (al : a < lo) (k : New w w') : StR X a lo n gb zs ps ys tv cv bv pv w' := by
  have := h.le
  exact ⟨h.cl, h.cl.new h.nw k, Nat.le_trans h.le k.le, (k.cells a 0 (by omega)).trans h.c0, (k.cells a 1 (by omega)).trans h.c1, (k.marks a 0 (by omega)).trans h.m0, (k.marks a 1 (by omega)).trans h.m1, h.ob.new k, h.op.new k, h.row.new k⟩
theorem StR.app (h : StR X a lo n gb zs ps ys tv cv bv pv w) (al : a < lo) (O : Own lo w' v' xs) (G : w.grownBy w' pv.ownBlock) (hg : some gb ≠ pv.ownBlock) : StR X a lo n gb zs xs ys tv cv bv v' w' := by
  have n1 := own_ne h.op al
  have := h.le
  exact ⟨h.cl, h.cl.own h.nw G (fun g e => h.op.cellsAt e), Nat.le_trans h.le G.size, G.cell h.c0 n1, G.cell h.c1 n1, grown_mark G (by omega) n1 h.m0, grown_mark G (by omega) n1 h.m1, h.ob.keptOwn h.op G, O, ⟨Nat.lt_of_lt_of_le h.row.lt G.size, fun i hi => G.cell (h.row.c i hi) hg, fun i hi => grown_mark G h.row.lt hg (h.row.f i hi)⟩⟩
theorem StR.withOp (h : StR X a lo n gb zs ps ys tv cv bv pv w) {pv' : Value} {ps' : List Int} (o : Own lo w pv' ps') : StR X a lo n gb zs ps' ys tv cv bv pv' w := ⟨h.cl, h.nw, h.le, h.c0, h.c1, h.m0, h.m1, h.ob, o, h.row⟩
theorem StR.set1 (h : StR X a lo n gb zs ps ys tv cv bv pv w) (al : a < lo) (hg : gb ≠ a) (u : Value) : StR X a lo n gb zs ps ys tv u bv pv (w.setCell ⟨a, 1, none⟩ u) := by
  refine ⟨h.cl, h.cl.set 1 u h.nw, by rw [World.size_setCell]; exact h.le, ?_, ?_, set_frozen h.m0, set_frozen h.m1, h.ob.setA al, h.op.setA al, h.row.far (p := ⟨a, 1, none⟩) (by exact Ne.symm hg) u⟩
  · rw [set_cell_at h.c1, if_neg (by omega)]; exact h.c0
  · rw [set_cell_at h.c1, if_pos rfl]
end
set_option maxRecDepth 100000 in
set_option maxHeartbeats 4000000 in
theorem read_any (l : List UInt8) (hl : l.length ≤ 2000000) (a lo n : Nat) (zs ps : List Int) (X : World → Prop) (hX : Clo a lo X) (w : World) (h0 : X w) (hn : n ≤ 900000) (hq : ps.length ≤ n) (hL : LibC w) (hS : ScI a lo n zs ps w) :
    Calls Tryz.prog 21 #[.pointer (some ⟨a, 0, none⟩), str l] w fun e w' => X w' ∧ ((¬ lnOk l ps.length ∧ e = .returned (.bool false)) ∨ (lnOk l ps.length ∧ e = .returned (.bool true) ∧ ScI a lo (n + 1) (zs ++ bxL (parL ps (dpL l)) l) (ps.take (dpL l) ++ [(n : Int)]) w')) := by
  have H0 := Lib.hid h0
  have HX := Lib.hid hX
  have HL := Lib.hid hl
  have HLC := Lib.hid hL
  obtain ⟨d, hd⟩ : ∃ d, dpL l = d := ⟨_, rfl⟩
  obtain ⟨tx, ht⟩ : ∃ tx, txL l = tx := ⟨_, rfl⟩
  have htl := txL_le l
  have hdl : (l.length : Int) - (tx.length : Int) = (d : Int) := by
    unfold dpL at hd
    rw [ht] at hd htl
    omega
  have HTX : Hid (tx.length ≤ 2000000) := Lib.hid (by rw [← ht]; omega)
  have HD := Lib.hid hd
  have HT := Lib.hid ht
  have TRM := Lib.hid (fun W => (show Calls Tryz.prog 41 #[str l, str [45]] W fun e w' => e = .returned (str tx) ∧ W = w' from (Shf.strings_TrimLeft_one ⟨l.toArray⟩ 45 (by decide) W).mono fun e w' ⟨he, hw⟩ => ⟨by rw [he, ← ht]; rfl, hw.symm⟩))
  have wd : IntKind.i64.wrap ((l.length : Int) - (tx.length : Int)) = (d : Int) := by rw [hdl]; exact IntWalk.i64_in _ (by omega)
  have d0 : (0 : Int) ≤ (d : Int) := by omega
  have dl : d ≤ 2000000 := by omega
  rw [hd]
  clear h0 hX hl hL hd ht htl
  obtain ⟨q, hq'⟩ : ∃ q, ps.length = q := ⟨_, rfl⟩
  rw [hq'] at hq ⊢
  have HQ := Lib.hid hq'
  clear hq'
  obtain ⟨al, lol, f0, f1, tv, pv, c0, c1, OB, OP⟩ := hS
  have OBH := Lib.hid OB
  have OPH := Lib.hid OP
  obtain ⟨A, c, rfl, hqc, RP⟩ := OP.res
  obtain ⟨B, cb, rfl, hnc, RT⟩ := OB.res
  rw [HQ.out] at hqc
  rw [HQ.out] at OPH c1
  have HAL := Lib.hid al; have HLO := Lib.hid lol; have F0 := Lib.hid f0; have F1 := Lib.hid f1; have C0 := Lib.hid c0; have C1 := Lib.hid c1
  clear al lol OB OP RP RT f0 f1 c0
  go_enter Tryz.func21, Tryz.ntmps21
  go_wp2_with fail
  refine (TRM.out _).mono ?_
  rintro e w1 ⟨rfl, rfl⟩
  go_wp2_with fail
  refine (boxOf_any tx HTX.out _ HLC.out).mono ?_
  rintro e w2 ⟨N2, ⟨hb, rfl⟩ | ⟨hb, rfl⟩⟩
  · obtain ⟨y1, y2, y3, y4, y5, y6, y7, y8, hy⟩ : ∃ y1 y2 y3 y4 y5 y6 y7 y8, rdI (pcs 32 tx) = [0, y1, y2, y3, y4, y5, y6, y7, y8] := ⟨_, _, _, _, _, _, _, _, rfl⟩
    rw [hy]
    have HY := Lib.hid hy
    have HB := Lib.hid hb
    clear hy hb
    have hal := HAL.out
    have hlo := HLO.out
    have s2 := N2.le
    have CX := Lib.hid (fun X (hX : New w2 X) => And.intro ((hX.cells a 0 (by omega)).trans ((N2.cells a 0 (by omega)).trans C0.out)) ((hX.cells a 1 (by omega)).trans ((N2.cells a 1 (by omega)).trans C1.out)))
    have MX := Lib.hid (And.intro ((N2.marks a 0 (by omega)).trans F0.out) ((N2.marks a 1 (by omega)).trans F1.out))
    have OBX := Lib.hid (OBH.out.new N2)
    have OPX := Lib.hid (OPH.out.new N2)
    have NW2 := Lib.hid (HX.out.new H0.out N2)
    have lo2 : lo ≤ w2.heap.size := by omega
    have za : a < w2.heap.size := by omega
    have e1 := (CX.out w2 (New.refl _)).2
    clear C0 C1 F0 F1 OBH OPH H0 N2 s2 c1
    obtain ⟨gb, hgb⟩ : ∃ g, w2.heap.size = g := ⟨_, rfl⟩
    have SB : Hid (∀ P : Int, StR X a lo n gb zs ps [P, y1, y2, y3, y4, y5, y6, y7, y8] (.slice B n cb) (.slice A q c) (.slice B n cb) (.slice A q c) (w2.alloc (.cells #[.int .i64 P, .int .i64 y1, .int .i64 y2, .int .i64 y3, .int .i64 y4, .int .i64 y5, .int .i64 y6, .int .i64 y7, .int .i64 y8] 38))) := Lib.hid (fun P => by
      have NB2 := (New.refl w2).alloc (.cells #[.int .i64 P, .int .i64 y1, .int .i64 y2, .int .i64 y3, .int .i64 y4, .int .i64 y5, .int .i64 y6, .int .i64 y7, .int .i64 y8] 38)
      exact ⟨HX.out, HX.out.new NW2.out NB2, Nat.le_trans lo2 NB2.le, (CX.out _ NB2).1, (CX.out _ NB2).2, (NB2.marks a 0 za).trans MX.out.1, (NB2.marks a 1 za).trans MX.out.2, OBX.out.new NB2, OPX.out.new NB2, by rw [← hgb]; exact Row.oneBox1 w2 P y1 y2 y3 y4 y5 y6 y7 y8 38⟩)
    have GN : Hid (∀ g, A = some ⟨g, 0, none⟩ → some gb ≠ some g) := Lib.hid (fun g e h => by
      rcases OPX.out.form with ⟨hv, _⟩ | ⟨g', cc, hv, _, RW, _, _⟩
      · simp only [Value.slice.injEq] at hv
        rw [hv.1] at e
        cases e
      · simp only [Value.slice.injEq] at hv
        rw [hv.1] at e
        have h1 := RW.lt
        have h2 : g' = g := by injection e with e; injection e
        have h3 := Option.some.inj h
        omega)
    have GA : Hid (gb ≠ a ∧ w2.heap.size ≤ gb ∧ gb ≤ w2.heap.size) := Lib.hid (by omega)
    have HGB := Lib.hid hgb
    clear hgb
    by_cases hdq : d ≤ q
    · have dq : (d : Int) ≤ (q : Int) := by omega
      have dqn : ¬ (q : Int) < (d : Int) := by omega
      have qc : (q : Int) ≤ (c : Int) := by omega
      have N1000 : n + 1 ≤ 1000000 := by omega
      go_upto_if 34 with (fail)
      go_cut [8] from 9 (fun s8 wx => s8 = .bool true ∧ Hid (StR X a lo n gb zs ps [parL ps d, y1, y2, y3, y4, y5, y6, y7, y8] (.slice B n cb) (.slice A q c) (.slice B n cb) (.slice A q c) wx))
      case first =>
        by_cases hd0 : d = 0
        · subst hd0
          go_wp2_with fail
          go_meet
          case rel => exact ⟨rfl, Lib.hid (SB.out (-1))⟩
        · obtain ⟨k, rfl⟩ : ∃ k, d = k + 1 := ⟨d - 1, by omega⟩
          rcases OPX.out.form with ⟨hv, hp⟩ | ⟨g, cc, hv, hg, RW, hcc, _⟩
          · simp only [Value.slice.injEq] at hv
            obtain ⟨_, hq0, _⟩ := hv
            omega
          · simp only [Value.slice.injEq] at hv
            obtain ⟨rfl, hq2, rfl⟩ := hv
            have zg := RW.lt
            have gk := RW.c k (by omega)
            obtain ⟨pk, hpk⟩ : ∃ pk, ps.getD k 0 = pk := ⟨_, rfl⟩
            rw [hpk] at gk
            have SBk := Lib.hid (SB.out pk)
            have HP : Hid (parL ps (k + 1) = pk) := Lib.hid hpk
            have k0 : (0 : Int) ≤ (k : Int) := by omega
            have k1 : (0 : Int) < (k : Int) + 1 := by omega
            have k2 : (k : Int) < (q : Int) := by omega
            have k3 : (k : Int) + 1 - 1 = (k : Int) := by omega
            have k5 : IntKind.i64.wrap ((k : Int) + 1 - 1) = (k : Int) := by rw [k3]; exact IntWalk.i64_in _ (by omega)
            have k4 : k < q := by omega
            clear RW hpk hd0 hcc hg
            go_wp2_with fail
            go_meet
            case rel => exact ⟨rfl, by rw [HP.out]; exact SBk⟩
      case rest =>
        obtain ⟨rfl, SX⟩ := hcut
        rw [HGB.out]
        clear SB CX MX OBX OPX e1
        have KQ : Hid ((ps.take d).length + 1 ≤ 2000000) := Lib.hid (by simp; omega)
        generalize hP : parL ps d = P at *
        have HP := Lib.hid hP
        clear hP
        go_upto_region 9 with (fail)
        go_cut [8] from 9 (fun s8 wx => s8 = .bool true ∧ ∃ (A9 : Option Addr) (t9 c9 : Nat), Hid (StR X a lo n gb zs (ps.take d ++ [(n : Int)]) [P, y1, y2, y3, y4, y5, y6, y7, y8] (.slice B n cb) (.slice A9 t9 c9) (.slice B n cb) (.slice A9 t9 c9) wx))
        case first =>
          rcases SX.out.op.form with ⟨hv, hp⟩ | ⟨g, cc, hv, hg, RW, hcc, _⟩
          · simp only [Value.slice.injEq] at hv
            obtain ⟨rfl, rfl, rfl⟩ := hv
            obtain rfl : d = 0 := by omega
            have NEG : Hid (some gb ≠ Value.ownBlock (.slice none 0 0)) := Lib.hid (by intro h; cases h)
            have SD := Lib.hid (SX.out.new HAL.out (New.refl wc).drew)
            have OT := Lib.hid (SX.out.op.take (d := 0) HQ.out (by omega))
            clear SX
            refine wp_region_noPanic ?_
            refine wp_region_held_drew (S := fun _ => True) (by kernel_rfl) (trivial) (fun hHeld => ?_)
            have OD := Lib.hid (Own.drew OT.out)
            generalize wc.drew = Vd at *
            refine wpAnyH_take (i := 0) (oi := _) (v := ?_) rfl (by kernel_rfl) (by kernel_rfl) (by kernel_rfl) (fun _ _ _ h => h) (Or.inl ⟨by kernel_rfl, ?_⟩) (by assumption) ?_
            rotate_left; (intro w' hSw; (try dsimp only at hSw); go_split_ands; go_simp; (try with_reducible rfl))
            try dsimp only [Act.put]
            refine wpAnyH_take (i := 1) (oi := _) (v := ?_) rfl (by kernel_rfl) (by kernel_rfl) (by kernel_rfl) (fun _ _ _ h => h) (Or.inl ⟨by kernel_rfl, ?_⟩) (by assumption) ?_
            rotate_left; (intro w' hSw; (try dsimp only at hSw); go_split_ands; go_simp; (try with_reducible rfl))
            try dsimp only [Act.put]
            refine wpAnyH_take (i := 2) (oi := _) (v := ?_) rfl (by kernel_rfl) (by kernel_rfl) (by kernel_rfl) (fun _ _ _ h => h) (Or.inl ⟨by kernel_rfl, ?_⟩) (by assumption) ?_
            rotate_left; (intro w' hSw; (try dsimp only at hSw); go_split_ands; go_simp; (try with_reducible rfl))
            try dsimp only [Act.put]
            refine wpAnyH_take (i := 3) (oi := _) (v := ?_) rfl (by kernel_rfl) (by kernel_rfl) (by kernel_rfl) (fun _ _ _ h => h) (Or.inl ⟨by kernel_rfl, ?_⟩) (by assumption) ?_
            rotate_left; (intro w' hSw; (try dsimp only at hSw); go_split_ands; go_simp; (try with_reducible rfl))
            try dsimp only [Act.put]
            refine wpAnyH_take (i := 5) (oi := _) (v := ?_) rfl (by kernel_rfl) (by kernel_rfl) (by kernel_rfl) (fun _ _ _ h => h) (Or.inl ⟨by kernel_rfl, ?_⟩) (by assumption) ?_
            rotate_left; (intro w' hSw; (try dsimp only at hSw); go_split_ands; go_simp; (try with_reducible rfl))
            try dsimp only [Act.put]
            refine wpAnyH_take (i := 7) (oi := _) (v := ?_) rfl (by kernel_rfl) (by kernel_rfl) (by kernel_rfl) (fun _ _ _ h => h) (Or.inl ⟨by kernel_rfl, ?_⟩) (by assumption) ?_
            rotate_left; (intro w' hSw; (try dsimp only at hSw); go_split_ands; go_simp; (try with_reducible rfl))
            try dsimp only [Act.put]
            refine wpAnyH_take (i := 8) (oi := _) (v := ?_) rfl (by kernel_rfl) (by kernel_rfl) (by kernel_rfl) (fun _ _ _ h => h) (Or.inl ⟨by kernel_rfl, ?_⟩) (by assumption) ?_
            rotate_left; (intro w' hSw; (try dsimp only at hSw); go_split_ands; go_simp; (try with_reducible rfl))
            try dsimp only [Act.put]
            refine wpAnyH_take (i := 9) (oi := _) (v := ?_) rfl (by kernel_rfl) (by kernel_rfl) (by kernel_rfl) (fun _ _ _ h => h) (Or.inl ⟨by kernel_rfl, ?_⟩) (by assumption) ?_
            rotate_left; (intro w' hSw; (try dsimp only at hSw); go_split_ands; go_simp; (try with_reducible rfl))
            try dsimp only [Act.put]
            refine wpAnyH_ready (rs := [4, 10]) (by kernel_rfl) (by simp) ?_
            refine AllReadyH.cons (o := _) rfl (fun K hK => ?_) (AllReadyH.cons (o := _) rfl (fun K hK => ?_) AllReadyH.nil)
            · have q0 := SD.out.c1
              go_simp
              clear q0
              refine hK.out _ _ (trivial) (fun hH4 => ?_)
              clear hK K
              try dsimp only [Act.put]
              refine wpAnyH_take (i := 6) (oi := _) (v := ?_) rfl (by kernel_rfl) (by kernel_rfl) (by kernel_rfl) (fun _ _ _ h => h) (Or.inl ⟨by kernel_rfl, ?_⟩) (by assumption) ?_
              rotate_left; (intro w' hSw; (try dsimp only at hSw); go_split_ands; go_simp; (try with_reducible rfl))
              try dsimp only [Act.put]
              refine wpAnyH_ready (rs := [10]) (by kernel_rfl) (by simp) ?_
              refine AllReadyH.cons (o := _) rfl (fun K hK => ?_) AllReadyH.nil
              have q0 := SD.out.c0
              go_simp
              clear q0
              refine hK.out _ _ (trivial) (fun hH10 => ?_)
              clear hK K
              try dsimp only [Act.put]
              refine wpAnyH_take (i := 11) (oi := _) (v := ?_) rfl (by kernel_rfl) (by kernel_rfl) (by kernel_rfl) (fun _ _ _ h => h) (Or.inl ⟨by kernel_rfl, ?_⟩) (by assumption) ?_
              rotate_left; (intro w' hSw; (try dsimp only at hSw); go_split_ands; go_simp; (try with_reducible rfl))
              try dsimp only [Act.put]
              refine wpAnyH_ready (rs := [12]) (by kernel_rfl) (by simp) ?_
              refine AllReadyH.cons (o := _) rfl (fun K hK => ?_) AllReadyH.nil
              go_simp
              have Nc := (New.refl Vd).alloc (.cells #[.int .i64 (n : Int)] 3)
              have Sc := Lib.hid (SD.out.new HAL.out Nc)
              have Tc := Lib.hid (Own.new (v := .slice none 0 0) OD.out Nc)
              obtain ⟨gc, hgc⟩ : ∃ g, Vd.heap.size = g := ⟨_, rfl⟩
              have Ic : Ints (Vd.alloc (.cells #[.int .i64 (n : Int)] 3)) (some ⟨gc, 0, none⟩) 1 [(n : Int)] := by rw [← hgc]; exact Ints.one Vd (n : Int) 3
              rw [hgc]
              clear Nc hgc
              generalize Vd.alloc (.cells #[.int .i64 (n : Int)] 3) = Vc at *
              refine hK.out _ _ (trivial) (fun hH12 => ?_)
              clear hK K
              try dsimp only [Act.put]
              refine wpAnyH_ready (rs := [13]) (by kernel_rfl) (by simp) ?_
              refine AllReadyH.cons (o := _) rfl (fun K hK => ?_) AllReadyH.nil
              refine step_appN rfl _ _ rfl lo (.slice none 0 0) (ps.take 0) rfl Tc.out (some ⟨gc, 0, none⟩) 1 1 [(n : Int)] rfl Ic KQ.out Sc.out.le ?_
              intro v9 w9 O9 G9
              have S9 := (Sc.out.withOp Tc.out).app HAL.out O9 G9 NEG.out
              obtain ⟨A9, c9, hv9, _, _⟩ := O9.res
              obtain ⟨t9, ht9⟩ : ∃ t, (ps.take 0 ++ [(n : Int)]).length = t := ⟨_, rfl⟩
              rw [ht9] at hv9
              subst hv9
              replace S9 := Lib.hid S9
              clear G9 O9 Ic ht9
              refine hK.out _ _ (trivial) (fun hH13 => ?_)
              clear hK K
              try dsimp only [Act.put]
              refine wpAnyH_take (i := 14) (oi := _) (v := ?_) rfl (by kernel_rfl) (by kernel_rfl) (by kernel_rfl) (fun _ _ _ h => h) (Or.inl ⟨by kernel_rfl, ?_⟩) (by assumption) ?_
              rotate_left; (intro w' hSw; (try dsimp only at hSw); go_split_ands; go_simp; (try with_reducible rfl))
              try dsimp only [Act.put]
              refine wpAnyH_take (i := 15) (oi := _) (v := ?_) rfl (by kernel_rfl) (by kernel_rfl) (by kernel_rfl) (fun _ _ _ h => h) (Or.inl ⟨by kernel_rfl, ?_⟩) (by assumption) ?_
              rotate_left; (intro w' hSw; (try dsimp only at hSw); go_split_ands; go_simp; (try with_reducible rfl))
              try dsimp only [Act.put]
              refine wpAnyH_ready (rs := [16]) (by kernel_rfl) (by simp) ?_
              refine AllReadyH.cons (o := _) rfl (fun K hK => ?_) AllReadyH.nil
              have q1 := S9.out.c1; have z1 := S9.out.m1
              go_simp
              clear q1 z1
              have SE := Lib.hid (S9.out.set1 HAL.out GA.out.1 (.slice A9 t9 c9))
              generalize w9.setCell ⟨a, 1, none⟩ (.slice A9 t9 c9) = WE at *
              refine hK.out _ _ (trivial) (fun hH16 => ?_)
              clear hK K
              try dsimp only [Act.put]
              refine wpAnyH_done (by kernel_rfl) ?_ _
              refine NoPanic.normal ?_
              try go_simp
              go_wp2_with fail
              go_meet
              case rel => exact ⟨rfl, A9, t9, c9, SE⟩
            · have q0 := SD.out.c0
              go_simp
              clear q0
              refine hK.out _ _ (trivial) (fun hH10 => ?_)
              clear hK K
              try dsimp only [Act.put]
              refine wpAnyH_take (i := 11) (oi := _) (v := ?_) rfl (by kernel_rfl) (by kernel_rfl) (by kernel_rfl) (fun _ _ _ h => h) (Or.inl ⟨by kernel_rfl, ?_⟩) (by assumption) ?_
              rotate_left; (intro w' hSw; (try dsimp only at hSw); go_split_ands; go_simp; (try with_reducible rfl))
              try dsimp only [Act.put]
              refine wpAnyH_ready (rs := [4, 12]) (by kernel_rfl) (by simp) ?_
              refine AllReadyH.cons (o := _) rfl (fun K hK => ?_) (AllReadyH.cons (o := _) rfl (fun K hK => ?_) AllReadyH.nil)
              · have q0 := SD.out.c1
                go_simp
                clear q0
                refine hK.out _ _ (trivial) (fun hH4 => ?_)
                clear hK K
                try dsimp only [Act.put]
                refine wpAnyH_take (i := 6) (oi := _) (v := ?_) rfl (by kernel_rfl) (by kernel_rfl) (by kernel_rfl) (fun _ _ _ h => h) (Or.inl ⟨by kernel_rfl, ?_⟩) (by assumption) ?_
                rotate_left; (intro w' hSw; (try dsimp only at hSw); go_split_ands; go_simp; (try with_reducible rfl))
                try dsimp only [Act.put]
                refine wpAnyH_ready (rs := [12]) (by kernel_rfl) (by simp) ?_
                refine AllReadyH.cons (o := _) rfl (fun K hK => ?_) AllReadyH.nil
                go_simp
                have Nc := (New.refl Vd).alloc (.cells #[.int .i64 (n : Int)] 3)
                have Sc := Lib.hid (SD.out.new HAL.out Nc)
                have Tc := Lib.hid (Own.new (v := .slice none 0 0) OD.out Nc)
                obtain ⟨gc, hgc⟩ : ∃ g, Vd.heap.size = g := ⟨_, rfl⟩
                have Ic : Ints (Vd.alloc (.cells #[.int .i64 (n : Int)] 3)) (some ⟨gc, 0, none⟩) 1 [(n : Int)] := by rw [← hgc]; exact Ints.one Vd (n : Int) 3
                rw [hgc]
                clear Nc hgc
                generalize Vd.alloc (.cells #[.int .i64 (n : Int)] 3) = Vc at *
                refine hK.out _ _ (trivial) (fun hH12 => ?_)
                clear hK K
                try dsimp only [Act.put]
                refine wpAnyH_ready (rs := [13]) (by kernel_rfl) (by simp) ?_
                refine AllReadyH.cons (o := _) rfl (fun K hK => ?_) AllReadyH.nil
                refine step_appN rfl _ _ rfl lo (.slice none 0 0) (ps.take 0) rfl Tc.out (some ⟨gc, 0, none⟩) 1 1 [(n : Int)] rfl Ic KQ.out Sc.out.le ?_
                intro v9 w9 O9 G9
                have S9 := (Sc.out.withOp Tc.out).app HAL.out O9 G9 NEG.out
                obtain ⟨A9, c9, hv9, _, _⟩ := O9.res
                obtain ⟨t9, ht9⟩ : ∃ t, (ps.take 0 ++ [(n : Int)]).length = t := ⟨_, rfl⟩
                rw [ht9] at hv9
                subst hv9
                replace S9 := Lib.hid S9
                clear G9 O9 Ic ht9
                refine hK.out _ _ (trivial) (fun hH13 => ?_)
                clear hK K
                try dsimp only [Act.put]
                refine wpAnyH_take (i := 14) (oi := _) (v := ?_) rfl (by kernel_rfl) (by kernel_rfl) (by kernel_rfl) (fun _ _ _ h => h) (Or.inl ⟨by kernel_rfl, ?_⟩) (by assumption) ?_
                rotate_left; (intro w' hSw; (try dsimp only at hSw); go_split_ands; go_simp; (try with_reducible rfl))
                try dsimp only [Act.put]
                refine wpAnyH_take (i := 15) (oi := _) (v := ?_) rfl (by kernel_rfl) (by kernel_rfl) (by kernel_rfl) (fun _ _ _ h => h) (Or.inl ⟨by kernel_rfl, ?_⟩) (by assumption) ?_
                rotate_left; (intro w' hSw; (try dsimp only at hSw); go_split_ands; go_simp; (try with_reducible rfl))
                try dsimp only [Act.put]
                refine wpAnyH_ready (rs := [16]) (by kernel_rfl) (by simp) ?_
                refine AllReadyH.cons (o := _) rfl (fun K hK => ?_) AllReadyH.nil
                have q1 := S9.out.c1; have z1 := S9.out.m1
                go_simp
                clear q1 z1
                have SE := Lib.hid (S9.out.set1 HAL.out GA.out.1 (.slice A9 t9 c9))
                generalize w9.setCell ⟨a, 1, none⟩ (.slice A9 t9 c9) = WE at *
                refine hK.out _ _ (trivial) (fun hH16 => ?_)
                clear hK K
                try dsimp only [Act.put]
                refine wpAnyH_done (by kernel_rfl) ?_ _
                refine NoPanic.normal ?_
                try go_simp
                go_wp2_with fail
                go_meet
                case rel => exact ⟨rfl, A9, t9, c9, SE⟩
              · go_simp
                have Nc := (New.refl Vd).alloc (.cells #[.int .i64 (n : Int)] 3)
                have Sc := Lib.hid (SD.out.new HAL.out Nc)
                have Tc := Lib.hid (Own.new (v := .slice none 0 0) OD.out Nc)
                obtain ⟨gc, hgc⟩ : ∃ g, Vd.heap.size = g := ⟨_, rfl⟩
                have Ic : Ints (Vd.alloc (.cells #[.int .i64 (n : Int)] 3)) (some ⟨gc, 0, none⟩) 1 [(n : Int)] := by rw [← hgc]; exact Ints.one Vd (n : Int) 3
                rw [hgc]
                clear Nc hgc
                generalize Vd.alloc (.cells #[.int .i64 (n : Int)] 3) = Vc at *
                refine hK.out _ _ (trivial) (fun hH12 => ?_)
                clear hK K
                try dsimp only [Act.put]
                refine wpAnyH_ready (rs := [4]) (by kernel_rfl) (by simp) ?_
                refine AllReadyH.cons (o := _) rfl (fun K hK => ?_) AllReadyH.nil
                have q0 := Sc.out.c1
                go_simp
                clear q0
                refine hK.out _ _ (trivial) (fun hH4 => ?_)
                clear hK K
                try dsimp only [Act.put]
                refine wpAnyH_take (i := 6) (oi := _) (v := ?_) rfl (by kernel_rfl) (by kernel_rfl) (by kernel_rfl) (fun _ _ _ h => h) (Or.inl ⟨by kernel_rfl, ?_⟩) (by assumption) ?_
                rotate_left; (intro w' hSw; (try dsimp only at hSw); go_split_ands; go_simp; (try with_reducible rfl))
                try dsimp only [Act.put]
                refine wpAnyH_ready (rs := [13]) (by kernel_rfl) (by simp) ?_
                refine AllReadyH.cons (o := _) rfl (fun K hK => ?_) AllReadyH.nil
                refine step_appN rfl _ _ rfl lo (.slice none 0 0) (ps.take 0) rfl Tc.out (some ⟨gc, 0, none⟩) 1 1 [(n : Int)] rfl Ic KQ.out Sc.out.le ?_
                intro v9 w9 O9 G9
                have S9 := (Sc.out.withOp Tc.out).app HAL.out O9 G9 NEG.out
                obtain ⟨A9, c9, hv9, _, _⟩ := O9.res
                obtain ⟨t9, ht9⟩ : ∃ t, (ps.take 0 ++ [(n : Int)]).length = t := ⟨_, rfl⟩
                rw [ht9] at hv9
                subst hv9
                replace S9 := Lib.hid S9
                clear G9 O9 Ic ht9
                refine hK.out _ _ (trivial) (fun hH13 => ?_)
                clear hK K
                try dsimp only [Act.put]
                refine wpAnyH_take (i := 14) (oi := _) (v := ?_) rfl (by kernel_rfl) (by kernel_rfl) (by kernel_rfl) (fun _ _ _ h => h) (Or.inl ⟨by kernel_rfl, ?_⟩) (by assumption) ?_
                rotate_left; (intro w' hSw; (try dsimp only at hSw); go_split_ands; go_simp; (try with_reducible rfl))
                try dsimp only [Act.put]
                refine wpAnyH_take (i := 15) (oi := _) (v := ?_) rfl (by kernel_rfl) (by kernel_rfl) (by kernel_rfl) (fun _ _ _ h => h) (Or.inl ⟨by kernel_rfl, ?_⟩) (by assumption) ?_
                rotate_left; (intro w' hSw; (try dsimp only at hSw); go_split_ands; go_simp; (try with_reducible rfl))
                try dsimp only [Act.put]
                refine wpAnyH_ready (rs := [16]) (by kernel_rfl) (by simp) ?_
                refine AllReadyH.cons (o := _) rfl (fun K hK => ?_) AllReadyH.nil
                have q1 := S9.out.c1; have z1 := S9.out.m1
                go_simp
                clear q1 z1
                have SE := Lib.hid (S9.out.set1 HAL.out GA.out.1 (.slice A9 t9 c9))
                generalize w9.setCell ⟨a, 1, none⟩ (.slice A9 t9 c9) = WE at *
                refine hK.out _ _ (trivial) (fun hH16 => ?_)
                clear hK K
                try dsimp only [Act.put]
                refine wpAnyH_done (by kernel_rfl) ?_ _
                refine NoPanic.normal ?_
                try go_simp
                go_wp2_with fail
                go_meet
                case rel => exact ⟨rfl, A9, t9, c9, SE⟩
          · simp only [Value.slice.injEq] at hv
            obtain ⟨rfl, hq2, rfl⟩ := hv
            have NEG : Hid (some gb ≠ Value.ownBlock (.slice (some ⟨g, 0, none⟩) d c)) := Lib.hid (GN.out g (by rfl))
            have dc : d ≤ c := by omega
            clear RW hcc hg
            have SD := Lib.hid (SX.out.new HAL.out (New.refl wc).drew)
            have OT := Lib.hid (SX.out.op.take (d := d) HQ.out (by omega))
            clear SX
            refine wp_region_noPanic ?_
            refine wp_region_held_drew (S := fun _ => True) (by kernel_rfl) (trivial) (fun hHeld => ?_)
            have OD := Lib.hid (Own.drew OT.out)
            generalize wc.drew = Vd at *
            refine wpAnyH_take (i := 0) (oi := _) (v := ?_) rfl (by kernel_rfl) (by kernel_rfl) (by kernel_rfl) (fun _ _ _ h => h) (Or.inl ⟨by kernel_rfl, ?_⟩) (by assumption) ?_
            rotate_left; (intro w' hSw; (try dsimp only at hSw); go_split_ands; go_simp; (try with_reducible rfl))
            try dsimp only [Act.put]
            refine wpAnyH_take (i := 1) (oi := _) (v := ?_) rfl (by kernel_rfl) (by kernel_rfl) (by kernel_rfl) (fun _ _ _ h => h) (Or.inl ⟨by kernel_rfl, ?_⟩) (by assumption) ?_
            rotate_left; (intro w' hSw; (try dsimp only at hSw); go_split_ands; go_simp; (try with_reducible rfl))
            try dsimp only [Act.put]
            refine wpAnyH_take (i := 2) (oi := _) (v := ?_) rfl (by kernel_rfl) (by kernel_rfl) (by kernel_rfl) (fun _ _ _ h => h) (Or.inl ⟨by kernel_rfl, ?_⟩) (by assumption) ?_
            rotate_left; (intro w' hSw; (try dsimp only at hSw); go_split_ands; go_simp; (try with_reducible rfl))
            try dsimp only [Act.put]
            refine wpAnyH_take (i := 3) (oi := _) (v := ?_) rfl (by kernel_rfl) (by kernel_rfl) (by kernel_rfl) (fun _ _ _ h => h) (Or.inl ⟨by kernel_rfl, ?_⟩) (by assumption) ?_
            rotate_left; (intro w' hSw; (try dsimp only at hSw); go_split_ands; go_simp; (try with_reducible rfl))
            try dsimp only [Act.put]
            refine wpAnyH_take (i := 5) (oi := _) (v := ?_) rfl (by kernel_rfl) (by kernel_rfl) (by kernel_rfl) (fun _ _ _ h => h) (Or.inl ⟨by kernel_rfl, ?_⟩) (by assumption) ?_
            rotate_left; (intro w' hSw; (try dsimp only at hSw); go_split_ands; go_simp; (try with_reducible rfl))
            try dsimp only [Act.put]
            refine wpAnyH_take (i := 7) (oi := _) (v := ?_) rfl (by kernel_rfl) (by kernel_rfl) (by kernel_rfl) (fun _ _ _ h => h) (Or.inl ⟨by kernel_rfl, ?_⟩) (by assumption) ?_
            rotate_left; (intro w' hSw; (try dsimp only at hSw); go_split_ands; go_simp; (try with_reducible rfl))
            try dsimp only [Act.put]
            refine wpAnyH_take (i := 8) (oi := _) (v := ?_) rfl (by kernel_rfl) (by kernel_rfl) (by kernel_rfl) (fun _ _ _ h => h) (Or.inl ⟨by kernel_rfl, ?_⟩) (by assumption) ?_
            rotate_left; (intro w' hSw; (try dsimp only at hSw); go_split_ands; go_simp; (try with_reducible rfl))
            try dsimp only [Act.put]
            refine wpAnyH_take (i := 9) (oi := _) (v := ?_) rfl (by kernel_rfl) (by kernel_rfl) (by kernel_rfl) (fun _ _ _ h => h) (Or.inl ⟨by kernel_rfl, ?_⟩) (by assumption) ?_
            rotate_left; (intro w' hSw; (try dsimp only at hSw); go_split_ands; go_simp; (try with_reducible rfl))
            try dsimp only [Act.put]
            refine wpAnyH_ready (rs := [4, 10]) (by kernel_rfl) (by simp) ?_
            refine AllReadyH.cons (o := _) rfl (fun K hK => ?_) (AllReadyH.cons (o := _) rfl (fun K hK => ?_) AllReadyH.nil)
            · have q0 := SD.out.c1
              go_simp
              clear q0
              refine hK.out _ _ (trivial) (fun hH4 => ?_)
              clear hK K
              try dsimp only [Act.put]
              refine wpAnyH_take (i := 6) (oi := _) (v := ?_) rfl (by kernel_rfl) (by kernel_rfl) (by kernel_rfl) (fun _ _ _ h => h) (Or.inl ⟨by kernel_rfl, ?_⟩) (by assumption) ?_
              rotate_left; (intro w' hSw; (try dsimp only at hSw); go_split_ands; go_simp; (try with_reducible rfl))
              try dsimp only [Act.put]
              refine wpAnyH_ready (rs := [10]) (by kernel_rfl) (by simp) ?_
              refine AllReadyH.cons (o := _) rfl (fun K hK => ?_) AllReadyH.nil
              have q0 := SD.out.c0
              go_simp
              clear q0
              refine hK.out _ _ (trivial) (fun hH10 => ?_)
              clear hK K
              try dsimp only [Act.put]
              refine wpAnyH_take (i := 11) (oi := _) (v := ?_) rfl (by kernel_rfl) (by kernel_rfl) (by kernel_rfl) (fun _ _ _ h => h) (Or.inl ⟨by kernel_rfl, ?_⟩) (by assumption) ?_
              rotate_left; (intro w' hSw; (try dsimp only at hSw); go_split_ands; go_simp; (try with_reducible rfl))
              try dsimp only [Act.put]
              refine wpAnyH_ready (rs := [12]) (by kernel_rfl) (by simp) ?_
              refine AllReadyH.cons (o := _) rfl (fun K hK => ?_) AllReadyH.nil
              go_simp
              have Nc := (New.refl Vd).alloc (.cells #[.int .i64 (n : Int)] 3)
              have Sc := Lib.hid (SD.out.new HAL.out Nc)
              have Tc := Lib.hid (Own.new (v := .slice (some ⟨g, 0, none⟩) d c) OD.out Nc)
              obtain ⟨gc, hgc⟩ : ∃ g, Vd.heap.size = g := ⟨_, rfl⟩
              have Ic : Ints (Vd.alloc (.cells #[.int .i64 (n : Int)] 3)) (some ⟨gc, 0, none⟩) 1 [(n : Int)] := by rw [← hgc]; exact Ints.one Vd (n : Int) 3
              rw [hgc]
              clear Nc hgc
              generalize Vd.alloc (.cells #[.int .i64 (n : Int)] 3) = Vc at *
              refine hK.out _ _ (trivial) (fun hH12 => ?_)
              clear hK K
              try dsimp only [Act.put]
              refine wpAnyH_ready (rs := [13]) (by kernel_rfl) (by simp) ?_
              refine AllReadyH.cons (o := _) rfl (fun K hK => ?_) AllReadyH.nil
              refine step_appN rfl _ _ rfl lo (.slice (some ⟨g, 0, none⟩) d c) (ps.take d) rfl Tc.out (some ⟨gc, 0, none⟩) 1 1 [(n : Int)] rfl Ic KQ.out Sc.out.le ?_
              intro v9 w9 O9 G9
              have S9 := (Sc.out.withOp Tc.out).app HAL.out O9 G9 NEG.out
              obtain ⟨A9, c9, hv9, _, _⟩ := O9.res
              obtain ⟨t9, ht9⟩ : ∃ t, (ps.take d ++ [(n : Int)]).length = t := ⟨_, rfl⟩
              rw [ht9] at hv9
              subst hv9
              replace S9 := Lib.hid S9
              clear G9 O9 Ic ht9
              refine hK.out _ _ (trivial) (fun hH13 => ?_)
              clear hK K
              try dsimp only [Act.put]
              refine wpAnyH_take (i := 14) (oi := _) (v := ?_) rfl (by kernel_rfl) (by kernel_rfl) (by kernel_rfl) (fun _ _ _ h => h) (Or.inl ⟨by kernel_rfl, ?_⟩) (by assumption) ?_
              rotate_left; (intro w' hSw; (try dsimp only at hSw); go_split_ands; go_simp; (try with_reducible rfl))
              try dsimp only [Act.put]
              refine wpAnyH_take (i := 15) (oi := _) (v := ?_) rfl (by kernel_rfl) (by kernel_rfl) (by kernel_rfl) (fun _ _ _ h => h) (Or.inl ⟨by kernel_rfl, ?_⟩) (by assumption) ?_
              rotate_left; (intro w' hSw; (try dsimp only at hSw); go_split_ands; go_simp; (try with_reducible rfl))
              try dsimp only [Act.put]
              refine wpAnyH_ready (rs := [16]) (by kernel_rfl) (by simp) ?_
              refine AllReadyH.cons (o := _) rfl (fun K hK => ?_) AllReadyH.nil
              have q1 := S9.out.c1; have z1 := S9.out.m1
              go_simp
              clear q1 z1
              have SE := Lib.hid (S9.out.set1 HAL.out GA.out.1 (.slice A9 t9 c9))
              generalize w9.setCell ⟨a, 1, none⟩ (.slice A9 t9 c9) = WE at *
              refine hK.out _ _ (trivial) (fun hH16 => ?_)
              clear hK K
              try dsimp only [Act.put]
              refine wpAnyH_done (by kernel_rfl) ?_ _
              refine NoPanic.normal ?_
              try go_simp
              go_wp2_with fail
              go_meet
              case rel => exact ⟨rfl, A9, t9, c9, SE⟩
            · have q0 := SD.out.c0
              go_simp
              clear q0
              refine hK.out _ _ (trivial) (fun hH10 => ?_)
              clear hK K
              try dsimp only [Act.put]
              refine wpAnyH_take (i := 11) (oi := _) (v := ?_) rfl (by kernel_rfl) (by kernel_rfl) (by kernel_rfl) (fun _ _ _ h => h) (Or.inl ⟨by kernel_rfl, ?_⟩) (by assumption) ?_
              rotate_left; (intro w' hSw; (try dsimp only at hSw); go_split_ands; go_simp; (try with_reducible rfl))
              try dsimp only [Act.put]
              refine wpAnyH_ready (rs := [4, 12]) (by kernel_rfl) (by simp) ?_
              refine AllReadyH.cons (o := _) rfl (fun K hK => ?_) (AllReadyH.cons (o := _) rfl (fun K hK => ?_) AllReadyH.nil)
              · have q0 := SD.out.c1
                go_simp
                clear q0
                refine hK.out _ _ (trivial) (fun hH4 => ?_)
                clear hK K
                try dsimp only [Act.put]
                refine wpAnyH_take (i := 6) (oi := _) (v := ?_) rfl (by kernel_rfl) (by kernel_rfl) (by kernel_rfl) (fun _ _ _ h => h) (Or.inl ⟨by kernel_rfl, ?_⟩) (by assumption) ?_
                rotate_left; (intro w' hSw; (try dsimp only at hSw); go_split_ands; go_simp; (try with_reducible rfl))
                try dsimp only [Act.put]
                refine wpAnyH_ready (rs := [12]) (by kernel_rfl) (by simp) ?_
                refine AllReadyH.cons (o := _) rfl (fun K hK => ?_) AllReadyH.nil
                go_simp
                have Nc := (New.refl Vd).alloc (.cells #[.int .i64 (n : Int)] 3)
                have Sc := Lib.hid (SD.out.new HAL.out Nc)
                have Tc := Lib.hid (Own.new (v := .slice (some ⟨g, 0, none⟩) d c) OD.out Nc)
                obtain ⟨gc, hgc⟩ : ∃ g, Vd.heap.size = g := ⟨_, rfl⟩
                have Ic : Ints (Vd.alloc (.cells #[.int .i64 (n : Int)] 3)) (some ⟨gc, 0, none⟩) 1 [(n : Int)] := by rw [← hgc]; exact Ints.one Vd (n : Int) 3
                rw [hgc]
                clear Nc hgc
                generalize Vd.alloc (.cells #[.int .i64 (n : Int)] 3) = Vc at *
                refine hK.out _ _ (trivial) (fun hH12 => ?_)
                clear hK K
                try dsimp only [Act.put]
                refine wpAnyH_ready (rs := [13]) (by kernel_rfl) (by simp) ?_
                refine AllReadyH.cons (o := _) rfl (fun K hK => ?_) AllReadyH.nil
                refine step_appN rfl _ _ rfl lo (.slice (some ⟨g, 0, none⟩) d c) (ps.take d) rfl Tc.out (some ⟨gc, 0, none⟩) 1 1 [(n : Int)] rfl Ic KQ.out Sc.out.le ?_
                intro v9 w9 O9 G9
                have S9 := (Sc.out.withOp Tc.out).app HAL.out O9 G9 NEG.out
                obtain ⟨A9, c9, hv9, _, _⟩ := O9.res
                obtain ⟨t9, ht9⟩ : ∃ t, (ps.take d ++ [(n : Int)]).length = t := ⟨_, rfl⟩
                rw [ht9] at hv9
                subst hv9
                replace S9 := Lib.hid S9
                clear G9 O9 Ic ht9
                refine hK.out _ _ (trivial) (fun hH13 => ?_)
                clear hK K
                try dsimp only [Act.put]
                refine wpAnyH_take (i := 14) (oi := _) (v := ?_) rfl (by kernel_rfl) (by kernel_rfl) (by kernel_rfl) (fun _ _ _ h => h) (Or.inl ⟨by kernel_rfl, ?_⟩) (by assumption) ?_
                rotate_left; (intro w' hSw; (try dsimp only at hSw); go_split_ands; go_simp; (try with_reducible rfl))
                try dsimp only [Act.put]
                refine wpAnyH_take (i := 15) (oi := _) (v := ?_) rfl (by kernel_rfl) (by kernel_rfl) (by kernel_rfl) (fun _ _ _ h => h) (Or.inl ⟨by kernel_rfl, ?_⟩) (by assumption) ?_
                rotate_left; (intro w' hSw; (try dsimp only at hSw); go_split_ands; go_simp; (try with_reducible rfl))
                try dsimp only [Act.put]
                refine wpAnyH_ready (rs := [16]) (by kernel_rfl) (by simp) ?_
                refine AllReadyH.cons (o := _) rfl (fun K hK => ?_) AllReadyH.nil
                have q1 := S9.out.c1; have z1 := S9.out.m1
                go_simp
                clear q1 z1
                have SE := Lib.hid (S9.out.set1 HAL.out GA.out.1 (.slice A9 t9 c9))
                generalize w9.setCell ⟨a, 1, none⟩ (.slice A9 t9 c9) = WE at *
                refine hK.out _ _ (trivial) (fun hH16 => ?_)
                clear hK K
                try dsimp only [Act.put]
                refine wpAnyH_done (by kernel_rfl) ?_ _
                refine NoPanic.normal ?_
                try go_simp
                go_wp2_with fail
                go_meet
                case rel => exact ⟨rfl, A9, t9, c9, SE⟩
              · go_simp
                have Nc := (New.refl Vd).alloc (.cells #[.int .i64 (n : Int)] 3)
                have Sc := Lib.hid (SD.out.new HAL.out Nc)
                have Tc := Lib.hid (Own.new (v := .slice (some ⟨g, 0, none⟩) d c) OD.out Nc)
                obtain ⟨gc, hgc⟩ : ∃ g, Vd.heap.size = g := ⟨_, rfl⟩
                have Ic : Ints (Vd.alloc (.cells #[.int .i64 (n : Int)] 3)) (some ⟨gc, 0, none⟩) 1 [(n : Int)] := by rw [← hgc]; exact Ints.one Vd (n : Int) 3
                rw [hgc]
                clear Nc hgc
                generalize Vd.alloc (.cells #[.int .i64 (n : Int)] 3) = Vc at *
                refine hK.out _ _ (trivial) (fun hH12 => ?_)
                clear hK K
                try dsimp only [Act.put]
                refine wpAnyH_ready (rs := [4]) (by kernel_rfl) (by simp) ?_
                refine AllReadyH.cons (o := _) rfl (fun K hK => ?_) AllReadyH.nil
                have q0 := Sc.out.c1
                go_simp
                clear q0
                refine hK.out _ _ (trivial) (fun hH4 => ?_)
                clear hK K
                try dsimp only [Act.put]
                refine wpAnyH_take (i := 6) (oi := _) (v := ?_) rfl (by kernel_rfl) (by kernel_rfl) (by kernel_rfl) (fun _ _ _ h => h) (Or.inl ⟨by kernel_rfl, ?_⟩) (by assumption) ?_
                rotate_left; (intro w' hSw; (try dsimp only at hSw); go_split_ands; go_simp; (try with_reducible rfl))
                try dsimp only [Act.put]
                refine wpAnyH_ready (rs := [13]) (by kernel_rfl) (by simp) ?_
                refine AllReadyH.cons (o := _) rfl (fun K hK => ?_) AllReadyH.nil
                refine step_appN rfl _ _ rfl lo (.slice (some ⟨g, 0, none⟩) d c) (ps.take d) rfl Tc.out (some ⟨gc, 0, none⟩) 1 1 [(n : Int)] rfl Ic KQ.out Sc.out.le ?_
                intro v9 w9 O9 G9
                have S9 := (Sc.out.withOp Tc.out).app HAL.out O9 G9 NEG.out
                obtain ⟨A9, c9, hv9, _, _⟩ := O9.res
                obtain ⟨t9, ht9⟩ : ∃ t, (ps.take d ++ [(n : Int)]).length = t := ⟨_, rfl⟩
                rw [ht9] at hv9
                subst hv9
                replace S9 := Lib.hid S9
                clear G9 O9 Ic ht9
                refine hK.out _ _ (trivial) (fun hH13 => ?_)
                clear hK K
                try dsimp only [Act.put]
                refine wpAnyH_take (i := 14) (oi := _) (v := ?_) rfl (by kernel_rfl) (by kernel_rfl) (by kernel_rfl) (fun _ _ _ h => h) (Or.inl ⟨by kernel_rfl, ?_⟩) (by assumption) ?_
                rotate_left; (intro w' hSw; (try dsimp only at hSw); go_split_ands; go_simp; (try with_reducible rfl))
                try dsimp only [Act.put]
                refine wpAnyH_take (i := 15) (oi := _) (v := ?_) rfl (by kernel_rfl) (by kernel_rfl) (by kernel_rfl) (fun _ _ _ h => h) (Or.inl ⟨by kernel_rfl, ?_⟩) (by assumption) ?_
                rotate_left; (intro w' hSw; (try dsimp only at hSw); go_split_ands; go_simp; (try with_reducible rfl))
                try dsimp only [Act.put]
                refine wpAnyH_ready (rs := [16]) (by kernel_rfl) (by simp) ?_
                refine AllReadyH.cons (o := _) rfl (fun K hK => ?_) AllReadyH.nil
                have q1 := S9.out.c1; have z1 := S9.out.m1
                go_simp
                clear q1 z1
                have SE := Lib.hid (S9.out.set1 HAL.out GA.out.1 (.slice A9 t9 c9))
                generalize w9.setCell ⟨a, 1, none⟩ (.slice A9 t9 c9) = WE at *
                refine hK.out _ _ (trivial) (fun hH16 => ?_)
                clear hK K
                try dsimp only [Act.put]
                refine wpAnyH_done (by kernel_rfl) ?_ _
                refine NoPanic.normal ?_
                try go_simp
                go_wp2_with fail
                go_meet
                case rel => exact ⟨rfl, A9, t9, c9, SE⟩
        case rest =>
          obtain ⟨rfl, A9, t9, c9, SE⟩ := hcut
          go_upto_region 10 with (fail)
          have SG := Lib.hid (SE.out.new HAL.out (New.refl wc).drew)
          refine wp_region_noPanic ?_
          refine wp_region_held_drew (S := fun _ => True) (by kernel_rfl) (trivial) (fun hHeld => ?_)
          generalize wc.drew = Ve at *
          clear SE
          refine wpAnyH_take (i := 0) (oi := _) (v := ?_) rfl (by kernel_rfl) (by kernel_rfl) (by kernel_rfl) (fun _ _ _ h => h) (Or.inl ⟨by kernel_rfl, ?_⟩) (by assumption) ?_
          rotate_left; (intro w' hSw; (try dsimp only at hSw); go_split_ands; go_simp; (try with_reducible rfl))
          try dsimp only [Act.put]
          refine wpAnyH_take (i := 1) (oi := _) (v := ?_) rfl (by kernel_rfl) (by kernel_rfl) (by kernel_rfl) (fun _ _ _ h => h) (Or.inl ⟨by kernel_rfl, ?_⟩) (by assumption) ?_
          rotate_left; (intro w' hSw; (try dsimp only at hSw); go_split_ands; go_simp; (try with_reducible rfl))
          try dsimp only [Act.put]
          refine wpAnyH_take (i := 2) (oi := _) (v := ?_) rfl (by kernel_rfl) (by kernel_rfl) (by kernel_rfl) (fun _ _ _ h => h) (Or.inl ⟨by kernel_rfl, ?_⟩) (by assumption) ?_
          rotate_left; (intro w' hSw; (try dsimp only at hSw); go_split_ands; go_simp; (try with_reducible rfl))
          try dsimp only [Act.put]
          refine wpAnyH_take (i := 3) (oi := _) (v := ?_) rfl (by kernel_rfl) (by kernel_rfl) (by kernel_rfl) (fun _ _ _ h => h) (Or.inl ⟨by kernel_rfl, ?_⟩) (by assumption) ?_
          rotate_left; (intro w' hSw; (try dsimp only at hSw); go_split_ands; go_simp; (try with_reducible rfl))
          try dsimp only [Act.put]
          refine wpAnyH_ready (rs := [4, 5]) (by kernel_rfl) (by simp) ?_
          refine AllReadyH.cons (o := _) rfl (fun K hK => ?_) (AllReadyH.cons (o := _) rfl (fun K hK => ?_) AllReadyH.nil)
          · have q0 := SG.out.c0
            go_simp
            clear q0
            refine hK.out _ _ (trivial) (fun hH4 => ?_)
            clear hK K
            try dsimp only [Act.put]
            refine wpAnyH_ready (rs := [5]) (by kernel_rfl) (by simp) ?_
            refine AllReadyH.cons (o := _) rfl (fun K hK => ?_) AllReadyH.nil
            have q := Row.allBox SG.out.row
            obtain ⟨q0, q1, q2, q3, q4, q5, q6, q7, q8⟩ := q
            go_simp
            clear q0 q1 q2 q3 q4 q5 q6 q7 q8
            refine hK.out _ _ (trivial) (fun hH5 => ?_)
            clear hK K
            try dsimp only [Act.put]
            refine wpAnyH_ready (rs := [6]) (by kernel_rfl) (by simp) ?_
            refine AllReadyH.cons (o := _) rfl (fun K hK => ?_) AllReadyH.nil
            go_simp
            have Nf := (New.refl Ve).alloc (.cells #[.int .i64 P, .int .i64 y1, .int .i64 y2, .int .i64 y3, .int .i64 y4, .int .i64 y5, .int .i64 y6, .int .i64 y7, .int .i64 y8] 38)
            have Sf := Lib.hid (SG.out.new HAL.out Nf)
            obtain ⟨gf, hgf⟩ : ∃ g, Ve.heap.size = g := ⟨_, rfl⟩
            have If : Sts 9 (Ve.alloc (.cells #[.int .i64 P, .int .i64 y1, .int .i64 y2, .int .i64 y3, .int .i64 y4, .int .i64 y5, .int .i64 y6, .int .i64 y7, .int .i64 y8] 38)) (some ⟨gf, 0, none⟩) 1 [P, y1, y2, y3, y4, y5, y6, y7, y8] := by rw [← hgf]; exact Sts.of_res (Res.of_row (Row.oneBox1 Ve P y1 y2 y3 y4 y5 y6 y7 y8 38) (Nat.zero_le _)) rfl
            rw [hgf]
            clear Nf hgf
            generalize Ve.alloc (.cells #[.int .i64 P, .int .i64 y1, .int .i64 y2, .int .i64 y3, .int .i64 y4, .int .i64 y5, .int .i64 y6, .int .i64 y7, .int .i64 y8] 38) = Vf at *
            refine hK.out _ _ (trivial) (fun hH6 => ?_)
            clear hK K
            try dsimp only [Act.put]
            refine wpAnyH_ready (rs := [7]) (by kernel_rfl) (by simp) ?_
            refine AllReadyH.cons (o := _) rfl (fun K hK => ?_) AllReadyH.nil
            refine step_appBox rfl _ _ rfl lo (.slice B n cb) n zs rfl Sf.out.ob (some ⟨gf, 0, none⟩) 1 1 [P, y1, y2, y3, y4, y5, y6, y7, y8] rfl If N1000 Sf.out.le ?_
            intro v8 w8 O8 G8
            have n8 := ownBox_ne Sf.out.ob HAL.out
            have S8 := And.intro (G8.cell Sf.out.c0 n8) (G8.cell Sf.out.c1 n8)
            have M8 := Lib.hid (And.intro (grown_mark G8 (by have := Sf.out.le; have := HAL.out; omega) n8 Sf.out.m0) (grown_mark G8 (by have := Sf.out.le; have := HAL.out; omega) n8 Sf.out.m1))
            have P8 := Lib.hid (Sf.out.op.keptBox Sf.out.ob G8)
            have N8 := Lib.hid (HX.out.own Sf.out.nw G8 (fun g e => Sf.out.ob.cellsAt e))
            have L8 := Lib.hid (Nat.le_trans Sf.out.le G8.size)
            obtain ⟨A8, c8, rfl, _, _⟩ := O8.res
            have O8 := Lib.hid O8
            have S8 := Lib.hid S8
            clear G8 n8 If
            refine hK.out _ _ (trivial) (fun hH7 => ?_)
            clear hK K
            try dsimp only [Act.put]
            refine wpAnyH_take (i := 8) (oi := _) (v := ?_) rfl (by kernel_rfl) (by kernel_rfl) (by kernel_rfl) (fun _ _ _ h => h) (Or.inl ⟨by kernel_rfl, ?_⟩) (by assumption) ?_
            rotate_left; (intro w' hSw; (try dsimp only at hSw); go_split_ands; go_simp; (try with_reducible rfl))
            try dsimp only [Act.put]
            refine wpAnyH_take (i := 9) (oi := _) (v := ?_) rfl (by kernel_rfl) (by kernel_rfl) (by kernel_rfl) (fun _ _ _ h => h) (Or.inl ⟨by kernel_rfl, ?_⟩) (by assumption) ?_
            rotate_left; (intro w' hSw; (try dsimp only at hSw); go_split_ands; go_simp; (try with_reducible rfl))
            try dsimp only [Act.put]
            refine wpAnyH_ready (rs := [10]) (by kernel_rfl) (by simp) ?_
            refine AllReadyH.cons (o := _) rfl (fun K hK => ?_) AllReadyH.nil
            have q1 := S8.out.1; have z1 := M8.out.1
            go_simp
            clear q1 z1
            have FIN : Hid (X (w8.setCell ⟨a, 0, none⟩ (.slice A8 (n + 1) c8)) ∧ ScI a lo (n + 1) (zs ++ [P, y1, y2, y3, y4, y5, y6, y7, y8]) (ps.take d ++ [(n : Int)]) (w8.setCell ⟨a, 0, none⟩ (.slice A8 (n + 1) c8))) := Lib.hid ⟨HX.out.set 0 _ N8.out, HAL.out, by rw [World.size_setCell]; exact L8.out, set_frozen M8.out.1, set_frozen M8.out.2, _, _, by rw [set_cell_at S8.out.1, if_pos rfl], by rw [set_cell_at S8.out.1, if_neg (by omega)]; exact S8.out.2, O8.out.setA HAL.out, P8.out.setA HAL.out⟩
            generalize w8.setCell ⟨a, 0, none⟩ (.slice A8 (n + 1) c8) = WF at *
            refine hK.out _ _ (trivial) (fun hH10 => ?_)
            clear hK K
            try dsimp only [Act.put]
            refine wpAnyH_done (by kernel_rfl) ?_ _
            refine NoPanic.normal ?_
            try go_simp
            go_wp2
            go_ret
            exact ⟨FIN.out.1, Or.inr ⟨⟨by rw [HT.out]; exact HB.out, by rw [HD.out]; omega⟩, rfl, by have e : bxL P l = [P, y1, y2, y3, y4, y5, y6, y7, y8] := by { unfold bxL; rw [HT.out, HY.out]; rfl }; rw [HP.out, e]; exact FIN.out.2⟩⟩
          · have q := Row.allBox SG.out.row
            obtain ⟨q0, q1, q2, q3, q4, q5, q6, q7, q8⟩ := q
            go_simp
            clear q0 q1 q2 q3 q4 q5 q6 q7 q8
            refine hK.out _ _ (trivial) (fun hH5 => ?_)
            clear hK K
            try dsimp only [Act.put]
            refine wpAnyH_ready (rs := [4, 6]) (by kernel_rfl) (by simp) ?_
            refine AllReadyH.cons (o := _) rfl (fun K hK => ?_) (AllReadyH.cons (o := _) rfl (fun K hK => ?_) AllReadyH.nil)
            · have q0 := SG.out.c0
              go_simp
              clear q0
              refine hK.out _ _ (trivial) (fun hH4 => ?_)
              clear hK K
              try dsimp only [Act.put]
              refine wpAnyH_ready (rs := [6]) (by kernel_rfl) (by simp) ?_
              refine AllReadyH.cons (o := _) rfl (fun K hK => ?_) AllReadyH.nil
              go_simp
              have Nf := (New.refl Ve).alloc (.cells #[.int .i64 P, .int .i64 y1, .int .i64 y2, .int .i64 y3, .int .i64 y4, .int .i64 y5, .int .i64 y6, .int .i64 y7, .int .i64 y8] 38)
              have Sf := Lib.hid (SG.out.new HAL.out Nf)
              obtain ⟨gf, hgf⟩ : ∃ g, Ve.heap.size = g := ⟨_, rfl⟩
              have If : Sts 9 (Ve.alloc (.cells #[.int .i64 P, .int .i64 y1, .int .i64 y2, .int .i64 y3, .int .i64 y4, .int .i64 y5, .int .i64 y6, .int .i64 y7, .int .i64 y8] 38)) (some ⟨gf, 0, none⟩) 1 [P, y1, y2, y3, y4, y5, y6, y7, y8] := by rw [← hgf]; exact Sts.of_res (Res.of_row (Row.oneBox1 Ve P y1 y2 y3 y4 y5 y6 y7 y8 38) (Nat.zero_le _)) rfl
              rw [hgf]
              clear Nf hgf
              generalize Ve.alloc (.cells #[.int .i64 P, .int .i64 y1, .int .i64 y2, .int .i64 y3, .int .i64 y4, .int .i64 y5, .int .i64 y6, .int .i64 y7, .int .i64 y8] 38) = Vf at *
              refine hK.out _ _ (trivial) (fun hH6 => ?_)
              clear hK K
              try dsimp only [Act.put]
              refine wpAnyH_ready (rs := [7]) (by kernel_rfl) (by simp) ?_
              refine AllReadyH.cons (o := _) rfl (fun K hK => ?_) AllReadyH.nil
              refine step_appBox rfl _ _ rfl lo (.slice B n cb) n zs rfl Sf.out.ob (some ⟨gf, 0, none⟩) 1 1 [P, y1, y2, y3, y4, y5, y6, y7, y8] rfl If N1000 Sf.out.le ?_
              intro v8 w8 O8 G8
              have n8 := ownBox_ne Sf.out.ob HAL.out
              have S8 := And.intro (G8.cell Sf.out.c0 n8) (G8.cell Sf.out.c1 n8)
              have M8 := Lib.hid (And.intro (grown_mark G8 (by have := Sf.out.le; have := HAL.out; omega) n8 Sf.out.m0) (grown_mark G8 (by have := Sf.out.le; have := HAL.out; omega) n8 Sf.out.m1))
              have P8 := Lib.hid (Sf.out.op.keptBox Sf.out.ob G8)
              have N8 := Lib.hid (HX.out.own Sf.out.nw G8 (fun g e => Sf.out.ob.cellsAt e))
              have L8 := Lib.hid (Nat.le_trans Sf.out.le G8.size)
              obtain ⟨A8, c8, rfl, _, _⟩ := O8.res
              have O8 := Lib.hid O8
              have S8 := Lib.hid S8
              clear G8 n8 If
              refine hK.out _ _ (trivial) (fun hH7 => ?_)
              clear hK K
              try dsimp only [Act.put]
              refine wpAnyH_take (i := 8) (oi := _) (v := ?_) rfl (by kernel_rfl) (by kernel_rfl) (by kernel_rfl) (fun _ _ _ h => h) (Or.inl ⟨by kernel_rfl, ?_⟩) (by assumption) ?_
              rotate_left; (intro w' hSw; (try dsimp only at hSw); go_split_ands; go_simp; (try with_reducible rfl))
              try dsimp only [Act.put]
              refine wpAnyH_take (i := 9) (oi := _) (v := ?_) rfl (by kernel_rfl) (by kernel_rfl) (by kernel_rfl) (fun _ _ _ h => h) (Or.inl ⟨by kernel_rfl, ?_⟩) (by assumption) ?_
              rotate_left; (intro w' hSw; (try dsimp only at hSw); go_split_ands; go_simp; (try with_reducible rfl))
              try dsimp only [Act.put]
              refine wpAnyH_ready (rs := [10]) (by kernel_rfl) (by simp) ?_
              refine AllReadyH.cons (o := _) rfl (fun K hK => ?_) AllReadyH.nil
              have q1 := S8.out.1; have z1 := M8.out.1
              go_simp
              clear q1 z1
              have FIN : Hid (X (w8.setCell ⟨a, 0, none⟩ (.slice A8 (n + 1) c8)) ∧ ScI a lo (n + 1) (zs ++ [P, y1, y2, y3, y4, y5, y6, y7, y8]) (ps.take d ++ [(n : Int)]) (w8.setCell ⟨a, 0, none⟩ (.slice A8 (n + 1) c8))) := Lib.hid ⟨HX.out.set 0 _ N8.out, HAL.out, by rw [World.size_setCell]; exact L8.out, set_frozen M8.out.1, set_frozen M8.out.2, _, _, by rw [set_cell_at S8.out.1, if_pos rfl], by rw [set_cell_at S8.out.1, if_neg (by omega)]; exact S8.out.2, O8.out.setA HAL.out, P8.out.setA HAL.out⟩
              generalize w8.setCell ⟨a, 0, none⟩ (.slice A8 (n + 1) c8) = WF at *
              refine hK.out _ _ (trivial) (fun hH10 => ?_)
              clear hK K
              try dsimp only [Act.put]
              refine wpAnyH_done (by kernel_rfl) ?_ _
              refine NoPanic.normal ?_
              try go_simp
              go_wp2
              go_ret
              exact ⟨FIN.out.1, Or.inr ⟨⟨by rw [HT.out]; exact HB.out, by rw [HD.out]; omega⟩, rfl, by have e : bxL P l = [P, y1, y2, y3, y4, y5, y6, y7, y8] := by { unfold bxL; rw [HT.out, HY.out]; rfl }; rw [HP.out, e]; exact FIN.out.2⟩⟩
            · go_simp
              have Nf := (New.refl Ve).alloc (.cells #[.int .i64 P, .int .i64 y1, .int .i64 y2, .int .i64 y3, .int .i64 y4, .int .i64 y5, .int .i64 y6, .int .i64 y7, .int .i64 y8] 38)
              have Sf := Lib.hid (SG.out.new HAL.out Nf)
              obtain ⟨gf, hgf⟩ : ∃ g, Ve.heap.size = g := ⟨_, rfl⟩
              have If : Sts 9 (Ve.alloc (.cells #[.int .i64 P, .int .i64 y1, .int .i64 y2, .int .i64 y3, .int .i64 y4, .int .i64 y5, .int .i64 y6, .int .i64 y7, .int .i64 y8] 38)) (some ⟨gf, 0, none⟩) 1 [P, y1, y2, y3, y4, y5, y6, y7, y8] := by rw [← hgf]; exact Sts.of_res (Res.of_row (Row.oneBox1 Ve P y1 y2 y3 y4 y5 y6 y7 y8 38) (Nat.zero_le _)) rfl
              rw [hgf]
              clear Nf hgf
              generalize Ve.alloc (.cells #[.int .i64 P, .int .i64 y1, .int .i64 y2, .int .i64 y3, .int .i64 y4, .int .i64 y5, .int .i64 y6, .int .i64 y7, .int .i64 y8] 38) = Vf at *
              refine hK.out _ _ (trivial) (fun hH6 => ?_)
              clear hK K
              try dsimp only [Act.put]
              refine wpAnyH_ready (rs := [4]) (by kernel_rfl) (by simp) ?_
              refine AllReadyH.cons (o := _) rfl (fun K hK => ?_) AllReadyH.nil
              have q0 := Sf.out.c0
              go_simp
              clear q0
              refine hK.out _ _ (trivial) (fun hH4 => ?_)
              clear hK K
              try dsimp only [Act.put]
              refine wpAnyH_ready (rs := [7]) (by kernel_rfl) (by simp) ?_
              refine AllReadyH.cons (o := _) rfl (fun K hK => ?_) AllReadyH.nil
              refine step_appBox rfl _ _ rfl lo (.slice B n cb) n zs rfl Sf.out.ob (some ⟨gf, 0, none⟩) 1 1 [P, y1, y2, y3, y4, y5, y6, y7, y8] rfl If N1000 Sf.out.le ?_
              intro v8 w8 O8 G8
              have n8 := ownBox_ne Sf.out.ob HAL.out
              have S8 := And.intro (G8.cell Sf.out.c0 n8) (G8.cell Sf.out.c1 n8)
              have M8 := Lib.hid (And.intro (grown_mark G8 (by have := Sf.out.le; have := HAL.out; omega) n8 Sf.out.m0) (grown_mark G8 (by have := Sf.out.le; have := HAL.out; omega) n8 Sf.out.m1))
              have P8 := Lib.hid (Sf.out.op.keptBox Sf.out.ob G8)
              have N8 := Lib.hid (HX.out.own Sf.out.nw G8 (fun g e => Sf.out.ob.cellsAt e))
              have L8 := Lib.hid (Nat.le_trans Sf.out.le G8.size)
              obtain ⟨A8, c8, rfl, _, _⟩ := O8.res
              have O8 := Lib.hid O8
              have S8 := Lib.hid S8
              clear G8 n8 If
              refine hK.out _ _ (trivial) (fun hH7 => ?_)
              clear hK K
              try dsimp only [Act.put]
              refine wpAnyH_take (i := 8) (oi := _) (v := ?_) rfl (by kernel_rfl) (by kernel_rfl) (by kernel_rfl) (fun _ _ _ h => h) (Or.inl ⟨by kernel_rfl, ?_⟩) (by assumption) ?_
              rotate_left; (intro w' hSw; (try dsimp only at hSw); go_split_ands; go_simp; (try with_reducible rfl))
              try dsimp only [Act.put]
              refine wpAnyH_take (i := 9) (oi := _) (v := ?_) rfl (by kernel_rfl) (by kernel_rfl) (by kernel_rfl) (fun _ _ _ h => h) (Or.inl ⟨by kernel_rfl, ?_⟩) (by assumption) ?_
              rotate_left; (intro w' hSw; (try dsimp only at hSw); go_split_ands; go_simp; (try with_reducible rfl))
              try dsimp only [Act.put]
              refine wpAnyH_ready (rs := [10]) (by kernel_rfl) (by simp) ?_
              refine AllReadyH.cons (o := _) rfl (fun K hK => ?_) AllReadyH.nil
              have q1 := S8.out.1; have z1 := M8.out.1
              go_simp
              clear q1 z1
              have FIN : Hid (X (w8.setCell ⟨a, 0, none⟩ (.slice A8 (n + 1) c8)) ∧ ScI a lo (n + 1) (zs ++ [P, y1, y2, y3, y4, y5, y6, y7, y8]) (ps.take d ++ [(n : Int)]) (w8.setCell ⟨a, 0, none⟩ (.slice A8 (n + 1) c8))) := Lib.hid ⟨HX.out.set 0 _ N8.out, HAL.out, by rw [World.size_setCell]; exact L8.out, set_frozen M8.out.1, set_frozen M8.out.2, _, _, by rw [set_cell_at S8.out.1, if_pos rfl], by rw [set_cell_at S8.out.1, if_neg (by omega)]; exact S8.out.2, O8.out.setA HAL.out, P8.out.setA HAL.out⟩
              generalize w8.setCell ⟨a, 0, none⟩ (.slice A8 (n + 1) c8) = WF at *
              refine hK.out _ _ (trivial) (fun hH10 => ?_)
              clear hK K
              try dsimp only [Act.put]
              refine wpAnyH_done (by kernel_rfl) ?_ _
              refine NoPanic.normal ?_
              try go_simp
              go_wp2
              go_ret
              exact ⟨FIN.out.1, Or.inr ⟨⟨by rw [HT.out]; exact HB.out, by rw [HD.out]; omega⟩, rfl, by have e : bxL P l = [P, y1, y2, y3, y4, y5, y6, y7, y8] := by { unfold bxL; rw [HT.out, HY.out]; rfl }; rw [HP.out, e]; exact FIN.out.2⟩⟩
    · have NB : Hid (¬ lnOk l q) := Lib.hid (fun h => hdq (by have := h.2; rw [HD.out] at this; exact this))
      have dqn : (q : Int) < (d : Int) := by omega
      clear hdq
      go_wp2
      go_ret
      exact ⟨HX.out.new NW2.out ((New.refl _).alloc _), Or.inl ⟨NB.out, rfl⟩⟩
  · have NB : Hid (¬ lnOk l q) := Lib.hid (fun h => hb (by have := h.1; rw [HT.out] at this; exact this))
    have N2' := Lib.hid (HX.out.new H0.out N2)
    clear hb
    go_wp2
    go_ret
    exact ⟨HX.out.new N2'.out ((New.refl _).alloc _), Or.inl ⟨NB.out, rfl⟩⟩
end Go.Proofs.YtffggmjhaaehlaaGreatDoor
