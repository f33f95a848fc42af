/- Parts that belong together: LayI, LayP. Conditions: as each part says. -/
import Derived.Test.YtobnjagmakhgpaaLayM
import Derived.Test.YtobnjagmakhgpaaZT
import Derived.Test.YtobnjagmakhgpaaZS
/- The program's places of the boxes in a box: lineUp and the kinds' place, walked. Conditions: the nodes are linked, and the tree is valid. -/
namespace Go.Proofs.Ytobnjagmakhgpaa
open Go.RowKit

/-- An answer that is a row of structs of its own, in its room. -/
def AnsQ (m : Nat) (w : World) (zs : List Int) (e : Ending) (w' : World) : Prop :=
  ∃ (A : Option Addr) (n c : Nat), e = .returned (.slice A n c) ∧ n ≤ c ∧ zs.length = n * m ∧ Res w.heap.size w'.heap.size w' A zs ∧ New w w'
theorem AnsQ.row {m : Nat} {w w' : World} {g n c : Nat} {zs : List Int} {e : Ending} (he : e = .returned (.slice (some ⟨g, 0, none⟩) n c)) (hc : n ≤ c) (hn : zs.length = n * m) (hg : w.heap.size ≤ g) (h : Row w' g zs) (hN : New w w') : AnsQ m w zs e w' :=
  ⟨_, n, c, he, hc, hn, Res.of_row h hg, hN⟩
theorem AnsQ.s {m : Nat} {w w' : World} {zs : List Int} {e : Ending} (h : AnsQ m w zs e w') : AnsS m w zs e w' := by
  obtain ⟨A, n, c, he, _, hl, hr, hN⟩ := h
  exact ⟨A, n, c, he, hl, hr, hN⟩
set_option maxHeartbeats 400000 in
theorem rturned_any (q : Rq) (w : World) :
    Calls Try.prog 154 #[qv q] w fun e w' => e = .returned (qv (turnQ q)) ∧ New w w' := by
  obtain ⟨x, y, a, b⟩ := q
  go_enter Try.func154, Try.ntmps154
  go_wp2
  exact bodyPost_ret (v := rc y x b a) (by simp [results, Try.results154, go_sem]) rfl ⟨rfl, by (repeat (first | exact New.refl _ | assumption | refine New.alloc ?_ _ | refine New.drew ?_ | refine New.drewN ?_ _ | refine New.setCell ?_ (by first | omega | (simp; omega) | (simp; done)) _ | refine New.trans ?_ (by assumption)))⟩
theorem mkFlex0 (n : Nat) (hn : n ≤ 1048576) (W : World) : (Instr.makeSlice 33 (.int .i64 0) (.int .i64 (n : Int))).run Try.prog W = .ok (.slice (some ⟨W.heap.size, 0, none⟩) 0 n) (W.alloc (.cells (madeCells #[Value.int .i64 0, Value.int .i64 0, Value.int .i64 0, Value.int .i64 0, Value.int .i64 0] (n * 5)) 37)) := by
  obtain ⟨i, hi, hz, hs, hb⟩ := info_parts info_Flex
  have h := run_make (P := Try.prog) W 33 37 i (.agg #[Value.int .i64 0, Value.int .i64 0, Value.int .i64 0, Value.int .i64 0, Value.int .i64 0]) Try.underlying33 hi hz .i64 .i64 (0 : Int) (n : Int) (by omega) (by omega) (by rw [hb]; omega) (by omega)
  rw [hs] at h
  exact h
theorem OwnFlex.made (w : World) (z : Array Value) (n : Nat) (hn : n ≤ 1048576) : OwnFlex w.heap.size (w.alloc (.cells (madeCells z (n * 5)) 37)) (.slice (some ⟨w.heap.size, 0, none⟩) 0 n) 0 [] :=
  ⟨World.ownsRow_made w _ n (Nat.le_refl _) (by unfold maxLen; omega) (by simp [madeCells]), rfl⟩
theorem step_appFlexM {w : World} {ops : Array Oper} {o : Oper} {a : Act} {K : Act → World → Prop} {Q : Exit → Act → World → Prop} {E : Prop} (hgd : o.guard = none) (s x : Operand)
    (ho : o.op = .call { callee := .builtin .append, args := #[s, x], argTypes := #[33, 33] }) (lo : Nat) (v : Value) (n : Nat) (zs : List Int) (hs : a.eval s = v) (hown : OwnFlex lo w v n zs)
    (A : Option Addr) (k c : Nat) (xs : List Int) (hx : a.eval x = .slice A k c) (hr : Sts 5 w A k xs) (hn : n + k ≤ 1000000) (hlo : lo ≤ w.heap.size)
    (h : ∀ v' w', OwnFlex lo w' v' (n + k) (zs ++ xs) → w.grownBy w' v.ownBlock → K (a.put o.dst v') w') :
    if Region.wanted o (yielded ops a.tmps) = true then Oper.wp Try.prog o a w K Q else E := by
  have hw : Region.wanted o (yielded ops a.tmps) = true := by simp [Region.wanted, hgd]
  rw [if_pos hw]
  obtain ⟨v', w', hrun, h2, h3, _⟩ := run_appFlex w o.type lo v n zs hown A k c xs hr hn hlo
  unfold Oper.wp execOp
  simp only [ho, resolve, invoke, builtin, Sem.run_bind, Sem.run_pure, Result.andThen_ok, List.map_toArray, List.map_cons, List.map_nil, hs, hx, hrun]
  exact h v' w' h2 h3
theorem Row.sts5b {m : Nat} {w : World} {g : Nat} {zs : List Int} (h : Row w g zs) (hm : zs.length = 1 * m) : Sts m w (some ⟨g, 0, none⟩) 1 zs :=
  ⟨hm, fun _ => ⟨g, 0, rfl, h.lt, fun i hi => by simpa using h.c i (by omega)⟩⟩
/-- Pairs of sizes, told by the boxes. -/
abbrev prL (g g2 : Nat → Int) (l : List Nat) : List (Int × Int) := l.map fun j => (g j, g2 j)
theorem prL_at (g g2 : Nat → Int) (done rest : List Nat) (j : Nat) : (flat2 (prL g g2 (done ++ j :: rest))).getD (done.length * 2) 0 = g j := by
  rw [(flat2_at _ _).1]
  simp [prL]
set_option maxRecDepth 100000 in
set_option maxHeartbeats 4000000 in
theorem lineUp_any (lo : Nat) (nb : Nat → Nat) (zs : List Int) (n i : Nat) (ar fi la ne : Nat → Option Nat) (hv : vtB n zs = true) (hi : i < n) (g g2 : Nat → Int) (hg : (∀ j, g j = (natL zs n j).1) ∨ ∀ j, g j = (natL zs n j).2)
    (A : Option Addr) (m c : Nat) (hm : (kidL zs n i).length = m) (r : Rq) (hr : (-1000000 ≤ r.1 ∧ r.1 ≤ 1000000) ∧ (0 ≤ r.2.2.1 ∧ r.2.2.1 ≤ 10000)) (w : World) (hx : Sts 2 w A m (flat2 (prL g g2 (kidL zs n i)))) (h : Lnk lo w nb zs n ar fi la ne) :
    Calls Try.prog 145 #[.pointer (some ⟨nb i, 0, none⟩), .slice A m c, qv r] w (AnsQ 4 w (flat4 (lineL g zs (kidL zs n i) (zs.getD (i * 9 + 5) 0) (zs.getD (i * 9 + 8) 0) r))) := by
  obtain ⟨rx, ry, rw_, rh⟩ := r
  dsimp only at hr
  obtain ⟨⟨rx0, rx1⟩, rw0, rw1⟩ := hr
  have HX := Lib.hid hx
  have HL := Lib.hid h
  have g0 := h.nd.fi i hi
  have lti := h.nd.lt i hi
  have kb := h.kb
  have hf := h.sh.fi i hi
  have k8 := kids_le (a := i) hv
  rw [hm] at k8
  have hmk := fun W => mkFlex0 m (by omega) W
  have hmx := fun (W : World) (ts : Array TypeId) (t : TypeId) (x y : Int) => run_mx Try.prog W ts t x y
  have gp := gap_bd hv hi
  have GA := Lib.hid (fun W (hW : Lnk lo W nb zs n ar fi la ne) => gaps_any lo nb zs n i ar fi la ne hi m (by omega) gp W hW.nd)
  have LO := Lib.hid (line_o (sp := rw_) hv hi hg ⟨rw0, rw1⟩)
  have HM := Lib.hid hm
  rw [hf] at g0
  clear h hx
  have LX := Lib.hid (show ∀ (done rest : List Nat) (j : Nat), kidL zs n i = done ++ j :: rest → (flat2 (prL g g2 (kidL zs n i))).getD (done.length * 2) 0 = g j from fun done rest j e => by rw [e]; exact prL_at g g2 done rest j)
  have RB := Lib.hid (Row.oneRect w rx ry rw_ rh 39)
  have NB := Lib.hid ((New.refl w).alloc (.cells #[.int .i64 rx, .int .i64 ry, .int .i64 rw_, .int .i64 rh] 39))
  have OF := Lib.hid (OwnFlex.made (w.alloc (.cells #[.int .i64 rx, .int .i64 ry, .int .i64 rw_, .int .i64 rh] 39)) #[Value.int .i64 0, Value.int .i64 0, Value.int .i64 0, Value.int .i64 0, Value.int .i64 0] m (by omega))
  have szb : (w.alloc (.cells #[.int .i64 rx, .int .i64 ry, .int .i64 rw_, .int .i64 rh] 39)).heap.size = w.heap.size + 1 := by simp
  have SZB := Lib.hid szb
  have LE := Lib.hid (fun W (hW : New (w.alloc (.cells #[.int .i64 rx, .int .i64 ry, .int .i64 rw_, .int .i64 rh] 39)) W) => (show w.heap.size + 1 ≤ W.heap.size by have := hW.le; rw [szb] at this; exact this))
  rw [szb] at OF
  go_enter Try.func145, Try.ntmps145
  go_wp2
  clear hmk szb
  generalize hWb : w.alloc (.cells #[.int .i64 rx, .int .i64 ry, .int .i64 rw_, .int .i64 rh] 39) = Wb at *
  clear hWb
  have M0 := Lib.hid ((New.refl Wb).alloc (.cells (madeCells #[Value.int .i64 0, Value.int .i64 0, Value.int .i64 0, Value.int .i64 0, Value.int .i64 0] (m * 5)) 37))
  generalize hWc : Wb.alloc (.cells (madeCells #[Value.int .i64 0, Value.int .i64 0, Value.int .i64 0, Value.int .i64 0, Value.int .i64 0] (m * 5)) 37) = Wc at *
  clear hWc
  go_loopw [7, 8] (fun v p wr => ∃ (done rest : List Nat), Hid (kidL zs n i = done ++ rest) ∧ p = pv nb rest.head? ∧ Hid (OwnFlex (w.heap.size + 1) wr v done.length (flxL g zs done)) ∧ Hid (New Wb wr)) (fun _ p wr => upOf n wr p)
  case atStart => exact ⟨[], kidL zs n i, Lib.hid rfl, rfl, OF, M0⟩
  case round =>
    obtain ⟨done, rest, HK, rfl, HO, HN⟩ := hrel
    have dl : done.length ≤ m := by
      have h1 := HM.out
      rw [HK.out, List.length_append] at h1
      omega
    cases rest with
    | cons j rest =>
      have hlt : done.length < m := by
        have h1 := HM.out
        rw [HK.out, List.length_append, List.length_cons] at h1
        omega
      have HNW := Lib.hid (NB.out.trans HN.out)
      have hjm := HL.out.lk.kid_in (j := j) (a := i) (by rw [HK.out]; simp)
      have nj := (HL.out.nd.new HNW.out).upOf_some hjm.2.2
      have hnx : ∀ r, rest.head? = some r → j < r ∧ r < n := fun r hr => by
        cases rest with
        | nil => cases hr
        | cons r' rest' =>
          obtain rfl : r' = r := by simpa using hr
          have hs := kid_sorted zs n i
          rw [HK.out] at hs
          obtain ⟨_, hs2, _⟩ := List.pairwise_append.1 hs
          exact ⟨(List.pairwise_cons.1 hs2).1 _ List.mem_cons_self, (HL.out.lk.kid_in (j := r') (a := i) (by rw [HK.out]; simp)).2.2⟩
      have NX := Lib.hid hnx
      have HK2 : Hid (kidL zs n i = (done ++ [j]) ++ rest) := Lib.hid (by rw [HK.out]; simp)
      have hjk := hjm.2.2
      have GN := Lib.hid (fun W (hW : New w W) => (show W.cell? ⟨nb j, 6, none⟩ = some (.int .i64 (zs.getD (j * 9 + 6) 0)) ∧ W.cell? ⟨nb j, 7, none⟩ = some (.int .i64 (zs.getD (j * 9 + 7) 0)) ∧ W.cell? ⟨nb j, 13, none⟩ = some (pv nb rest.head?) from ⟨(HL.out.nd.new hW).box j hjk 6 (by omega), (HL.out.nd.new hW).box j hjk 7 (by omega), ((HL.out.nd.new hW).ne j hjk).trans (by rw [HL.out.sh.ne i done j rest hi (by rw [HK2.out]; simp)])⟩))
      obtain ⟨b', off', rfl, hb', hc'⟩ := HX.out.at_ (by omega)
      have gx : wr.cell? ⟨b', off' + done.length * 2, none⟩ = some (.int .i64 (g j)) := by
        have h1 := (HNW.out.cells b' _ hb').trans (hc' (done.length * 2) (by omega))
        rw [LX.out done rest j HK.out] at h1
        exact h1
      have SN := Lib.hid (flxL_snoc (g := g) (zs := zs) done j)
      have ljb := HL.out.nd.lt j hjk
      have gn := GN.out wr HNW.out
      have gl := GN.out wr.drew HNW.out.drew
      have KF := Lib.hid (fun W (hW : New w W) => (show W.cell? ⟨nb j, 6, none⟩ = some (.int .i64 (zs.getD (j * 9 + 6) 0)) ∧ W.cell? ⟨nb j, 7, none⟩ = some (.int .i64 (zs.getD (j * 9 + 7) 0)) from ⟨(GN.out W hW).1, (GN.out W hW).2.1⟩))
      clear hc' hjm hnx HK
      obtain ⟨g6, g7, g13⟩ := gn
      simp only [List.head?_cons, pv_some]
      generalize zs.getD (j * 9 + 6) 0 = y6 at *
      generalize zs.getD (j * 9 + 7) 0 = y7 at *
      generalize g j = y0 at *
      obtain ⟨A7, c7, hv7, hc7, Z7⟩ := HO.out.res
      have d0 : (0 : Int) ≤ (done.length : Int) := by omega
      have d1 : (done.length : Int) < (m : Int) := by omega
      subst hv7
      have O7 := Lib.hid (HO.out.new (New.refl wr).drew)
      have N7 := Lib.hid HN.out.drew
      have K1 := KF.out wr.drew HNW.out.drew
      have K2 := KF.out (wr.drew.alloc (.cells #[.int .i64 y0, .int .i64 0, .int .i64 10000, .int .i64 y6, .int .i64 y7] 37)) (HNW.out.drew.alloc _)
      clear Z7 HO HN hb' g7 g6 g13
      go_wp2
      go_region_held3 (fun w' => w'.cell? ⟨nb j, 6, none⟩ = some (.int .i64 y6) ∧ w'.cell? ⟨nb j, 7, none⟩ = some (.int .i64 y7))
        (first | exact K1 | exact K2 | exact K6 | assumption)
        (first
          | (refine step_appFlexM rfl (.tmp 34) (.tmp 47) rfl (w.heap.size + 1) _ done.length _ rfl (O7.out.alloc (.cells #[.int .i64 y0, .int .i64 0, .int .i64 10000, .int .i64 y6, .int .i64 y7] 37)) _ 1 1 [y0, 0, 10000, y6, y7] rfl ((Row.oneFlex wr.drew y0 0 10000 y6 y7 37).sts5b rfl) (by omega) (LE.out _ (N7.out.alloc _)) ?_; intro v6 w6 O6 G6; (have N6 := Lib.hid (new_ownFlex (N7.out.alloc _) G6 (O7.out.alloc _) (by rw [SZB.out]; exact Nat.le_refl _))); (have K6 := KF.out w6 (NB.out.trans N6.out)); (have g13 := (GN.out w6 (NB.out.trans N6.out)).2.2); (replace O6 := Lib.hid O6); clear G6))
      go_wp2
      go_roundw
      case rel => exact ⟨done ++ [j], rest, HK2, rfl, Lib.hid (by rw [List.length_append, SN.out]; exact O6.out), N6⟩
      case measure =>
        have n6 := (HL.out.nd.new (NB.out.trans N6.out))
        rw [nj]
        cases hh : rest.head? with
        | none => rw [pv_none, upOf_nil]; omega
        | some r =>
          have h1 := NX.out r hh
          rw [pv_some, n6.upOf_some h1.2]
          omega
    | nil =>
      simp only [List.head?_nil, pv_none]
      have e1 := HK.out
      rw [List.append_nil] at e1
      have HO2 := HO.out
      rw [← e1, HM.out] at HO2
      obtain ⟨A7, c7, hv7, hc7, Z7⟩ := HO2.res
      subst hv7
      have FL : Hid ((flxL g zs (kidL zs n i)).length = m * 5) := Lib.hid (by rw [flxL_len, HM.out])
      have I7 := Lib.hid (Sts.of_res (m := 4) Z7 FL.out)
      have HNW := Lib.hid (NB.out.trans HN.out)
      have c2 := (RB.out.new HN.out).c 2 (by simp)
      simp only [List.getD_cons_zero, List.getD_cons_succ] at c2
      have E1 := Lib.hid (show flexA m (flxL g zs (kidL zs n i)) (mx 0 (rw_ - zs.getD (i * 9 + 5) 0 * mx 0 ((m : Int) - 1))) = szL g zs (kidL zs n i) (zs.getD (i * 9 + 5) 0) rw_ by unfold szL; rw [HM.out])
      have m0 : 0 ≤ mx 0 ((m : Int) - 1) ∧ mx 0 ((m : Int) - 1) ≤ 16 := by unfold mx; omega
      have p0 : 0 ≤ zs.getD (i * 9 + 5) 0 * mx 0 ((m : Int) - 1) := Int.mul_nonneg gp.1 m0.1
      have p1 : zs.getD (i * 9 + 5) 0 * mx 0 ((m : Int) - 1) ≤ 800 := by have := Int.mul_le_mul gp.2 m0.2 m0.1 (by omega : (0 : Int) ≤ 50); omega
      have GB := GA.out wr (HL.out.new HNW.out)
      have GC := GA.out wr.drew (HL.out.new HNW.out.drew)
      have C8 := Lib.hid (fun W (hW : Sts 5 W A7 m (flxL g zs (kidL zs n i))) => FlexSizes_ans (flxL g zs (kidL zs n i)) (mx 0 (rw_ - zs.getD (i * 9 + 5) 0 * mx 0 ((m : Int) - 1))) A7 m c7 W hW (by omega))
      rw [E1.out] at C8
      generalize zs.getD (i * 9 + 5) 0 * mx 0 ((m : Int) - 1) = gg at *
      have pw : IntKind.i64.wrap (rw_ - gg) = rw_ - gg := IntWalk.i64_in _ (by omega)
      have pw2 : wrap64 (rw_ - gg) = rw_ - gg := w64s _ pw
      clear HO2 HO Z7
      go_wp2
      go_still_tail 9, (by kernel_rfl)
      still_call ((GA.out _ (HL.out.new (by first | exact HNW.out | exact HNW.out.drew))).mono fun _ _ h => ⟨h.1, h.2.symm⟩)
      repeat still_step
      refine wpStill_nil ?_
      change wpList _ _ _ _ _ wr.drew
      have I7d := Lib.hid (I7.out.drewN 1)
      have NW := Lib.hid HN.out.drew
      clear GB GC GA pw pw2 c2 I7 HN HNW p0 p1 m0
      obtain ⟨W1, hW1⟩ : ∃ W1, wr.drew = W1 := ⟨_, rfl⟩
      have I7 : Hid (Sts 5 W1 A7 m (flxL g zs (kidL zs n i))) := Lib.hid (by rw [← hW1]; exact I7d.out)
      rw [hW1] at NW ⊢
      clear hW1 I7d
      go_wp2_with fail
      refine (C8.out W1 I7.out).mono ?_
      rintro e w8 ⟨A8, n8, c8, rfl, l8, r8, N8⟩
      obtain rfl : m = n8 := by have h1 := LO.out.ls; rw [HM.out] at h1; omega
      have LS : Hid ((szL g zs (kidL zs n i) (zs.getD (i * 9 + 5) 0) rw_).length = m) := Lib.hid l8
      have LF : Hid ((ofL g zs (kidL zs n i) (zs.getD (i * 9 + 5) 0) rw_ (zs.getD (i * 9 + 8) 0)).length = m) := Lib.hid (by rw [LO.out.lo, HM.out])
      have E2 := Lib.hid (show offsA (szL g zs (kidL zs n i) (zs.getD (i * 9 + 5) 0) rw_) rw_ (zs.getD (i * 9 + 5) 0) (zs.getD (i * 9 + 8) 0) = ofL g zs (kidL zs n i) (zs.getD (i * 9 + 5) 0) rw_ (zs.getD (i * 9 + 8) 0) from rfl)
      have SB := Lib.hid (fun t (ht : t < m) => LO.out.sb t (by rw [HM.out]; exact ht)); have OB := Lib.hid (fun t (ht : t < m) => LO.out.ob t (by rw [HM.out]; exact ht))
      have LL := Lib.hid (show ∀ t, t < m → (lineL g zs (kidL zs n i) (zs.getD (i * 9 + 5) 0) (zs.getD (i * 9 + 8) 0) (rx, ry, rw_, rh)).getD t rq0 = (rx + (ofL g zs (kidL zs n i) (zs.getD (i * 9 + 5) 0) rw_ (zs.getD (i * 9 + 8) 0)).getD t 0, ry, (szL g zs (kidL zs n i) (zs.getD (i * 9 + 5) 0) rw_).getD t 0, rh) from fun t ht => lineL_at (by rw [HM.out]; exact ht))
      have L4 : Hid ((flat4 (lineL g zs (kidL zs n i) (zs.getD (i * 9 + 5) 0) (zs.getD (i * 9 + 8) 0) (rx, ry, rw_, rh))).length = m * 4) := Lib.hid (by rw [flat4_len, lineL_len, HM.out])
      have V4 := Lib.hid (fun k => flat4_at (lineL g zs (kidL zs n i) (zs.getD (i * 9 + 5) 0) (zs.getD (i * 9 + 8) 0) (rx, ry, rw_, rh)) k)
      have R8 := Lib.hid (r8.ints LS.out)
      have N8 := Lib.hid (NW.out.trans N8)
      generalize lineL g zs (kidL zs n i) (zs.getD (i * 9 + 5) 0) (zs.getD (i * 9 + 8) 0) (rx, ry, rw_, rh) = qs at *
      generalize ofL g zs (kidL zs n i) (zs.getD (i * 9 + 5) 0) rw_ (zs.getD (i * 9 + 8) 0) = os at *
      generalize szL g zs (kidL zs n i) (zs.getD (i * 9 + 5) 0) rw_ = ss at *
      have HN8 := Lib.hid (NB.out.trans N8.out)
      have c2 := (RB.out.new N8.out).c 2 (by simp)
      simp only [List.getD_cons_zero, List.getD_cons_succ] at c2
      have g5 := (HL.out.nd.new HN8.out).box i hi 5 (by omega)
      have g8 := (HL.out.nd.new HN8.out).box i hi 8 (by omega)
      have CO := Lib.hid (fun W (hW : Ints W A8 m ss) => OffsetsOf_ans ss rw_ (zs.getD (i * 9 + 5) 0) (zs.getD (i * 9 + 8) 0) A8 m c8 W hW (by omega))
      rw [E2.out] at CO
      clear gp E1 E2 C8 r8 l8 LO NW
      generalize zs.getD (i * 9 + 5) 0 = gp at *
      generalize zs.getD (i * 9 + 8) 0 = js at *
      go_wp2
      go_still_tail 13, (by kernel_rfl)
      change wpList _ _ _ _ _ w8.drew
      have R8d := Lib.hid (R8.out.drewN 1)
      have NW := Lib.hid N8.out.drew
      clear g5 g8 c2 HN8 R8
      obtain ⟨W2, hW2⟩ : ∃ W2, w8.drew = W2 := ⟨_, rfl⟩
      have R8 : Hid (Ints W2 A8 m ss) := Lib.hid (by rw [← hW2]; exact R8d.out)
      rw [hW2] at NW ⊢
      clear hW2 R8d N8
      go_wp2_with fail
      refine (CO.out W2 R8.out).mono ?_
      rintro e w9 ⟨A9, n9, c9, rfl, l9, r9, N9⟩
      obtain rfl : m = n9 := by have := LF.out; omega
      have R9 := Lib.hid (r9.ints LF.out)
      have R8 := Lib.hid (R8.out.new N9)
      have N9 := Lib.hid (NW.out.trans N9)
      clear r9 l9 CO NW
      have hmk := fun W => mkRect m (by omega) W
      have R0 := Row.zeros w9 #[Value.int .i64 0, Value.int .i64 0, Value.int .i64 0, Value.int .i64 0] (m * 4) 39 zeroRect
      have N0 : New w9 (w9.alloc (.cells (madeCells #[Value.int .i64 0, Value.int .i64 0, Value.int .i64 0, Value.int .i64 0] (m * 4)) 39)) := by (repeat (first | exact New.refl _ | assumption | refine New.alloc ?_ _ | refine New.drew ?_ | refine New.drewN ?_ _ | refine New.setCell ?_ (by first | omega | (simp; omega) | (simp; done)) _ | refine New.trans ?_ (by assumption)))
      have R0 := Lib.hid R0; have N0 := Lib.hid N0
      go_wp2
      clear hmk
      generalize hW : w9.alloc (.cells (madeCells #[Value.int .i64 0, Value.int .i64 0, Value.int .i64 0, Value.int .i64 0] (m * 4)) 39) = W at R0 N0 ⊢
      clear hW
      go_loopw [78] (fun x wr => ∃ k : Nat, k ≤ m ∧ x = .int .i64 k ∧ Hid (Row wr w9.heap.size (upTo (k * 4) (flat4 qs))) ∧ Hid (New w9 wr)) (fun x _ => m - (intOf x).toNat)
      case atStart => exact ⟨0, Nat.zero_le _, rfl, Lib.hid (by rw [Nat.zero_mul, upTo_zero, L4.out]; exact R0.out), N0⟩
      case round =>
        obtain ⟨k, hk, rfl, HR, HN⟩ := hrel
        have k0 : (0 : Int) ≤ (k : Int) := by omega
        by_cases hlt : k < m
        · obtain ⟨b8, o8, rfl, hb8, hc8⟩ := R8.out.at_ (by omega)
          obtain ⟨b9, o9, rfl, hb9, hc9⟩ := R9.out.at_ (by omega)
          have LU := Lib.hid (upTo_len (k * 4) (flat4 qs) (by rw [L4.out]; omega))
          have gs := (HN.out.cells b8 _ hb8).trans (hc8 k hlt)
          have go := (HN.out.cells b9 _ hb9).trans (hc9 k hlt)
          have RW := RB.out.new (N9.out.trans HN.out)
          have q0 := RW.c 0 (by simp); have q1 := RW.c 1 (by simp); have q3 := RW.c 3 (by simp)
          simp only [List.getD_cons_zero, List.getD_cons_succ] at q0 q1 q3
          have tr := HR.out.lt
          have HS := Lib.hid (fun (w2 : World) (h2 : New wr w2) => rowRect_step (HR.out.new h2) L4.out hlt)
          have r0 := HR.out.c (k * 4) (by rw [LU.out, L4.out]; omega); have r1 := HR.out.c (k * 4 + 1) (by rw [LU.out, L4.out]; omega); have r2 := HR.out.c (k * 4 + 2) (by rw [LU.out, L4.out]; omega); have r3 := HR.out.c (k * 4 + 3) (by rw [LU.out, L4.out]; omega)
          have f0 := HR.out.f (k * 4) (by rw [LU.out, L4.out]; omega); have f1 := HR.out.f (k * 4 + 1) (by rw [LU.out, L4.out]; omega); have f2 := HR.out.f (k * 4 + 2) (by rw [LU.out, L4.out]; omega); have f3 := HR.out.f (k * 4 + 3) (by rw [LU.out, L4.out]; omega)
          obtain ⟨v0, v1, v2, v3⟩ := V4.out k
          rw [LL.out k hlt] at v0 v1 v2 v3
          dsimp only at v0 v1 v2 v3
          rw [v0, v1, v2, v3] at HS
          have sb := SB.out k hlt
          have ob := OB.out k hlt
          have sz9 := HN.out.le
          have k1 : (k : Int) < (m : Int) := by omega
          clear hc8 hc9 RW v0 v1 v2 v3
          generalize ss.getD k 0 = y at *
          generalize os.getD k 0 = z at *
          generalize (upTo (k * 4) (flat4 qs)).getD (k * 4) 0 = z0 at *
          generalize (upTo (k * 4) (flat4 qs)).getD (k * 4 + 1) 0 = z1 at *
          generalize (upTo (k * 4) (flat4 qs)).getD (k * 4 + 2) 0 = z2 at *
          generalize (upTo (k * 4) (flat4 qs)).getD (k * 4 + 3) 0 = z3 at *
          obtain ⟨ob0, ob1⟩ := ob
          have pw : IntKind.i64.wrap (rx + z) = rx + z := IntWalk.i64_in _ (by omega)
          have pw2 : wrap64 (rx + z) = rx + z := w64s _ pw
          have ND := Lib.hid HN.out.drew
          have HS2 := Lib.hid (HS.out wr.drew (New.refl wr).drew)
          clear sb HR HN HS
          go_wp2
          go_still_tail 16, (by kernel_rfl)
          change wpList _ _ _ _ _ wr.drew
          go_wp2
          go_roundw
          case rel => exact ⟨k + 1, by omega, by go_num, HS2, Lib.hid ((((ND.out.setCell (by simp) _).setCell (by simp) _).setCell (by simp) _).setCell (by simp) _)⟩
          case measure => simp [intOf]; omega
        · obtain rfl : k = m := by omega
          go_wp2
          go_ret
          exact AnsQ.row rfl (Nat.le_refl _) L4.out (by have := N9.out.le; have := NB.out.le; omega) (by have h := HR.out; rwa [← L4.out, upTo_all] at h) (NB.out.trans (N9.out.trans HN.out))
end Go.Proofs.Ytobnjagmakhgpaa

/- The program's kinds of boxes place the boxes in them, walked. Conditions: the nodes are linked, and the tree is valid. -/
namespace Go.Proofs.Ytobnjagmakhgpaa
open Go.RowKit

theorem rturned_at (x y a b : Int) (w : World) : Calls Try.prog 154 #[rc x y a b] w fun e w' => e = .returned (rc y x b a) ∧ New w w' := rturned_any (x, y, a, b) w
theorem AnsQ.up {m : Nat} {w w1 w2 : World} {zs : List Int} {e : Ending} (h : AnsQ m w1 zs e w2) (k : New w w1) : AnsQ m w zs e w2 := by
  obtain ⟨A, n, c, he, hc, hl, hr, hN⟩ := h
  exact ⟨A, n, c, he, hc, hl, ⟨hr.1, fun h => by obtain ⟨g, e, h1, h2, h3⟩ := hr.2 h; exact ⟨g, e, Nat.le_trans k.le h1, h2, h3⟩⟩, k.trans hN⟩
/-- One rectangle of a row is stored. -/
theorem flat4_set (q : Rq) : ∀ (qs : List Rq) (k : Nat), ((((flat4 qs).set (k * 4) q.1).set (k * 4 + 1) q.2.1).set (k * 4 + 2) q.2.2.1).set (k * 4 + 3) q.2.2.2 = flat4 (qs.set k q)
  | [], k => by simp [flat4]
  | s :: ss, 0 => by simp [flat4]
  | s :: ss, k + 1 => by
    have ih := flat4_set q ss k
    have e : ∀ (s : Rq) (ss : List Rq), flat4 (s :: ss) = s.1 :: s.2.1 :: s.2.2.1 :: s.2.2.2 :: flat4 ss := fun s ss => by unfold flat4; rw [List.flatMap_cons]; rfl
    rw [List.set_cons_succ, e, e, ← ih, show (k + 1) * 4 = k * 4 + 1 + 1 + 1 + 1 by omega, show k * 4 + 1 + 1 + 1 + 1 + 1 = k * 4 + 1 + 1 + 1 + 1 + 1 from rfl, show k * 4 + 1 + 1 + 1 + 1 + 2 = k * 4 + 2 + 1 + 1 + 1 + 1 by omega, show k * 4 + 1 + 1 + 1 + 1 + 3 = k * 4 + 3 + 1 + 1 + 1 + 1 by omega]
    simp only [List.set_cons_succ]
theorem Row.setQ {w : World} {g k : Nat} {qs : List Rq} (h : Row w g (flat4 qs)) (hk : k < qs.length) (q : Rq) :
    Row ((((w.setCell ⟨g, k * 4, none⟩ (.int .i64 q.1)).setCell ⟨g, k * 4 + 1, none⟩ (.int .i64 q.2.1)).setCell ⟨g, k * 4 + 2, none⟩ (.int .i64 q.2.2.1)).setCell ⟨g, k * 4 + 3, none⟩ (.int .i64 q.2.2.2)) g (flat4 (qs.set k q)) := by
  rw [← flat4_set]
  have hl := flat4_len qs
  exact (((h.set_ (by omega) _).set_ (by rw [List.length_set]; omega) _).set_ (by rw [List.length_set, List.length_set]; omega) _).set_ (by rw [List.length_set, List.length_set, List.length_set]; omega) _
/-- The first k rectangles are turned. -/
def mixQ (k : Nat) (qs : List Rq) : List Rq := (qs.take k).map turnQ ++ qs.drop k
theorem mixQ_len {k : Nat} {qs : List Rq} (h : k ≤ qs.length) : (mixQ k qs).length = qs.length := by unfold mixQ; simp; omega
theorem mixQ_zero (qs : List Rq) : mixQ 0 qs = qs := by simp [mixQ]
theorem mixQ_all (qs : List Rq) : mixQ qs.length qs = qs.map turnQ := by simp [mixQ]
theorem mixQ_at {k : Nat} {qs : List Rq} (h : k < qs.length) : (mixQ k qs).getD k rq0 = qs.getD k rq0 := by
  unfold mixQ
  have hl : ((qs.take k).map turnQ).length = k := by simp; omega
  rw [List.getD_eq_getElem?_getD, List.getElem?_append_right (by omega), hl, Nat.sub_self, List.getElem?_drop]
  simp
theorem mixQ_step {k : Nat} {qs : List Rq} (h : k < qs.length) : (mixQ k qs).set k (turnQ (qs.getD k rq0)) = mixQ (k + 1) qs := by
  unfold mixQ
  have hl : ((qs.take k).map turnQ).length = k := by simp; omega
  have e : qs.drop k = qs[k] :: qs.drop (k + 1) := List.drop_eq_getElem_cons h
  rw [List.set_append_right _ _ (by omega), hl, Nat.sub_self, e, List.take_succ_eq_append_getElem h, List.map_append, List.append_assoc, show qs.getD k rq0 = qs[k] by simp [h]]
  rfl
section
variable (lo : Nat) (nb : Nat → Nat) (zs : List Int) (n i : Nat) (ar fi la ne : Nat → Option Nat)
theorem needs_at (hv : vtB n zs = true) (hi : i < n) (w : World) (h : Lnk lo w nb zs n ar fi la ne) :
    Calls Try.prog 141 #[.pointer (some ⟨nb i, 0, none⟩)] w fun e w' => ∃ v, e = .returned v ∧ Ownsize w.heap.size w' v (kidL zs n i).length (flat2 ((kidL zs n i).map (natL zs n))) ∧ New w w' :=
  needs_any lo nb zs n i ar fi la ne hi (fun j hj => natural_any lo nb zs n ar fi la ne hv (n - j) j rfl (kid_mem.1 hj).1) w h
set_option maxHeartbeats 2000000 in
theorem rowP_any (hv : vtB n zs = true) (hi : i < n) (r : Rq) (hr : (-1000000 ≤ r.1 ∧ r.1 ≤ 1000000) ∧ (0 ≤ r.2.2.1 ∧ r.2.2.1 ≤ 10000)) (w : World) (h : Lnk lo w nb zs n ar fi la ne) :
    Calls Try.prog 144 #[.agg #[], .pointer (some ⟨nb i, 0, none⟩), qv r] w (AnsQ 4 w (flat4 (lineL (fun j => (natL zs n j).1) zs (kidL zs n i) (zs.getD (i * 9 + 5) 0) (zs.getD (i * 9 + 8) 0) r))) := by
  have ND := Lib.hid (fun W (hW : New w W) => needs_at lo nb zs n i ar fi la ne hv hi W (h.new hW))
  obtain ⟨m, hm⟩ : ∃ m, (kidL zs n i).length = m := ⟨_, rfl⟩
  have LU := Lib.hid (fun A c W (hx : Sts 2 W A m (flat2 ((kidL zs n i).map (natL zs n)))) (hW : New w W) => lineUp_any lo nb zs n i ar fi la ne hv hi (fun j => (natL zs n j).1) (fun j => (natL zs n j).2) (.inl fun _ => rfl) A m c hm r hr W hx (h.new hW))
  rw [hm] at ND
  generalize flat2 ((kidL zs n i).map (natL zs n)) = ss at *
  generalize flat4 (lineL (fun j => (natL zs n j).1) zs (kidL zs n i) (zs.getD (i * 9 + 5) 0) (zs.getD (i * 9 + 8) 0) r) = out at *
  obtain ⟨rx, ry, rw_, rh⟩ := r
  have RB := Lib.hid (Row.oneRect (w.alloc (.cells #[] 117)) rx ry rw_ rh 39)
  have NB := Lib.hid (((New.refl w).alloc (.cells #[] 117)).alloc (.cells #[.int .i64 rx, .int .i64 ry, .int .i64 rw_, .int .i64 rh] 39))
  have szb : (w.alloc (.cells #[] 117)).heap.size = w.heap.size + 1 := by simp
  rw [szb] at RB
  clear h szb hr hm
  go_enter Try.func144, Try.ntmps144
  go_wp2
  generalize hW0 : (w.alloc (.cells #[] 117)).alloc (.cells #[.int .i64 rx, .int .i64 ry, .int .i64 rw_, .int .i64 rh] 39) = W0 at *
  clear hW0
  have KF := Lib.hid (fun W (hW : New W0 W) => (show W.cell? ⟨w.heap.size + 1, 0, none⟩ = some (.int .i64 rx) ∧ W.cell? ⟨w.heap.size + 1, 1, none⟩ = some (.int .i64 ry) ∧ W.cell? ⟨w.heap.size + 1, 2, none⟩ = some (.int .i64 rw_) ∧ W.cell? ⟨w.heap.size + 1, 3, none⟩ = some (.int .i64 rh) from
    ⟨(RB.out.new hW).c 0 (by simp), (RB.out.new hW).c 1 (by simp), (RB.out.new hW).c 2 (by simp), (RB.out.new hW).c 3 (by simp)⟩))
  have NC := Lib.hid (New.refl W0).drew
  have KK := KF.out _ NC.out
  go_region_held3 (fun w' => w'.cell? ⟨w.heap.size + 1, 0, none⟩ = some (.int .i64 rx) ∧ w'.cell? ⟨w.heap.size + 1, 1, none⟩ = some (.int .i64 ry) ∧ w'.cell? ⟨w.heap.size + 1, 2, none⟩ = some (.int .i64 rw_) ∧ w'.cell? ⟨w.heap.size + 1, 3, none⟩ = some (.int .i64 rh))
    (first | exact KK | assumption)
    (first
      | (go_at_call 141; refine (ND.out _ (NB.out.trans NC.out)).mono ?_; rintro e wk ⟨v, rfl, O1, Nk⟩; (obtain ⟨A1, c1, rfl, I1⟩ := O1.sts); (replace I1 := Lib.hid I1); (have KK := KF.out wk (NC.out.trans Nk)); (replace NC := Lib.hid (NC.out.trans Nk)); clear O1 Nk)
      | (go_at_call 145; refine (LU.out A1 c1 _ I1.out (NB.out.trans NC.out)).mono ?_; rintro e wk ⟨A2, n2, c2, rfl, q2, l2, r2, Nk⟩; (have FI := Lib.hid (AnsQ.up (e := .returned (.slice A2 n2 c2)) ⟨A2, n2, c2, rfl, q2, l2, r2, Nk⟩ (NB.out.trans NC.out))); (have KK := KF.out wk (NC.out.trans Nk)); clear Nk l2 r2 q2))
  go_wp2
  go_ret
  exact FI.out
set_option maxHeartbeats 400000 in
theorem leafP_any (p : Option Addr) (r : Rq) (w : World) :
    Calls Try.prog 156 #[.agg #[], .pointer p, qv r] w (AnsQ 4 w []) := by
  obtain ⟨rx, ry, rw_, rh⟩ := r
  go_enter Try.func156, Try.ntmps156
  go_wp2
  go_ret
  exact ⟨none, 0, 0, rfl, Nat.le_refl _, rfl, Res.nil _ _ _, by (repeat (first | exact New.refl _ | assumption | refine New.alloc ?_ _ | refine New.drew ?_ | refine New.drewN ?_ _ | refine New.setCell ?_ (by first | omega | (simp; omega) | (simp; done)) _ | refine New.trans ?_ (by assumption)))⟩
set_option maxHeartbeats 4000000 in
theorem colP_any (hv : vtB n zs = true) (hi : i < n) (r : Rq) (hr : (-1000000 ≤ r.2.1 ∧ r.2.1 ≤ 1000000) ∧ (0 ≤ r.2.2.2 ∧ r.2.2.2 ≤ 10000)) (w : World) (h : Lnk lo w nb zs n ar fi la ne) :
    Calls Try.prog 153 #[.agg #[], .pointer (some ⟨nb i, 0, none⟩), qv r] w (AnsQ 4 w (flat4 ((lineL (fun j => (natL zs n j).2) zs (kidL zs n i) (zs.getD (i * 9 + 5) 0) (zs.getD (i * 9 + 8) 0) (turnQ r)).map turnQ))) := by
  have ND := Lib.hid (fun W (hW : New w W) => needs_at lo nb zs n i ar fi la ne hv hi W (h.new hW))
  have k8 := kids_le (a := i) hv
  obtain ⟨m, hm⟩ : ∃ m, (kidL zs n i).length = m := ⟨_, rfl⟩
  have TS := Lib.hid (fun A (c : Nat) W (hx : Sts 2 W A m (flat2 ((kidL zs n i).map (natL zs n)))) => turnedSizes_any A m c ((kidL zs n i).map (natL zs n)) (by rw [List.length_map, hm]) (by omega) W hx)
  have et : ((kidL zs n i).map (natL zs n)).map turnP = prL (fun j => (natL zs n j).2) (fun j => (natL zs n j).1) (kidL zs n i) := by rw [List.map_map]; rfl
  rw [et] at TS
  have LT : Hid ((flat2 (prL (fun j => (natL zs n j).2) (fun j => (natL zs n j).1) (kidL zs n i))).length = m * 2) := Lib.hid (by rw [flat2_len, List.length_map, hm])
  have LU := Lib.hid (fun A c W (hx : Sts 2 W A m (flat2 (prL (fun j => (natL zs n j).2) (fun j => (natL zs n j).1) (kidL zs n i)))) (hW : New w W) => lineUp_any lo nb zs n i ar fi la ne hv hi (fun j => (natL zs n j).2) (fun j => (natL zs n j).1) (.inr fun _ => rfl) A m c hm (turnQ r) hr W hx (h.new hW))
  have LQ : Hid ((lineL (fun j => (natL zs n j).2) zs (kidL zs n i) (zs.getD (i * 9 + 5) 0) (zs.getD (i * 9 + 8) 0) (turnQ r)).length = m) := Lib.hid (by rw [lineL_len, hm])
  rw [hm] at ND
  generalize flat2 (prL (fun j => (natL zs n j).2) (fun j => (natL zs n j).1) (kidL zs n i)) = tt at *
  generalize flat2 ((kidL zs n i).map (natL zs n)) = ss at *
  generalize lineL (fun j => (natL zs n j).2) zs (kidL zs n i) (zs.getD (i * 9 + 5) 0) (zs.getD (i * 9 + 8) 0) (turnQ r) = qs at *
  obtain ⟨rx, ry, rw_, rh⟩ := r
  have RB := Lib.hid (Row.oneRect (w.alloc (.cells #[] 119)) rx ry rw_ rh 39)
  have NB := Lib.hid (((New.refl w).alloc (.cells #[] 119)).alloc (.cells #[.int .i64 rx, .int .i64 ry, .int .i64 rw_, .int .i64 rh] 39))
  have szb : (w.alloc (.cells #[] 119)).heap.size = w.heap.size + 1 := by simp
  rw [szb] at RB
  rw [hm] at k8
  clear h szb hr hm et
  go_enter Try.func153, Try.ntmps153
  go_wp2
  generalize hW0 : (w.alloc (.cells #[] 119)).alloc (.cells #[.int .i64 rx, .int .i64 ry, .int .i64 rw_, .int .i64 rh] 39) = W0 at *
  clear hW0
  have KF := Lib.hid (fun W (hW : New W0 W) => (show W.cell? ⟨w.heap.size + 1, 0, none⟩ = some (.int .i64 rx) ∧ W.cell? ⟨w.heap.size + 1, 1, none⟩ = some (.int .i64 ry) ∧ W.cell? ⟨w.heap.size + 1, 2, none⟩ = some (.int .i64 rw_) ∧ W.cell? ⟨w.heap.size + 1, 3, none⟩ = some (.int .i64 rh) from
    ⟨(RB.out.new hW).c 0 (by simp), (RB.out.new hW).c 1 (by simp), (RB.out.new hW).c 2 (by simp), (RB.out.new hW).c 3 (by simp)⟩))
  have NC := Lib.hid (New.refl W0).drew
  have KK := KF.out _ NC.out
  go_region_held3 (fun w' => w'.cell? ⟨w.heap.size + 1, 0, none⟩ = some (.int .i64 rx) ∧ w'.cell? ⟨w.heap.size + 1, 1, none⟩ = some (.int .i64 ry) ∧ w'.cell? ⟨w.heap.size + 1, 2, none⟩ = some (.int .i64 rw_) ∧ w'.cell? ⟨w.heap.size + 1, 3, none⟩ = some (.int .i64 rh))
    (first | exact KK | assumption)
    (first
      | (go_at_call 141; refine (ND.out _ (NB.out.trans NC.out)).mono ?_; rintro e wk ⟨v, rfl, O1, Nk⟩; (obtain ⟨A1, c1, rfl, I1⟩ := O1.sts); (replace I1 := Lib.hid I1); (have KK := KF.out wk (NC.out.trans Nk)); (replace NC := Lib.hid (NC.out.trans Nk)); clear O1 Nk)
      | (go_at_call 140; refine (TS.out A1 c1 _ I1.out).mono ?_; rintro e wk ⟨A2, n2, c2, rfl, l2, r2, Nk⟩; (obtain rfl : m = n2 := by have := LT.out; omega); (have I2 := Lib.hid (Sts.of_res (m := 1) r2 LT.out)); (have KK := KF.out wk (NC.out.trans Nk)); (replace NC := Lib.hid (NC.out.trans Nk)); clear Nk l2 r2)
      | (go_at_call 154; refine (rturned_any (rx, ry, rw_, rh) _).mono ?_; rintro e wk ⟨rfl, Nk⟩; (try replace I1 := Lib.hid (I1.out.new Nk)); (try replace I2 := Lib.hid (I2.out.new Nk)); (have KK := KF.out wk (NC.out.trans Nk)); (replace NC := Lib.hid (NC.out.trans Nk)); clear Nk)
      | (go_at_call 145; refine (LU.out A2 c2 _ I2.out (NB.out.trans NC.out)).mono ?_; rintro e wk ⟨A3, n3, c3, rfl, q3, l3, r3, Nk⟩; (obtain rfl : m = n3 := by have h1 := LQ.out; rw [flat4_len] at l3; omega); (have R3 := Lib.hid r3); (have zk := (NB.out.trans NC.out).le); (have KK := KF.out wk (NC.out.trans Nk)); (replace NC := Lib.hid (NC.out.trans Nk)); clear Nk l3 r3))
  have NR := Lib.hid (NB.out.trans NC.out)
  clear LU ND TS KK NC RB KF NB I1 I2
  rcases Nat.eq_zero_or_pos m with hm0 | hm0
  · subst hm0
    obtain rfl : qs = [] := List.eq_nil_of_length_eq_zero LQ.out
    go_wp2
    go_loopw [19] (fun x wr => x = .int .i64 0 ∧ wr = wk) (fun _ _ => 0)
    case atStart => exact ⟨rfl, rfl⟩
    case round =>
      obtain ⟨rfl, rfl⟩ := hrel
      go_wp2
      go_ret
      exact ⟨A3, 0, c3, rfl, q3, rfl, ⟨Nat.le_refl _, fun h => absurd h (by simp [flat4])⟩, NR.out⟩
  · obtain ⟨g, rfl, g1, g2, HR0⟩ := R3.out.2 (by rw [flat4_len, LQ.out]; omega)
    have HR0 := Lib.hid HR0
    have LM : Hid ((flat4 (qs.map turnQ)).length = m * 4) := Lib.hid (by rw [flat4_len, List.length_map, LQ.out])
    clear R3 LT
    go_wp2
    go_loopw [19] (fun x wr => ∃ k : Nat, k ≤ m ∧ x = .int .i64 k ∧ Hid (Row wr g (flat4 (mixQ k qs))) ∧ Hid (New w wr)) (fun x _ => m - (intOf x).toNat)
    case atStart => exact ⟨0, Nat.zero_le _, rfl, Lib.hid (by rw [mixQ_zero]; exact HR0.out), NR⟩
    case round =>
      obtain ⟨k, hk, rfl, HR, HN⟩ := hrel
      have k0 : (0 : Int) ≤ (k : Int) := by omega
      by_cases hlt : k < m
      · have hq : k < qs.length := by rw [LQ.out]; exact hlt
        have LK := Lib.hid (show (flat4 (mixQ k qs)).length = m * 4 by rw [flat4_len, mixQ_len (Nat.le_of_lt hq), LQ.out])
        obtain ⟨v0, v1, v2, v3⟩ := flat4_at (mixQ k qs) k
        rw [mixQ_at hq] at v0 v1 v2 v3
        have c0 := HR.out.c (k * 4) (by rw [LK.out]; omega); have c1_ := HR.out.c (k * 4 + 1) (by rw [LK.out]; omega); have c2_ := HR.out.c (k * 4 + 2) (by rw [LK.out]; omega); have c3_ := HR.out.c (k * 4 + 3) (by rw [LK.out]; omega)
        rw [v0] at c0; rw [v1] at c1_; rw [v2] at c2_; rw [v3] at c3_
        have tr := HR.out.lt
        have HS := Lib.hid (fun (w2 : World) (h2 : New wr w2) => (show Row _ g (flat4 (mixQ (k + 1) qs)) by have h := (HR.out.new h2).setQ (k := k) (by rw [mixQ_len (Nat.le_of_lt hq)]; exact hq) (turnQ (qs.getD k rq0)); rw [mixQ_step hq] at h; exact h))
        have HF := Lib.hid (fun (w2 : World) (h2 : New wr w2) => (show ((w2.cell? ⟨g, k * 4, none⟩).isSome = true ∧ (w2.cell? ⟨g, k * 4 + 1, none⟩).isSome = true ∧ (w2.cell? ⟨g, k * 4 + 2, none⟩).isSome = true ∧ (w2.cell? ⟨g, k * 4 + 3, none⟩).isSome = true) ∧ w2.frozen? ⟨g, k * 4, none⟩ = false ∧ w2.frozen? ⟨g, k * 4 + 1, none⟩ = false ∧ w2.frozen? ⟨g, k * 4 + 2, none⟩ = false ∧ w2.frozen? ⟨g, k * 4 + 3, none⟩ = false by
          have r := HR.out.new h2
          exact ⟨⟨by rw [r.c (k * 4) (by rw [LK.out]; omega)]; rfl, by rw [r.c (k * 4 + 1) (by rw [LK.out]; omega)]; rfl, by rw [r.c (k * 4 + 2) (by rw [LK.out]; omega)]; rfl, by rw [r.c (k * 4 + 3) (by rw [LK.out]; omega)]; rfl⟩, r.f (k * 4) (by rw [LK.out]; omega), r.f (k * 4 + 1) (by rw [LK.out]; omega), r.f (k * 4 + 2) (by rw [LK.out]; omega), r.f (k * 4 + 3) (by rw [LK.out]; omega)⟩))
        have k1 : (k : Int) < (m : Int) := by omega
        have gw : w.heap.size ≤ g := by omega
        clear v0 v1 v2 v3 HR hq
        obtain ⟨⟨x0, x1, x2, x3⟩, hq2⟩ : ∃ q, qs.getD k rq0 = q := ⟨_, rfl⟩
        rw [hq2] at c0 c1_ c2_ c3_ HS
        dsimp only [turnQ] at c0 c1_ c2_ c3_ HS
        clear hq2
        go_wp2_with (go_at_call 154; refine (rturned_at x0 x1 x2 x3 _).mono ?_; rintro e w1 ⟨rfl, h1⟩; (have N1 : New wr w1 := (New.alloc (New.refl wr) _).trans h1); (obtain ⟨⟨q0, q1, q2, q3⟩, f0, f1, f2, f3⟩ := HF.out w1 N1); (have q0 := cv_of q0); (have q1 := cv_of q1); (have q2 := cv_of q2); (have q3 := cv_of q3); (have HS1 := Lib.hid (HS.out w1 N1)); (have N1 := Lib.hid N1); clear h1)
        go_roundw
        case rel => exact ⟨k + 1, by omega, by go_num, HS1, Lib.hid (((((HN.out.trans N1.out).setCell (by first | exact gw | (simp; omega)) _).setCell (by first | exact gw | (simp; omega)) _).setCell (by first | exact gw | (simp; omega)) _).setCell (by first | exact gw | (simp; omega)) _)⟩
        case measure => simp [intOf]; omega
      · obtain rfl : k = m := by omega
        have HE := HR.out
        rw [show mixQ k qs = qs.map turnQ by have h := mixQ_all qs; rw [LQ.out] at h; exact h] at HE
        have HE := Lib.hid HE
        clear HR
        go_wp2
        go_ret
        exact AnsQ.row rfl q3 LM.out (by omega) HE.out HN.out
theorem top_bd (hv : vtB n zs = true) (hi : i < n) (t : Nat) (ht : t ≤ (kidL zs n i).length) : 0 ≤ topL (fun j => (natL zs n j).2) (zs.getD (i * 9 + 5) 0) (kidL zs n i) t ∧ topL (fun j => (natL zs n j).2) (zs.getD (i * 9 + 5) 0) (kidL zs n i) t ≤ 10000 := by
  by_cases h0 : kidL zs n i = []
  · rw [h0]; simp [topL]
  · have P := kids_in (g := fun j => (natL zs n j).2) hv hi h0 (.inr fun _ => rfl)
    have h1 := topL_bd P ht
    have h2 := P.gs
    have h3 := P.l8
    omega
theorem blk_len4 (g : Nat → Int) (l : List Nat) (gap : Int) (r : Rq) (k : Nat) (hk : k ≤ l.length) : (flat4 ((blkL g l gap r).take k)).length = k * 4 := by rw [flat4_len, List.length_take, blkL_len]; omega
theorem blk_snoc (g : Nat → Int) (l : List Nat) (gap : Int) (r : Rq) (k : Nat) (hk : k < l.length) : flat4 ((blkL g l gap r).take (k + 1)) = flat4 ((blkL g l gap r).take k) ++ [r.1, r.2.1 + topL g gap l k, r.2.2.1, g (l.getD k 0)] := by
  have hl : k < (blkL g l gap r).length := by rw [blkL_len]; exact hk
  rw [List.take_succ_eq_append_getElem hl, flat4_snoc, show (blkL g l gap r)[k] = (blkL g l gap r).getD k rq0 by simp [hl], blkL_at hk]
set_option maxHeartbeats 4000000 in
theorem blockP_any (hv : vtB n zs = true) (hi : i < n) (r : Rq) (hr : -1000000 ≤ r.2.1 ∧ r.2.1 ≤ 1000000) (w : World) (h : Lnk lo w nb zs n ar fi la ne) :
    Calls Try.prog 138 #[.agg #[], .pointer (some ⟨nb i, 0, none⟩), qv r] w (AnsQ 4 w (flat4 (blkL (fun j => (natL zs n j).2) (kidL zs n i) (zs.getD (i * 9 + 5) 0) r))) := by
  have ND := Lib.hid (fun W (hW : New w W) => needs_at lo nb zs n i ar fi la ne hv hi W (h.new hW))
  have k8 := kids_le (a := i) hv
  obtain ⟨m, hm⟩ : ∃ m, (kidL zs n i).length = m := ⟨_, rfl⟩
  have TB := Lib.hid (fun t (ht : t ≤ m) => top_bd zs n i hv hi t (by rw [hm]; exact ht))
  have TS := Lib.hid (fun t (ht : t < m) => topL_succ (g := fun j => (natL zs n j).2) (gap := zs.getD (i * 9 + 5) 0) (l := kidL zs n i) (t := t) (by rw [hm]; exact ht))
  have T0 := Lib.hid (show topL (fun j => (natL zs n j).2) (zs.getD (i * 9 + 5) 0) (kidL zs n i) 0 = 0 by simp [topL])
  have BS := Lib.hid (fun k (hk : k < m) => blk_snoc (fun j => (natL zs n j).2) (kidL zs n i) (zs.getD (i * 9 + 5) 0) r k (by rw [hm]; exact hk))
  have BL := Lib.hid (fun k (hk : k ≤ m) => blk_len4 (fun j => (natL zs n j).2) (kidL zs n i) (zs.getD (i * 9 + 5) 0) r k (by rw [hm]; exact hk))
  have BA := Lib.hid (show (blkL (fun j => (natL zs n j).2) (kidL zs n i) (zs.getD (i * 9 + 5) 0) r).take m = blkL (fun j => (natL zs n j).2) (kidL zs n i) (zs.getD (i * 9 + 5) 0) r from List.take_of_length_le (by rw [blkL_len, hm]; exact Nat.le_refl _))
  have SM := Lib.hid (fun t (ht : t < m) => (nat_sm hv (kid_mem.1 (kid_get (zs := zs) (n := n) (a := i) (t := t) (by rw [hm]; exact ht))).1).2)
  have V2 := Lib.hid (fun k (hk : k < m) => (show (flat2 ((kidL zs n i).map (natL zs n))).getD (k * 2 + 1) 0 = (natL zs n ((kidL zs n i).getD k 0)).2 ∧ (flat2 ((kidL zs n i).map (natL zs n))).getD (k * 2) 0 = (natL zs n ((kidL zs n i).getD k 0)).1 by
    rw [(flat2_at _ _).1, (flat2_at _ _).2]; simp [show k < (kidL zs n i).length by omega]))
  have LF : Hid ((flat2 ((kidL zs n i).map (natL zs n))).length = m * 2) := Lib.hid (by rw [flat2_len, List.length_map, hm])
  have g5 := h.nd.box i hi 5 (by omega)
  have G5 := Lib.hid (fun W (hW : New w W) => (h.nd.new hW).box i hi 5 (by omega))
  have gp := gap_bd hv hi
  have lti := h.nd.lt i hi
  rw [hm] at ND
  rw [hm] at k8
  generalize zs.getD (i * 9 + 5) 0 = gap at *
  generalize flat2 ((kidL zs n i).map (natL zs n)) = ss at *
  generalize hbl : blkL (fun j => (natL zs n j).2) (kidL zs n i) gap r = bl at *
  generalize topL (fun j => (natL zs n j).2) gap (kidL zs n i) = tp at *
  obtain ⟨rx, ry, rw_, rh⟩ := r
  dsimp only at BS hr
  obtain ⟨ry0, ry1⟩ := hr
  obtain ⟨gp0, gp1⟩ := gp
  have RB := Lib.hid (Row.oneRect (w.alloc (.cells #[] 116)) rx ry rw_ rh 39)
  have NB := Lib.hid (((New.refl w).alloc (.cells #[] 116)).alloc (.cells #[.int .i64 rx, .int .i64 ry, .int .i64 rw_, .int .i64 rh] 39))
  have szb : (w.alloc (.cells #[] 116)).heap.size = w.heap.size + 1 := by simp
  rw [szb] at RB
  clear h szb hm hbl
  go_enter Try.func138, Try.ntmps138
  go_wp2_with fail
  generalize hW0 : (w.alloc (.cells #[] 116)).alloc (.cells #[.int .i64 rx, .int .i64 ry, .int .i64 rw_, .int .i64 rh] 39) = W0 at *
  clear hW0
  refine (ND.out _ NB.out).mono ?_
  rintro e w1 ⟨v, rfl, O1, N1⟩
  obtain ⟨A1, c1, rfl, I1⟩ := O1.sts
  have I1 := Lib.hid I1; have N1 := Lib.hid N1
  clear O1 ND
  go_wp2
  have NA := Lib.hid (NB.out.trans N1.out)
  have KF := Lib.hid (fun W (hW : New w1 W) => (show W.cell? ⟨w.heap.size + 1, 0, none⟩ = some (.int .i64 rx) ∧ W.cell? ⟨w.heap.size + 1, 2, none⟩ = some (.int .i64 rw_) ∧ W.cell? ⟨nb i, 5, none⟩ = some (.int .i64 gap) from
    ⟨(RB.out.new (N1.out.trans hW)).c 0 (by simp), (RB.out.new (N1.out.trans hW)).c 2 (by simp), G5.out W (NA.out.trans hW)⟩))
  have sw1 : w.heap.size + 1 < w1.heap.size := Nat.lt_of_lt_of_le RB.out.lt N1.out.le
  have lt1 : nb i < w1.heap.size := by omega
  go_loopw [7, 8, 16] (fun v t x wr => ∃ k : Nat, k ≤ m ∧ x = .int .i64 k ∧ t = .int .i64 (ry + tp k) ∧ Hid (OwnRect w1.heap.size wr v k (flat4 (bl.take k))) ∧ Hid (New w1 wr)) (fun _ _ x _ => m - (intOf x).toNat)
  case atStart => exact ⟨0, Nat.zero_le _, rfl, by rw [T0.out, Int.add_zero], Lib.hid ⟨⟨rfl, .inl ⟨rfl, rfl⟩⟩, rfl⟩, Lib.hid (New.refl _)⟩
  case round =>
    obtain ⟨k, hk, rfl, rfl, HO, HN⟩ := hrel
    have k0 : (0 : Int) ≤ (k : Int) := by omega
    by_cases hlt : k < m
    · obtain ⟨b, off, rfl, hb, hc⟩ := I1.out.at_ (by omega)
      have g0 : wr.cell? ⟨b, off + k * 2, none⟩ = some (.int .i64 (ss.getD (k * 2) 0)) := (HN.out.cells b _ hb).trans (hc (k * 2) (by omega))
      have g1 : wr.cell? ⟨b, off + k * 2 + 1, none⟩ = some (.int .i64 (ss.getD (k * 2 + 1) 0)) := (HN.out.cells b _ hb).trans (hc (k * 2 + 1) (by omega))
      have v2 := V2.out k hlt
      rw [v2.2] at g0
      rw [v2.1] at g1
      have S1 := BS.out k hlt
      have T1 := TS.out k hlt
      have sm := SM.out k hlt
      have tb := TB.out k hk
      have k1 : (k : Int) < (m : Int) := by omega
      clear hc v2
      generalize (natL zs n ((kidL zs n i).getD k 0)).1 = x0 at *
      generalize (natL zs n ((kidL zs n i).getD k 0)).2 = x1 at *
      have T1 := Lib.hid T1; have S1 := Lib.hid S1
      obtain ⟨t0, t1⟩ := tb
      obtain ⟨x10, x11⟩ := sm
      obtain ⟨ty, hty⟩ : ∃ ty, ry + tp k = ty := ⟨_, rfl⟩
      have HT := Lib.hid hty
      rw [hty] at S1 ⊢
      have ty0 : -1000000 ≤ ty := by omega
      have ty1 : ty ≤ 1010000 := by omega
      clear hty
      obtain ⟨v, hv'⟩ : ∃ v, v = u7 := ⟨_, rfl⟩
      rw [← hv'] at HO ⊢
      clear hv'
      have kf := KF.out wr HN.out
      have e1 : IntKind.i64.wrap (x1 + gap) = x1 + gap := IntWalk.i64_in _ (by omega)
      have e2 : wrap64 (x1 + gap) = x1 + gap := w64s _ e1
      have e3 : IntKind.i64.wrap (ty + (x1 + gap)) = ty + (x1 + gap) := IntWalk.i64_in _ (by omega)
      have e4 : wrap64 (ty + (x1 + gap)) = ty + (x1 + gap) := w64s _ e3
      obtain ⟨q0, q2, q5⟩ := kf
      have szr := HN.out.le
      have hbw : b < wr.heap.size := Nat.lt_of_lt_of_le hb szr
      have swr : w.heap.size + 1 < wr.heap.size := by omega
      go_wp2_with (at_builtin; refine wp_appRect rfl _ _ rfl w1.heap.size _ k _ rfl ((HO.out.alloc _).alloc _) (wr.heap.size + 1) rx ty rw_ x1 rfl (by have h := Row.oneRect (wr.alloc (.cells #[.int .i64 x0, .int .i64 x1] 65)) rx ty rw_ x1 39; simpa using h) (by omega) (by simp; omega) ?_; intro v6 w6 O6 G6; (have N6 := Lib.hid (new_ownRect ((HN.out.alloc _).alloc _) G6 ((HO.out.alloc _).alloc _) (Nat.le_refl _))); (have K6 : w6.cell? ⟨wr.heap.size, 1, none⟩ = some (.int .i64 x1) := (World.cell?_of_block (G6.block wr.heap.size (by simp; omega) (fun e => by have := (HO.out.1.lt wr.heap.size e.symm).2; omega))).trans (by simp [go_sem])); (obtain ⟨p0, p2, p5⟩ := KF.out w6 N6.out); (replace O6 := Lib.hid O6); clear G6)
      go_quiet (fail)
      go_wp2
      go_roundw
      case rel => exact ⟨k + 1, by omega, by go_num, by rw [T1.out, ← HT.out]; congr 1; omega, Lib.hid (by rw [S1.out]; exact O6.out), Lib.hid (N6.out.drewN _)⟩
      case measure => simp [intOf]; omega
    · obtain rfl : k = m := by omega
      have HO2 := HO.out
      rw [BA.out] at HO2
      obtain ⟨A9, c9, hv9, q9, Z9⟩ := HO2.res
      have HL9 := HO2.2
      subst hv9
      clear HO
      go_wp2
      go_ret
      exact ⟨A9, k, c9, rfl, q9, HL9, ⟨Z9.1, fun h => by obtain ⟨g, e, h1, h2, h3⟩ := Z9.2 h; exact ⟨g, e, Nat.le_trans NA.out.le h1, h2, h3⟩⟩, NA.out.trans HN.out⟩
end
end Go.Proofs.Ytobnjagmakhgpaa
