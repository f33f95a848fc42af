/- The size that a box needs, in the program: one induction on the boxes behind a box for natural, needs and the contents. Condition: the nodes are linked, and the tree is valid. -/
import Derived.Test.YtecoicnpileegaaNatI
import Derived.RegionTactic
import Derived.BigRegion
namespace Go.Proofs.Ytecoicnpileegaa
open Go.RowKit

/-- What natural answers at a node. -/
def NatAt (lo : Nat) (nb : Nat → Nat) (zs : List Int) (n : Nat) (ar fi la ne : Nat → Option Nat) (i : Nat) : Prop :=
  ∀ w, Lnk lo w nb zs n ar fi la ne → Calls Try.prog 39 #[.pointer (some ⟨nb i, 0, none⟩)] w fun e w' => e = .returned (.agg #[.int .i64 (natL zs n i).1, .int .i64 (natL zs n i).2]) ∧ New w w'
set_option maxHeartbeats 1000000 in
theorem needs_any (lo : Nat) (nb : Nat → Nat) (zs : List Int) (n i : Nat) (ar fi la ne : Nat → Option Nat) (hi : i < n) (IH : ∀ j ∈ kidL zs n i, NatAt lo nb zs n ar fi la ne j) (w : World) (h : Lnk lo w nb zs n ar fi la ne) :
    Calls Try.prog 96 #[.pointer (some ⟨nb i, 0, none⟩)] w fun e w' => ∃ v, e = .returned v ∧ Ownsize w.heap.size w' v (kidL zs n i).length (flat2 ((kidL zs n i).map (natL zs n))) ∧ New w w' := by
  have HL := Lib.hid h
  have HI := Lib.hid IH
  have g0 := h.nd.fi i hi
  have kb := h.kb
  have hf := h.sh.fi i hi
  clear h IH
  rw [hf] at g0
  go_enter Try.func96, Try.ntmps96
  go_wp2
  go_loopw [3, 4] (fun v p wr => ∃ (done rest : List Nat), Hid (kidL zs n i = done ++ rest) ∧ p = pv nb rest.head? ∧ Hid (Ownsize w.heap.size wr v done.length (flat2 (done.map (natL zs n)))) ∧ Hid (New w wr)) (fun _ p wr => upOf n wr p)
  case atStart => exact ⟨[], kidL zs n i, Lib.hid rfl, rfl, Lib.hid ⟨⟨rfl, .inl ⟨rfl, rfl⟩⟩, rfl⟩, Lib.hid (New.refl _)⟩
  case round =>
    obtain ⟨done, rest, HK, rfl, HO, HN⟩ := hrel
    have dl : done.length ≤ n := by
      have h1 : (kidL zs n i).length ≤ n := by unfold kidL; have := List.length_filter_le (fun j => decide (par zs j = (i : Int))) (List.range n); simpa using this
      rw [HK.out, List.length_append] at h1
      omega
    cases rest with
    | nil =>
      simp only [List.head?_nil, pv_none]
      have HO2 := HO.out
      have e1 := HK.out
      rw [List.append_nil] at e1
      rw [← e1] at HO2
      replace HO2 := Lib.hid HO2
      clear HO HK e1
      obtain ⟨v, hv⟩ : ∃ v, v = u3 := ⟨_, rfl⟩
      rw [← hv] at HO2 ⊢
      clear hv
      go_wp2
      go_ret
      exact ⟨v, rfl, HO2.out, HN.out⟩
    | cons j rest =>
      have hjm := HL.out.lk.kid_in (j := j) (a := i) (by rw [HK.out]; simp)
      have nj := (HL.out.nd.new HN.out).upOf_some hjm.2.2
      have hnx : ∀ r, rest.head? = some r → j < r ∧ r < n := fun r hr => by
        cases rest with
        | nil => cases hr
        | cons r' rest' =>
          obtain rfl : r' = r := by simpa using hr
          have hs := kid_sorted zs n i
          rw [HK.out] at hs
          obtain ⟨_, hs2, _⟩ := List.pairwise_append.1 hs
          exact ⟨(List.pairwise_cons.1 hs2).1 _ List.mem_cons_self, (HL.out.lk.kid_in (j := r') (a := i) (by rw [HK.out]; simp)).2.2⟩
      have NX := Lib.hid hnx
      have NA := Lib.hid (HI.out j (by rw [HK.out]; simp) wr (HL.out.new HN.out))
      have HK2 : Hid (kidL zs n i = (done ++ [j]) ++ rest) := Lib.hid (by rw [HK.out]; simp)
      have hjk := hjm.2.2
      have sz := HN.out.le
      have FL := Lib.hid (flat2_snoc (done.map (natL zs n)) (natL zs n j))
      have GN := Lib.hid (fun W (hW : New w W) => ((HL.out.nd.new hW).ne j hjk).trans (by rw [HL.out.sh.ne i done j rest hi (by rw [HK2.out]; simp)] : some (pv nb (ne j)) = some (pv nb rest.head?)))
      clear hjm hnx HK
      simp only [List.head?_cons, pv_some]
      generalize (natL zs n j).1 = x at *
      generalize (natL zs n j).2 = y at *
      go_wp2_with (first
        | (go_at_call 39; refine NA.out.mono ?_; rintro e w5 ⟨rfl, N5⟩; (have z5 := N5.le); (have O5 := Lib.hid (HO.out.new N5)); (have N5 := Lib.hid (HN.out.trans N5)))
        | (at_builtin; refine wp_appsize rfl _ _ rfl w.heap.size _ _ _ rfl (O5.out.alloc _) w5.heap.size x y rfl (Row.onesize w5 x y _) (by omega) (by simp; omega) ?_; intro v6 w6 O6 G6; (have N6 := Lib.hid (new_ownsize (N5.out.alloc _) G6 (O5.out.alloc _) (Nat.le_refl _))); (have g3 := GN.out w6 N6.out); (have O6 := Lib.hid O6); clear G6))
      go_wp2
      go_roundw
      case rel => exact ⟨done ++ [j], rest, HK2, rfl, Lib.hid (by rw [List.length_append, List.map_append, List.map_singleton, FL.out]; exact O6.out), N6⟩
      case measure =>
        have n6 := (HL.out.nd.new N6.out)
        rw [nj]
        cases hh : rest.head? with
        | none => rw [pv_none, upOf_nil]; omega
        | some r =>
          have h1 := NX.out r hh
          rw [pv_some, n6.upOf_some h1.2]
          omega
/-- The sizes of the boxes in a box. -/
abbrev kidS (zs : List Int) (n i : Nat) : List (Int × Int) := (kidL zs n i).map (natL zs n)
theorem nat_sm {zs : List Int} {n i : Nat} (hv : vtB n zs = true) (hi : i < n) : (0 ≤ (natL zs n i).1 ∧ (natL zs n i).1 ≤ 10000) ∧ 0 ≤ (natL zs n i).2 ∧ (natL zs n i).2 ≤ 10000 := by
  have h1 := nat_bd hv hi
  have h2 := en_bd (zs := zs) hi
  have h3 := (vtB_iff.1 hv).1
  omega
theorem kidS_sm {zs : List Int} {n i : Nat} (hv : vtB n zs = true) : SmP (kidS zs n i) := fun s hs => by
  obtain ⟨j, hj, rfl⟩ := List.mem_map.1 hs
  exact nat_sm hv (kid_mem.1 hj).1
theorem kidS_sm2 {zs : List Int} {n i : Nat} (hv : vtB n zs = true) : SmP ((kidS zs n i).map turnP) := fun s hs => by
  obtain ⟨t, ht, rfl⟩ := List.mem_map.1 hs
  have := kidS_sm hv t ht
  exact ⟨this.2, this.1⟩
theorem gap_bd {zs : List Int} {n i : Nat} (hv : vtB n zs = true) (hi : i < n) : 0 ≤ zs.getD (i * 9 + 5) 0 ∧ zs.getD (i * 9 + 5) 0 ≤ 50 := by
  obtain ⟨_, _, _, _, hg, _⟩ := ((vtB_iff.1 hv).2 i hi).1
  exact hg
theorem pad_bd {zs : List Int} {n i : Nat} (hv : vtB n zs = true) (hi : i < n) : 0 ≤ zs.getD (i * 9 + 4) 0 ∧ zs.getD (i * 9 + 4) 0 ≤ 50 := by
  obtain ⟨_, _, _, hp, _⟩ := ((vtB_iff.1 hv).2 i hi).1
  exact hp
theorem Ownsize.sts {lo n : Nat} {w : World} {v : Value} {zs : List Int} (h : Ownsize lo w v n zs) : ∃ A c, v = .slice A n c ∧ Sts 2 w A n zs := by
  obtain ⟨A, c, e, _, hr⟩ := h.res
  exact ⟨A, c, e, Sts.of_res hr h.2⟩
set_option maxHeartbeats 1000000 in
theorem leafC_any (lo : Nat) (nb : Nat → Nat) (zs : List Int) (n i : Nat) (ar fi la ne : Nat → Option Nat) (hi : i < n) (w : World) (h : Nds lo w nb zs n ar fi la ne) :
    Calls Try.prog 101 #[.agg #[], .pointer (some ⟨nb i, 0, none⟩)] w fun e w' => e = .returned (.agg #[.int .i64 (zs.getD (i * 9 + 2) 0), .int .i64 (zs.getD (i * 9 + 3) 0)]) ∧ New w w' := by
  have g2 := h.box i hi 2 (by omega)
  have g3 := h.box i hi 3 (by omega)
  have hb := h.lt i hi
  generalize zs.getD (i * 9 + 2) 0 = x at *
  generalize zs.getD (i * 9 + 3) 0 = y at *
  clear h hi
  go_enter Try.func101, Try.ntmps101
  go_wp2
  go_region
  go_wp2
  exact bodyPost_ret (v := .agg #[.int .i64 x, .int .i64 y]) (by simp [results, Try.results101, go_sem]) rfl ⟨rfl, by (repeat (first | exact New.refl _ | assumption | refine New.alloc ?_ _ | refine New.drew ?_ | refine New.drewN ?_ _ | refine New.setCell ?_ (by first | omega | (simp; omega) | (simp; done)) _ | refine New.trans ?_ (by assumption)))⟩
/-- The result's block, just laid behind the box of an empty struct. -/
theorem res_row (w w2 : World) (t1 t2 : TypeId) (h : New ((w.alloc (.cells #[] t1)).alloc (.cells #[.int .i64 0, .int .i64 0] t2)) w2) : Row w2 (w.heap.size + 1) [0, 0] := by
  have r := Row.onesize (w.alloc (.cells #[] t1)) 0 0 t2
  have e : (w.alloc (.cells #[] t1)).heap.size = w.heap.size + 1 := by simp
  rw [e] at r
  exact r.new h
set_option maxHeartbeats 1000000 in
theorem rowC_any (lo : Nat) (nb : Nat → Nat) (zs : List Int) (n i : Nat) (ar fi la ne : Nat → Option Nat) (hv : vtB n zs = true) (hi : i < n) (IH : ∀ j ∈ kidL zs n i, NatAt lo nb zs n ar fi la ne j) (w : World) (h : Lnk lo w nb zs n ar fi la ne) :
    Calls Try.prog 98 #[.agg #[], .pointer (some ⟨nb i, 0, none⟩)] w fun e w' => e = .returned (.agg #[.int .i64 (sbs (zs.getD (i * 9 + 5) 0) (kidS zs n i)).1, .int .i64 (sbs (zs.getD (i * 9 + 5) 0) (kidS zs n i)).2]) ∧ New w w' := by
  have HL := Lib.hid h
  have ND := Lib.hid (fun W (hW : Lnk lo W nb zs n ar fi la ne) => needs_any lo nb zs n i ar fi la ne hi IH W hW)
  have SB := Lib.hid (fun A (c : Nat) W (hx : Sts 2 W A (kidL zs n i).length (flat2 (kidS zs n i))) (hW : Nds lo W nb zs n ar fi la ne) => sideBySide_any lo nb zs n i ar fi la ne hi (gap_bd hv hi) A _ c (kidS zs n i) (List.length_map _) (by have := kids_le (a := i) hv; omega) (kidS_sm hv) W hx hW)
  clear h IH hv
  generalize (sbs (zs.getD (i * 9 + 5) 0) (kidS zs n i)).1 = x at *
  generalize (sbs (zs.getD (i * 9 + 5) 0) (kidS zs n i)).2 = y at *
  generalize (kidL zs n i).length = kn at *
  go_enter Try.func98, Try.ntmps98
  go_wp2_with fail
  refine (ND.out _ (HL.out.new (by (repeat (first | exact New.refl _ | assumption | refine New.alloc ?_ _ | refine New.drew ?_ | refine New.drewN ?_ _ | refine New.setCell ?_ (by first | omega | (simp; omega) | (simp; done)) _ | refine New.trans ?_ (by assumption)))))).mono ?_
  rintro e w1 ⟨v, rfl, O1, N1⟩
  obtain ⟨A1, c1, rfl, I1⟩ := O1.sts
  have M1 := Lib.hid N1
  have I1 := Lib.hid I1; have N1 := Lib.hid ((New.alloc (New.alloc (New.refl w) _) _).trans N1)
  clear O1
  go_wp2_with fail
  refine (SB.out A1 c1 w1 I1.out (HL.out.nd.new N1.out)).mono ?_
  rintro e w2 ⟨rfl, N2⟩
  have RR := res_row w w2 _ _ (M1.out.trans N2)
  have c4 := RR.c 0 (by simp); have c5 := RR.c 1 (by simp); have f4 := RR.f 0 (by simp); have f5 := RR.f 1 (by simp)
  have sz := RR.lt
  simp only [List.getD_cons_zero, List.getD_cons_succ] at c4 c5
  have N2 := Lib.hid (N1.out.trans N2)
  clear RR
  go_wp2
  exact bodyPost_ret (v := .agg #[.int .i64 x, .int .i64 y]) (by simp [results, Try.results98, go_sem, c4, c5]) rfl ⟨rfl, (N2.out.setCell (by simp) _).setCell (by simp) _⟩
set_option maxHeartbeats 1000000 in
theorem blockC_any (lo : Nat) (nb : Nat → Nat) (zs : List Int) (n i : Nat) (ar fi la ne : Nat → Option Nat) (hv : vtB n zs = true) (hi : i < n) (IH : ∀ j ∈ kidL zs n i, NatAt lo nb zs n ar fi la ne j) (w : World) (h : Lnk lo w nb zs n ar fi la ne) :
    Calls Try.prog 92 #[.agg #[], .pointer (some ⟨nb i, 0, none⟩)] w fun e w' => e = .returned (.agg #[.int .i64 (sbs (zs.getD (i * 9 + 5) 0) ((kidS zs n i).map turnP)).2, .int .i64 (sbs (zs.getD (i * 9 + 5) 0) ((kidS zs n i).map turnP)).1]) ∧ New w w' := by
  have HL := Lib.hid h
  have k8 : (kidL zs n i).length ≤ 16 := by have := kids_le (a := i) hv; omega
  have ND := Lib.hid (fun W (hW : Lnk lo W nb zs n ar fi la ne) => needs_any lo nb zs n i ar fi la ne hi IH W hW)
  have TS := Lib.hid (fun A (c : Nat) W (hx : Sts 2 W A (kidL zs n i).length (flat2 (kidS zs n i))) => turnedSizes_any A _ c (kidS zs n i) (List.length_map _) k8 W hx)
  have SB := Lib.hid (fun A (c : Nat) W (hx : Sts 2 W A (kidL zs n i).length (flat2 ((kidS zs n i).map turnP))) (hW : Nds lo W nb zs n ar fi la ne) => sideBySide_any lo nb zs n i ar fi la ne hi (gap_bd hv hi) A _ c ((kidS zs n i).map turnP) (by rw [List.length_map, List.length_map]) k8 (kidS_sm2 hv) W hx hW)
  have LT := Lib.hid (show (flat2 ((kidS zs n i).map turnP)).length = (kidL zs n i).length * 2 by rw [flat2_len, List.length_map, List.length_map])
  clear h IH hv
  generalize (sbs (zs.getD (i * 9 + 5) 0) ((kidS zs n i).map turnP)).1 = x at *
  generalize (sbs (zs.getD (i * 9 + 5) 0) ((kidS zs n i).map turnP)).2 = y at *
  generalize flat2 ((kidS zs n i).map turnP) = tt at *
  generalize (kidL zs n i).length = kn at *
  go_enter Try.func92, Try.ntmps92
  go_wp2_with fail
  refine (ND.out _ (HL.out.new (by (repeat (first | exact New.refl _ | assumption | refine New.alloc ?_ _ | refine New.drew ?_ | refine New.drewN ?_ _ | refine New.setCell ?_ (by first | omega | (simp; omega) | (simp; done)) _ | refine New.trans ?_ (by assumption)))))).mono ?_
  rintro e w1 ⟨v, rfl, O1, N1⟩
  obtain ⟨A1, c1, rfl, I1⟩ := O1.sts
  have M1 := Lib.hid N1
  have I1 := Lib.hid I1; have N1 := Lib.hid ((New.alloc (New.alloc (New.refl w) _) _).trans N1)
  clear O1
  go_wp2_with fail
  refine (TS.out A1 c1 w1 I1.out).mono ?_
  rintro e w2 ⟨A2, n2, c2, rfl, l2, r2, N2⟩
  obtain rfl : kn = n2 := by have := LT.out; omega
  have I2 := Lib.hid (Sts.of_res r2 LT.out)
  have M2 := Lib.hid (M1.out.trans N2)
  have N2 := Lib.hid (N1.out.trans N2)
  clear l2 r2
  go_wp2_with fail
  refine (SB.out A2 c2 w2 I2.out (HL.out.nd.new N2.out)).mono ?_
  rintro e w3 ⟨rfl, N3⟩
  have M3 := Lib.hid (M2.out.trans N3)
  have N3 := Lib.hid (N2.out.trans N3)
  go_wp2_with fail
  refine (turned_any x y w3).mono ?_
  rintro e w4 ⟨rfl, N4⟩
  have RR := res_row w w4 _ _ (M3.out.trans N4)
  have c4 := RR.c 0 (by simp); have c5 := RR.c 1 (by simp); have f4 := RR.f 0 (by simp); have f5 := RR.f 1 (by simp)
  have sz := RR.lt
  simp only [List.getD_cons_zero, List.getD_cons_succ] at c4 c5
  have N4 := Lib.hid (N3.out.trans N4)
  clear RR
  go_wp2
  exact bodyPost_ret (v := .agg #[.int .i64 y, .int .i64 x]) (by simp [results, Try.results92, go_sem, c4, c5]) rfl ⟨rfl, (N4.out.setCell (by simp) _).setCell (by simp) _⟩
set_option maxHeartbeats 2000000 in
theorem natural_any (lo : Nat) (nb : Nat → Nat) (zs : List Int) (n : Nat) (ar fi la ne : Nat → Option Nat) (hv : vtB n zs = true) (m : Nat) : ∀ i, n - i = m → i < n → NatAt lo nb zs n ar fi la ne i := by
  induction m using Nat.strongRecOn with
  | ind m ih =>
    intro i hm hi w h
    have HL := Lib.hid h
    have IH : ∀ j ∈ kidL zs n i, NatAt lo nb zs n ar fi la ne j := fun j hj => by
      obtain ⟨_, h2, h3⟩ := (link_vt hv).kid_in hj
      exact ih (n - j) (by omega) j rfl h3
    have NS := nat_step (link_vt hv) hi
    have RC := Lib.hid (fun W hW => rowC_any lo nb zs n i ar fi la ne hv hi IH W hW)
    have BC := Lib.hid (fun W hW => blockC_any lo nb zs n i ar fi la ne hv hi IH W hW)
    have LC := Lib.hid (fun W hW => leafC_any lo nb zs n i ar fi la ne hi W hW)
    have PB := pad_bd hv hi
    have NB := nat_sm hv hi
    have KB := ((vtB_iff.1 hv).2 i hi).1.1
    have g0 := h.nd.box i hi 4 (by omega)
    obtain ⟨pd, hpd⟩ : ∃ pd, zs.getD (i * 9 + 4) 0 = pd := ⟨_, rfl⟩
    rw [hpd] at NS PB g0
    have HPD := Lib.hid hpd
    clear h ih IH hm hpd
    obtain ⟨kd, hkd⟩ : ∃ kd, knd zs i = kd := ⟨_, rfl⟩
    have KA := Lib.hid (fun W hW => kind_any lo nb zs n i ar fi la ne hi kd hkd W hW)
    rw [hkd] at KB
    have hk4 : kd = 0 ∨ kd = 1 ∨ kd = 2 ∨ kd = 3 := by omega
    unfold contL contP at NS
    rw [hkd] at NS
    replace NS := Lib.hid NS; replace NB := Lib.hid NB
    clear hkd
    rcases hk4 with rfl | rfl | rfl | rfl
    · have KA2 := Lib.hid (show ∀ W, Nds lo W nb zs n ar fi la ne → Calls Try.prog 63 #[.pointer (some ⟨nb i, 0, none⟩)] W fun e w' => e = .returned (.iface 94 (.agg #[])) ∧ W = w' from KA.out)
      have EX : (natL zs n i).1 = (zs.getD (i * 9 + 2) 0) + 2 * pd := by rw [NS.out]; rfl
      have EY : (natL zs n i).2 = (zs.getD (i * 9 + 3) 0) + 2 * pd := by rw [NS.out]; rfl
      have nb' := NB.out
      rw [EX, EY] at nb'
      have CC := Lib.hid LC.out
      clear KA NS RC BC LC NB
      generalize (zs.getD (i * 9 + 2) 0) = X at *
      generalize (zs.getD (i * 9 + 3) 0) = Y at *
      have x0 : -1000 ≤ X ∧ X ≤ 100000 := by omega
      have y0 : -1000 ≤ Y ∧ Y ≤ 100000 := by omega
      obtain ⟨x0, x1⟩ := x0
      obtain ⟨y0, y1⟩ := y0
      have EX := Lib.hid EX; have EY := Lib.hid EY
      clear nb'
      go_enter Try.func39, Try.ntmps39
      go_wp2_with (first
        | (go_at_call 63; refine (KA2.out _ (HL.out.nd.new (by (repeat (first | exact New.refl _ | assumption | refine New.alloc ?_ _ | refine New.drew ?_ | refine New.drewN ?_ _ | refine New.setCell ?_ (by first | omega | (simp; omega) | (simp; done)) _ | refine New.trans ?_ (by assumption)))))).mono ?_; rintro e w' ⟨rfl, rfl⟩)
        | (go_at_call 101; refine (CC.out _ (HL.out.nd.new (by (repeat (first | exact New.refl _ | assumption | refine New.alloc ?_ _ | refine New.drew ?_ | refine New.drewN ?_ _ | refine New.setCell ?_ (by first | omega | (simp; omega) | (simp; done)) _ | refine New.trans ?_ (by assumption)))))).mono ?_; rintro e w1 ⟨rfl, N1⟩; (have RR := (Row.onesize w 0 0 57).new N1); (have c4 := RR.c 0 (by simp)); (have c5 := RR.c 1 (by simp)); (have f4 := RR.f 0 (by simp)); (have f5 := RR.f 1 (by simp)); (have sz := RR.lt); (simp only [List.getD_cons_zero, List.getD_cons_succ] at c4 c5); (have g4 := (N1.cells (nb i) 4 (by have := HL.out.nd.lt i hi; simp; omega)).trans ((HL.out.nd.new ((New.refl w).alloc _)).box i hi 4 (by omega))); (rw [HPD.out] at g4); (have N1 := Lib.hid ((New.alloc (New.refl w) _).trans N1)); (have hnb := (HL.out.nd.new N1.out).lt i hi); clear RR))
      rw [EX.out, EY.out]
      exact bodyPost_ret (v := .agg #[.int .i64 (X + 2 * pd), .int .i64 (Y + 2 * pd)]) (by simp [results, Try.results39, go_sem, c4, c5, sz]) rfl ⟨rfl, by (repeat (first | exact New.refl _ | assumption | refine New.alloc ?_ _ | refine New.drew ?_ | refine New.drewN ?_ _ | refine New.setCell ?_ (by first | omega | (simp; omega) | (simp; done)) _ | refine New.trans ?_ (by assumption)))⟩
    · have KA2 := Lib.hid (show ∀ W, Nds lo W nb zs n ar fi la ne → Calls Try.prog 63 #[.pointer (some ⟨nb i, 0, none⟩)] W fun e w' => e = .returned (.iface 90 (.agg #[])) ∧ W = w' from KA.out)
      have EX : (natL zs n i).1 = (sbs (zs.getD (i * 9 + 5) 0) ((kidS zs n i).map turnP)).2 + 2 * pd := by rw [NS.out]; rfl
      have EY : (natL zs n i).2 = (sbs (zs.getD (i * 9 + 5) 0) ((kidS zs n i).map turnP)).1 + 2 * pd := by rw [NS.out]; rfl
      have nb' := NB.out
      rw [EX, EY] at nb'
      have CC := Lib.hid BC.out
      clear KA NS RC BC LC NB
      generalize (sbs (zs.getD (i * 9 + 5) 0) ((kidS zs n i).map turnP)).2 = X at *
      generalize (sbs (zs.getD (i * 9 + 5) 0) ((kidS zs n i).map turnP)).1 = Y at *
      have x0 : -1000 ≤ X ∧ X ≤ 100000 := by omega
      have y0 : -1000 ≤ Y ∧ Y ≤ 100000 := by omega
      obtain ⟨x0, x1⟩ := x0
      obtain ⟨y0, y1⟩ := y0
      have EX := Lib.hid EX; have EY := Lib.hid EY
      clear nb'
      go_enter Try.func39, Try.ntmps39
      go_wp2_with (first
        | (go_at_call 63; refine (KA2.out _ (HL.out.nd.new (by (repeat (first | exact New.refl _ | assumption | refine New.alloc ?_ _ | refine New.drew ?_ | refine New.drewN ?_ _ | refine New.setCell ?_ (by first | omega | (simp; omega) | (simp; done)) _ | refine New.trans ?_ (by assumption)))))).mono ?_; rintro e w' ⟨rfl, rfl⟩)
        | (go_at_call 92; refine (CC.out _ (HL.out.new (by (repeat (first | exact New.refl _ | assumption | refine New.alloc ?_ _ | refine New.drew ?_ | refine New.drewN ?_ _ | refine New.setCell ?_ (by first | omega | (simp; omega) | (simp; done)) _ | refine New.trans ?_ (by assumption)))))).mono ?_; rintro e w1 ⟨rfl, N1⟩; (have RR := (Row.onesize w 0 0 57).new N1); (have c4 := RR.c 0 (by simp)); (have c5 := RR.c 1 (by simp)); (have f4 := RR.f 0 (by simp)); (have f5 := RR.f 1 (by simp)); (have sz := RR.lt); (simp only [List.getD_cons_zero, List.getD_cons_succ] at c4 c5); (have g4 := (N1.cells (nb i) 4 (by have := HL.out.nd.lt i hi; simp; omega)).trans ((HL.out.nd.new ((New.refl w).alloc _)).box i hi 4 (by omega))); (rw [HPD.out] at g4); (have N1 := Lib.hid ((New.alloc (New.refl w) _).trans N1)); (have hnb := (HL.out.nd.new N1.out).lt i hi); clear RR))
      rw [EX.out, EY.out]
      exact bodyPost_ret (v := .agg #[.int .i64 (X + 2 * pd), .int .i64 (Y + 2 * pd)]) (by simp [results, Try.results39, go_sem, c4, c5, sz]) rfl ⟨rfl, by (repeat (first | exact New.refl _ | assumption | refine New.alloc ?_ _ | refine New.drew ?_ | refine New.drewN ?_ _ | refine New.setCell ?_ (by first | omega | (simp; omega) | (simp; done)) _ | refine New.trans ?_ (by assumption)))⟩
    · have KA2 := Lib.hid (show ∀ W, Nds lo W nb zs n ar fi la ne → Calls Try.prog 63 #[.pointer (some ⟨nb i, 0, none⟩)] W fun e w' => e = .returned (.iface 91 (.agg #[])) ∧ W = w' from KA.out)
      have EX : (natL zs n i).1 = (sbs (zs.getD (i * 9 + 5) 0) (kidS zs n i)).1 + 2 * pd := by rw [NS.out]; rfl
      have EY : (natL zs n i).2 = (sbs (zs.getD (i * 9 + 5) 0) (kidS zs n i)).2 + 2 * pd := by rw [NS.out]; rfl
      have nb' := NB.out
      rw [EX, EY] at nb'
      have CC := Lib.hid RC.out
      clear KA NS RC BC LC NB
      generalize (sbs (zs.getD (i * 9 + 5) 0) (kidS zs n i)).1 = X at *
      generalize (sbs (zs.getD (i * 9 + 5) 0) (kidS zs n i)).2 = Y at *
      have x0 : -1000 ≤ X ∧ X ≤ 100000 := by omega
      have y0 : -1000 ≤ Y ∧ Y ≤ 100000 := by omega
      obtain ⟨x0, x1⟩ := x0
      obtain ⟨y0, y1⟩ := y0
      have EX := Lib.hid EX; have EY := Lib.hid EY
      clear nb'
      go_enter Try.func39, Try.ntmps39
      go_wp2_with (first
        | (go_at_call 63; refine (KA2.out _ (HL.out.nd.new (by (repeat (first | exact New.refl _ | assumption | refine New.alloc ?_ _ | refine New.drew ?_ | refine New.drewN ?_ _ | refine New.setCell ?_ (by first | omega | (simp; omega) | (simp; done)) _ | refine New.trans ?_ (by assumption)))))).mono ?_; rintro e w' ⟨rfl, rfl⟩)
        | (go_at_call 98; refine (CC.out _ (HL.out.new (by (repeat (first | exact New.refl _ | assumption | refine New.alloc ?_ _ | refine New.drew ?_ | refine New.drewN ?_ _ | refine New.setCell ?_ (by first | omega | (simp; omega) | (simp; done)) _ | refine New.trans ?_ (by assumption)))))).mono ?_; rintro e w1 ⟨rfl, N1⟩; (have RR := (Row.onesize w 0 0 57).new N1); (have c4 := RR.c 0 (by simp)); (have c5 := RR.c 1 (by simp)); (have f4 := RR.f 0 (by simp)); (have f5 := RR.f 1 (by simp)); (have sz := RR.lt); (simp only [List.getD_cons_zero, List.getD_cons_succ] at c4 c5); (have g4 := (N1.cells (nb i) 4 (by have := HL.out.nd.lt i hi; simp; omega)).trans ((HL.out.nd.new ((New.refl w).alloc _)).box i hi 4 (by omega))); (rw [HPD.out] at g4); (have N1 := Lib.hid ((New.alloc (New.refl w) _).trans N1)); (have hnb := (HL.out.nd.new N1.out).lt i hi); clear RR))
      rw [EX.out, EY.out]
      exact bodyPost_ret (v := .agg #[.int .i64 (X + 2 * pd), .int .i64 (Y + 2 * pd)]) (by simp [results, Try.results39, go_sem, c4, c5, sz]) rfl ⟨rfl, by (repeat (first | exact New.refl _ | assumption | refine New.alloc ?_ _ | refine New.drew ?_ | refine New.drewN ?_ _ | refine New.setCell ?_ (by first | omega | (simp; omega) | (simp; done)) _ | refine New.trans ?_ (by assumption)))⟩
    · have KA2 := Lib.hid (show ∀ W, Nds lo W nb zs n ar fi la ne → Calls Try.prog 63 #[.pointer (some ⟨nb i, 0, none⟩)] W fun e w' => e = .returned (.iface 93 (.agg #[])) ∧ W = w' from KA.out)
      have EX : (natL zs n i).1 = (sbs (zs.getD (i * 9 + 5) 0) ((kidS zs n i).map turnP)).2 + 2 * pd := by rw [NS.out]; rfl
      have EY : (natL zs n i).2 = (sbs (zs.getD (i * 9 + 5) 0) ((kidS zs n i).map turnP)).1 + 2 * pd := by rw [NS.out]; rfl
      have nb' := NB.out
      rw [EX, EY] at nb'
      have CC := Lib.hid BC.out
      clear KA NS RC BC LC NB
      generalize (sbs (zs.getD (i * 9 + 5) 0) ((kidS zs n i).map turnP)).2 = X at *
      generalize (sbs (zs.getD (i * 9 + 5) 0) ((kidS zs n i).map turnP)).1 = Y at *
      have x0 : -1000 ≤ X ∧ X ≤ 100000 := by omega
      have y0 : -1000 ≤ Y ∧ Y ≤ 100000 := by omega
      obtain ⟨x0, x1⟩ := x0
      obtain ⟨y0, y1⟩ := y0
      have EX := Lib.hid EX; have EY := Lib.hid EY
      clear nb'
      go_enter Try.func39, Try.ntmps39
      go_wp2_with (first
        | (go_at_call 63; refine (KA2.out _ (HL.out.nd.new (by (repeat (first | exact New.refl _ | assumption | refine New.alloc ?_ _ | refine New.drew ?_ | refine New.drewN ?_ _ | refine New.setCell ?_ (by first | omega | (simp; omega) | (simp; done)) _ | refine New.trans ?_ (by assumption)))))).mono ?_; rintro e w' ⟨rfl, rfl⟩)
        | (go_at_call 92; refine (CC.out _ (HL.out.new (by (repeat (first | exact New.refl _ | assumption | refine New.alloc ?_ _ | refine New.drew ?_ | refine New.drewN ?_ _ | refine New.setCell ?_ (by first | omega | (simp; omega) | (simp; done)) _ | refine New.trans ?_ (by assumption)))))).mono ?_; rintro e w1 ⟨rfl, N1⟩; (have RR := (Row.onesize w 0 0 57).new N1); (have c4 := RR.c 0 (by simp)); (have c5 := RR.c 1 (by simp)); (have f4 := RR.f 0 (by simp)); (have f5 := RR.f 1 (by simp)); (have sz := RR.lt); (simp only [List.getD_cons_zero, List.getD_cons_succ] at c4 c5); (have g4 := (N1.cells (nb i) 4 (by have := HL.out.nd.lt i hi; simp; omega)).trans ((HL.out.nd.new ((New.refl w).alloc _)).box i hi 4 (by omega))); (rw [HPD.out] at g4); (have N1 := Lib.hid ((New.alloc (New.refl w) _).trans N1)); (have hnb := (HL.out.nd.new N1.out).lt i hi); clear RR))
      rw [EX.out, EY.out]
      exact bodyPost_ret (v := .agg #[.int .i64 (X + 2 * pd), .int .i64 (Y + 2 * pd)]) (by simp [results, Try.results39, go_sem, c4, c5, sz]) rfl ⟨rfl, by (repeat (first | exact New.refl _ | assumption | refine New.alloc ?_ _ | refine New.drew ?_ | refine New.drewN ?_ _ | refine New.setCell ?_ (by first | omega | (simp; omega) | (simp; done)) _ | refine New.trans ?_ (by assumption)))⟩
end Go.Proofs.Ytecoicnpileegaa
