/- AddBox of the reference, walked. Condition: the tree can be read. -/
import Derived.Test.YtffggmjhaaehlaaDoorTreeT
import Derived.Test.YtffggmjhaaehlaaDoorTreeC
import Derived.Test.YtffggmjhaaehlaaDoorBoxB
import Derived.Deep.RegionHeld3
import Derived.Deep.Cut
import Derived.Deep.CutRange
namespace Go.Proofs.YtffggmjhaaehlaaDoor
open Go.RowKit

/-- A Parent that is renumbered behind a new box. -/
def bump (e : Nat) (p : Int) : Int := p + (if p ≥ (e : Int) then 1 else 0)
def rowBx (zs : List Int) (e i : Nat) : List Int := [bump e (par zs i), zs.getD (i * 9 + 1) 0, zs.getD (i * 9 + 2) 0, zs.getD (i * 9 + 3) 0, zs.getD (i * 9 + 4) 0, zs.getD (i * 9 + 5) 0, zs.getD (i * 9 + 6) 0, zs.getD (i * 9 + 7) 0, zs.getD (i * 9 + 8) 0]
def tailB (zs : List Int) (e m : Nat) : List Int := (List.range m).flatMap fun d => rowBx zs e (e + d)
theorem tailB_succ (zs : List Int) (e m : Nat) : tailB zs e (m + 1) = tailB zs e m ++ rowBx zs e (e + m) := by
  unfold tailB
  rw [List.range_succ, List.flatMap_append]
  simp
theorem tailB_len (zs : List Int) (e m : Nat) : (tailB zs e m).length = m * 9 := by
  induction m with
  | zero => rfl
  | succ m ih => rw [tailB_succ, List.length_append, ih]; simp [rowBx]; omega
/-- The tree with a box more. -/
def addL (n : Nat) (zs : List Int) (a : Nat) (bs : List Int) : List Int := zs.take (en zs n a * 9) ++ (a : Int) :: bs ++ tailB zs (en zs n a) (n - en zs n a)
def addOk (n : Nat) (zs : List Int) (at_ : Int) (bs : List Int) : Bool := nodeOk n zs at_ && vtB (n + 1) (addL n zs at_.toNat bs)
set_option maxHeartbeats 400000 in
theorem toIntT_any (b : Bool) (w : World) : Calls Tryd.prog 59 #[.bool b] w fun e w' => e = .returned (.int .i64 (if b = true then 1 else 0)) ∧ w = w' := by
  cases b
  · go_enter Tryd.func59, Tryd.ntmps59
    go_wp2
    go_ret
    exact ⟨rfl, rfl⟩
  · go_enter Tryd.func59, Tryd.ntmps59
    go_wp2
    go_ret
    exact ⟨rfl, rfl⟩
theorem step_appBoxN {w : World} {ops : Array Oper} {o : Oper} {a : Act} {K : Act → World → Prop} {Q : Exit → Act → World → Prop} {E : Prop} (hgd : o.guard = none) (s x : Operand)
    (ho : o.op = .call { callee := .builtin .append, args := #[s, x], argTypes := #[25, 25] }) (lo : Nat) (v : Value) (n : Nat) (zs : List Int) (hs : a.eval s = v) (hown : OwnBox lo w v n zs)
    (A : Option Addr) (k c : Nat) (xs : List Int) (hx : a.eval x = .slice A k c) (hr : Sts 9 w A k xs) (hn : n + k ≤ 1000000) (hlo : lo ≤ w.heap.size)
    (h : ∀ v' w', OwnBox lo w' v' (n + k) (zs ++ xs) → w.grownBy w' v.ownBlock → K (a.put o.dst v') w') :
    if Region.wanted o (yielded ops a.tmps) = true then Oper.wp Tryd.prog o a w K Q else E := by
  have hw : Region.wanted o (yielded ops a.tmps) = true := by simp [Region.wanted, hgd]
  rw [if_pos hw]
  obtain ⟨v', w', hrun, h2, h3, _⟩ := run_appBox w o.type lo v n zs hown A k c xs hr hn hlo
  unfold Oper.wp execOp
  simp only [ho, resolve, invoke, builtin, Sem.run_bind, Sem.run_pure, Result.andThen_ok, List.map_toArray, List.map_cons, List.map_nil, hs, hx, hrun]
  exact h v' w' h2 h3
theorem Sts.pref {m n e : Nat} {w : World} {A : Option Addr} {zs : List Int} (h : Sts m w A n zs) (he : e ≤ n) : Sts m w A e (zs.take (e * m)) := by
  have hm : e * m ≤ n * m := Nat.mul_le_mul_right m he
  refine ⟨by rw [List.length_take, h.len]; omega, fun hn => ?_⟩
  obtain ⟨b, off, ha, hb, hc⟩ := h.at_ (by omega)
  exact ⟨b, off, ha, hb, fun i hi => by rw [hc i (by omega)]; simp [List.getD_eq_getElem?_getD, hi]⟩
theorem OwnBox.weak {lo lo' n : Nat} {w : World} {v : Value} {zs : List Int} (h : OwnBox lo' w v n zs) (hl : lo ≤ lo') : OwnBox lo w v n zs :=
  ⟨⟨h.1.1, h.1.2.imp id (fun ⟨g, cap, cur, a1, a2, a3⟩ => ⟨g, cap, cur, a1, Nat.le_trans hl a2, a3⟩)⟩, h.2⟩
theorem Row.sts {m : Nat} {w : World} {g : Nat} {zs : List Int} (h : Row w g zs) (hm : zs.length = 1 * m) : Sts m w (some ⟨g, 0, none⟩) 1 zs :=
  ⟨hm, fun _ => ⟨g, 0, rfl, h.lt, fun i hi => by simpa using h.c i (by omega)⟩⟩
theorem Row.grown {w w' : World} {g : Nat} {zs : List Int} {r : Option Nat} (h : Row w g zs) (k : w.grownBy w' r) (hr : r ≠ some g) : Row w' g zs :=
  ⟨Nat.lt_of_lt_of_le h.lt k.size, fun i hi => (World.cell?_of_block (k.block g h.lt (fun e => hr e.symm))).trans (h.c i hi), fun i hi => (World.frozen?_of_block (w := w) (k.block g h.lt (fun e => hr e.symm))).trans (h.f i hi)⟩
set_option maxRecDepth 100000 in
set_option maxHeartbeats 4000000 in
theorem SAddBox_any (A : Option Addr) (n c : Nat) (zs : List Int) (at_ q b1 b2 b3 b4 b5 b6 b7 b8 : Int) (hn : n ≤ 1048576) (hnc : n ≤ c) (w : World) (hx : Sts 9 w A n zs) :
    Calls Tryd.prog 54 #[.slice A n c, .int .i64 at_, .agg #[.int .i64 q, .int .i64 b1, .int .i64 b2, .int .i64 b3, .int .i64 b4, .int .i64 b5, .int .i64 b6, .int .i64 b7, .int .i64 b8]] w fun e w' => New w w' ∧
      ((addOk n zs at_ [b1, b2, b3, b4, b5, b6, b7, b8] = false ∧ e = .returned (.tuple #[.slice none 0 0, .bool false])) ∨
       (addOk n zs at_ [b1, b2, b3, b4, b5, b6, b7, b8] = true ∧ ∃ v, e = .returned (.tuple #[v, .bool true]) ∧ OwnBox w.heap.size w' v (n + 1) (addL n zs at_.toNat [b1, b2, b3, b4, b5, b6, b7, b8]))) := by
  have HX := Lib.hid hx
  have CT := Lib.hid (fun W (h : New w W) => svalidTree_any A n c zs hn W (hx.new h))
  have n0 : (0 : Int) ≤ (n : Int) := by omega
  have n1 : (n : Int) ≤ 1048576 := by omega
  cases hv : vtB n zs
  · have E1 : Hid (addOk n zs at_ [b1, b2, b3, b4, b5, b6, b7, b8] = false) := Lib.hid (by unfold addOk nodeOk; rw [hv]; rfl)
    have HV := Lib.hid hv
    clear hv hx
    go_enter Tryd.func54, Tryd.ntmps54
    go_wp2_with fail
    refine (CT.out _ (by (repeat (first | exact New.refl _ | assumption | refine New.alloc ?_ _ | refine New.drew ?_ | refine New.drewN ?_ _ | refine New.setCell ?_ (by first | omega | (simp; omega) | (simp; done)) _ | refine New.trans ?_ (by assumption))))).mono ?_
    rw [HV.out]
    rintro e w1 ⟨rfl, h1⟩
    have N1 := Lib.hid (New.trans (a := w) (by (repeat (first | exact New.refl _ | assumption | refine New.alloc ?_ _ | refine New.drew ?_ | refine New.drewN ?_ _ | refine New.setCell ?_ (by first | omega | (simp; omega) | (simp; done)) _ | refine New.trans ?_ (by assumption)))) h1)
    clear h1
    go_wp2
    refine bodyPost_ret (v := .tuple #[.slice none 0 0, .bool false]) (by simp [results, Tryd.results54, go_sem]) rfl ?_
    exact ⟨N1.out, .inl ⟨E1.out, rfl⟩⟩
  · cases hd : decide (0 ≤ at_ ∧ at_ ≤ (n : Int) - 1)
    · have E1 : Hid (addOk n zs at_ [b1, b2, b3, b4, b5, b6, b7, b8] = false) := Lib.hid (by unfold addOk nodeOk; rw [hv, hd]; rfl)
      have HV := Lib.hid hv
      clear hv hx
      go_enter Tryd.func54, Tryd.ntmps54
      go_wp2_with fail
      refine (CT.out _ (by (repeat (first | exact New.refl _ | assumption | refine New.alloc ?_ _ | refine New.drew ?_ | refine New.drewN ?_ _ | refine New.setCell ?_ (by first | omega | (simp; omega) | (simp; done)) _ | refine New.trans ?_ (by assumption))))).mono ?_
      rw [HV.out]
      rintro e w1 ⟨rfl, h1⟩
      have N1 := Lib.hid (New.trans (a := w) (by (repeat (first | exact New.refl _ | assumption | refine New.alloc ?_ _ | refine New.drew ?_ | refine New.drewN ?_ _ | refine New.setCell ?_ (by first | omega | (simp; omega) | (simp; done)) _ | refine New.trans ?_ (by assumption)))) h1)
      clear h1
      go_wp2_with (go_at_call 25; refine (inRange_any _ _ _ _).mono ?_; rw [hd]; rintro e w' ⟨rfl, rfl⟩)
      refine bodyPost_ret (v := .tuple #[.slice none 0 0, .bool false]) (by simp [results, Tryd.results54, go_sem]) rfl ?_
      exact ⟨N1.out, .inl ⟨E1.out, rfl⟩⟩
    · have hok : nodeOk n zs at_ = true := by unfold nodeOk; rw [hv, hd]; rfl
      obtain ⟨_, a, rfl, ha⟩ := nodeOk_iff.1 hok
      have hn16 := (vtB_iff.1 hv).1
      have HV := Lib.hid hv
      have HOK := Lib.hid hok
      have HL := Lib.hid (link_vt hv)
      have eb := en_bd (zs := zs) ha
      have SC := Lib.hid (fun W (h : New w W) => scount_any A n c a zs hn ha (link_vt hv).ups W (hx.new h))
      obtain ⟨e, he⟩ : ∃ e, en zs n a = e := ⟨_, rfl⟩
      rw [he] at SC eb
      have HE := Lib.hid he
      obtain ⟨y, hy⟩ : ∃ y : Nat, ((e : Nat) : Int) - (a : Int) = (y : Int) := ⟨e - a, by omega⟩
      rw [hy] at SC
      have y0 : (0 : Int) ≤ (y : Int) := by omega
      have y1 : (y : Int) ≤ 16 := by omega
      have hs3 : (a : Int) + (y : Int) = (e : Int) := by omega
      clear hy
      have a0 : (0 : Int) ≤ (a : Int) := by omega
      have a1 : (a : Int) < (n : Int) := by omega
      have e0 : (a : Int) < (e : Int) := by omega
      have e1 : (e : Int) ≤ (n : Int) := by omega
      have ec : (e : Int) ≤ (c : Int) := by omega
      have ec2 : e ≤ c := by omega
      have e2 : (0 : Int) ≤ (e : Int) := by omega
      have e3 : (1 : Int) ≤ (e : Int) := by omega
      obtain ⟨b, off, rfl, hb, hc⟩ := hx.at_ (by omega)
      clear hv hx hok he
      go_enter Tryd.func54, Tryd.ntmps54
      go_wp2_with fail
      refine (CT.out _ (by (repeat (first | exact New.refl _ | assumption | refine New.alloc ?_ _ | refine New.drew ?_ | refine New.drewN ?_ _ | refine New.setCell ?_ (by first | omega | (simp; omega) | (simp; done)) _ | refine New.trans ?_ (by assumption))))).mono ?_
      rw [HV.out]
      rintro e' w1 ⟨rfl, h1⟩
      have lt1 : w.heap.size < w1.heap.size := Nat.lt_of_lt_of_le (by simp) h1.le
      have lc : ∀ j v, j < 9 → #[Value.int .i64 q, .int .i64 b1, .int .i64 b2, .int .i64 b3, .int .i64 b4, .int .i64 b5, .int .i64 b6, .int .i64 b7, .int .i64 b8][j]? = some v → w1.cell? ⟨w.heap.size, j, none⟩ = some v := fun j v hj hv => (h1.cells _ _ (by simp)).trans (by simp [go_sem, hv])
      have fr : ∀ j, j < 9 → w1.frozen? ⟨w.heap.size, j, none⟩ = false := fun j hj => (h1.marks _ _ (by simp)).trans (by simp [go_sem])
      have f0 := fr 0 (by omega)
      have l0 := lc 0 _ (by omega) rfl; have l1 := lc 1 _ (by omega) rfl; have l2 := lc 2 _ (by omega) rfl; have l3 := lc 3 _ (by omega) rfl; have l4 := lc 4 _ (by omega) rfl
      have l5 := lc 5 _ (by omega) rfl; have l6 := lc 6 _ (by omega) rfl; have l7 := lc 7 _ (by omega) rfl; have l8 := lc 8 _ (by omega) rfl
      have N1 := Lib.hid (New.trans (a := w) (by (repeat (first | exact New.refl _ | assumption | refine New.alloc ?_ _ | refine New.drew ?_ | refine New.drewN ?_ _ | refine New.setCell ?_ (by first | omega | (simp; omega) | (simp; done)) _ | refine New.trans ?_ (by assumption)))) h1)
      have SC1 := Lib.hid (SC.out w1 N1.out)
      clear h1 lc fr SC CT
      go_wp2_with (first
        | (go_at_call 25; refine (inRange_any _ _ _ _).mono ?_; rw [hd]; rintro e w' ⟨rfl, rfl⟩)
        | (go_at_call 58; refine SC1.out.mono ?_; rintro e w' ⟨rfl, rfl⟩))
      -- THE REST
      obtain ⟨w2, hw2⟩ : ∃ w2, w1.setCell ⟨w.heap.size, 0, none⟩ (.int .i64 (a : Int)) = w2 := ⟨_, rfl⟩
      rw [hw2]
      have hs2 : w2.heap.size = w1.heap.size := by rw [← hw2]; simp [World.setCell]
      have m : w2.cell? ⟨w.heap.size, 0, none⟩ = some (.int .i64 (a : Int)) ∧ w2.cell? ⟨w.heap.size, 1, none⟩ = some (.int .i64 b1) ∧ w2.cell? ⟨w.heap.size, 2, none⟩ = some (.int .i64 b2) ∧ w2.cell? ⟨w.heap.size, 3, none⟩ = some (.int .i64 b3) ∧ w2.cell? ⟨w.heap.size, 4, none⟩ = some (.int .i64 b4) ∧ w2.cell? ⟨w.heap.size, 5, none⟩ = some (.int .i64 b5) ∧ w2.cell? ⟨w.heap.size, 6, none⟩ = some (.int .i64 b6) ∧ w2.cell? ⟨w.heap.size, 7, none⟩ = some (.int .i64 b7) ∧ w2.cell? ⟨w.heap.size, 8, none⟩ = some (.int .i64 b8) := by
        rw [← hw2]
        exact ⟨by rw [set_cell_at l0, if_pos rfl], by rw [set_cell_at l0, if_neg (by omega)]; exact l1, by rw [set_cell_at l0, if_neg (by omega)]; exact l2, by rw [set_cell_at l0, if_neg (by omega)]; exact l3, by rw [set_cell_at l0, if_neg (by omega)]; exact l4, by rw [set_cell_at l0, if_neg (by omega)]; exact l5, by rw [set_cell_at l0, if_neg (by omega)]; exact l6, by rw [set_cell_at l0, if_neg (by omega)]; exact l7, by rw [set_cell_at l0, if_neg (by omega)]; exact l8⟩
      have N2 := Lib.hid (show New w w2 by rw [← hw2]; exact N1.out.setCell (Nat.le_refl _) _)
      clear hw2 l0 l1 l2 l3 l4 l5 l6 l7 l8 f0 N1 SC1
      have lt2 : w.heap.size < w2.drew.heap.size := by show _ < w2.heap.size; omega
      have lt3 : w.heap.size < w2.heap.size := by omega
      have KF := Lib.hid (fun (W : World) (h : New w2.drew W) => (⟨(h.cells _ _ lt2).trans m.1, (h.cells _ _ lt2).trans m.2.1, (h.cells _ _ lt2).trans m.2.2.1, (h.cells _ _ lt2).trans m.2.2.2.1, (h.cells _ _ lt2).trans m.2.2.2.2.1, (h.cells _ _ lt2).trans m.2.2.2.2.2.1, (h.cells _ _ lt2).trans m.2.2.2.2.2.2.1, (h.cells _ _ lt2).trans m.2.2.2.2.2.2.2.1, (h.cells _ _ lt2).trans m.2.2.2.2.2.2.2.2⟩ : W.cell? ⟨w.heap.size, 0, none⟩ = some (.int .i64 (a : Int)) ∧ W.cell? ⟨w.heap.size, 1, none⟩ = some (.int .i64 b1) ∧ W.cell? ⟨w.heap.size, 2, none⟩ = some (.int .i64 b2) ∧ W.cell? ⟨w.heap.size, 3, none⟩ = some (.int .i64 b3) ∧ W.cell? ⟨w.heap.size, 4, none⟩ = some (.int .i64 b4) ∧ W.cell? ⟨w.heap.size, 5, none⟩ = some (.int .i64 b5) ∧ W.cell? ⟨w.heap.size, 6, none⟩ = some (.int .i64 b6) ∧ W.cell? ⟨w.heap.size, 7, none⟩ = some (.int .i64 b7) ∧ W.cell? ⟨w.heap.size, 8, none⟩ = some (.int .i64 b8)))
      have EC : Hid (OwnBox w2.drew.heap.size ((w2.drew.alloc (.cells #[.int .i64 (a : Int), .int .i64 b1, .int .i64 b2, .int .i64 b3, .int .i64 b4, .int .i64 b5, .int .i64 b6, .int .i64 b7, .int .i64 b8] 32)).alloc (.cells #[] 32)) (.slice (some ⟨w2.heap.size + 1, 0, none⟩) 0 0) 0 []) := Lib.hid (by have h := OwnBox.empty (lo := w2.drew.heap.size) (w2.drew.alloc (.cells #[.int .i64 (a : Int), .int .i64 b1, .int .i64 b2, .int .i64 b3, .int .i64 b4, .int .i64 b5, .int .i64 b6, .int .i64 b7, .int .i64 b8] 32)) (by simp); simpa using h)
      have K0 := KF.out w2.drew (New.refl _)
      have ND := Lib.hid N2.out.drew
      have ST := Lib.hid ((HX.out.new ND.out).pref (e := e) (by omega))
      have EW := Lib.hid (OwnBox.empty (lo := w2.drew.heap.size) w2.drew (Nat.le_refl _))
      have K1 := KF.out (w2.drew.alloc (.cells #[] 32)) ((New.refl _).alloc _)
      have K2 := KF.out ((w2.drew.alloc (.cells #[] 32)).alloc (.cells #[.int .i64 (a : Int), .int .i64 b1, .int .i64 b2, .int .i64 b3, .int .i64 b4, .int .i64 b5, .int .i64 b6, .int .i64 b7, .int .i64 b8] 32)) (((New.refl _).alloc _).alloc _)
      have K3 := KF.out (w2.drew.alloc (.cells #[.int .i64 (a : Int), .int .i64 b1, .int .i64 b2, .int .i64 b3, .int .i64 b4, .int .i64 b5, .int .i64 b6, .int .i64 b7, .int .i64 b8] 32)) ((New.refl _).alloc _)
      have K4 := KF.out ((w2.drew.alloc (.cells #[.int .i64 (a : Int), .int .i64 b1, .int .i64 b2, .int .i64 b3, .int .i64 b4, .int .i64 b5, .int .i64 b6, .int .i64 b7, .int .i64 b8] 32)).alloc (.cells #[] 32)) (((New.refl _).alloc _).alloc _)
      clear m hs2
      go_wp2
      go_cut [9] from 30 to 37 (fun v wx => Hid (OwnBox w.heap.size wx v (0 + e + 1) ([] ++ zs.take (e * 9) ++ [(a : Int), b1, b2, b3, b4, b5, b6, b7, b8])) ∧ Hid (New w wx))
      case first =>
        go_region_held3 (fun w' => w'.cell? ⟨w.heap.size, 0, none⟩ = some (.int .i64 (a : Int)) ∧ w'.cell? ⟨w.heap.size, 1, none⟩ = some (.int .i64 b1) ∧ w'.cell? ⟨w.heap.size, 2, none⟩ = some (.int .i64 b2) ∧ w'.cell? ⟨w.heap.size, 3, none⟩ = some (.int .i64 b3) ∧ w'.cell? ⟨w.heap.size, 4, none⟩ = some (.int .i64 b4) ∧ w'.cell? ⟨w.heap.size, 5, none⟩ = some (.int .i64 b5) ∧ w'.cell? ⟨w.heap.size, 6, none⟩ = some (.int .i64 b6) ∧ w'.cell? ⟨w.heap.size, 7, none⟩ = some (.int .i64 b7) ∧ w'.cell? ⟨w.heap.size, 8, none⟩ = some (.int .i64 b8))
          (first | exact K0 | exact K1 | exact K2 | exact K3 | exact K4 | exact K6 | exact K8 | exact K9 | assumption)
          (first
            | (refine step_appBoxN rfl (.tmp 30) (.tmp 33) rfl w2.drew.heap.size _ 0 [] rfl EW.out _ e _ _ rfl (ST.out.new ((New.refl _).alloc _)) (by omega) ((New.refl w2.drew).alloc _).le ?_; intro v6 w6 O6 G6; (have M6 := Lib.hid (new_ownBox ((New.refl w2.drew).alloc _) G6 EW.out (Nat.le_refl _))); (have K6 := KF.out w6 M6.out); (have K8 := KF.out (w6.alloc (.cells #[.int .i64 (a : Int), .int .i64 b1, .int .i64 b2, .int .i64 b3, .int .i64 b4, .int .i64 b5, .int .i64 b6, .int .i64 b7, .int .i64 b8] 32)) (M6.out.alloc _)); (have O6 := Lib.hid O6); clear G6)
            | (refine step_appBoxN rfl (.tmp 30) (.tmp 33) rfl w2.drew.heap.size _ 0 [] rfl (EW.out.alloc (.cells #[.int .i64 (a : Int), .int .i64 b1, .int .i64 b2, .int .i64 b3, .int .i64 b4, .int .i64 b5, .int .i64 b6, .int .i64 b7, .int .i64 b8] 32)) _ e _ _ rfl (ST.out.new (((New.refl _).alloc _).alloc _)) (by omega) (((New.refl w2.drew).alloc _).alloc _).le ?_; intro v6 w6 O6 G6; (have M6 := Lib.hid (new_ownBox (((New.refl w2.drew).alloc _).alloc _) G6 (EW.out.alloc (.cells #[.int .i64 (a : Int), .int .i64 b1, .int .i64 b2, .int .i64 b3, .int .i64 b4, .int .i64 b5, .int .i64 b6, .int .i64 b7, .int .i64 b8] 32)) (Nat.le_refl _))); (have K6 := KF.out w6 M6.out); (have K8 := KF.out (w6.alloc (.cells #[.int .i64 (a : Int), .int .i64 b1, .int .i64 b2, .int .i64 b3, .int .i64 b4, .int .i64 b5, .int .i64 b6, .int .i64 b7, .int .i64 b8] 32)) (M6.out.alloc _)); (have RB : Hid (Row w6 (w2.heap.size + 1) [(a : Int), b1, b2, b3, b4, b5, b6, b7, b8]) := Lib.hid (by have h := (Row.oneBox (w2.drew.alloc (.cells #[] 32)) (a : Int) b1 b2 b3 b4 b5 b6 b7 b8 32).grown G6 (fun h => by have := Option.some.inj h; simp at this); simpa using h)); (have O6 := Lib.hid O6); clear G6)
            | (refine step_appBoxN rfl (.tmp 30) (.tmp 33) rfl w2.drew.heap.size _ 0 [] rfl EC.out _ e _ _ rfl (ST.out.new (((New.refl _).alloc _).alloc _)) (by omega) (((New.refl w2.drew).alloc _).alloc _).le ?_; intro v6 w6 O6 G6; (have M6 := Lib.hid (new_ownBox (((New.refl w2.drew).alloc _).alloc _) G6 EC.out (Nat.le_refl _))); (have K6 := KF.out w6 M6.out); (have K8 := KF.out (w6.alloc (.cells #[.int .i64 (a : Int), .int .i64 b1, .int .i64 b2, .int .i64 b3, .int .i64 b4, .int .i64 b5, .int .i64 b6, .int .i64 b7, .int .i64 b8] 32)) (M6.out.alloc _)); (have RB : Hid (Row w6 w2.heap.size [(a : Int), b1, b2, b3, b4, b5, b6, b7, b8]) := Lib.hid (((Row.oneBox w2.drew (a : Int) b1 b2 b3 b4 b5 b6 b7 b8 32).new ((New.refl _).alloc (.cells #[] 32))).grown G6 (fun h => by have := Option.some.inj h; simp at this))); (have O6 := Lib.hid O6); clear G6)
            | (refine step_appBoxN rfl (.tmp 34) (.tmp 36) rfl w2.drew.heap.size v6 (0 + e) _ rfl (O6.out.alloc (.cells #[.int .i64 (a : Int), .int .i64 b1, .int .i64 b2, .int .i64 b3, .int .i64 b4, .int .i64 b5, .int .i64 b6, .int .i64 b7, .int .i64 b8] 32)) _ 1 1 [(a : Int), b1, b2, b3, b4, b5, b6, b7, b8] rfl ((Row.oneBox w6 (a : Int) b1 b2 b3 b4 b5 b6 b7 b8 32).sts rfl) (by omega) (Nat.le_trans M6.out.le (by simp)) ?_; intro v7 w7 O7 G7; (have M7 := Lib.hid (new_ownBox (M6.out.alloc _) G7 (O6.out.alloc _) (Nat.le_refl _))); (have K9 := KF.out w7 M7.out); (have O7 := Lib.hid O7); clear G7)
            | (refine step_appBoxN rfl (.tmp 34) (.tmp 36) rfl w2.drew.heap.size v6 (0 + e) _ rfl O6.out _ 1 1 [(a : Int), b1, b2, b3, b4, b5, b6, b7, b8] rfl (RB.out.sts rfl) (by omega) M6.out.le ?_; intro v7 w7 O7 G7; (have M7 := Lib.hid (new_ownBox M6.out G7 O6.out (Nat.le_refl _))); (have K9 := KF.out w7 M7.out); (have O7 := Lib.hid O7); clear G7))
        all_goals
          go_wp2_with fail
          go_meet
          exact ⟨Lib.hid (O7.out.weak (Nat.le_of_lt lt2)), Lib.hid (ND.out.trans M7.out)⟩
      case rest =>
        obtain ⟨HO, HN⟩ := hcut
        clear KF K0 K1 K2 K3 K4 ND ST EW EC lt2 lt3
        go_wp2
        go_loopw [9, 10] (fun v i wr => ∃ k : Nat, e ≤ k ∧ k ≤ n ∧ i = .int .i64 (k : Int) ∧ Hid (OwnBox w.heap.size wr v (0 + e + 1 + (k - e)) (([] ++ zs.take (e * 9) ++ [(a : Int), b1, b2, b3, b4, b5, b6, b7, b8]) ++ tailB zs e (k - e))) ∧ Hid (New w wr)) (fun _ i _ => n - (intOf i).toNat)
        case atStart => exact ⟨e, Nat.le_refl _, by omega, rfl, Lib.hid (by rw [Nat.sub_self, show tailB zs e 0 = [] from rfl, List.append_nil, Nat.add_zero]; exact HO.out), HN⟩
        case round =>
          obtain ⟨k, hek, hk, rfl, HOr, HNr⟩ := hrel
          have sz := HNr.out.le
          by_cases hlt : k < n
          · have k0 : (0 : Int) ≤ (k : Int) := by omega
            have k1 : (k : Int) < (n : Int) := by omega
            obtain ⟨y0, e0y⟩ : ∃ y, zs.getD (k * 9) 0 = y := ⟨_, rfl⟩
            have g0 : wr.cell? ⟨b, off + k * 9, none⟩ = some (.int .i64 y0) := by rw [← e0y]; exact (HNr.out.cells b _ hb).trans (hc (k * 9) (by omega))
            obtain ⟨y1, e1y⟩ : ∃ y, zs.getD (k * 9 + 1) 0 = y := ⟨_, rfl⟩
            have g1 : wr.cell? ⟨b, off + k * 9 + 1, none⟩ = some (.int .i64 y1) := by rw [← e1y]; exact (HNr.out.cells b _ hb).trans (hc (k * 9 + 1) (by omega))
            obtain ⟨y2, e2y⟩ : ∃ y, zs.getD (k * 9 + 2) 0 = y := ⟨_, rfl⟩
            have g2 : wr.cell? ⟨b, off + k * 9 + 2, none⟩ = some (.int .i64 y2) := by rw [← e2y]; exact (HNr.out.cells b _ hb).trans (hc (k * 9 + 2) (by omega))
            obtain ⟨y3, e3y⟩ : ∃ y, zs.getD (k * 9 + 3) 0 = y := ⟨_, rfl⟩
            have g3 : wr.cell? ⟨b, off + k * 9 + 3, none⟩ = some (.int .i64 y3) := by rw [← e3y]; exact (HNr.out.cells b _ hb).trans (hc (k * 9 + 3) (by omega))
            obtain ⟨y4, e4y⟩ : ∃ y, zs.getD (k * 9 + 4) 0 = y := ⟨_, rfl⟩
            have g4 : wr.cell? ⟨b, off + k * 9 + 4, none⟩ = some (.int .i64 y4) := by rw [← e4y]; exact (HNr.out.cells b _ hb).trans (hc (k * 9 + 4) (by omega))
            obtain ⟨y5, e5y⟩ : ∃ y, zs.getD (k * 9 + 5) 0 = y := ⟨_, rfl⟩
            have g5 : wr.cell? ⟨b, off + k * 9 + 5, none⟩ = some (.int .i64 y5) := by rw [← e5y]; exact (HNr.out.cells b _ hb).trans (hc (k * 9 + 5) (by omega))
            obtain ⟨y6, e6y⟩ : ∃ y, zs.getD (k * 9 + 6) 0 = y := ⟨_, rfl⟩
            have g6 : wr.cell? ⟨b, off + k * 9 + 6, none⟩ = some (.int .i64 y6) := by rw [← e6y]; exact (HNr.out.cells b _ hb).trans (hc (k * 9 + 6) (by omega))
            obtain ⟨y7, e7y⟩ : ∃ y, zs.getD (k * 9 + 7) 0 = y := ⟨_, rfl⟩
            have g7 : wr.cell? ⟨b, off + k * 9 + 7, none⟩ = some (.int .i64 y7) := by rw [← e7y]; exact (HNr.out.cells b _ hb).trans (hc (k * 9 + 7) (by omega))
            obtain ⟨y8, e8y⟩ : ∃ y, zs.getD (k * 9 + 8) 0 = y := ⟨_, rfl⟩
            have g8 : wr.cell? ⟨b, off + k * 9 + 8, none⟩ = some (.int .i64 y8) := by rw [← e8y]; exact (HNr.out.cells b _ hb).trans (hc (k * 9 + 8) (by omega))
            obtain ⟨p, ep, hpk, _⟩ := HL.out.up k (by omega) hlt
            have yb : 0 ≤ y0 ∧ y0 ≤ 16 := by
              have h1 : par zs k = y0 := e0y
              omega
            obtain ⟨yb0, yb1⟩ := yb
            clear ep hpk
            by_cases hge : (e : Int) ≤ y0
            · have hd2 : decide (y0 ≥ (e : Int)) = true := decide_eq_true hge
              have TS : Hid (tailB zs e (k + 1 - e) = tailB zs e (k - e) ++ [(y0 + 1), y1, y2, y3, y4, y5, y6, y7, y8]) := Lib.hid (by
                have h : k + 1 - e = (k - e) + 1 := by omega
                rw [h, tailB_succ]
                unfold rowBx bump par
                rw [show e + (k - e) = k by omega, e0y, e1y, e2y, e3y, e4y, e5y, e6y, e7y, e8y, if_pos hge])
              clear e0y e1y e2y e3y e4y e5y e6y e7y e8y
              have NX := Lib.hid ((New.refl wr).alloc (.cells #[.int .i64 y0, .int .i64 y1, .int .i64 y2, .int .i64 y3, .int .i64 y4, .int .i64 y5, .int .i64 y6, .int .i64 y7, .int .i64 y8] 32))
              have ltx : wr.heap.size < (wr.alloc (.cells #[.int .i64 y0, .int .i64 y1, .int .i64 y2, .int .i64 y3, .int .i64 y4, .int .i64 y5, .int .i64 y6, .int .i64 y7, .int .i64 y8] 32)).heap.size := by simp
              have x0 : (wr.alloc (.cells #[.int .i64 y0, .int .i64 y1, .int .i64 y2, .int .i64 y3, .int .i64 y4, .int .i64 y5, .int .i64 y6, .int .i64 y7, .int .i64 y8] 32)).cell? ⟨wr.heap.size, 0, none⟩ = some (.int .i64 y0) := by simp [go_sem]
              have x1 : (wr.alloc (.cells #[.int .i64 y0, .int .i64 y1, .int .i64 y2, .int .i64 y3, .int .i64 y4, .int .i64 y5, .int .i64 y6, .int .i64 y7, .int .i64 y8] 32)).cell? ⟨wr.heap.size, 1, none⟩ = some (.int .i64 y1) := by simp [go_sem]
              have x2 : (wr.alloc (.cells #[.int .i64 y0, .int .i64 y1, .int .i64 y2, .int .i64 y3, .int .i64 y4, .int .i64 y5, .int .i64 y6, .int .i64 y7, .int .i64 y8] 32)).cell? ⟨wr.heap.size, 2, none⟩ = some (.int .i64 y2) := by simp [go_sem]
              have x3 : (wr.alloc (.cells #[.int .i64 y0, .int .i64 y1, .int .i64 y2, .int .i64 y3, .int .i64 y4, .int .i64 y5, .int .i64 y6, .int .i64 y7, .int .i64 y8] 32)).cell? ⟨wr.heap.size, 3, none⟩ = some (.int .i64 y3) := by simp [go_sem]
              have x4 : (wr.alloc (.cells #[.int .i64 y0, .int .i64 y1, .int .i64 y2, .int .i64 y3, .int .i64 y4, .int .i64 y5, .int .i64 y6, .int .i64 y7, .int .i64 y8] 32)).cell? ⟨wr.heap.size, 4, none⟩ = some (.int .i64 y4) := by simp [go_sem]
              have x5 : (wr.alloc (.cells #[.int .i64 y0, .int .i64 y1, .int .i64 y2, .int .i64 y3, .int .i64 y4, .int .i64 y5, .int .i64 y6, .int .i64 y7, .int .i64 y8] 32)).cell? ⟨wr.heap.size, 5, none⟩ = some (.int .i64 y5) := by simp [go_sem]
              have x6 : (wr.alloc (.cells #[.int .i64 y0, .int .i64 y1, .int .i64 y2, .int .i64 y3, .int .i64 y4, .int .i64 y5, .int .i64 y6, .int .i64 y7, .int .i64 y8] 32)).cell? ⟨wr.heap.size, 6, none⟩ = some (.int .i64 y6) := by simp [go_sem]
              have x7 : (wr.alloc (.cells #[.int .i64 y0, .int .i64 y1, .int .i64 y2, .int .i64 y3, .int .i64 y4, .int .i64 y5, .int .i64 y6, .int .i64 y7, .int .i64 y8] 32)).cell? ⟨wr.heap.size, 7, none⟩ = some (.int .i64 y7) := by simp [go_sem]
              have x8 : (wr.alloc (.cells #[.int .i64 y0, .int .i64 y1, .int .i64 y2, .int .i64 y3, .int .i64 y4, .int .i64 y5, .int .i64 y6, .int .i64 y7, .int .i64 y8] 32)).cell? ⟨wr.heap.size, 8, none⟩ = some (.int .i64 y8) := by simp [go_sem]
              have fx : (wr.alloc (.cells #[.int .i64 y0, .int .i64 y1, .int .i64 y2, .int .i64 y3, .int .i64 y4, .int .i64 y5, .int .i64 y6, .int .i64 y7, .int .i64 y8] 32)).frozen? ⟨wr.heap.size, 0, none⟩ = false := by simp [go_sem]
              go_wp2
              generalize wr.alloc (.cells #[.int .i64 y0, .int .i64 y1, .int .i64 y2, .int .i64 y3, .int .i64 y4, .int .i64 y5, .int .i64 y6, .int .i64 y7, .int .i64 y8] 32) = wA at *
              go_still_tail 9, (by kernel_rfl)
              still_call ((toIntT_any _ _).mono fun _ _ h => ⟨h.1, h.2.symm⟩)
              repeat still_step
              refine wpStill_nil ?_
              change wpList _ _ _ _ _ wA.drew
              have NB := Lib.hid NX.out.drew
              have xd : wA.drew.cell? ⟨wr.heap.size, 0, none⟩ = some (.int .i64 y0) ∧ wA.drew.cell? ⟨wr.heap.size, 1, none⟩ = some (.int .i64 y1) ∧ wA.drew.cell? ⟨wr.heap.size, 2, none⟩ = some (.int .i64 y2) ∧ wA.drew.cell? ⟨wr.heap.size, 3, none⟩ = some (.int .i64 y3) ∧ wA.drew.cell? ⟨wr.heap.size, 4, none⟩ = some (.int .i64 y4) ∧ wA.drew.cell? ⟨wr.heap.size, 5, none⟩ = some (.int .i64 y5) ∧ wA.drew.cell? ⟨wr.heap.size, 6, none⟩ = some (.int .i64 y6) ∧ wA.drew.cell? ⟨wr.heap.size, 7, none⟩ = some (.int .i64 y7) ∧ wA.drew.cell? ⟨wr.heap.size, 8, none⟩ = some (.int .i64 y8) ∧ wA.drew.frozen? ⟨wr.heap.size, 0, none⟩ = false := ⟨x0, x1, x2, x3, x4, x5, x6, x7, x8, fx⟩
              clear NX x0 x1 x2 x3 x4 x5 x6 x7 x8 fx
              have ltB : wr.heap.size < wA.drew.heap.size := ltx
              clear ltx
              generalize wA.drew = wB at *
              obtain ⟨x0, x1, x2, x3, x4, x5, x6, x7, x8, fx⟩ := xd
              have NS := Lib.hid (NB.out.setCell (p := ⟨wr.heap.size, 0, none⟩) (Nat.le_refl _) (.int .i64 (y0 + 1)))
              have RX0 := Row.oneBox (wB.setCell ⟨wr.heap.size, 0, none⟩ (.int .i64 (y0 + 1))) (y0 + 1) y1 y2 y3 y4 y5 y6 y7 y8 32
              rw [show (wB.setCell ⟨wr.heap.size, 0, none⟩ (.int .i64 (y0 + 1))).heap.size = wB.heap.size by simp [World.setCell]] at RX0
              have RX := Lib.hid RX0
              clear RX0
              go_wp2_with (at_builtin; refine wp_appBox rfl _ _ rfl w.heap.size _ (0 + e + 1 + (k - e)) _ rfl (HOr.out.new (NS.out.alloc _)) _ (y0 + 1) y1 y2 y3 y4 y5 y6 y7 y8 rfl RX.out (by omega) (Nat.le_trans sz (NS.out.alloc _).le) ?_; intro v6 w6 O6 G6; (have N6 := Lib.hid (new_ownBox (HNr.out.trans (NS.out.alloc _)) G6 (HOr.out.new (NS.out.alloc _)) (Nat.le_refl _))); (have O6 := Lib.hid O6); clear G6)
              go_wp2
              go_roundw
              case rel => exact ⟨k + 1, by omega, by omega, by go_num, Lib.hid (by
                have h2 : 0 + e + 1 + (k + 1 - e) = 0 + e + 1 + (k - e) + 1 := by omega
                rw [h2, TS.out, ← List.append_assoc]
                exact O6.out), N6⟩
              case measure => simp [intOf]; omega
            · have hd2 : decide (y0 ≥ (e : Int)) = false := decide_eq_false hge
              have TS : Hid (tailB zs e (k + 1 - e) = tailB zs e (k - e) ++ [y0, y1, y2, y3, y4, y5, y6, y7, y8]) := Lib.hid (by
                have h : k + 1 - e = (k - e) + 1 := by omega
                rw [h, tailB_succ]
                unfold rowBx bump par
                rw [show e + (k - e) = k by omega, e0y, e1y, e2y, e3y, e4y, e5y, e6y, e7y, e8y, if_neg hge]; rw [Int.add_zero])
              clear e0y e1y e2y e3y e4y e5y e6y e7y e8y
              have NX := Lib.hid ((New.refl wr).alloc (.cells #[.int .i64 y0, .int .i64 y1, .int .i64 y2, .int .i64 y3, .int .i64 y4, .int .i64 y5, .int .i64 y6, .int .i64 y7, .int .i64 y8] 32))
              have ltx : wr.heap.size < (wr.alloc (.cells #[.int .i64 y0, .int .i64 y1, .int .i64 y2, .int .i64 y3, .int .i64 y4, .int .i64 y5, .int .i64 y6, .int .i64 y7, .int .i64 y8] 32)).heap.size := by simp
              have x0 : (wr.alloc (.cells #[.int .i64 y0, .int .i64 y1, .int .i64 y2, .int .i64 y3, .int .i64 y4, .int .i64 y5, .int .i64 y6, .int .i64 y7, .int .i64 y8] 32)).cell? ⟨wr.heap.size, 0, none⟩ = some (.int .i64 y0) := by simp [go_sem]
              have x1 : (wr.alloc (.cells #[.int .i64 y0, .int .i64 y1, .int .i64 y2, .int .i64 y3, .int .i64 y4, .int .i64 y5, .int .i64 y6, .int .i64 y7, .int .i64 y8] 32)).cell? ⟨wr.heap.size, 1, none⟩ = some (.int .i64 y1) := by simp [go_sem]
              have x2 : (wr.alloc (.cells #[.int .i64 y0, .int .i64 y1, .int .i64 y2, .int .i64 y3, .int .i64 y4, .int .i64 y5, .int .i64 y6, .int .i64 y7, .int .i64 y8] 32)).cell? ⟨wr.heap.size, 2, none⟩ = some (.int .i64 y2) := by simp [go_sem]
              have x3 : (wr.alloc (.cells #[.int .i64 y0, .int .i64 y1, .int .i64 y2, .int .i64 y3, .int .i64 y4, .int .i64 y5, .int .i64 y6, .int .i64 y7, .int .i64 y8] 32)).cell? ⟨wr.heap.size, 3, none⟩ = some (.int .i64 y3) := by simp [go_sem]
              have x4 : (wr.alloc (.cells #[.int .i64 y0, .int .i64 y1, .int .i64 y2, .int .i64 y3, .int .i64 y4, .int .i64 y5, .int .i64 y6, .int .i64 y7, .int .i64 y8] 32)).cell? ⟨wr.heap.size, 4, none⟩ = some (.int .i64 y4) := by simp [go_sem]
              have x5 : (wr.alloc (.cells #[.int .i64 y0, .int .i64 y1, .int .i64 y2, .int .i64 y3, .int .i64 y4, .int .i64 y5, .int .i64 y6, .int .i64 y7, .int .i64 y8] 32)).cell? ⟨wr.heap.size, 5, none⟩ = some (.int .i64 y5) := by simp [go_sem]
              have x6 : (wr.alloc (.cells #[.int .i64 y0, .int .i64 y1, .int .i64 y2, .int .i64 y3, .int .i64 y4, .int .i64 y5, .int .i64 y6, .int .i64 y7, .int .i64 y8] 32)).cell? ⟨wr.heap.size, 6, none⟩ = some (.int .i64 y6) := by simp [go_sem]
              have x7 : (wr.alloc (.cells #[.int .i64 y0, .int .i64 y1, .int .i64 y2, .int .i64 y3, .int .i64 y4, .int .i64 y5, .int .i64 y6, .int .i64 y7, .int .i64 y8] 32)).cell? ⟨wr.heap.size, 7, none⟩ = some (.int .i64 y7) := by simp [go_sem]
              have x8 : (wr.alloc (.cells #[.int .i64 y0, .int .i64 y1, .int .i64 y2, .int .i64 y3, .int .i64 y4, .int .i64 y5, .int .i64 y6, .int .i64 y7, .int .i64 y8] 32)).cell? ⟨wr.heap.size, 8, none⟩ = some (.int .i64 y8) := by simp [go_sem]
              have fx : (wr.alloc (.cells #[.int .i64 y0, .int .i64 y1, .int .i64 y2, .int .i64 y3, .int .i64 y4, .int .i64 y5, .int .i64 y6, .int .i64 y7, .int .i64 y8] 32)).frozen? ⟨wr.heap.size, 0, none⟩ = false := by simp [go_sem]
              go_wp2
              generalize wr.alloc (.cells #[.int .i64 y0, .int .i64 y1, .int .i64 y2, .int .i64 y3, .int .i64 y4, .int .i64 y5, .int .i64 y6, .int .i64 y7, .int .i64 y8] 32) = wA at *
              go_still_tail 9, (by kernel_rfl)
              still_call ((toIntT_any _ _).mono fun _ _ h => ⟨h.1, h.2.symm⟩)
              repeat still_step
              refine wpStill_nil ?_
              change wpList _ _ _ _ _ wA.drew
              have NB := Lib.hid NX.out.drew
              have xd : wA.drew.cell? ⟨wr.heap.size, 0, none⟩ = some (.int .i64 y0) ∧ wA.drew.cell? ⟨wr.heap.size, 1, none⟩ = some (.int .i64 y1) ∧ wA.drew.cell? ⟨wr.heap.size, 2, none⟩ = some (.int .i64 y2) ∧ wA.drew.cell? ⟨wr.heap.size, 3, none⟩ = some (.int .i64 y3) ∧ wA.drew.cell? ⟨wr.heap.size, 4, none⟩ = some (.int .i64 y4) ∧ wA.drew.cell? ⟨wr.heap.size, 5, none⟩ = some (.int .i64 y5) ∧ wA.drew.cell? ⟨wr.heap.size, 6, none⟩ = some (.int .i64 y6) ∧ wA.drew.cell? ⟨wr.heap.size, 7, none⟩ = some (.int .i64 y7) ∧ wA.drew.cell? ⟨wr.heap.size, 8, none⟩ = some (.int .i64 y8) ∧ wA.drew.frozen? ⟨wr.heap.size, 0, none⟩ = false := ⟨x0, x1, x2, x3, x4, x5, x6, x7, x8, fx⟩
              clear NX x0 x1 x2 x3 x4 x5 x6 x7 x8 fx
              have ltB : wr.heap.size < wA.drew.heap.size := ltx
              clear ltx
              generalize wA.drew = wB at *
              obtain ⟨x0, x1, x2, x3, x4, x5, x6, x7, x8, fx⟩ := xd
              have NS := Lib.hid (NB.out.setCell (p := ⟨wr.heap.size, 0, none⟩) (Nat.le_refl _) (.int .i64 y0))
              have RX0 := Row.oneBox (wB.setCell ⟨wr.heap.size, 0, none⟩ (.int .i64 y0)) y0 y1 y2 y3 y4 y5 y6 y7 y8 32
              rw [show (wB.setCell ⟨wr.heap.size, 0, none⟩ (.int .i64 y0)).heap.size = wB.heap.size by simp [World.setCell]] at RX0
              have RX := Lib.hid RX0
              clear RX0
              go_wp2_with (at_builtin; refine wp_appBox rfl _ _ rfl w.heap.size _ (0 + e + 1 + (k - e)) _ rfl (HOr.out.new (NS.out.alloc _)) _ y0 y1 y2 y3 y4 y5 y6 y7 y8 rfl RX.out (by omega) (Nat.le_trans sz (NS.out.alloc _).le) ?_; intro v6 w6 O6 G6; (have N6 := Lib.hid (new_ownBox (HNr.out.trans (NS.out.alloc _)) G6 (HOr.out.new (NS.out.alloc _)) (Nat.le_refl _))); (have O6 := Lib.hid O6); clear G6)
              go_wp2
              go_roundw
              case rel => exact ⟨k + 1, by omega, by omega, by go_num, Lib.hid (by
                have h2 : 0 + e + 1 + (k + 1 - e) = 0 + e + 1 + (k - e) + 1 := by omega
                rw [h2, TS.out, ← List.append_assoc]
                exact O6.out), N6⟩
              case measure => simp [intOf]; omega
          · obtain rfl : k = n := by omega
            have AL : Hid (([] ++ zs.take (e * 9) ++ [(a : Int), b1, b2, b3, b4, b5, b6, b7, b8]) ++ tailB zs e (k - e) = addL k zs a [b1, b2, b3, b4, b5, b6, b7, b8]) := Lib.hid (by unfold addL; rw [HE.out]; simp)
            have NL : 0 + e + 1 + (k - e) = k + 1 := by omega
            have HO9 := HOr.out
            rw [NL, AL.out] at HO9
            have HO9' := Lib.hid HO9
            obtain ⟨A9, c9, hv9, _, Z9⟩ := HO9.res
            subst hv9
            have S9 := Lib.hid (Sts.of_res (m := 8) Z9 HO9.2)
            have VT := Lib.hid (svalidTree_any A9 (k + 1) c9 (addL k zs a [b1, b2, b3, b4, b5, b6, b7, b8]) (by omega) wr S9.out)
            clear HO9 Z9 HOr
            cases hvt : vtB (k + 1) (addL k zs a [b1, b2, b3, b4, b5, b6, b7, b8])
            · have HVT := Lib.hid hvt
              have E1 : Hid (addOk k zs (a : Int) [b1, b2, b3, b4, b5, b6, b7, b8] = false) := Lib.hid (by unfold addOk; rw [Int.toNat_natCast, hvt, Bool.and_false])
              clear hvt
              go_wp2_with (go_at_call 12; refine VT.out.mono ?_; rw [HVT.out]; rintro e' w7 ⟨rfl, h7⟩; (have N7 := Lib.hid (HNr.out.trans h7)); clear h7)
              refine bodyPost_ret (v := .tuple #[.slice none 0 0, .bool false]) (by simp [results, Tryd.results54, go_sem]) rfl ?_
              exact ⟨N7.out, .inl ⟨E1.out, rfl⟩⟩
            · have HVT := Lib.hid hvt
              have E1 : Hid (addOk k zs (a : Int) [b1, b2, b3, b4, b5, b6, b7, b8] = true) := Lib.hid (by unfold addOk; rw [Int.toNat_natCast, hvt, HOK.out]; rfl)
              clear hvt
              go_wp2_with fail
              refine VT.out.mono ?_
              rw [HVT.out]
              rintro e' w7 ⟨rfl, h7⟩
              have N7 := Lib.hid (HNr.out.trans h7)
              have O7 := Lib.hid (HO9'.out.new h7)
              clear h7
              go_wp2
              refine bodyPost_ret (v := .tuple #[.slice A9 (k + 1) c9, .bool true]) (by simp [results, Tryd.results54, go_sem]) rfl ?_
              exact ⟨N7.out, .inr ⟨E1.out, _, rfl, O7.out⟩⟩
end Go.Proofs.YtffggmjhaaehlaaDoor
