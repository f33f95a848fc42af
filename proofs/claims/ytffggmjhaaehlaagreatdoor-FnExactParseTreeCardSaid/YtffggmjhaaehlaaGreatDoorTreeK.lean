/- linkTree of the program, walked: nodes for a valid tree, nothing for all others. Condition: the tree can be read. -/
import Derived.Test.YtffggmjhaaehlaaGreatDoorTreeL
import Derived.BigQuiet
namespace Go.Proofs.YtffggmjhaaehlaaGreatDoor
open Go.RowKit

/-- What linkTree leaves: nothing, or a row of pointers to linked nodes. -/
def Linked (w : World) (n : Nat) (zs : List Int) (e : Ending) (w' : World) : Prop :=
  New w w' ∧ ((vtB n zs = false ∧ e = .returned (.slice none 0 0)) ∨
    (vtB n zs = true ∧ ∃ g nb ar fi la ne, e = .returned (.slice (some ⟨g, 0, none⟩) n n) ∧ w.heap.size ≤ g ∧ PRow w' g nb n n ∧ Lnk w.heap.size w' nb zs n ar fi la ne))
theorem vt_no_box {n i : Nat} {zs : List Int} (hi : i < n) (h : boxB zs i = false) : vtB n zs = false := by
  cases hv : vtB n zs
  · rfl
  · have := boxB_iff.2 ((vtB_iff.1 hv).2 i hi).1
    rw [h] at this; cases this
theorem vt_no_place {n i : Nat} {zs : List Int} (hi : i < n) (h : ¬ PlaceP zs i) : vtB n zs = false := by
  cases hv : vtB n zs
  · rfl
  · exact absurd ((vtB_iff.1 hv).2 i hi).2 h
section
variable {lo : Nat} {w w' : World} {nb : Nat → Nat} {zs : List Int} {k n : Nat} {ar fi la ne : Nat → Option Nat}
/-- A new node is laid. -/
theorem Nds.lay (h : Nds lo w nb zs k ar fi la ne) (hr : Rng k ar fi la ne) (hlo : lo ≤ w.heap.size) (t : TypeId) {y0 y1 y2 y3 y4 y5 y6 y7 y8 : Int}
    (hy : zs.getD (k * 9) 0 = y0 ∧ zs.getD (k * 9 + 1) 0 = y1 ∧ zs.getD (k * 9 + 2) 0 = y2 ∧ zs.getD (k * 9 + 3) 0 = y3 ∧ zs.getD (k * 9 + 4) 0 = y4 ∧ zs.getD (k * 9 + 5) 0 = y5 ∧ zs.getD (k * 9 + 6) 0 = y6 ∧ zs.getD (k * 9 + 7) 0 = y7 ∧ zs.getD (k * 9 + 8) 0 = y8) :
    Nds lo (w.alloc (.cells #[.int .i64 y0, .int .i64 y1, .int .i64 y2, .int .i64 y3, .int .i64 y4, .int .i64 y5, .int .i64 y6, .int .i64 y7, .int .i64 y8, .int .i64 (k : Int), .pointer none, .pointer none, .pointer none, .pointer none] t)) (nbx nb k w.heap.size) zs (k + 1) (upd ar k none) (upd fi k none) (upd la k none) (upd ne k none) := by
  obtain ⟨e0, e1, e2, e3, e4, e5, e6, e7, e8⟩ := hy
  refine h.grow hr ((New.refl w).alloc _) w.heap.size (Nat.le_refl _) hlo (by simp) (fun j hj => ?_) (by simp [go_sem]) (fun j h1 h2 => ?_) (fun j _ => by simp [go_sem])
  · match j, hj with
    | 0, _ => simp [go_sem, ← e0]
    | 1, _ => simp [go_sem, ← e1]
    | 2, _ => simp [go_sem, ← e2]
    | 3, _ => simp [go_sem, ← e3]
    | 4, _ => simp [go_sem, ← e4]
    | 5, _ => simp [go_sem, ← e5]
    | 6, _ => simp [go_sem, ← e6]
    | 7, _ => simp [go_sem, ← e7]
    | 8, _ => simp [go_sem, ← e8]
    | j + 9, h => omega
  · match j, h1, h2 with
    | 10, _, _ => simp [go_sem]
    | 11, _, _ => simp [go_sem]
    | 12, _, _ => simp [go_sem]
    | 13, _, _ => simp [go_sem]
    | j + 14, _, h => omega
theorem Lnk.drewN (h : Lnk lo w nb zs k ar fi la ne) (q : Nat) : Lnk lo (w.drewN q) nb zs k ar fi la ne := h.new ((New.refl w).drewN q)
theorem Lnk.nil (lo : Nat) (w : World) (nb : Nat → Nat) (zs : List Int) (ar fi la ne : Nat → Option Nat) : Lnk lo w nb zs 0 ar fi la ne :=
  ⟨Nds.nil _ _ _ _ _ _ _ _, ⟨fun i _ h => absurd h (by omega), fun i _ h => absurd h (by omega), fun i _ h => absurd h (by omega), fun i _ h => absurd h (by omega)⟩, fun i h => absurd h (by omega), Shape.nil _ _ _ _, ⟨fun h => absurd h (by omega), fun i _ h => absurd h (by omega)⟩, by omega⟩
theorem Lnk.far (h : Lnk lo w nb zs k ar fi la ne) {p : Addr} (hp : ∀ i, i < k → p.block ≠ nb i) (u : Value) : Lnk lo (w.setCell p u) nb zs k ar fi la ne := ⟨h.nd.far hp u, h.rg, h.ar, h.sh, h.lk, h.kb⟩
end
set_option maxRecDepth 100000 in
set_option maxHeartbeats 4000000 in
theorem linkTree_any (A : Option Addr) (n c : Nat) (zs : List Int) (hn : n ≤ 1048576) (w : World) (hx : Sts 9 w A n zs) :
    Calls Tryz.prog 26 #[.slice A n c] w (Linked w n zs) := by
  have HX := Lib.hid hx
  have i0 : (0 : Int) ≤ (n : Int) := by omega
  have i1 : (n : Int) ≤ 1048576 := by omega
  by_cases hr : 1 ≤ (n : Int) ∧ (n : Int) ≤ 16
  · have hd := decide_eq_true hr
    obtain ⟨b, off, rfl, hb, hc⟩ := hx.at_ (by omega)
    have c0 : w.cell? ⟨b, off, none⟩ = some (.int .i64 (par zs 0)) := hc 0 (by omega)
    have HC := Lib.hid hc; have HB := Lib.hid hb
    obtain ⟨hr1, hr2⟩ := hr
    clear hc hx
    by_cases hp : par zs 0 = -1
    · have hne : (par zs 0 != -1) = false := by simpa using hp
      have H0 := Lib.hid hp
      rw [hp] at c0
      clear hp hne
      have hmk := fun W => run_make_row' (P := Tryz.prog) 51 53 (.pointer none) 8 Tryz.underlying51 (by kernel_rfl) rfl .i64 .i64 n (by omega) (by omega) W
      go_enter Tryz.func26, Tryz.ntmps26
      go_wp2_with (go_at_call 45; refine (within_any _ _ _ _).mono ?_; rw [hd]; rintro e w' ⟨rfl, rfl⟩)
      go_loopw [23] (fun i wr => ∃ (k : Nat) (nb : Nat → Nat) (ar fi la ne : Nat → Option Nat), k ≤ n ∧ i = .int .i64 (k : Int) ∧ Hid (New w wr) ∧ Hid (PRow wr w.heap.size nb k n) ∧ Hid (Lnk w.heap.size wr nb zs k ar fi la ne) ∧ Hid (∀ j, j < k → boxB zs j = true ∧ PlaceP zs j) ∧ Hid (∀ j, j < k → nb j ≠ w.heap.size)) (fun i _ => n - (intOf i).toNat)
      case atStart => exact ⟨0, fun _ => 0, fun _ => none, fun _ => none, fun _ => none, fun _ => none, Nat.zero_le _, rfl, Lib.hid (by (repeat (first | exact New.refl _ | assumption | refine New.alloc ?_ _ | refine New.drew ?_ | refine New.drewN ?_ _ | refine New.setCell ?_ (by first | omega | (simp; omega) | (simp; done)) _ | refine New.trans ?_ (by assumption)))), Lib.hid (PRow.made _ _ _ _), Lib.hid (Lnk.nil _ _ _ _ _ _ _ _), Lib.hid (fun j h => absurd h (by omega)), Lib.hid (fun j h => absurd h (by omega))⟩
      case round =>
        obtain ⟨k, nb, ar, fi, la, ne, hk, rfl, HN, HP, HL, HV, HG⟩ := hrel
        have sz := HN.out.le
        have glt := HP.out.lt
        by_cases hlt : k < n
        · have k0 : (0 : Int) ≤ (k : Int) := by omega
          have k1 : (k : Int) < (n : Int) := by omega
          have km : k ≤ 16 := by omega
          obtain ⟨y0, e0⟩ : ∃ y, zs.getD (k * 9) 0 = y := ⟨_, rfl⟩
          have g0 : wr.cell? ⟨b, off + k * 9, none⟩ = some (.int .i64 y0) := by rw [← e0]; exact (HN.out.cells b _ HB.out).trans (HC.out (k * 9) (by omega))
          obtain ⟨y1, e1⟩ : ∃ y, zs.getD (k * 9 + 1) 0 = y := ⟨_, rfl⟩
          have g1 : wr.cell? ⟨b, off + k * 9 + 1, none⟩ = some (.int .i64 y1) := by rw [← e1]; exact (HN.out.cells b _ HB.out).trans (HC.out (k * 9 + 1) (by omega))
          obtain ⟨y2, e2⟩ : ∃ y, zs.getD (k * 9 + 2) 0 = y := ⟨_, rfl⟩
          have g2 : wr.cell? ⟨b, off + k * 9 + 2, none⟩ = some (.int .i64 y2) := by rw [← e2]; exact (HN.out.cells b _ HB.out).trans (HC.out (k * 9 + 2) (by omega))
          obtain ⟨y3, e3⟩ : ∃ y, zs.getD (k * 9 + 3) 0 = y := ⟨_, rfl⟩
          have g3 : wr.cell? ⟨b, off + k * 9 + 3, none⟩ = some (.int .i64 y3) := by rw [← e3]; exact (HN.out.cells b _ HB.out).trans (HC.out (k * 9 + 3) (by omega))
          obtain ⟨y4, e4⟩ : ∃ y, zs.getD (k * 9 + 4) 0 = y := ⟨_, rfl⟩
          have g4 : wr.cell? ⟨b, off + k * 9 + 4, none⟩ = some (.int .i64 y4) := by rw [← e4]; exact (HN.out.cells b _ HB.out).trans (HC.out (k * 9 + 4) (by omega))
          obtain ⟨y5, e5⟩ : ∃ y, zs.getD (k * 9 + 5) 0 = y := ⟨_, rfl⟩
          have g5 : wr.cell? ⟨b, off + k * 9 + 5, none⟩ = some (.int .i64 y5) := by rw [← e5]; exact (HN.out.cells b _ HB.out).trans (HC.out (k * 9 + 5) (by omega))
          obtain ⟨y6, e6⟩ : ∃ y, zs.getD (k * 9 + 6) 0 = y := ⟨_, rfl⟩
          have g6 : wr.cell? ⟨b, off + k * 9 + 6, none⟩ = some (.int .i64 y6) := by rw [← e6]; exact (HN.out.cells b _ HB.out).trans (HC.out (k * 9 + 6) (by omega))
          obtain ⟨y7, e7⟩ : ∃ y, zs.getD (k * 9 + 7) 0 = y := ⟨_, rfl⟩
          have g7 : wr.cell? ⟨b, off + k * 9 + 7, none⟩ = some (.int .i64 y7) := by rw [← e7]; exact (HN.out.cells b _ HB.out).trans (HC.out (k * 9 + 7) (by omega))
          obtain ⟨y8, e8⟩ : ∃ y, zs.getD (k * 9 + 8) 0 = y := ⟨_, rfl⟩
          have g8 : wr.cell? ⟨b, off + k * 9 + 8, none⟩ = some (.int .i64 y8) := by rw [← e8]; exact (HN.out.cells b _ HB.out).trans (HC.out (k * 9 + 8) (by omega))
          have hbx : boxB zs k = okX y1 y2 y3 y4 y5 y6 y7 y8 := by unfold boxB; rw [e1, e2, e3, e4, e5, e6, e7, e8]
          have HE := Lib.hid (⟨e0, e1, e2, e3, e4, e5, e6, e7, e8⟩ : zs.getD (k * 9) 0 = y0 ∧ zs.getD (k * 9 + 1) 0 = y1 ∧ zs.getD (k * 9 + 2) 0 = y2 ∧ zs.getD (k * 9 + 3) 0 = y3 ∧ zs.getD (k * 9 + 4) 0 = y4 ∧ zs.getD (k * 9 + 5) 0 = y5 ∧ zs.getD (k * 9 + 6) 0 = y6 ∧ zs.getD (k * 9 + 7) 0 = y7 ∧ zs.getD (k * 9 + 8) 0 = y8)
          clear e0 e1 e2 e3 e4 e5 e6 e7 e8
          cases hok : boxB zs k
          · have hv := Lib.hid (vt_no_box hlt hok)
            have HOK := Lib.hid (show okX y1 y2 y3 y4 y5 y6 y7 y8 = false by rw [← hbx]; exact hok)
            clear hok hbx
            go_wp2_with (go_at_call 46; refine (boxValid_any _ _ _ _ _ _ _ _ _ _).mono ?_; rw [HOK.out]; rintro e w2 ⟨rfl, h2⟩; (have H2 := Lib.hid h2); clear h2)
            go_ret
            exact ⟨New.trans (b := wr) HN.out (New.trans (by (repeat (first | exact New.refl _ | assumption | refine New.alloc ?_ _ | refine New.drew ?_ | refine New.drewN ?_ _ | refine New.setCell ?_ (by first | omega | (simp; omega) | (simp; done)) _ | refine New.trans ?_ (by assumption)))) H2.out), .inl ⟨hv.out, rfl⟩⟩
          · have HBX := Lib.hid hok
            have HOK := Lib.hid (show okX y1 y2 y3 y4 y5 y6 y7 y8 = true by rw [← hbx]; exact hok)
            clear hok hbx
            go_wp2_with fail
            refine (boxValid_any _ _ _ _ _ _ _ _ _ _).mono ?_
            rw [HOK.out]
            rintro e w2 ⟨rfl, h2⟩
            have l0 : w2.cell? ⟨wr.heap.size, 0, none⟩ = some (.int .i64 y0) := (h2.cells _ _ (by simp)).trans (by simp [go_sem])
            have l1 : w2.cell? ⟨wr.heap.size, 1, none⟩ = some (.int .i64 y1) := (h2.cells _ _ (by simp)).trans (by simp [go_sem])
            have l2 : w2.cell? ⟨wr.heap.size, 2, none⟩ = some (.int .i64 y2) := (h2.cells _ _ (by simp)).trans (by simp [go_sem])
            have l3 : w2.cell? ⟨wr.heap.size, 3, none⟩ = some (.int .i64 y3) := (h2.cells _ _ (by simp)).trans (by simp [go_sem])
            have l4 : w2.cell? ⟨wr.heap.size, 4, none⟩ = some (.int .i64 y4) := (h2.cells _ _ (by simp)).trans (by simp [go_sem])
            have l5 : w2.cell? ⟨wr.heap.size, 5, none⟩ = some (.int .i64 y5) := (h2.cells _ _ (by simp)).trans (by simp [go_sem])
            have l6 : w2.cell? ⟨wr.heap.size, 6, none⟩ = some (.int .i64 y6) := (h2.cells _ _ (by simp)).trans (by simp [go_sem])
            have l7 : w2.cell? ⟨wr.heap.size, 7, none⟩ = some (.int .i64 y7) := (h2.cells _ _ (by simp)).trans (by simp [go_sem])
            have l8 : w2.cell? ⟨wr.heap.size, 8, none⟩ = some (.int .i64 y8) := (h2.cells _ _ (by simp)).trans (by simp [go_sem])
            have s2 : wr.heap.size < w2.heap.size := Nat.lt_of_lt_of_le (by simp) h2.le
            have n2 : New wr w2 := New.trans (by (repeat (first | exact New.refl _ | assumption | refine New.alloc ?_ _ | refine New.drew ?_ | refine New.drewN ?_ _ | refine New.setCell ?_ (by first | omega | (simp; omega) | (simp; done)) _ | refine New.trans ?_ (by assumption)))) h2
            have HP2 := HP.out.new n2
            have HL2 := Lib.hid (HL.out.new n2)
            have N2 := Lib.hid (HN.out.trans n2)
            have p0 := HP2.z k (Nat.le_refl _) hlt
            have p1 := HP2.f k hlt
            have gl2 : w.heap.size < w2.heap.size := by omega
            replace HP2 := Lib.hid HP2
            clear h2 n2 HL HP
            have hG := HG.out
            have LF : Lnk w.heap.size (w2.setCell ⟨w.heap.size, k, none⟩ (.pointer (some ⟨w2.heap.size, 0, none⟩))) nb zs k ar fi la ne := HL2.out.far (fun i hi => (hG i hi).symm) _
            have hsz : (w2.setCell ⟨w.heap.size, k, none⟩ (.pointer (some ⟨w2.heap.size, 0, none⟩))).heap.size = w2.heap.size := by simp [World.setCell]
            have ND := LF.nd.lay LF.rg (by rw [hsz]; omega) 57 HE.out
            have PR := (HP2.out.step hlt w2.heap.size).new ((New.refl _).alloc (.cells #[.int .i64 y0, .int .i64 y1, .int .i64 y2, .int .i64 y3, .int .i64 y4, .int .i64 y5, .int .i64 y6, .int .i64 y7, .int .i64 y8, .int .i64 (k : Int), .pointer none, .pointer none, .pointer none, .pointer none] 57))
            have NN := (N2.out.setCell (p := ⟨w.heap.size, k, none⟩) (Nat.le_refl _) (.pointer (some ⟨w2.heap.size, 0, none⟩))).alloc (.cells #[.int .i64 y0, .int .i64 y1, .int .i64 y2, .int .i64 y3, .int .i64 y4, .int .i64 y5, .int .i64 y6, .int .i64 y7, .int .i64 y8, .int .i64 (k : Int), .pointer none, .pointer none, .pointer none, .pointer none] 57)
            have LN := LF.new ((New.refl _).alloc (.cells #[.int .i64 y0, .int .i64 y1, .int .i64 y2, .int .i64 y3, .int .i64 y4, .int .i64 y5, .int .i64 y6, .int .i64 y7, .int .i64 y8, .int .i64 (k : Int), .pointer none, .pointer none, .pointer none, .pointer none] 57))
            have lb : ((w2.setCell ⟨w.heap.size, k, none⟩ (.pointer (some ⟨w2.heap.size, 0, none⟩))).alloc (.cells #[.int .i64 y0, .int .i64 y1, .int .i64 y2, .int .i64 y3, .int .i64 y4, .int .i64 y5, .int .i64 y6, .int .i64 y7, .int .i64 y8, .int .i64 (k : Int), .pointer none, .pointer none, .pointer none, .pointer none] 57)).cell? ⟨wr.heap.size, 0, none⟩ = some (.int .i64 y0) := (((New.refl _).alloc _).cells _ _ (by rw [hsz]; exact s2)).trans ((World.cell?_of_block (Below.heap_setCell _ _ _ _ (by simp; omega))).trans l0)
            rw [hsz] at ND
            have HGn : Hid (∀ j, j < k + 1 → nbx nb k w2.heap.size j ≠ w.heap.size) := Lib.hid (fun j hj => by
              by_cases e : j = k
              · rw [e, nbx_new]; omega
              · rw [nbx_old e]; exact hG j (by omega))
            have LN' := Lib.hid LN; have ND' := Lib.hid ND; have PR' := Lib.hid PR; have NN' := Lib.hid NN; have LB' := Lib.hid lb
            clear LF hG LN ND PR NN lb
            by_cases hz : k = 0
            · have PP : PlaceP zs k := by rw [hz]; unfold PlaceP; rw [if_pos rfl]; exact H0.out
              have HV' : Hid (∀ j, j < k + 1 → boxB zs j = true ∧ PlaceP zs j) := Lib.hid (fun j hj => by
                by_cases e : j = k
                · rw [e]; exact ⟨HBX.out, PP⟩
                · exact HV.out j (by omega))
              clear PP
              subst hz
              have HLK : Hid (Link zs 1) := Lib.hid (link_of (k := 1) (fun j hj => (HV'.out j hj).2))
              go_wp2
              go_roundw
              case rel => exact ⟨0 + 1, _, _, _, _, _, by omega, by go_num, NN', PR', Lib.hid (Lnk.first ND'.out HLK.out), HV', HGn⟩
              case measure => simp [intOf]; omega
            · have hzb : ((k : Int) == 0) = false := by simp; omega
              go_wp2
              generalize (w2.setCell ⟨w.heap.size, k, none⟩ (.pointer (some ⟨w2.heap.size, 0, none⟩))).alloc (.cells #[.int .i64 y0, .int .i64 y1, .int .i64 y2, .int .i64 y3, .int .i64 y4, .int .i64 y5, .int .i64 y6, .int .i64 y7, .int .i64 y8, .int .i64 (k : Int), .pointer none, .pointer none, .pointer none, .pointer none] 57) = w3 at *
              have hgen : wr.heap.size = wr.heap.size := rfl
              clear hgen p0 p1 g0 g1 g2 g3 g4 g5 g6 g7 g8 l0 l1 l2 l3 l4 l5 l6 l7 l8
              obtain ⟨q, rfl⟩ : ∃ q, k = q + 1 := ⟨k - 1, by omega⟩
              have pc : w3.cell? ⟨w.heap.size, q, none⟩ = some (.pointer (some ⟨nb q, 0, none⟩)) := by
                have h := PR'.out.c q (by omega)
                rw [nbx_old (by omega)] at h; exact h
              have lb := LB'.out
              have hy : par zs (q + 1) = y0 := HE.out.1
              have HY := Lib.hid hy
              have q0 : (0 : Int) ≤ (q : Int) := by omega
              have q1 : (q : Int) < (n : Int) := by omega
              have iw2 : IntKind.i64.wrap (((q + 1 : Nat) : Int) - 1) = (q : Int) := by rw [IntWalk.i64_in _ (by omega)]; omega
              have iw : IntKind.i64.wrap ((q : Int) + 1 - 1) = (q : Int) := by rw [IntWalk.i64_in _ (by omega)]; omega
              have CT := Lib.hid (fun (W : World) (h : Lnk w.heap.size W nb zs (q + 1) ar fi la ne) => outTo_any w.heap.size nb zs (q + 1) (some q) y0 ar fi la ne (fun j hj => by have := Option.some.inj hj; omega) W h)
              clear hy hz hzb
              by_cases hpa : 0 ≤ y0 ∧ anc zs y0.toNat q = true
              · obtain ⟨hy0, hpa⟩ := hpa
                obtain ⟨p, rfl⟩ : ∃ p : Nat, y0 = (p : Int) := ⟨y0.toNat, by omega⟩
                rw [Int.toNat_natCast] at hpa
                have hpq := anc_le hpa
                have EO : outO zs (p : Int) (some q) = some p := by simp [outO, hpa]
                have CT2 := Lib.hid (fun (W : World) (h : Lnk w.heap.size W nb zs (q + 1) ar fi la ne) => by have h2 := CT.out W h; rw [EO, pv_some, pv_some] at h2; exact h2)
                have HPA := Lib.hid hpa
                clear EO CT hpa hy0
                go_quiet ((go_at_call 47; exact Calls.quiet_of_same ((CT2.out _ (LN'.out.drewN _)).mono fun _ _ h => ⟨h.1, h.2.symm⟩)))
                have LN4 := Lib.hid (LN'.out.drewN nq)
                have ND4 := Lib.hid (ND'.out.new ((New.refl w3).drewN nq))
                have PR4 := Lib.hid (PR'.out.new ((New.refl w3).drewN nq))
                have N4 := Lib.hid (NN'.out.drewN nq)
                clear LN' ND' PR' NN' LB' pc lb CT2
                generalize w3.drewN nq = w4 at *
                have CR := Lib.hid (hasRoom_any w.heap.size nb zs (q + 1) p ar fi la ne (by omega) w4 LN4.out)
                cases hroom : roomB zs (q + 1) p
                · have hv := Lib.hid (vt_no_place (n := n) (zs := zs) hlt (fun h => by
                    obtain ⟨p', e, _, _, a1, a2, a3⟩ := h.pos (by omega)
                    have : p' = p := by have := HY.out; omega
                    subst this
                    have : roomB zs (q + 1) p' = true := decide_eq_true ⟨a1, a2, a3⟩
                    rw [hroom] at this; cases this))
                  have HR := Lib.hid hroom
                  clear hroom
                  go_wp2_with (go_at_call 48; refine CR.out.mono ?_; rw [HR.out]; rintro e w5 ⟨rfl, h5⟩; (have H5 := Lib.hid h5); clear h5)
                  go_ret
                  exact ⟨N4.out.trans H5.out, .inl ⟨hv.out, rfl⟩⟩
                · have HPP : Hid (PlaceP zs (q + 1)) := Lib.hid (by
                    have hr := of_decide_eq_true hroom
                    unfold PlaceP
                    rw [if_neg (by omega), HY.out, Int.toNat_natCast]
                    exact ⟨by omega, HPA.out, hr⟩)
                  have HR := Lib.hid hroom
                  clear hroom
                  go_wp2_with fail
                  refine CR.out.mono ?_
                  rw [HR.out]
                  rintro e w5 ⟨rfl, h5⟩
                  have LN5 := Lib.hid (LN4.out.new h5)
                  have ND5 := Lib.hid (ND4.out.new h5)
                  have PR5 := Lib.hid (PR4.out.new h5)
                  have N5 := Lib.hid (N4.out.trans h5)
                  have pc : w5.cell? ⟨w.heap.size, q + 1, none⟩ = some (.pointer (some ⟨w2.heap.size, 0, none⟩)) := by
                    have h := PR5.out.c (q + 1) (by omega)
                    rw [nbx_new] at h; exact h
                  have HV' : Hid (∀ j, j < q + 1 + 1 → boxB zs j = true ∧ PlaceP zs j) := Lib.hid (fun j hj => by
                    by_cases e : j = q + 1
                    · rw [e]; exact ⟨HBX.out, HPP.out⟩
                    · exact HV.out j (by omega))
                  have HLK : Hid (Link zs (q + 1 + 1)) := Lib.hid (link_of (k := q + 1 + 1) (fun j hj => (HV'.out j hj).2))
                  have hlr : ∀ l, upd la (q + 1) none p = some l → l < q + 1 + 1 := fun l hl => by
                    rw [upd_other (by omega)] at hl
                    have := LN5.out.rg.la p l (by omega) hl; omega
                  have TK := take_any (p := p) (k := q + 1) ND5.out (by omega) (by omega) hlr
                  rw [nbx_old (by omega), nbx_new] at TK
                  have TK := Lib.hid TK
                  have HLR := Lib.hid hlr
                  clear h5 LN4 ND4 PR4 N4 CR hlr
                  go_wp2_with (go_at_call 49; refine TK.out.mono ?_; rintro e w6 ⟨rfl, hw6⟩; (have HW6 := Lib.hid hw6); clear hw6)
                  have N6 : Hid (New w w6) := Lib.hid (by rw [HW6.out]; exact takeW_new N5.out ND5.out (by omega) (by omega) HLR.out)
                  have P6 : Hid (PRow w6 w.heap.size (nbx nb (q + 1) w2.heap.size) (q + 1 + 1) n) := Lib.hid (by rw [HW6.out]; exact PR5.out.block (by rw [takeW_size]; exact Nat.le_refl _) (takeW_far (by omega) (by omega) HLR.out HGn.out))
                  obtain ⟨ar', fi', la', ne', L6⟩ := LN5.out.take ND5.out HPP.out HY.out (by omega) (by omega) HLK.out
                  rw [← HW6.out] at L6
                  go_roundw
                  case rel => exact ⟨q + 1 + 1, _, ar', fi', la', ne', by omega, by go_num, N6, P6, Lib.hid L6, HV', HGn⟩
                  case measure => simp [intOf]; omega
              · have EO : outO zs y0 (some q) = none := if_neg hpa
                have CT2 := Lib.hid (fun (W : World) (h : Lnk w.heap.size W nb zs (q + 1) ar fi la ne) => by have h2 := CT.out W h; rw [EO, pv_some, pv_none] at h2; exact h2)
                have hv := Lib.hid (vt_no_place (n := n) (zs := zs) hlt (fun h => by
                  obtain ⟨p', e, _, h1, _⟩ := h.pos (by omega)
                  have h2 := HY.out
                  have : y0 = (p' : Int) := by omega
                  subst this
                  exact hpa ⟨by omega, by rw [Int.toNat_natCast]; exact h1⟩))
                clear EO CT hpa
                go_quiet ((go_at_call 47; exact Calls.quiet_of_same ((CT2.out _ (LN'.out.drewN _)).mono fun _ _ h => ⟨h.1, h.2.symm⟩)))
                have N4 := Lib.hid (NN'.out.drewN nq)
                clear LN' ND' PR' NN' LB' pc lb CT2
                generalize w3.drewN nq = w4 at *
                go_wp2
                go_ret
                exact ⟨N4.out, .inl ⟨hv.out, rfl⟩⟩
        · obtain rfl : k = n := by omega
          have hvt : vtB k zs = true := vtB_iff.2 ⟨by omega, fun i hi => by have h := HV.out i hi; exact ⟨boxB_iff.1 h.1, h.2⟩⟩
          go_wp2
          go_ret
          exact ⟨HN.out, .inr ⟨hvt, _, nb, ar, fi, la, ne, rfl, Nat.le_refl _, HP.out, HL.out⟩⟩
    · have hne : (par zs 0 != -1) = true := by simpa using hp
      have hv := Lib.hid (vt_no_place (n := n) (i := 0) (by omega) (fun h => hp h.zero))
      generalize par zs 0 = y at *
      clear hp
      go_enter Tryz.func26, Tryz.ntmps26
      go_wp2_with (go_at_call 45; refine (within_any _ _ _ _).mono ?_; rw [hd]; rintro e w' ⟨rfl, rfl⟩)
      go_ret
      exact ⟨New.refl _, .inl ⟨hv.out, rfl⟩⟩
  · have hd := decide_eq_false hr
    have hv := Lib.hid (show vtB n zs = false by unfold vtB; rw [hd]; rfl)
    go_enter Tryz.func26, Tryz.ntmps26
    go_wp2_with (go_at_call 45; refine (within_any _ _ _ _).mono ?_; rw [hd]; rintro e w' ⟨rfl, rfl⟩)
    go_ret
    exact ⟨New.refl _, .inl ⟨hv.out, rfl⟩⟩
end Go.Proofs.YtffggmjhaaehlaaGreatDoor
