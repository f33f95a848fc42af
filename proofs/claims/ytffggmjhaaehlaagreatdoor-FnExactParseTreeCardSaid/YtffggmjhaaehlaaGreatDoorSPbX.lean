/- parseBox of the reference. Condition: the text is not too long. -/
import Derived.Test.YtffggmjhaaehlaaGreatDoorPbO
import Derived.Test.YtffggmjhaaehlaaGreatDoorSPbN
import Derived.Test.YtffggmjhaaehlaaGreatDoorSPbS
import Derived.Test.YtffggmjhaaehlaaGreatDoorTxtB
namespace Go.Proofs.YtffggmjhaaehlaaGreatDoor
open Go.RowKit

def bG (k x y : Int) (v : Nat → Int) (i : Nat) : Int := if i = 0 then 0 else if i = 1 then k else if i = 2 then x else if i = 3 then y else v (i - 4)
def kP (w : List UInt8) : Nat → Int
  | 0 => -1
  | j + 1 => if w = kn j then (j : Int) else kP w j
theorem kP_four (w : List UInt8) : kP w 4 = kindT w := by
  show (if w = kn 3 then _ else if w = kn 2 then _ else if w = kn 1 then _ else if w = kn 0 then _ else _) = _
  unfold kindT
  by_cases h0 : w = kn 0
  · subst h0; rfl
  by_cases h1 : w = kn 1
  · subst h1; rfl
  by_cases h2 : w = kn 2
  · subst h2; rfl
  by_cases h3 : w = kn 3
  · subst h3; rfl
  rw [if_neg h3, if_neg h2, if_neg h1, if_neg h0, if_neg h0, if_neg h1, if_neg h2, if_neg h3]
  rfl
theorem row_gen {k x y : Int} {v : Nat → Int} {w : World} {g : Nat} (h : FRow w g (bG k x y v) 9) : w.cell? ⟨g, 0, none⟩ = some (.int .i64 0) ∧ w.cell? ⟨g, 1, none⟩ = some (.int .i64 k) ∧ w.cell? ⟨g, 2, none⟩ = some (.int .i64 x) ∧ w.cell? ⟨g, 3, none⟩ = some (.int .i64 y) ∧ w.cell? ⟨g, 4, none⟩ = some (.int .i64 (v 0)) ∧ w.cell? ⟨g, 5, none⟩ = some (.int .i64 (v 1)) ∧ w.cell? ⟨g, 6, none⟩ = some (.int .i64 (v 2)) ∧ w.cell? ⟨g, 7, none⟩ = some (.int .i64 (v 3)) ∧ w.cell? ⟨g, 8, none⟩ = some (.int .i64 (v 4)) :=
  ⟨by simpa [bG] using h.c 0 (by omega), by simpa [bG] using h.c 1 (by omega), by simpa [bG] using h.c 2 (by omega), by simpa [bG] using h.c 3 (by omega), by simpa [bG] using h.c 4 (by omega), by simpa [bG] using h.c 5 (by omega), by simpa [bG] using h.c 6 (by omega), by simpa [bG] using h.c 7 (by omega), by simpa [bG] using h.c 8 (by omega)⟩
section
variable {k x y u : Int} {v v' : Nat → Int}
theorem bG_low (i : Nat) (h : 4 ≤ i) : bG k x y v i = v (i - 4) := by
  unfold bG
  rw [if_neg (by omega), if_neg (by omega), if_neg (by omega), if_neg (by omega)]
theorem bG_put (q : Nat) (hq : q < 5) (h : ∀ p, p < 5 → v' p = if p = q then u else v p) (i : Nat) (hi : i < 9) : bG k x y v' i = if i = q + 4 then u else bG k x y v i := by
  by_cases h4 : i < 4
  · rw [if_neg (by omega)]
    rcases (show i = 0 ∨ i = 1 ∨ i = 2 ∨ i = 3 by omega) with rfl | rfl | rfl | rfl <;> rfl
  · rw [bG_low i (by omega), bG_low i (by omega), h (i - 4) (by omega)]
    by_cases e : i = q + 4
    · rw [if_pos e, if_pos (by omega)]
    · rw [if_neg e, if_neg (by omega)]
theorem bG_same (h : ∀ p, p < 5 → v' p = v p) (i : Nat) (hi : i < 9) : bG k x y v' i = bG k x y v i := by
  by_cases h4 : i < 4
  · rcases (show i = 0 ∨ i = 1 ∨ i = 2 ∨ i = 3 by omega) with rfl | rfl | rfl | rfl <;> rfl
  · rw [bG_low i (by omega), bG_low i (by omega), h (i - 4) (by omega)]
end
theorem drop_pair {ws : List (List UInt8)} {a : Nat} (h : a + 1 < ws.length) : ws.drop a = ws.getD a [] :: ws.getD (a + 1) [] :: ws.drop (a + 2) := by
  rw [List.drop_eq_getElem_cons (by omega), List.drop_eq_getElem_cons h, List.getD_eq_getElem?_getD, List.getElem?_eq_getElem (by omega), List.getD_eq_getElem?_getD, List.getElem?_eq_getElem h]
  rfl
theorem pvl_short {ws : List (List UInt8)} {a q : Nat} {u : Int} (h : ¬ a + 1 < ws.length) : pvl q (ws.drop a) u = u := by
  have hl : (ws.drop a).length ≤ 1 := by rw [List.length_drop]; omega
  match ws.drop a, hl with
  | [], _ => rfl
  | [b], _ => rfl
structure SpB (w : World) (gb gw gk L : Nat) (f : Nat → List UInt8) (X : World) : Prop where
  nw : New w X
  lw : gw < X.heap.size
  lk : gk < X.heap.size
  wd : ∀ i, i < L → X.cell? ⟨gw, i, none⟩ = some (str (f i))
  kd : ∀ i, i < 4 → X.cell? ⟨gk, i, none⟩ = some (str (kn i))
  rr : Row X w.heap.size [0, 0, 0, 0, 0, 0, 0, 0, 0]
section
variable {w X X' : World} {gb gw gk L k : Nat} {f : Nat → List UInt8}
theorem SpB.new (h : SpB w gb gw gk L f X) (n : New X X') : SpB w gb gw gk L f X' :=
  ⟨h.nw.trans n, Nat.lt_of_lt_of_le h.lw n.le, Nat.lt_of_lt_of_le h.lk n.le, fun i hi => (n.cells _ _ h.lw).trans (h.wd i hi), fun i hi => (n.cells _ _ h.lk).trans (h.kd i hi), h.rr.new n⟩
theorem SpB.setB (h : SpB w gb gw gk L f X) (hb : w.heap.size < gb) (h1 : gw ≠ gb) (h2 : gk ≠ gb) (v : Value) : SpB w gb gw gk L f (X.setCell ⟨gb, k, none⟩ v) :=
  ⟨h.nw.setCell (p := ⟨gb, k, none⟩) (by show _ ≤ gb; omega) v, by rw [World.size_setCell]; exact h.lw, by rw [World.size_setCell]; exact h.lk,
    fun i hi => by rw [World.cell?_setCell_other _ _ _ _ (by first | (simp; done) | (simp; exact fun e => absurd e.symm h1))]; exact h.wd i hi,
    fun i hi => by rw [World.cell?_setCell_other _ _ _ _ (by first | (simp; done) | (simp; exact fun e => absurd e.symm h2))]; exact h.kd i hi,
    h.rr.far (p := ⟨gb, k, none⟩) (by show gb ≠ _; omega) v⟩
end
set_option maxRecDepth 100000 in
set_option maxHeartbeats 4000000 in
theorem parseBox_any (l : List UInt8) (hl : l.length ≤ 2000000) (w : World) : Calls Tryz.prog 18 #[str l] w fun e w' => New w w' ∧
    ((bxOk l ∧ e = .returned (.tuple #[.agg ((rdI (pcs 32 l)).map (Value.int .i64)).toArray, .bool true])) ∨ (¬ bxOk l ∧ e = .returned (.tuple #[.agg #[.int .i64 0, .int .i64 0, .int .i64 0, .int .i64 0, .int .i64 0, .int .i64 0, .int .i64 0, .int .i64 0, .int .i64 0], .bool false]))) := by
  have HL := Lib.hid hl
  have R0 := Row.oneBox1 w 0 0 0 0 0 0 0 0 0 38
  have A0 := (New.refl w).alloc (.cells #[.int .i64 0, .int .i64 0, .int .i64 0, .int .i64 0, .int .i64 0, .int .i64 0, .int .i64 0, .int .i64 0, .int .i64 0] 38)
  generalize hU : w.alloc (.cells #[.int .i64 0, .int .i64 0, .int .i64 0, .int .i64 0, .int .i64 0, .int .i64 0, .int .i64 0, .int .i64 0, .int .i64 0] 38) = U at *
  have hUs : U.heap.size = w.heap.size + 1 := by rw [← hU]; simp
  have RB0 := Row.oneBox1 U 0 (-1) 0 0 0 0 0 0 0 38
  have A1 := (New.refl U).alloc (.cells #[.int .i64 0, .int .i64 (-1), .int .i64 0, .int .i64 0, .int .i64 0, .int .i64 0, .int .i64 0, .int .i64 0, .int .i64 0] 38)
  have HU := Lib.hid hU; have HUs := Lib.hid hUs; have R0 := Lib.hid (R0.new A1); have A01 := Lib.hid (A0.trans A1); have RB0 := Lib.hid RB0
  clear hl hU hUs A0 A1
  go_enter Tryz.func18, Tryz.ntmps18
  go_wp2_with fail
  rw [HU.out]
  refine (splitAt_any 32 l HL.out _).mono ?_
  rintro e w1 ⟨gw, dw, rfl, hd, N1, S1, g1⟩
  obtain ⟨ws, hws⟩ : ∃ ws, pcs 32 l = ws := ⟨_, rfl⟩
  rw [hws] at S1 hd ⊢
  have L1 : 1 ≤ ws.length := by obtain ⟨a, t, e⟩ := pcs_ne 32 l; rw [hws] at e; rw [e]; simp
  have L2 : ws.length ≤ 2000001 := by have := pcs_len 32 l; rw [hws] at this; have := HL.out; omega
  obtain ⟨f, hf⟩ : ∃ f : Nat → List UInt8, ∀ i, f i = ws.getD i [] := ⟨_, fun _ => rfl⟩
  have FL := Lib.hid (fun i => (show (f i).length ≤ 2000000 by rw [hf, ← hws]; exact Nat.le_trans (pcs_at_len 32 l i) HL.out))
  have HF := Lib.hid hf
  have HW := Lib.hid hws
  have H0 : Hid (ws.headD [] = f 0) := Lib.hid (by rw [hf]; cases ws <;> rfl)
  obtain ⟨L, hL⟩ : ∃ L, ws.length = L := ⟨_, rfl⟩
  have EL := Lib.hid hL
  rw [hL] at L1 L2 hd S1 ⊢
  have L0i : (0 : Int) < (L : Int) := by omega
  have LMi : (L : Int) ≤ 2000001 := by omega
  have NK := (New.refl w1).alloc (.cells #[str [108, 101, 97, 102], str [98, 108, 111, 99, 107], str [114, 111, 119], str [99, 111, 108, 117, 109, 110]] 9)
  have SK : ∀ i, i < 4 → (w1.alloc (.cells #[str [108, 101, 97, 102], str [98, 108, 111, 99, 107], str [114, 111, 119], str [99, 111, 108, 117, 109, 110]] 9)).cell? ⟨w1.heap.size, i, none⟩ = some (str (kn i)) := fun i hi => by
    rcases (show i = 0 ∨ i = 1 ∨ i = 2 ∨ i = 3 by omega) with rfl | rfl | rfl | rfl <;> simp [go_sem, kn]
  obtain ⟨gb, hgb⟩ : ∃ g, w.heap.size + 1 = g := ⟨_, rfl⟩
  have SP : Hid (SpB w gb gw w1.heap.size L f (w1.alloc (.cells #[str [108, 101, 97, 102], str [98, 108, 111, 99, 107], str [114, 111, 119], str [99, 111, 108, 117, 109, 110]] 9))) := Lib.hid ⟨(A01.out.trans N1).trans NK, Nat.lt_of_lt_of_le S1.lt NK.le, by simp, fun i hi => by rw [hf]; exact (NK.cells _ _ S1.lt).trans (S1.c i hi), SK, (R0.out.new N1).new NK⟩
  have FR : Hid (FRow (w1.alloc (.cells #[str [108, 101, 97, 102], str [98, 108, 111, 99, 107], str [114, 111, 119], str [99, 111, 108, 117, 109, 110]] 9)) gb (bG (kP (f 0) 0) 0 0 (fun _ => 0)) 9) := Lib.hid (by
    have r := (RB0.out.new N1).new NK
    rw [HUs.out, hgb] at r
    refine ⟨r.lt, fun i hi => ?_, fun i hi => r.f i hi⟩
    rw [r.c i hi]
    rcases (show i = 0 ∨ i = 1 ∨ i = 2 ∨ i = 3 ∨ i = 4 ∨ i = 5 ∨ i = 6 ∨ i = 7 ∨ i = 8 by omega) with rfl | rfl | rfl | rfl | rfl | rfl | rfl | rfl | rfl <;> rfl)
  have GB : Hid (w.heap.size < gb ∧ gw ≠ gb ∧ w1.heap.size ≠ gb) := Lib.hid (by have h1 := N1.le; simp at h1 g1; have := HUs.out; omega)
  have HGS := Lib.hid hgb
  clear hf hws hL SK R0 RB0 A01 N1 S1 NK hgb
  go_upto_region 4 with (fail)
  rw [HGS.out]
  generalize w1.alloc (.cells #[str [108, 101, 97, 102], str [98, 108, 111, 99, 107], str [114, 111, 119], str [99, 111, 108, 117, 109, 110]] 9) = w2 at *
  generalize w1.heap.size = gk at *
  go_wp2
  go_loopw [7] (fun i wr => ∃ j : Nat, j ≤ 4 ∧ i = .int .i64 (j : Int) ∧ Hid (SpB w gb gw gk L f wr) ∧ Hid (FRow wr gb (bG (kP (f 0) j) 0 0 (fun _ => 0)) 9)) (fun i _ => 4 - (intOf i).toNat)
  case atStart => exact ⟨0, by omega, rfl, SP, FR⟩
  case round =>
    obtain ⟨j, hj, rfl, SPj, FRj⟩ := hrel
    have j0 : (0 : Int) ≤ (j : Int) := by omega
    by_cases hlt : j < 4
    · have j1 : (j : Int) < 4 := by omega
      have q0 := SPj.out.wd 0 L1
      have q1 := SPj.out.kd j hlt
      have sg := FRj.out.c 1 (by omega); have zf := FRj.out.f 1 (by omega)
      generalize bG (kP (f 0) j) 0 0 (fun _ => 0) 1 = ob at sg
      by_cases he : f 0 = kn j
      · have EQ : (kn j == kn j) = true := by simp
        have FN : Hid (∀ X, FRow X gb (fun i => if i = 1 then (j : Int) else bG (kP (f 0) j) 0 0 (fun _ => 0) i) 9 → FRow X gb (bG (kP (f 0) (j + 1)) 0 0 (fun _ => 0)) 9) := Lib.hid (fun X h => h.cong (fun i hi => by
          have e : kP (f 0) (j + 1) = (j : Int) := by show (if f 0 = kn j then _ else _) = _; rw [if_pos he]
          rw [e]
          by_cases h1 : i = 1
          · subst h1; rfl
          · rw [if_neg h1]; unfold bG; rw [if_neg h1, if_neg h1]))
        rw [he] at q0
        clear he
        have ND := (New.refl wr).drew
        go_wp2
        go_quiet (fail)
        have NQ := (New.refl wr).drewN nq
        have SQ := Lib.hid (SPj.out.new NQ)
        have FQ := Lib.hid (FRj.out.new NQ)
        have sg := FQ.out.c 1 (by omega); have zf := FQ.out.f 1 (by omega)
        generalize bG (kP (f 0) j) 0 0 (fun _ => 0) 1 = ob at sg
        generalize wr.drewN nq = WX at *
        clear q0 q1 NQ ND
        have SN := Lib.hid (SQ.out.setB (k := 1) GB.out.1 GB.out.2.1 GB.out.2.2 (.int .i64 (j : Int)))
        have FZ := Lib.hid (FN.out _ (FQ.out.put (k := 1) (by omega) (j : Int)))
        go_wp2
        exact ⟨⟨j + 1, by omega, rfl, SN, FZ⟩, by simp [intOf]; omega⟩
      · have EQ : (f 0 == kn j) = false := by simp [he]
        have e : kP (f 0) (j + 1) = kP (f 0) j := by show (if f 0 = kn j then _ else _) = _; rw [if_neg he]
        have FN : Hid (FRow wr gb (bG (kP (f 0) (j + 1)) 0 0 (fun _ => 0)) 9) := Lib.hid (by rw [e]; exact FRj.out)
        clear he e sg zf
        go_wp2
        go_quiet (fail)
        have NQ := Lib.hid ((New.refl wr).drewN nq)
        generalize wr.drewN nq = WX at NQ ⊢
        go_wp2
        exact ⟨⟨j + 1, by omega, rfl, Lib.hid (SPj.out.new NQ.out), Lib.hid (FN.out.new NQ.out)⟩, by simp [intOf]; omega⟩
    · obtain rfl : j = 4 := by omega
      rw [kP_four] at FRj
      rw [show ((4 : Nat) : Int) = 4 from rfl]
      obtain ⟨k, hk⟩ : ∃ k, kindT (f 0) = k := ⟨_, rfl⟩
      rw [hk] at FRj
      have HK : Hid (kindT (f 0) = k) := Lib.hid hk
      have HLF : Hid (leafW ws ↔ k = 0 ∧ 3 ≤ L) := Lib.hid (by unfold leafW; rw [H0.out, HK.out, EL.out])
      have kq : wr.cell? ⟨gb, 1, none⟩ = some (.int .i64 k) := (row_gen FRj.out).2.1
      have LM : Hid ((3 ≤ L ↔ (2 : Int) < (L : Int))) := Lib.hid (by omega)
      clear hk SP FR
      go_upto_region 10 with (fail)
      go_cut [37] from 10 (fun s37 wx => wx = wr ∧ s37 = .bool (decide (leafW ws)))
      case first =>
        by_cases k0 : k = 0
        · subst k0
          by_cases m2 : 3 ≤ L
          · have m2i : (2 : Int) < (L : Int) := by omega
            go_wp2_with fail
            go_meet
            case rel => exact ⟨rfl, by rw [decide_eq_true (HLF.out.2 (by simp [m2]))]⟩
          · have m2i : ¬ (2 : Int) < (L : Int) := by omega
            have m2d : decide ((2 : Int) < (L : Int)) = false := decide_eq_false m2i
            go_wp2_with fail
            go_meet
            case rel => exact ⟨rfl, by rw [decide_eq_false (fun h => m2 (HLF.out.1 h).2)]⟩
        · have k0b : (k == 0) = false := by simpa using k0
          go_wp2_with fail
          go_meet
          case rel => exact ⟨rfl, by rw [decide_eq_false (fun h => k0 (HLF.out.1 h).1)]⟩
      case rest =>
        obtain ⟨hw, rfl⟩ := hcut
        rw [hw]
        clear hw
        go_upto_if 37 with (fail)
        go_cut [8] from 10 (fun s8 wx => ∃ at0 : Nat, s8 = .int .i64 (at0 : Int) ∧ at0 ≤ 3 ∧ Hid (restW ws = ws.drop at0) ∧ Hid (SpB w gb gw gk L f wx) ∧ Hid (FRow wx gb (bG k (whI ws 1) (whI ws 2) (fun _ => 0)) 9))
        case first =>
          by_cases hlf : leafW ws
          · have L3 := (HLF.out.1 hlf).2
            have E3 : Hid (restW ws = ws.drop 3) := Lib.hid (by unfold restW; rw [if_pos hlf])
            have E4 : Hid (whI ws 1 = numT (f 1) ∧ whI ws 2 = numT (f 2)) := Lib.hid (by unfold whI; rw [if_pos hlf, if_pos hlf, HF.out, HF.out]; exact ⟨rfl, rfl⟩)
            rw [decide_eq_true hlf]
            have i1 : (1 : Int) < (L : Int) := by omega
            have i2 : (2 : Int) < (L : Int) := by omega
            have q1 := SPj.out.wd 1 (by omega)
            clear hlf kq HLF
            go_wp2_with fail
            refine (parseInt_any (f 1) (FL.out 1) _).mono ?_
            rintro e w3 ⟨rfl, N3⟩
            have S3 := Lib.hid (SPj.out.new N3)
            have F3 := Lib.hid (FRj.out.new N3)
            have c2 := (row_gen F3.out).2.2.1; have f2 := F3.out.f 2 (by omega)
            have S4 := Lib.hid (S3.out.setB (k := 2) GB.out.1 GB.out.2.1 GB.out.2.2 (.int .i64 (numT (f 1))))
            have F4 : Hid (FRow (w3.setCell ⟨gb, 2, none⟩ (.int .i64 (numT (f 1)))) gb (bG k (numT (f 1)) 0 (fun _ => 0)) 9) := Lib.hid ((F3.out.put (k := 2) (by omega) (numT (f 1))).cong (fun i hi => by
              by_cases h4 : i < 4
              · rcases (show i = 0 ∨ i = 1 ∨ i = 2 ∨ i = 3 by omega) with rfl | rfl | rfl | rfl <;> rfl
              · rw [if_neg (by omega), bG_low i (by omega), bG_low i (by omega)]))
            have q2 := S4.out.wd 2 (by omega)
            clear q1
            go_wp2_with fail
            generalize w3.setCell ⟨gb, 2, none⟩ (.int .i64 (numT (f 1))) = w4 at *
            refine (parseInt_any (f 2) (FL.out 2) _).mono ?_
            rintro e w5 ⟨rfl, N5⟩
            have S5 := Lib.hid (S4.out.new N5)
            have F5 := Lib.hid (F4.out.new N5)
            have c3 := (row_gen F5.out).2.2.2.1; have f3 := F5.out.f 3 (by omega)
            have S6 := Lib.hid (S5.out.setB (k := 3) GB.out.1 GB.out.2.1 GB.out.2.2 (.int .i64 (numT (f 2))))
            have F6 : Hid (FRow (w5.setCell ⟨gb, 3, none⟩ (.int .i64 (numT (f 2)))) gb (bG k (whI ws 1) (whI ws 2) (fun _ => 0)) 9) := Lib.hid ((F5.out.put (k := 3) (by omega) (numT (f 2))).cong (fun i hi => by
              rw [E4.out.1, E4.out.2]
              by_cases h4 : i < 4
              · rcases (show i = 0 ∨ i = 1 ∨ i = 2 ∨ i = 3 by omega) with rfl | rfl | rfl | rfl <;> rfl
              · rw [if_neg (by omega), bG_low i (by omega), bG_low i (by omega)]))
            clear c2 f2 q2
            go_wp2_with fail
            go_meet
            case rel => exact ⟨3, rfl, by omega, E3, S6, F6⟩
          · have E3 : Hid (restW ws = ws.drop 1) := Lib.hid (by unfold restW; rw [if_neg hlf])
            have E4 : whI ws 1 = 0 ∧ whI ws 2 = 0 := by unfold whI; rw [if_neg hlf, if_neg hlf]; exact ⟨rfl, rfl⟩
            have F6 : Hid (FRow wr gb (bG k (whI ws 1) (whI ws 2) (fun _ => 0)) 9) := Lib.hid (by rw [E4.1, E4.2]; exact FRj.out)
            rw [decide_eq_false hlf]
            clear hlf kq HLF E4
            go_wp2_with fail
            go_meet
            case rel => exact ⟨1, rfl, by omega, E3, SPj, F6⟩
        case rest =>
          obtain ⟨at0, rfl, a3, HR, SP2, FR2⟩ := hcut
          clear SPj FRj kq HLF LM
          generalize hx : whI ws 1 = x at *
          generalize hy : whI ws 2 = y at *
          have HXY := Lib.hid (And.intro hx hy)
          clear hx hy
          go_wp2
          go_loopw [8, 9] (fun s8 _ wr => ∃ (a : Nat) (v : Nat → Int), a ≤ 2000005 ∧ s8 = .int .i64 (a : Int) ∧ Hid (∀ q, q < 5 → pvl q (ws.drop a) (v q) = pvl q (restW ws) 0) ∧ Hid (SpB w gb gw gk L f wr) ∧ Hid (FRow wr gb (bG k x y v) 9)) (fun s8 _ _ => L - (intOf s8).toNat)
          case atStart => exact ⟨at0, fun _ => 0, by omega, rfl, Lib.hid (fun q hq => by rw [HR.out]), SP2, FR2⟩
          case round =>
            obtain ⟨a, v, ha, rfl, HPV, SPj, FRj⟩ := hrel
            have a0 : (0 : Int) ≤ (a : Int) := by omega
            by_cases hlt : a + 1 < L
            · have a1 : (a : Int) + 1 < (L : Int) := by omega
              have a2 : a + 1 < L := hlt
              have a3' : (a : Int) < (L : Int) := by omega
              have a4 : a < L := by omega
              have aw : IntKind.i64.wrap ((a : Int) + 1) = (a : Int) + 1 := IntWalk.i64_in _ (by omega)
              have q1 := SPj.out.wd (a + 1) hlt
              obtain ⟨v', hv'⟩ : ∃ v' : Nat → Int, ∀ p, v' p = if f a = nm p then numT (f (a + 1)) else v p := ⟨_, fun _ => rfl⟩
              have PN : Hid (∀ q, q < 5 → pvl q (ws.drop (a + 2)) (v' q) = pvl q (restW ws) 0) := Lib.hid (fun q hq => by
                have e := drop_pair (ws := ws) (a := a) (by rw [EL.out]; exact hlt)
                rw [← HPV.out q hq, e, hv', HF.out a, HF.out (a + 1)]
                rfl)
              have HV := Lib.hid hv'
              clear hv'
              go_wp2_with fail
              refine (parseInt_any (f (a + 1)) (FL.out (a + 1)) _).mono ?_
              rintro e w3 ⟨rfl, N3⟩
              have SA := Lib.hid (SPj.out.new N3)
              have FA := Lib.hid (FRj.out.new N3)
              have q2 := SA.out.wd a a4
              clear q1 N3 SPj FRj
              go_upto_region 17 with (fail)
              by_cases h0 : f a = nm 0
              · have ea : Hid (∀ p, p < 5 → v' p = if p = 0 then numT (f (a + 1)) else v p) := Lib.hid (fun p hp => by rw [HV.out p]; rw [h0]; by_cases e : p = 0; { subst e; rw [if_pos rfl, if_pos rfl] }; { rw [if_neg (fun k => e (nm_inj (by omega) hp k).symm), if_neg e] })
                have zq := FA.out.c 4 (by omega); have zf := FA.out.f 4 (by omega)
                generalize bG k x y v 4 = ob at zq
                have FN := Lib.hid ((FA.out.put (k := 4) (by omega) (numT (f (a + 1)))).cong (h := bG k x y v') (fun i hi => bG_put 0 (by omega) ea.out i hi))
                have SN := Lib.hid (SA.out.setB (k := 4) GB.out.1 GB.out.2.1 GB.out.2.2 (.int .i64 (numT (f (a + 1)))))
                have e1 : f a = [112, 97, 100] := h0
                rw [e1]
                clear h0 e1 ea
                go_wp2
                exact ⟨⟨a + 2, v', by omega, by simp, PN, SN, FN⟩, by simp [intOf]; omega⟩
              · by_cases h1 : f a = nm 1
                · have ea : Hid (∀ p, p < 5 → v' p = if p = 1 then numT (f (a + 1)) else v p) := Lib.hid (fun p hp => by rw [HV.out p]; rw [h1]; by_cases e : p = 1; { subst e; rw [if_pos rfl, if_pos rfl] }; { rw [if_neg (fun k => e (nm_inj (by omega) hp k).symm), if_neg e] })
                  have zq := FA.out.c 5 (by omega); have zf := FA.out.f 5 (by omega)
                  generalize bG k x y v 5 = ob at zq
                  have FN := Lib.hid ((FA.out.put (k := 5) (by omega) (numT (f (a + 1)))).cong (h := bG k x y v') (fun i hi => bG_put 1 (by omega) ea.out i hi))
                  have SN := Lib.hid (SA.out.setB (k := 5) GB.out.1 GB.out.2.1 GB.out.2.2 (.int .i64 (numT (f (a + 1)))))
                  have e1 : f a = [103, 97, 112] := h1
                  rw [e1]
                  clear h1 e1 ea h0
                  go_wp2
                  exact ⟨⟨a + 2, v', by omega, by simp, PN, SN, FN⟩, by simp [intOf]; omega⟩
                · by_cases h2 : f a = nm 2
                  · have ea : Hid (∀ p, p < 5 → v' p = if p = 2 then numT (f (a + 1)) else v p) := Lib.hid (fun p hp => by rw [HV.out p]; rw [h2]; by_cases e : p = 2; { subst e; rw [if_pos rfl, if_pos rfl] }; { rw [if_neg (fun k => e (nm_inj (by omega) hp k).symm), if_neg e] })
                    have zq := FA.out.c 6 (by omega); have zf := FA.out.f 6 (by omega)
                    generalize bG k x y v 6 = ob at zq
                    have FN := Lib.hid ((FA.out.put (k := 6) (by omega) (numT (f (a + 1)))).cong (h := bG k x y v') (fun i hi => bG_put 2 (by omega) ea.out i hi))
                    have SN := Lib.hid (SA.out.setB (k := 6) GB.out.1 GB.out.2.1 GB.out.2.2 (.int .i64 (numT (f (a + 1)))))
                    have e1 : f a = [103, 114, 111, 119] := h2
                    rw [e1]
                    clear h2 e1 ea h0 h1
                    go_wp2
                    exact ⟨⟨a + 2, v', by omega, by simp, PN, SN, FN⟩, by simp [intOf]; omega⟩
                  · by_cases h3 : f a = nm 3
                    · have ea : Hid (∀ p, p < 5 → v' p = if p = 3 then numT (f (a + 1)) else v p) := Lib.hid (fun p hp => by rw [HV.out p]; rw [h3]; by_cases e : p = 3; { subst e; rw [if_pos rfl, if_pos rfl] }; { rw [if_neg (fun k => e (nm_inj (by omega) hp k).symm), if_neg e] })
                      have zq := FA.out.c 7 (by omega); have zf := FA.out.f 7 (by omega)
                      generalize bG k x y v 7 = ob at zq
                      have FN := Lib.hid ((FA.out.put (k := 7) (by omega) (numT (f (a + 1)))).cong (h := bG k x y v') (fun i hi => bG_put 3 (by omega) ea.out i hi))
                      have SN := Lib.hid (SA.out.setB (k := 7) GB.out.1 GB.out.2.1 GB.out.2.2 (.int .i64 (numT (f (a + 1)))))
                      have e1 : f a = [115, 104, 114, 105, 110, 107] := h3
                      rw [e1]
                      clear h3 e1 ea h0 h1 h2
                      go_wp2
                      exact ⟨⟨a + 2, v', by omega, by simp, PN, SN, FN⟩, by simp [intOf]; omega⟩
                    · by_cases h4 : f a = nm 4
                      · have ea : Hid (∀ p, p < 5 → v' p = if p = 4 then numT (f (a + 1)) else v p) := Lib.hid (fun p hp => by rw [HV.out p]; rw [h4]; by_cases e : p = 4; { subst e; rw [if_pos rfl, if_pos rfl] }; { rw [if_neg (fun k => e (nm_inj (by omega) hp k).symm), if_neg e] })
                        have zq := FA.out.c 8 (by omega); have zf := FA.out.f 8 (by omega)
                        generalize bG k x y v 8 = ob at zq
                        have FN := Lib.hid ((FA.out.put (k := 8) (by omega) (numT (f (a + 1)))).cong (h := bG k x y v') (fun i hi => bG_put 4 (by omega) ea.out i hi))
                        have SN := Lib.hid (SA.out.setB (k := 8) GB.out.1 GB.out.2.1 GB.out.2.2 (.int .i64 (numT (f (a + 1)))))
                        have e1 : f a = [106, 117, 115, 116, 105, 102, 121] := h4
                        rw [e1]
                        clear h4 e1 ea h0 h1 h2 h3
                        go_wp2
                        exact ⟨⟨a + 2, v', by omega, by simp, PN, SN, FN⟩, by simp [intOf]; omega⟩
                      · have E0 : (f a == [112, 97, 100]) = false := by simpa [nm] using h0
                        have E1 : (f a == [103, 97, 112]) = false := by simpa [nm] using h1
                        have E2 : (f a == [103, 114, 111, 119]) = false := by simpa [nm] using h2
                        have E3 : (f a == [115, 104, 114, 105, 110, 107]) = false := by simpa [nm] using h3
                        have E4 : (f a == [106, 117, 115, 116, 105, 102, 121]) = false := by simpa [nm] using h4
                        have ea : Hid (∀ p, p < 5 → v' p = v p) := Lib.hid (fun p hp => by rw [HV.out p]; rw [if_neg]; rcases (show p = 0 ∨ p = 1 ∨ p = 2 ∨ p = 3 ∨ p = 4 by omega) with rfl | rfl | rfl | rfl | rfl <;> assumption)
                        have FN := Lib.hid (FA.out.cong (h := bG k x y v') (fun i hi => bG_same ea.out i hi))
                        clear ea h0 h1 h2 h3 h4
                        go_wp2
                        exact ⟨⟨a + 2, v', by omega, by simp, PN, SA, FN⟩, by simp [intOf]; omega⟩
            · have an1 : ¬ (a : Int) + 1 < (L : Int) := by omega
              have an0 := a0
              clear a0
              have HPE : Hid (∀ q, q < 5 → v q = pvl q (restW ws) 0) := Lib.hid (fun q hq => by
                rw [← HPV.out q hq, pvl_short (by rw [EL.out]; exact hlt)])
              obtain ⟨c0, c1, c2, c3, c4, c5, c6, c7, c8⟩ := row_gen FRj.out
              have hrd : rdS ws = [0, k, x, y, v 0, v 1, v 2, v 3, v 4] := by
                unfold rdS
                rw [H0.out, HK.out, HXY.out.1, HXY.out.2, HPE.out 0 (by omega), HPE.out 1 (by omega), HPE.out 2 (by omega), HPE.out 3 (by omega), HPE.out 4 (by omega)]
              have hlt9 := FRj.out.lt
              have RG : Hid (Row wr gb [0, k, x, y, v 0, v 1, v 2, v 3, v 4]) := Lib.hid ⟨hlt9, fun i hi => by
                rcases (show i = 0 ∨ i = 1 ∨ i = 2 ∨ i = 3 ∨ i = 4 ∨ i = 5 ∨ i = 6 ∨ i = 7 ∨ i = 8 by simp at hi; omega) with rfl | rfl | rfl | rfl | rfl | rfl | rfl | rfl | rfl
                · exact c0
                · exact c1
                · exact c2
                · exact c3
                · exact c4
                · exact c5
                · exact c6
                · exact c7
                · exact c8, fun i hi => FRj.out.f i (by simpa using hi)⟩
              have RR := Lib.hid SPj.out.rr
              have NR := Lib.hid SPj.out.nw
              generalize v 0 = a0 at *
              generalize v 1 = a1 at *
              generalize v 2 = a2 at *
              generalize v 3 = a3 at *
              generalize v 4 = a4 at *
              have HRD : Hid (rdS (pcs 32 l) = [0, k, x, y, a0, a1, a2, a3, a4]) := Lib.hid (by rw [HW.out]; exact hrd)
              clear hrd SPj FRj HPV HPE
              go_wp2_with fail
              refine (svalidBox_any 0 k x y a0 a1 a2 a3 a4 _).mono ?_
              rintro e w4 ⟨rfl, N4⟩
              have RR4 := Lib.hid (RR.out.new N4)
              have NR4 := Lib.hid (NR.out.trans N4)
              cases hok : okX k x y a0 a1 a2 a3 a4 with
              | false =>
                have NB : Hid (¬ bxOk l) := Lib.hid (fun hb => by
                  have h1 := boxB_iff.2 ((bxOk_S l).1.2 hb).1
                  rw [HRD.out] at h1
                  have h2 : okX k x y a0 a1 a2 a3 a4 = true := h1
                  rw [hok] at h2
                  cases h2)
                clear hok N4 c0 c1 c2 c3 c4 c5 c6 c7 c8
                clear RG
                go_upto_region 29 with (fail)
                refine wp_region_lit ?_
                refine wpList_build rfl 38 _ rfl (by kernel_rfl) ?_
                refine wpList_store_mid rfl 38 _ _ rfl w.heap.size 0 #[.int .i64 0, .int .i64 0, .int .i64 0, .int .i64 0, .int .i64 0, .int .i64 0, .int .i64 0, .int .i64 0, .int .i64 0] rfl (by kernel_rfl) (box_there RR4.out rfl) (by kernel_rfl) (by kernel_rfl) ?_
                have b := box_set RR4.out rfl 0 0 0 0 0 0 0 0 0
                have N9 : Hid (New w (w4.setCells w.heap.size 0 #[.int .i64 0, .int .i64 0, .int .i64 0, .int .i64 0, .int .i64 0, .int .i64 0, .int .i64 0, .int .i64 0, .int .i64 0].toList)) := Lib.hid (NR4.out.setCells (Nat.le_refl _) _ _)
                generalize w4.setCells w.heap.size 0 #[.int .i64 0, .int .i64 0, .int .i64 0, .int .i64 0, .int .i64 0, .int .i64 0, .int .i64 0, .int .i64 0, .int .i64 0].toList = w9 at *
                have b0 := b 0 (by omega); have b1 := b 1 (by omega); have b2 := b 2 (by omega); have b3 := b 3 (by omega); have b4 := b 4 (by omega); have b5 := b 5 (by omega); have b6 := b 6 (by omega); have b7 := b 7 (by omega); have b8 := b 8 (by omega)
                simp only [List.getD_cons_zero, List.getD_cons_succ] at b0 b1 b2 b3 b4 b5 b6 b7 b8
                go_wp2
                refine bodyPost_ret (v := .tuple #[.agg #[.int .i64 0, .int .i64 0, .int .i64 0, .int .i64 0, .int .i64 0, .int .i64 0, .int .i64 0, .int .i64 0, .int .i64 0], .bool false]) (by simp [results, Tryz.results18, go_sem, b0, b1, b2, b3, b4, b5, b6, b7, b8]) rfl ?_
                exact ⟨N9.out, Or.inr ⟨NB.out, rfl⟩⟩
              | true =>
                have hb : BoxP [0, k, x, y, a0, a1, a2, a3, a4] 0 := boxB_iff.1 hok
                have hv := hb.vals
                obtain ⟨hw, hh⟩ := hb.wide
                have hk := hb.1
                rw [show knd [0, k, x, y, a0, a1, a2, a3, a4] 0 = k from rfl] at hk
                have HBX := Lib.hid hb
                obtain ⟨kq, rfl⟩ : ∃ kq : Nat, k = (kq : Int) := ⟨k.toNat, by omega⟩
                have TX := Lib.hid (sboxText_any kq (by omega) 0 x y a0 a1 a2 a3 a4 hw hh hv w4)
                have ET : Hid (bxT [0, (kq : Int), x, y, a0, a1, a2, a3, a4] 0 = boxTx kq x y [a0, a1, a2, a3, a4]) := Lib.hid rfl
                have d0 := (N4.cells gb 0 hlt9).trans c0; have d1 := (N4.cells gb 1 hlt9).trans c1; have d2 := (N4.cells gb 2 hlt9).trans c2; have d3 := (N4.cells gb 3 hlt9).trans c3; have d4 := (N4.cells gb 4 hlt9).trans c4; have d5 := (N4.cells gb 5 hlt9).trans c5; have d6 := (N4.cells gb 6 hlt9).trans c6; have d7 := (N4.cells gb 7 hlt9).trans c7; have d8 := (N4.cells gb 8 hlt9).trans c8
                have RG4 := Lib.hid (RG.out.new N4)
                clear hok N4 c0 c1 c2 c3 c4 c5 c6 c7 c8 hb hv hw hh hk RG RR NR
                go_wp2_with fail
                refine TX.out.mono ?_
                rintro e w5 ⟨rfl, N5⟩
                have RR5 := Lib.hid (RR4.out.new N5)
                have NR5 := Lib.hid (NR4.out.trans N5)
                have RG5 := Lib.hid (RG4.out.new N5)
                clear d0 d1 d2 d3 d4 d5 d6 d7 d8 N5 TX RG4 RR4 NR4
                generalize boxTx kq x y [a0, a1, a2, a3, a4] = TT at *
                by_cases he : TT = l
                · have NB : Hid (bxOk l) := Lib.hid ((bxOk_S l).1.1 ⟨by rw [HRD.out]; exact HBX.out, by rw [HRD.out, ET.out]; exact he⟩)
                  have EQ : (TT == l) = true := by simp [he]
                  clear he ET HBX
                  go_upto_region 30 with (fail)
                  refine wp_region_lit ?_
                  refine wpList_load_mid rfl 38 _ rfl gb 0 rfl [.int .i64 0, .int .i64 (kq : Int), .int .i64 x, .int .i64 y, .int .i64 a0, .int .i64 a1, .int .i64 a2, .int .i64 a3, .int .i64 a4] _ (box_range RG5.out) Tryz.underlying38 rfl (by kernel_rfl) ?_
                  refine wpList_store_mid rfl 38 _ _ rfl w.heap.size 0 #[.int .i64 0, .int .i64 (kq : Int), .int .i64 x, .int .i64 y, .int .i64 a0, .int .i64 a1, .int .i64 a2, .int .i64 a3, .int .i64 a4] rfl rfl (box_there RR5.out rfl) (by kernel_rfl) (by simp [Value.oneCell']) ?_
                  have b := box_set RR5.out rfl 0 (kq : Int) x y a0 a1 a2 a3 a4
                  have N9 : Hid (New w (w5.setCells w.heap.size 0 #[.int .i64 0, .int .i64 (kq : Int), .int .i64 x, .int .i64 y, .int .i64 a0, .int .i64 a1, .int .i64 a2, .int .i64 a3, .int .i64 a4].toList)) := Lib.hid (NR5.out.setCells (Nat.le_refl _) _ _)
                  generalize w5.setCells w.heap.size 0 #[.int .i64 0, .int .i64 (kq : Int), .int .i64 x, .int .i64 y, .int .i64 a0, .int .i64 a1, .int .i64 a2, .int .i64 a3, .int .i64 a4].toList = w9 at *
                  have b0 := b 0 (by omega); have b1 := b 1 (by omega); have b2 := b 2 (by omega); have b3 := b 3 (by omega); have b4 := b 4 (by omega); have b5 := b 5 (by omega); have b6 := b 6 (by omega); have b7 := b 7 (by omega); have b8 := b 8 (by omega)
                  simp only [List.getD_cons_zero, List.getD_cons_succ] at b0 b1 b2 b3 b4 b5 b6 b7 b8
                  go_wp2
                  refine bodyPost_ret (v := .tuple #[.agg #[.int .i64 0, .int .i64 (kq : Int), .int .i64 x, .int .i64 y, .int .i64 a0, .int .i64 a1, .int .i64 a2, .int .i64 a3, .int .i64 a4], .bool true]) (by simp [results, Tryz.results18, go_sem, b0, b1, b2, b3, b4, b5, b6, b7, b8]) rfl ?_
                  exact ⟨N9.out, Or.inl ⟨NB.out, by rw [← (bxOk_S l).2 NB.out, HRD.out]; rfl⟩⟩
                · have NB : Hid (¬ bxOk l) := Lib.hid (fun hb => by
                    have h2 := ((bxOk_S l).1.2 hb).2
                    rw [HRD.out, ET.out] at h2
                    exact he h2)
                  have EQ : (TT == l) = false := by simp [he]
                  clear he ET HBX RG5
                  go_upto_region 29 with (fail)
                  refine wp_region_lit ?_
                  refine wpList_build rfl 38 _ rfl (by kernel_rfl) ?_
                  refine wpList_store_mid rfl 38 _ _ rfl w.heap.size 0 #[.int .i64 0, .int .i64 0, .int .i64 0, .int .i64 0, .int .i64 0, .int .i64 0, .int .i64 0, .int .i64 0, .int .i64 0] rfl (by kernel_rfl) (box_there RR5.out rfl) (by kernel_rfl) (by kernel_rfl) ?_
                  have b := box_set RR5.out rfl 0 0 0 0 0 0 0 0 0
                  have N9 : Hid (New w (w5.setCells w.heap.size 0 #[.int .i64 0, .int .i64 0, .int .i64 0, .int .i64 0, .int .i64 0, .int .i64 0, .int .i64 0, .int .i64 0, .int .i64 0].toList)) := Lib.hid (NR5.out.setCells (Nat.le_refl _) _ _)
                  generalize w5.setCells w.heap.size 0 #[.int .i64 0, .int .i64 0, .int .i64 0, .int .i64 0, .int .i64 0, .int .i64 0, .int .i64 0, .int .i64 0, .int .i64 0].toList = w9 at *
                  have b0 := b 0 (by omega); have b1 := b 1 (by omega); have b2 := b 2 (by omega); have b3 := b 3 (by omega); have b4 := b 4 (by omega); have b5 := b 5 (by omega); have b6 := b 6 (by omega); have b7 := b 7 (by omega); have b8 := b 8 (by omega)
                  simp only [List.getD_cons_zero, List.getD_cons_succ] at b0 b1 b2 b3 b4 b5 b6 b7 b8
                  go_wp2
                  refine bodyPost_ret (v := .tuple #[.agg #[.int .i64 0, .int .i64 0, .int .i64 0, .int .i64 0, .int .i64 0, .int .i64 0, .int .i64 0, .int .i64 0, .int .i64 0], .bool false]) (by simp [results, Tryz.results18, go_sem, b0, b1, b2, b3, b4, b5, b6, b7, b8]) rfl ?_
                  exact ⟨N9.out, Or.inr ⟨NB.out, rfl⟩⟩
end Go.Proofs.YtffggmjhaaehlaaGreatDoor
