/- joinNumbers of the program. Condition: the numbers are small, and strconv.Itoa answers with their digits; strings.Join joins. -/
import Derived.Test.YtffggmjhaaehlaaGreatDoorTxtM
import Derived.Test.YtffggmjhaaehlaaGreatDoorTreeN
import Derived.Lib.Join
import Derived.Deep.OwnRows
namespace Go.Proofs.YtffggmjhaaehlaaGreatDoor
open Go.RowKit

/-- A block of texts that may be written. -/
structure SRow (w : World) (g : Nat) (f : Nat → List UInt8) (n : Nat) : Prop where
  lt : g < w.heap.size
  c : ∀ i, i < n → w.cell? ⟨g, i, none⟩ = some (str (f i))
  f : ∀ i, i < n → w.frozen? ⟨g, i, none⟩ = false
section
variable {g n k : Nat} {w w' : World} {f h : Nat → List UInt8}
theorem SRow.new (r : SRow w g f n) (k : New w w') : SRow w' g f n :=
  ⟨Nat.lt_of_lt_of_le r.lt k.le, fun i hi => (k.cells _ _ r.lt).trans (r.c i hi), fun i hi => (k.marks _ _ r.lt).trans (r.f i hi)⟩
theorem SRow.put (r : SRow w g f n) (hk : k < n) (l : List UInt8) : SRow (w.setCell ⟨g, k, none⟩ (str l)) g (fun i => if i = k then l else f i) n :=
  ⟨by simpa [World.setCell] using r.lt, fun i hi => by
    rw [set_cell_at (r.c k hk)]
    by_cases e : i = k
    · rw [if_pos e, e, if_pos rfl]
    · rw [if_neg e, r.c i hi, if_neg e], fun i hi => set_frozen (r.f i hi)⟩
theorem SRow.made (w : World) (n : Nat) (t : TypeId) : SRow (w.alloc (.cells (madeCells #[.string ⟨#[]⟩] n) t)) w.heap.size (fun _ => []) n := by
  refine ⟨by simp, fun i hi => ?_, fun i hi => by simp [go_sem]⟩
  have e : (w.alloc (.cells (madeCells #[.string ⟨#[]⟩] n) t)).cell? ⟨w.heap.size, i, none⟩ = (madeCells #[.string ⟨#[]⟩] n)[i]? := World.cell?_alloc_new w _ t i
  rw [e]
  simp [madeCells, hi, Nat.mod_one, str]
theorem SRow.cong (r : SRow w g f n) (e : ∀ i, i < n → h i = f i) : SRow w g h n := ⟨r.lt, fun i hi => by rw [e i hi]; exact r.c i hi, r.f⟩
end
/-- strconv.Itoa answers with the digits of small numbers, in whatever world comes behind w0. -/
def ItoaC (w0 : World) : Prop := ∀ (u : Nat), u ≤ 100 → ∀ W, New w0 W → Calls Tryz.prog 58 #[.int .i64 (u : Int)] W fun e W' => e = .returned (str (Lib.decDigits u)) ∧ New W W'
theorem ItoaC.new {w w' : World} (h : ItoaC w) (hN : New w w') : ItoaC w' := fun u hu W hW => h u hu W (hN.trans hW)
/-- strings.Join joins. -/
def JoinC : Prop := ∀ (g n : Nat) (f : Nat → List UInt8) (sep : List UInt8) (W : World), SRow W g f n → n ≤ 100 → (Lib.join ((List.range n).map f) sep).length ≤ 1000000 →
  Calls Tryz.prog 30 #[.slice (some ⟨g, 0, none⟩) n n, str sep] W fun e W' => e = .returned (str (Lib.join ((List.range n).map f) sep)) ∧ New W W'
set_option maxRecDepth 100000 in
set_option maxHeartbeats 2000000 in
theorem joinNumbers_any (g n : Nat) (us : Nat → Nat) (hn : n ≤ 8) (h100 : ∀ i, i < n → us i ≤ 100) (w : World) (hI : ItoaC w) (hJ : JoinC) (hg : g < w.heap.size) (hc : ∀ i, i < n → w.cell? ⟨g, i, none⟩ = some (.int .i64 (us i : Int)))
    (hl : (Lib.join ((List.range n).map fun i => Lib.decDigits (us i)) [32]).length ≤ 1000000) :
    Calls Tryz.prog 56 #[.slice (some ⟨g, 0, none⟩) n n] w fun e w' => e = .returned (str (Lib.join ((List.range n).map fun i => Lib.decDigits (us i)) [32])) ∧ New w w' := by
  have II := Lib.hid hI
  have HC := Lib.hid (fun i hi X (hX : New w X) => (hX.cells g i hg).trans (hc i hi))
  have H100 := Lib.hid h100
  have HJ := Lib.hid hJ
  have HL := Lib.hid hl
  have hmk := fun W => run_make_row' (P := Tryz.prog) 34 9 (.string ⟨#[]⟩) 16 Tryz.underlying34 (by kernel_rfl) rfl .i64 .i64 n (by omega) (by omega) W
  have n0 : (0 : Int) ≤ (n : Int) := by omega
  have n1 : (n : Int) ≤ 8 := by omega
  clear hI hc h100 hJ hl
  go_enter Tryz.func56, Tryz.ntmps56
  go_wp2
  go_loopw [11] (fun i wr => ∃ k : Nat, k ≤ n ∧ i = .int .i64 (k : Int) ∧ Hid (New w wr) ∧ Hid (SRow wr w.heap.size (fun i => if i < k then Lib.decDigits (us i) else []) n)) (fun i _ => n - (intOf i).toNat)
  case atStart => exact ⟨0, Nat.zero_le _, rfl, Lib.hid (by (repeat (first | exact New.refl _ | assumption | refine New.alloc ?_ _ | refine New.drew ?_ | refine New.drewN ?_ _ | refine New.setCell ?_ (by first | omega | (simp; omega) | (simp; done)) _ | refine New.trans ?_ (by assumption)))), Lib.hid ((SRow.made _ _ _).cong (fun i _ => by rw [if_neg (by omega)]))⟩
  case round =>
    obtain ⟨k, hk, rfl, HN, HB⟩ := hrel
    have k0 : (0 : Int) ≤ (k : Int) := by omega
    have sz := HN.out.le
    have blt := HB.out.lt
    by_cases hlt : k < n
    · have k1 : (k : Int) < (n : Int) := by omega
      have g1 := HC.out k hlt wr HN.out
      have CT := Lib.hid (II.out (us k) (H100.out k hlt) wr HN.out)
      have EQ : ∀ (i : Nat), (if i < k + 1 then Lib.decDigits (us i) else []) = if i = k then Lib.decDigits (us k) else if i < k then Lib.decDigits (us i) else [] := fun i => by
        by_cases e : i = k
        · subst e; simp
        · rw [if_neg e]
          by_cases e2 : i < k
          · rw [if_pos e2, if_pos (by omega)]
          · rw [if_neg e2, if_neg (by omega)]
      have EQ := Lib.hid EQ
      generalize hu : us k = uk at *
      generalize Lib.decDigits uk = D at *
      go_wp2_with fail
      refine CT.out.mono ?_
      rintro e wc ⟨rfl, Nc⟩
      have B1 := HB.out.new Nc
      have g2 := B1.c k hlt
      have f2 := B1.f k hlt
      have B2 := Lib.hid ((B1.put hlt D).cong (fun i _ => EQ.out i))
      have N2 := Lib.hid ((HN.out.trans Nc).setCell (p := ⟨w.heap.size, k, none⟩) (Nat.le_refl _) (str D))
      generalize (if k < k then Lib.decDigits (us k) else []) = ob at g2
      clear B1 Nc
      go_wp2
      go_roundw
      case rel => exact ⟨k + 1, by omega, by go_num, N2, B2⟩
      case measure => simp [intOf]; omega
    · obtain rfl : n = k := by omega
      have B2 := HB.out.cong (h := fun i => Lib.decDigits (us i)) (fun i hi => by rw [if_pos hi])
      have CT := Lib.hid (HJ.out w.heap.size n (fun i => Lib.decDigits (us i)) [32] wr B2 (by omega) HL.out)
      generalize hR : Lib.join ((List.range n).map fun i => Lib.decDigits (us i)) [32] = R at *
      replace hR := Lib.hid hR
      go_wp2_with fail
      refine CT.out.mono ?_
      rintro e wc ⟨rfl, Nc⟩
      have NR := Lib.hid (HN.out.trans Nc)
      clear Nc
      go_wp2
      go_ret
      exact ⟨by rw [hR.out]; rfl, NR.out⟩
end Go.Proofs.YtffggmjhaaehlaaGreatDoor
