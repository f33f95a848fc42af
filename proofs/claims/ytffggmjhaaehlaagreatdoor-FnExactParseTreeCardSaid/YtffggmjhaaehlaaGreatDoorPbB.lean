/- The text of a box read back: plain. No condition. -/
import Derived.Test.YtffggmjhaaehlaaGreatDoorPbM
namespace Go.Proofs.YtffggmjhaaehlaaGreatDoor
open Go.RowKit

def kindT (w : List UInt8) : Int := if w = kn 0 then 0 else if w = kn 1 then 1 else if w = kn 2 then 2 else if w = kn 3 then 3 else -1
/-- The words behind the kind: width and height, then the numbers that are not 0. -/
def hdW (k : Nat) (wd ht : Int) : List (List UInt8) := if k = 0 then [Lib.decDigits wd.toNat, Lib.decDigits ht.toNat] else []
def swW (l : List UInt8) (v : Int) : List (List UInt8) := if v = 0 then [] else [l, Lib.decDigits v.toNat]
/-- Those of m numbers from number j on. -/
def rs (vs : List Int) : Nat → Nat → List (List UInt8)
  | _, 0 => []
  | j, m + 1 => swW (nm j) (vs.getD j 0) ++ rs vs (j + 1) m
theorem kindT_kn {k : Nat} (h : k ≤ 3) : kindT (kn k) = (k : Int) := by
  rcases (show k = 0 ∨ k = 1 ∨ k = 2 ∨ k = 3 by omega) with rfl | rfl | rfl | rfl <;> rfl
theorem kindT_le (w : List UInt8) : -1 ≤ kindT w ∧ kindT w ≤ 3 := by
  unfold kindT
  repeat' split
  all_goals omega
theorem nm_inj {i j : Nat} (hi : i < 5) (hj : j < 5) (h : nm i = nm j) : i = j := by
  rcases (show i = 0 ∨ i = 1 ∨ i = 2 ∨ i = 3 ∨ i = 4 by omega) with rfl | rfl | rfl | rfl | rfl <;>
    rcases (show j = 0 ∨ j = 1 ∨ j = 2 ∨ j = 3 ∨ j = 4 by omega) with rfl | rfl | rfl | rfl | rfl <;>
      first | rfl | exact absurd h (by decide)
section
variable {c : UInt8} {a b : List (List UInt8)}
theorem tlC_app (c : UInt8) (a b : List (List UInt8)) : tlC c (a ++ b) = tlC c a ++ tlC c b := List.flatMap_append
end
section
variable {vs : List Int} {k : Nat} {wd ht : Int}
theorem sw_tl (l : List UInt8) (v : Int) : sw l v = tlC 32 (swW l v) := by
  unfold sw swW
  split
  · rfl
  · simp [tlC]
theorem sws_tl (vs : List Int) : ∀ m j, j + m = 5 → sws vs 5 = sws vs j ++ tlC 32 (rs vs j m)
  | 0, j, h => by
    have : j = 5 := by omega
    subst this
    simp [rs, tlC]
  | m + 1, j, h => by
    rw [sws_tl vs m (j + 1) (by omega)]
    show (sws vs j ++ sw (nm j) (vs.getD j 0)) ++ _ = _ ++ tlC 32 (swW (nm j) (vs.getD j 0) ++ rs vs (j + 1) m)
    rw [tlC_app, sw_tl, List.append_assoc]
theorem boxTx_tl (k : Nat) (wd ht : Int) (vs : List Int) : boxTx k wd ht vs = kn k ++ tlC 32 (hdW k wd ht ++ rs vs 0 5) := by
  unfold boxTx hdT hdW
  rw [sws_tl vs 5 0 rfl, tlC_app]
  show _ ++ ([] ++ _) = _
  split
  · rename_i h
    subst h
    simp [tlC]
  · simp [tlC]
theorem rs_word : ∀ (m j : Nat), ∀ y ∈ rs vs j m, Wd y
  | 0, _, y, hy => by cases hy
  | m + 1, j, y, hy => by
    rcases List.mem_append.1 hy with hy | hy
    · unfold swW at hy
      split at hy
      · cases hy
      · rcases List.mem_cons.1 hy with rfl | hy
        · exact nm_word j
        · rw [List.mem_singleton.1 hy]; exact dd_bytes _
    · exact rs_word m (j + 1) y hy
theorem pcs_box (k : Nat) (wd ht : Int) (vs : List Int) : pcs 32 (boxTx k wd ht vs) = kn k :: (hdW k wd ht ++ rs vs 0 5) := by
  rw [boxTx_tl]
  refine pcs_join _ (fun b hb => ((kn_word k).2 b hb).1) (fun y hy b hb => ?_)
  have hw : Wd y := by
    rcases List.mem_append.1 hy with hy | hy
    · unfold hdW at hy
      split at hy
      · rcases List.mem_cons.1 hy with rfl | hy
        · exact dd_bytes _
        · rw [List.mem_singleton.1 hy]; exact dd_bytes _
      · cases hy
    · exact rs_word 5 0 y hy
  exact (hw.2 b hb).1
end
/-- What the program reads: is the word there, and with a number behind it? -/
def atW (l : List (List UInt8)) (j : Nat) : Prop := 2 ≤ l.length ∧ l.headD [] = nm j
instance (l : List (List UInt8)) (j : Nat) : Decidable (atW l j) := by unfold atW; infer_instance
/-- Has it a width and a height? -/
def leafW (ws : List (List UInt8)) : Prop := kindT (ws.headD []) = 0 ∧ 3 ≤ ws.length
instance (ws : List (List UInt8)) : Decidable (leafW ws) := by unfold leafW; infer_instance
def restW (ws : List (List UInt8)) : List (List UInt8) := if leafW ws then ws.drop 3 else ws.drop 1
def rI (ws : List (List UInt8)) : Nat → List (List UInt8)
  | 0 => restW ws
  | j + 1 => if atW (rI ws j) j then (rI ws j).drop 2 else rI ws j
def vI (ws : List (List UInt8)) (j : Nat) : Int := if atW (rI ws j) j then numT ((rI ws j).getD 1 []) else 0
def whI (ws : List (List UInt8)) (i : Nat) : Int := if leafW ws then numT (ws.getD i []) else 0
def rdI (ws : List (List UInt8)) : List Int := [0, kindT (ws.headD []), whI ws 1, whI ws 2, vI ws 0, vI ws 1, vI ws 2, vI ws 3, vI ws 4]
/-- What the reference reads: pairs of words; the last one of a name holds. -/
def pvl (j : Nat) : List (List UInt8) → Int → Int
  | a :: b :: r, v => pvl j r (if a = nm j then numT b else v)
  | _, v => v
def rdS (ws : List (List UInt8)) : List Int := [0, kindT (ws.headD []), whI ws 1, whI ws 2, pvl 0 (restW ws) 0, pvl 1 (restW ws) 0, pvl 2 (restW ws) 0, pvl 3 (restW ws) 0, pvl 4 (restW ws) 0]
section
variable {vs : List Int} {k : Nat} {wd ht : Int} {ws : List (List UInt8)}
theorem rs_head : ∀ (m j : Nat), rs vs j m = [] ∨ ∃ i r, rs vs j m = nm i :: r ∧ j ≤ i ∧ i < j + m
  | 0, _ => Or.inl rfl
  | m + 1, j => by
    show swW (nm j) (vs.getD j 0) ++ rs vs (j + 1) m = [] ∨ _
    by_cases h : vs.getD j 0 = 0
    · have e : rs vs j (m + 1) = rs vs (j + 1) m := by
        show swW (nm j) (vs.getD j 0) ++ rs vs (j + 1) m = _
        unfold swW; rw [if_pos h]; rfl
      have e' : swW (nm j) (vs.getD j 0) ++ rs vs (j + 1) m = rs vs (j + 1) m := e
      rw [e', e]
      rcases rs_head m (j + 1) with h1 | ⟨i, r, h1, h2, h3⟩
      · exact Or.inl h1
      · exact Or.inr ⟨i, r, h1, by omega, by omega⟩
    · refine Or.inr ⟨j, Lib.decDigits (vs.getD j 0).toNat :: rs vs (j + 1) m, ?_, Nat.le_refl _, by omega⟩
      show swW (nm j) (vs.getD j 0) ++ rs vs (j + 1) m = _
      unfold swW; rw [if_neg h]; rfl
/-- The words of a box read back by the program. -/
theorem rI_box (hv : ∀ j, j < 5 → 0 ≤ vs.getD j 0 ∧ vs.getD j 0 ≤ 100) (h0 : restW ws = rs vs 0 5) : ∀ (j m : Nat), j + m = 5 → rI ws j = rs vs j m ∧ ∀ i, i < j → vI ws i = vs.getD i 0
  | 0, m, h => by
    obtain rfl : m = 5 := by omega
    exact ⟨h0, fun i hi => absurd hi (by omega)⟩
  | j + 1, m, h => by
    obtain ⟨e, ih⟩ := rI_box hv h0 j (m + 1) (by omega)
    have hj : j < 5 := by omega
    by_cases hz : vs.getD j 0 = 0
    · have e1 : rI ws j = rs vs (j + 1) m := by
        rw [e]
        show swW (nm j) (vs.getD j 0) ++ rs vs (j + 1) m = _
        unfold swW; rw [if_pos hz]; rfl
      have hn : ¬ atW (rI ws j) j := by
        rw [e1]
        rintro ⟨h1, h2⟩
        rcases rs_head (vs := vs) m (j + 1) with h3 | ⟨i, r, h3, h4, h5⟩
        · rw [h3] at h1; simp at h1
        · rw [h3] at h2
          have := nm_inj (by omega) hj (show nm i = nm j from h2)
          omega
      refine ⟨?_, fun i hi => ?_⟩
      · show (if atW (rI ws j) j then (rI ws j).drop 2 else rI ws j) = _
        rw [if_neg hn, e1]
      · rcases Nat.lt_or_ge i j with h1 | h1
        · exact ih i h1
        · obtain rfl : i = j := by omega
          unfold vI
          rw [if_neg hn, hz]
    · have e1 : rI ws j = nm j :: Lib.decDigits (vs.getD j 0).toNat :: rs vs (j + 1) m := by
        rw [e]
        show swW (nm j) (vs.getD j 0) ++ rs vs (j + 1) m = _
        unfold swW; rw [if_neg hz]; rfl
      have hy : atW (rI ws j) j := by rw [e1]; exact ⟨by simp, rfl⟩
      refine ⟨?_, fun i hi => ?_⟩
      · show (if atW (rI ws j) j then (rI ws j).drop 2 else rI ws j) = _
        rw [if_pos hy, e1]; rfl
      · rcases Nat.lt_or_ge i j with h1 | h1
        · exact ih i h1
        · obtain rfl : i = j := by omega
          unfold vI
          rw [if_pos hy, e1]
          show numT (Lib.decDigits (vs.getD i 0).toNat) = _
          have := hv i hj
          rw [numT_dd (by omega)]; omega
/-- By the reference. -/
theorem pvl_box (hv : ∀ j, j < 5 → 0 ≤ vs.getD j 0 ∧ vs.getD j 0 ≤ 100) (q : Nat) (hq : q < 5) : ∀ (m j : Nat), j + m = 5 → ∀ v, pvl q (rs vs j m) v = if j ≤ q ∧ vs.getD q 0 ≠ 0 then vs.getD q 0 else v
  | 0, j, h, v => by
    rw [if_neg (fun k => by omega)]; rfl
  | m + 1, j, h, v => by
    show pvl q (swW (nm j) (vs.getD j 0) ++ rs vs (j + 1) m) v = _
    unfold swW
    by_cases hz : vs.getD j 0 = 0
    · rw [if_pos hz]
      show pvl q (rs vs (j + 1) m) v = _
      rw [pvl_box hv q hq m (j + 1) (by omega)]
      by_cases hjq : j = q
      · subst hjq
        rw [if_neg (fun k => by omega), if_neg (fun k => k.2 hz)]
      · by_cases h1 : j ≤ q ∧ vs.getD q 0 ≠ 0
        · rw [if_pos h1, if_pos ⟨by omega, h1.2⟩]
        · rw [if_neg h1, if_neg (fun k => h1 ⟨by omega, k.2⟩)]
    · rw [if_neg hz]
      show pvl q (rs vs (j + 1) m) (if nm j = nm q then numT (Lib.decDigits (vs.getD j 0).toNat) else v) = _
      rw [pvl_box hv q hq m (j + 1) (by omega)]
      by_cases hjq : j = q
      · subst hjq
        have := hv j hq
        rw [if_neg (fun k => by omega), if_pos rfl, if_pos ⟨Nat.le_refl _, hz⟩, numT_dd (by omega)]; omega
      · rw [if_neg (fun k => hjq (nm_inj (by omega) hq k))]
        by_cases h1 : j ≤ q ∧ vs.getD q 0 ≠ 0
        · rw [if_pos h1, if_pos ⟨by omega, h1.2⟩]
        · rw [if_neg h1, if_neg (fun k => h1 ⟨by omega, k.2⟩)]
theorem rest_box (hk : k ≤ 3) (vs : List Int) : restW (kn k :: (hdW k wd ht ++ rs vs 0 5)) = rs vs 0 5 ∧ (k = 0 → leafW (kn k :: (hdW k wd ht ++ rs vs 0 5))) ∧ (k ≠ 0 → ¬ leafW (kn k :: (hdW k wd ht ++ rs vs 0 5))) := by
  have h1 : k = 0 → leafW (kn k :: (hdW k wd ht ++ rs vs 0 5)) := fun h => by
    subst h
    exact ⟨rfl, by simp [hdW]⟩
  have h2 : k ≠ 0 → ¬ leafW (kn k :: (hdW k wd ht ++ rs vs 0 5)) := fun h hl => by
    have := hl.1
    rw [show (kn k :: (hdW k wd ht ++ rs vs 0 5)).headD [] = kn k from rfl, kindT_kn hk] at this
    omega
  refine ⟨?_, h1, h2⟩
  unfold restW
  by_cases h : k = 0
  · rw [if_pos (h1 h)]
    subst h
    rfl
  · rw [if_neg (h2 h)]
    unfold hdW
    rw [if_neg h]
    rfl
/-- A valid box is read back out of its text, by both. -/
theorem read_box (hk : k ≤ 3) (hw : 0 ≤ wd ∧ wd ≤ 100 ∧ (k ≠ 0 → wd = 0)) (hh : 0 ≤ ht ∧ ht ≤ 100 ∧ (k ≠ 0 → ht = 0)) (a0 a1 a2 a3 a4 : Int) (hv : ∀ j, j < 5 → 0 ≤ [a0, a1, a2, a3, a4].getD j 0 ∧ [a0, a1, a2, a3, a4].getD j 0 ≤ 100) :
    rdI (pcs 32 (boxTx k wd ht [a0, a1, a2, a3, a4])) = [0, (k : Int), wd, ht, a0, a1, a2, a3, a4] ∧ rdS (pcs 32 (boxTx k wd ht [a0, a1, a2, a3, a4])) = [0, (k : Int), wd, ht, a0, a1, a2, a3, a4] := by
  rw [pcs_box]
  obtain ⟨h0, hl, hn⟩ := rest_box (wd := wd) (ht := ht) hk [a0, a1, a2, a3, a4]
  have hI := (rI_box hv h0 5 0 rfl).2
  have hS := fun q hq v => pvl_box hv q hq 5 0 rfl v
  have hwd : whI (kn k :: (hdW k wd ht ++ rs [a0, a1, a2, a3, a4] 0 5)) 1 = wd ∧ whI (kn k :: (hdW k wd ht ++ rs [a0, a1, a2, a3, a4] 0 5)) 2 = ht := by
    unfold whI
    by_cases h : k = 0
    · rw [if_pos (hl h)]
      subst h
      refine ⟨?_, ?_⟩
      · show numT (Lib.decDigits wd.toNat) = wd
        rw [numT_dd (by omega)]; omega
      · show numT (Lib.decDigits ht.toNat) = ht
        rw [numT_dd (by omega)]; omega
    · rw [if_neg (hn h), if_neg (hn h)]
      exact ⟨(hw.2.2 h).symm, (hh.2.2 h).symm⟩
  have pS : ∀ q, q < 5 → pvl q (rs [a0, a1, a2, a3, a4] 0 5) 0 = [a0, a1, a2, a3, a4].getD q 0 := fun q hq => by
    rw [hS q hq 0]
    split
    · rfl
    · rename_i h
      by_cases hz : [a0, a1, a2, a3, a4].getD q 0 = 0
      · exact hz.symm
      · exact absurd ⟨Nat.zero_le _, hz⟩ h
  unfold rdI rdS
  rw [hwd.1, hwd.2, hI 0 (by omega), hI 1 (by omega), hI 2 (by omega), hI 3 (by omega), hI 4 (by omega), h0, pS 0 (by omega), pS 1 (by omega), pS 2 (by omega), pS 3 (by omega), pS 4 (by omega)]
  rw [show (kn k :: (hdW k wd ht ++ rs [a0, a1, a2, a3, a4] 0 5)).headD [] = kn k from rfl, kindT_kn hk]
  exact ⟨rfl, rfl⟩
/-- Is it the text of a valid box? -/
def bxOk (s : List UInt8) : Prop := BoxP (rdI (pcs 32 s)) 0 ∧ bxT (rdI (pcs 32 s)) 0 = s
instance (s : List UInt8) : Decidable (bxOk s) := by unfold bxOk; infer_instance
theorem box_back (p k wd ht a0 a1 a2 a3 a4 : Int) (hb : BoxP [p, k, wd, ht, a0, a1, a2, a3, a4] 0) :
    rdI (pcs 32 (bxT [p, k, wd, ht, a0, a1, a2, a3, a4] 0)) = [0, k, wd, ht, a0, a1, a2, a3, a4] ∧ rdS (pcs 32 (bxT [p, k, wd, ht, a0, a1, a2, a3, a4] 0)) = [0, k, wd, ht, a0, a1, a2, a3, a4] := by
  have hv := hb.vals
  obtain ⟨h1, h2, h3, _⟩ := hb
  have e1 : knd [p, k, wd, ht, a0, a1, a2, a3, a4] 0 = k := rfl
  rw [e1] at h1 h2 h3
  have e2 : ([p, k, wd, ht, a0, a1, a2, a3, a4] : List Int).getD (0 * 9 + 2) 0 = wd := rfl
  have e3 : ([p, k, wd, ht, a0, a1, a2, a3, a4] : List Int).getD (0 * 9 + 3) 0 = ht := rfl
  rw [e2] at h2
  rw [e3] at h3
  have h := read_box (k := k.toNat) (wd := wd) (ht := ht) (by omega) ⟨h2.1, by split at h2 <;> omega, fun hk => by rw [if_neg (by omega)] at h2; omega⟩ ⟨h3.1, by split at h3 <;> omega, fun hk => by rw [if_neg (by omega)] at h3; omega⟩ a0 a1 a2 a3 a4 hv
  have ek : (k.toNat : Int) = k := by omega
  rw [ek] at h
  exact h
theorem bxOk_S (s : List UInt8) : (BoxP (rdS (pcs 32 s)) 0 ∧ bxT (rdS (pcs 32 s)) 0 = s ↔ bxOk s) ∧ (bxOk s → rdS (pcs 32 s) = rdI (pcs 32 s)) := by
  have h1 : bxOk s → rdS (pcs 32 s) = rdI (pcs 32 s) := fun h => by
    have hb := box_back 0 (kindT ((pcs 32 s).headD [])) (whI (pcs 32 s) 1) (whI (pcs 32 s) 2) (vI (pcs 32 s) 0) (vI (pcs 32 s) 1) (vI (pcs 32 s) 2) (vI (pcs 32 s) 3) (vI (pcs 32 s) 4) h.1
    have e : bxT [0, kindT ((pcs 32 s).headD []), whI (pcs 32 s) 1, whI (pcs 32 s) 2, vI (pcs 32 s) 0, vI (pcs 32 s) 1, vI (pcs 32 s) 2, vI (pcs 32 s) 3, vI (pcs 32 s) 4] 0 = s := h.2
    rw [e] at hb
    exact hb.2.trans hb.1.symm
  refine ⟨⟨fun h => ?_, fun h => by rw [h1 h]; exact h⟩, h1⟩
  have hb := box_back 0 (kindT ((pcs 32 s).headD [])) (whI (pcs 32 s) 1) (whI (pcs 32 s) 2) (pvl 0 (restW (pcs 32 s)) 0) (pvl 1 (restW (pcs 32 s)) 0) (pvl 2 (restW (pcs 32 s)) 0) (pvl 3 (restW (pcs 32 s)) 0) (pvl 4 (restW (pcs 32 s)) 0) h.1
  have e : bxT [0, kindT ((pcs 32 s).headD []), whI (pcs 32 s) 1, whI (pcs 32 s) 2, pvl 0 (restW (pcs 32 s)) 0, pvl 1 (restW (pcs 32 s)) 0, pvl 2 (restW (pcs 32 s)) 0, pvl 3 (restW (pcs 32 s)) 0, pvl 4 (restW (pcs 32 s)) 0] 0 = s := h.2
  rw [e] at hb
  have e2 : rdI (pcs 32 s) = rdS (pcs 32 s) := hb.1
  exact ⟨by rw [e2]; exact h.1, by rw [e2]; exact h.2⟩
end
end Go.Proofs.YtffggmjhaaehlaaGreatDoor
