/- moveParents, the copy of a tree, and PartOf of the program, walked. Condition: the tree can be read. -/
import Derived.Test.YtnihklilappimaaPartM
import Derived.Test.YtnihklilappimaaTreeC
import Derived.Lib.SliceRun
namespace Go.Proofs.Ytnihklilappimaa
open Go.RowKit

/-- The parents of the first k boxes, turned. -/
structure MvTo (f : Int → Int) (zs : List Int) (k : Nat) (l : List Int) : Prop where
  len : l.length = zs.length
  val : ∀ i, i < zs.length → l.getD i 0 = if i % 9 = 0 ∧ i < k * 9 then f (zs.getD i 0) else zs.getD i 0
theorem MvTo.all {f : Int → Int} {zs l : List Int} {n : Nat} (h : MvTo f zs n l) (hz : zs.length = n * 9) : l = parF f zs := by
  apply ext_get
  · rw [parF_len]; exact h.len
  · intro i hi
    rw [h.len] at hi
    rw [h.val i hi, parF_at hi]
    by_cases h9 : i % 9 = 0
    · rw [if_pos ⟨h9, by omega⟩, if_pos h9]
    · rw [if_neg (fun h => h9 h.1), if_neg h9]
theorem MvTo.here {f : Int → Int} {zs l : List Int} {k : Nat} (h : MvTo f zs k l) (hk : k * 9 < zs.length) : l.getD (k * 9) 0 = zs.getD (k * 9) 0 := by
  rw [h.val _ hk, if_neg (by omega)]
theorem MvTo.step {f : Int → Int} {zs l : List Int} {k : Nat} (h : MvTo f zs k l) (v : Int) (hv : v = f (zs.getD (k * 9) 0)) : MvTo f zs (k + 1) (l.set (k * 9) v) :=
  ⟨by rw [List.length_set]; exact h.len, fun i hi => by
    rw [getD_set _ _ _ _ (by rw [h.len]; exact hi)]
    by_cases e : k * 9 = i
    · subst e
      rw [if_pos rfl, if_pos ⟨by omega, by omega⟩, hv]
    · rw [if_neg e, h.val i hi]
      by_cases h9 : i % 9 = 0 ∧ i < k * 9
      · rw [if_pos h9, if_pos ⟨h9.1, by omega⟩]
      · rw [if_neg h9, if_neg (fun hh => h9 ⟨hh.1, by omega⟩)]⟩
theorem MvTo.stay {f : Int → Int} {zs l : List Int} {k : Nat} (h : MvTo f zs k l) (hv : f (zs.getD (k * 9) 0) = zs.getD (k * 9) 0) : MvTo f zs (k + 1) l :=
  ⟨h.len, fun i hi => by
    rw [h.val i hi]
    by_cases e : k * 9 = i
    · subst e
      rw [if_neg (by omega), if_pos ⟨by omega, by omega⟩, hv]
    · by_cases h9 : i % 9 = 0 ∧ i < k * 9
      · rw [if_pos h9, if_pos ⟨h9.1, by omega⟩]
      · rw [if_neg h9, if_neg (fun hh => h9 ⟨hh.1, by omega⟩)]⟩
theorem MvTo.zero (f : Int → Int) (zs : List Int) : MvTo f zs 0 zs := ⟨rfl, fun i _ => by rw [if_neg (by omega)]⟩
set_option maxHeartbeats 1000000 in
theorem moveParents_any (g n c : Nat) (zs : List Int) (from_ by_ : Int) (hz : zs.length = n * 9) (hn : n ≤ 1000) (hp : ∀ k, k < n → -1000 ≤ par zs k ∧ par zs k ≤ 1000) (hb : -1000 ≤ by_ ∧ by_ ≤ 1000) (w : World) (R : Row w g zs) :
    Calls Try.prog 57 #[.slice (some ⟨g, 0, none⟩) n c, .int .i64 from_, .int .i64 by_] w fun e w' => e = .returned (.tuple #[]) ∧ Row w' g (parF (mvp from_ by_) zs) ∧ w.grownBy w' (some g) := by
  have HR := Lib.hid R; have HZ := Lib.hid hz; have HP := Lib.hid hp
  have n1 : (n : Int) ≤ 1000 := by omega
  have lt := R.lt
  clear R hz hp
  go_enter Try.func57, Try.ntmps57
  go_wp2
  go_loopw [9] (fun i wr => ∃ (k : Nat) (l : List Int), k ≤ n ∧ i = .int .i64 (k : Int) ∧ Hid (MvTo (mvp from_ by_) zs k l) ∧ Hid (Row wr g l) ∧ Hid (w.grownBy wr (some g))) (fun i _ => n - (intOf i).toNat)
  case atStart => exact ⟨0, zs, Nat.zero_le _, rfl, Lib.hid (MvTo.zero _ _), HR, Lib.hid (World.grownBy.refl _ _)⟩
  case round =>
    obtain ⟨k, l, hk, rfl, HM, HW, HG⟩ := hrel
    have k0 : (0 : Int) ≤ (k : Int) := by omega
    by_cases hlt : k < n
    · have k1 : (k : Int) < (n : Int) := by omega
      have hkz : k * 9 < zs.length := by rw [HZ.out]; omega
      have c0 := HW.out.c (k * 9) (by rw [HM.out.len]; exact hkz)
      have f0 := HW.out.f (k * 9) (by rw [HM.out.len]; exact hkz)
      rw [HM.out.here hkz] at c0
      have pb := HP.out k hlt
      obtain ⟨p, hpe⟩ : ∃ p, zs.getD (k * 9) 0 = p := ⟨_, rfl⟩
      have pb2 : -1000 ≤ p ∧ p ≤ 1000 := by rw [← hpe]; exact pb
      rw [hpe] at c0
      by_cases hge : from_ ≤ p
      · have M2 := Lib.hid (HM.out.step (p + by_) (by rw [hpe]; unfold mvp; rw [if_pos hge]))
        have R2 := Lib.hid (HW.out.set_ (k := k * 9) (by rw [HM.out.len]; exact hkz) (p + by_))
        have G2 := Lib.hid (own_set HG.out (.int .i64 (p + by_)) (k := k * 9))
        have b0 : -2000 ≤ p + by_ := by omega
        have b1 : p + by_ ≤ 2000 := by omega
        clear pb pb2 hpe hkz
        go_wp2
        go_roundw
        case rel => exact ⟨k + 1, _, by omega, by go_num, M2, R2, G2⟩
        case measure => simp [intOf]; omega
      · have M2 := Lib.hid (HM.out.stay (by rw [hpe]; unfold mvp; rw [if_neg hge]))
        have hgb : decide (from_ ≤ p) = false := decide_eq_false hge
        clear pb pb2 hpe hkz
        go_wp2
        go_roundw
        case rel => exact ⟨k + 1, l, by omega, by go_num, M2, HW, HG⟩
        case measure => simp [intOf]; omega
    · obtain rfl : k = n := by omega
      have HE := HM.out.all HZ.out
      subst HE
      go_wp2
      go_end0
      exact ⟨rfl, HW.out, HG.out⟩
set_option maxHeartbeats 1000000 in
theorem CloneB_any (ad : Addr) (n c : Nat) (xs : List Int) (hn : n ≤ 1000) (w : World) (hx : Sts 9 w (some ad) n xs) :
    Calls Try.prog 56 #[.slice (some ad) n c] w fun e w' => ∃ v, e = .returned v ∧ OwnBox w.heap.size w' v n xs ∧ New w w' := by
  have qT : ∀ (w : World) (a : Option Addr) (n c n' c' : Nat), (binOp .eql 23 (.slice a n c) (.slice none n' c')).run Try.prog w = .ok (.bool a.isNone) w := fun w a n c n' c' => Lib.run_eql_slice_nil w _ _ a n c n' c' Try.underlying23
  have HX := Lib.hid hx
  clear hx
  go_enter Try.func56, Try.ntmps56
  go_wp2_with (at_builtin; refine wp_appBoxN rfl _ _ rfl w.heap.size _ 0 [] rfl (OwnBox.empty w (Nat.le_refl _)) (some ad) n c xs rfl (HX.out.new ((New.refl _).alloc _)) (by omega) (by simp) ?_; intro v' w' ho hg)
  have hN := new_ownBox (New.alloc (New.refl _) _) hg (OwnBox.empty w (Nat.le_refl _)) (Nat.le_refl _)
  rw [List.nil_append, Nat.zero_add] at ho
  have HO := Lib.hid ho; have hN := Lib.hid hN
  clear hg ho
  go_wp2
  go_ret
  exact ⟨_, rfl, HO.out, hN.out⟩
/-- An answer that is a row of structs of its own, in its room, and a truth value. -/
def AnsR (m : Nat) (w : World) (ok : Bool) (zs : List Int) (e : Ending) (w' : World) : Prop :=
  ∃ (A : Option Addr) (n c : Nat), e = .returned (.tuple #[.slice A n c, .bool ok]) ∧ zs.length = n * m ∧ n ≤ c ∧ Res w.heap.size w'.heap.size w' A zs ∧ New w w'
end Go.Proofs.Ytnihklilappimaa
