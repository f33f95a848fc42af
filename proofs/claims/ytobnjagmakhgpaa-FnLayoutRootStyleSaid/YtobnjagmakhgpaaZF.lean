/- Parts that belong together: TreeS, TreeT, TreeE, TreeP. Conditions: as each part says. -/
import Derived.Test.YtobnjagmakhgpaaZD
import Derived.Test.YtobnjagmakhgpaaZE
/- The reference's tree functions, walked: kids, depth, around, count, inOrder, validTree. Condition: the tree can be read. -/
namespace Go.Proofs.Ytobnjagmakhgpaa
open Go.RowKit

/-- Every box but the first one has a box before it as Parent. -/
def Ups (zs : List Int) (k : Nat) : Prop := (0 < k → par zs 0 = -1) ∧ ∀ j, 0 < j → j < k → ∃ p : Nat, par zs j = (p : Int) ∧ p < j
section
variable {zs : List Int} {k i j n : Nat}
theorem Link.ups (h : Link zs k) : Ups zs k := ⟨h.root, fun j h0 hj => by obtain ⟨p, e, hp, _⟩ := h.up j h0 hj; exact ⟨p, e, hp⟩⟩
theorem Ups.less (h : Ups zs k) (hi : i ≤ k) : Ups zs i := ⟨fun h0 => h.1 (by omega), fun j h0 hj => h.2 j h0 (by omega)⟩
theorem Ups.not_kid (h : Ups zs k) (hi : i < k) (hj : j ≤ i) : par zs j ≠ (i : Int) := fun e => by
  rcases Nat.eq_zero_or_pos j with h0 | h0
  · subst h0; have := h.1 (by omega); omega
  · obtain ⟨p, e2, hp⟩ := h.2 j h0 (by omega); omega
theorem par_cell {w : World} {b off : Nat} (hc : ∀ i, i < n * 9 → w.cell? ⟨b, off + i, none⟩ = some (.int .i64 (zs.getD i 0))) (hi : i < n) : w.cell? ⟨b, off + i * 9, none⟩ = some (.int .i64 (par zs i)) := hc (i * 9) (by omega)
end
set_option maxRecDepth 100000 in
set_option maxHeartbeats 1000000 in
theorem skids_any (A : Option Addr) (n c i : Nat) (zs : List Int) (hn : n ≤ 1048576) (hi : i < n) (hk : ∀ j, j ≤ i → par zs j ≠ (i : Int)) (w : World) (hx : Sts 9 w A n zs) :
    Calls Try.prog 77 #[.slice A n c, .int .i64 (i : Int)] w fun e w' => ∃ v, e = .returned v ∧ Own w.heap.size w' v ((kidL zs n i).map Int.ofNat) ∧ New w w' := by
  obtain ⟨b, off, rfl, hb, hc⟩ := hx.at_ (by omega)
  have HC := Lib.hid (fun i hi => par_cell (i := i) hc hi); have HB := Lib.hid hb
  have i0 : (0 : Int) ≤ (i : Int) := by omega
  have i1 : (i : Int) < (n : Int) := by omega
  have n1 : (n : Int) ≤ 1048576 := by omega
  have st : kidL zs (i + 1) i = [] := List.filter_eq_nil_iff.2 fun j hj => by
    have := hk j (by have := List.mem_range.1 hj; omega)
    simpa using this
  have ST := Lib.hid st
  clear hx hc hb hk st
  go_enter Try.func77, Try.ntmps77
  go_wp2
  go_loopw [5, 6] (fun v x wr => ∃ k : Nat, i < k ∧ k ≤ n ∧ x = .int .i64 (k : Int) ∧ Hid (Own w.heap.size wr v ((kidL zs k i).map Int.ofNat)) ∧ Hid (New w wr)) (fun _ x _ => n - (intOf x).toNat)
  case atStart => exact ⟨i + 1, by omega, by omega, by go_num, Lib.hid (by rw [ST.out]; exact Own.empty w 0 (Nat.le_refl _) rfl), Lib.hid (by (repeat (first | exact New.refl _ | assumption | refine New.alloc ?_ _ | refine New.drew ?_ | refine New.drewN ?_ _ | refine New.setCell ?_ (by first | omega | (simp; omega) | (simp; done)) _ | refine New.trans ?_ (by assumption))))⟩
  case round =>
    obtain ⟨k, hik, hk, rfl, HO, HN⟩ := hrel
    have sz := HN.out.le
    by_cases hlt : k < n
    · have g0 : wr.cell? ⟨b, off + k * 9, none⟩ = some (.int .i64 (par zs k)) := (HN.out.cells b _ HB.out).trans (HC.out k hlt)
      have k0 : (0 : Int) ≤ (k : Int) := by omega
      have k1 : (k : Int) < (n : Int) := by omega
      have LN := Lib.hid (show ((kidL zs k i).map Int.ofNat).length ≤ 1000000 - 1 ∨ True from .inr trivial)
      clear LN
      have KS := Lib.hid (kid_succ zs k i)
      by_cases hp : par zs k = (i : Int)
      · have KS2 : Hid (kidL zs (k + 1) i = kidL zs k i ++ [k]) := Lib.hid (by rw [KS.out, if_pos hp])
        have LL : Hid ((kidL zs k i).length ≤ k) := Lib.hid (by unfold kidL; have := List.length_filter_le (fun j => decide (par zs j = (i : Int))) (List.range k); simpa using this)
        rw [hp] at g0
        clear KS hp
        go_wp2_with (at_builtin; refine wp_app rfl _ _ rfl w.heap.size _ _ rfl (HO.out.alloc _) (some ⟨wr.heap.size, 0, none⟩) 1 1 [(k : Int)] rfl (Ints.one wr _ _) (by rw [List.length_map]; have := LL.out; omega) (by simp; omega) ?_; intro v6 w6 O6 G6; (have N6 := Lib.hid (new_own (HN.out.alloc _) G6 (HO.out.alloc _) (Nat.le_refl _))); (have O6 := Lib.hid O6); clear G6)
        go_wp2
        go_roundw
        case rel => exact ⟨k + 1, by omega, by omega, by go_num, Lib.hid (by rw [KS2.out, List.map_append]; exact O6.out), N6⟩
        case measure => simp [intOf]; omega
      · have KS2 : Hid (kidL zs (k + 1) i = kidL zs k i) := Lib.hid (by rw [KS.out, if_neg hp])
        have hb : (par zs k == (i : Int)) = false := by simpa using hp
        generalize par zs k = y at g0 hb
        clear KS hp
        go_wp2
        go_roundw
        case rel => exact ⟨k + 1, by omega, by omega, by go_num, Lib.hid (by rw [KS2.out]; exact HO.out), HN⟩
        case measure => simp [intOf]; omega
    · obtain rfl : k = n := by omega
      obtain ⟨v, hv⟩ : ∃ v, v = u5 := ⟨_, rfl⟩
      rw [← hv] at HO ⊢
      clear hv
      go_wp2
      go_ret
      exact ⟨v, rfl, HO.out, HN.out⟩
set_option maxHeartbeats 1000000 in
theorem sdepth_any (A : Option Addr) (n c i k : Nat) (zs : List Int) (hn : n ≤ 1048576) (hkn : k ≤ n) (hi : i < k) (hu : Ups zs k) (w : World) (hx : Sts 9 w A n zs) :
    Calls Try.prog 78 #[.slice A n c, .int .i64 (i : Int)] w fun e w' => e = .returned (.int .i64 (dep zs i : Int)) ∧ w = w' := by
  obtain ⟨b, off, rfl, hb, hc⟩ := hx.at_ (by omega)
  have HC := Lib.hid (fun i hi => par_cell (i := i) hc hi)
  have HU := Lib.hid hu
  have n1 : (n : Int) ≤ 1048576 := by omega
  have db := dep_le zs i
  clear hx hc hu hb
  go_enter Try.func78, Try.ntmps78
  go_wp2
  go_loopw [1, 5] (fun x d wr => wr = w ∧ ∃ (j y : Nat), j < k ∧ x = .int .i64 (j : Int) ∧ d = .int .i64 (y : Int) ∧ y + dep zs j = dep zs i) (fun x _ _ => (intOf x).toNat)
  case atStart => exact ⟨rfl, i, 0, hi, rfl, rfl, by omega⟩
  case round =>
    obtain ⟨rfl, j, y, hj, rfl, rfl, hy⟩ := hrel
    have g0 : wr.cell? ⟨b, off + j * 9, none⟩ = some (.int .i64 (par zs j)) := HC.out j (by omega)
    have j0 : (0 : Int) ≤ (j : Int) := by omega
    have j1 : (j : Int) < (n : Int) := by omega
    rcases Nat.eq_zero_or_pos j with h0 | h0
    · subst h0
      rw [HU.out.1 (by omega), Nat.zero_mul, Nat.add_zero] at g0
      have e0 : dep zs 0 = 0 := dep_top (by rw [HU.out.1 (by omega)]; omega)
      have EY : Hid (y = dep zs i) := Lib.hid (by omega)
      clear hy e0
      go_wp2
      go_ret
      exact ⟨by rw [← EY.out]; rfl, rfl⟩
    · obtain ⟨p, e, hp⟩ := HU.out.2 j h0 hj
      rw [e] at g0
      have e0 := dep_par e hp
      have hy2 : y + 1 + dep zs p = dep zs i := by omega
      have y1 : (y : Int) ≤ 1048576 := by omega
      have y0 : (0 : Int) ≤ (y : Int) := by omega
      have p0 : (0 : Int) ≤ (p : Int) := by omega
      clear hy e0 e
      go_wp2
      go_roundw
      case rel => exact ⟨trivial, p, y + 1, by omega, rfl, by go_num, hy2⟩
      case measure => simp [intOf]; omega
set_option maxHeartbeats 1000000 in
theorem saround_any (A : Option Addr) (n c i k : Nat) (zs : List Int) (hn : n ≤ 1048576) (hi : i < n) (hu : Ups zs n) (w : World) (hx : Sts 9 w A n zs) :
    Calls Try.prog 85 #[.slice A n c, .int .i64 (k : Int), .int .i64 (i : Int)] w fun e w' => e = .returned (.bool (anc zs k i)) ∧ w = w' := by
  obtain ⟨b, off, rfl, hb, hc⟩ := hx.at_ (by omega)
  have HC := Lib.hid (fun i hi => par_cell (i := i) hc hi)
  have HU := Lib.hid hu
  have n1 : (n : Int) ≤ 1048576 := by omega
  have k0 : (0 : Int) ≤ (k : Int) := by omega
  clear hx hc hu hb
  go_enter Try.func85, Try.ntmps85
  go_wp2
  go_loopw [2] (fun x wr => wr = w ∧ ∃ (j : Nat), j < n ∧ x = .int .i64 (j : Int) ∧ Hid (anc zs k j = anc zs k i)) (fun x _ => (intOf x).toNat)
  case atStart => exact ⟨rfl, i, hi, rfl, Lib.hid rfl⟩
  case round =>
    obtain ⟨rfl, j, hj, rfl, HA⟩ := hrel
    have g0 : wr.cell? ⟨b, off + j * 9, none⟩ = some (.int .i64 (par zs j)) := HC.out j hj
    have j0 : (0 : Int) ≤ (j : Int) := by omega
    have j1 : (j : Int) < (n : Int) := by omega
    rcases Nat.lt_trichotomy k j with hlt | heq | hgt
    · obtain ⟨p, e, hp⟩ := HU.out.2 j (by omega) hj
      have HA2 : Hid (anc zs k p = anc zs k i) := Lib.hid (by rw [← HA.out, anc_par e hp (by omega)])
      rw [e] at g0
      have kj : (k : Int) < (j : Int) := by omega
      have p0 : (0 : Int) ≤ (p : Int) := by omega
      clear HA e
      go_wp2
      go_roundw
      case rel => exact ⟨trivial, p, by omega, rfl, HA2⟩
      case measure => simp [intOf]; omega
    · subst heq
      have HA2 : Hid (anc zs k i = true) := Lib.hid (by rw [← HA.out, anc_self])
      clear HA
      go_wp2
      go_ret
      exact ⟨by rw [HA2.out]; rfl, rfl⟩
    · have hf : anc zs k j = false := by
        cases hv : anc zs k j
        · rfl
        · have := anc_le hv; omega
      have HA2 : Hid (anc zs k i = false) := Lib.hid (by rw [← HA.out, hf])
      have hd : decide (k < j) = false := decide_eq_false (by omega)
      have hb2 : (j == k) = false := by simp; omega
      have hb : ((j : Int) == (k : Int)) = false := by simp; omega
      clear HA hf hgt
      go_wp2
      go_ret
      exact ⟨by rw [HA2.out]; rfl, rfl⟩
set_option maxHeartbeats 1000000 in
theorem scount_any (A : Option Addr) (n c i : Nat) (zs : List Int) (hn : n ≤ 1048576) (hi : i < n) (hu : Ups zs n) (w : World) (hx : Sts 9 w A n zs) :
    Calls Try.prog 55 #[.slice A n c, .int .i64 (i : Int)] w fun e w' => e = .returned (.int .i64 ((en zs n i : Int) - (i : Int))) ∧ w = w' := by
  have CA := Lib.hid (fun (j : Nat) (hj : j < n) => saround_any A n c j i zs hn hj hu w hx)
  have n1 : (n : Int) ≤ 1048576 := by omega
  have i0 : (0 : Int) ≤ (i : Int) := by omega
  clear hx hu
  go_enter Try.func55, Try.ntmps55
  go_wp2
  go_loopw [5, 6] (fun d x wr => wr = w ∧ ∃ (j y : Nat), j ≤ n ∧ x = .int .i64 (j : Int) ∧ d = .int .i64 (y : Int) ∧ y + i = j ∧ Hid (runE zs n i j = en zs n i)) (fun _ x _ => n - (intOf x).toNat)
  case atStart => exact ⟨rfl, i, 0, by omega, rfl, rfl, by omega, Lib.hid rfl⟩
  case round =>
    obtain ⟨rfl, j, y, hj, rfl, rfl, hy, HR⟩ := hrel
    have j0 : (0 : Int) ≤ (j : Int) := by omega
    have y0 : (0 : Int) ≤ (y : Int) := by omega
    have y1 : (y : Int) ≤ 1048576 := by omega
    by_cases hlt : j < n
    · have j1 : (j : Int) < (n : Int) := by omega
      have CT := Lib.hid (CA.out j hlt)
      cases hv : anc zs i j
      · have HV := Lib.hid hv
        have EX : Hid (((en zs n i : Nat) : Int) - (i : Int) = (y : Int)) := Lib.hid (by rw [← HR.out, runE_stop (by rw [hv]; simp)]; omega)
        clear hv HR
        go_wp2_with (go_at_call 85; refine CT.out.mono ?_; rw [HV.out]; rintro e w' ⟨rfl, rfl⟩)
        go_ret
        exact ⟨by rw [EX.out]; rfl, rfl⟩
      · have HV := Lib.hid hv
        have HR2 : Hid (runE zs n i (j + 1) = en zs n i) := Lib.hid (by rw [← HR.out, runE_go hlt hv])
        clear hv HR
        go_wp2_with (go_at_call 85; refine CT.out.mono ?_; rw [HV.out]; rintro e w' ⟨rfl, rfl⟩)
        go_roundw
        case rel => exact ⟨trivial, j + 1, y + 1, by omega, by go_num, by go_num, by omega, HR2⟩
        case measure => simp [intOf]; omega
    · obtain rfl : j = n := by omega
      have EX : Hid (((en zs j i : Nat) : Int) - (i : Int) = (y : Int)) := Lib.hid (by rw [← HR.out, runE_stop (by omega)]; omega)
      clear HR
      go_wp2
      go_ret
      exact ⟨by rw [EX.out]; rfl, rfl⟩
end Go.Proofs.Ytobnjagmakhgpaa

/- The reference's inOrder and validTree, walked: they answer as the plain check does. Condition: the tree can be read. -/
namespace Go.Proofs.Ytobnjagmakhgpaa
open Go.RowKit

/-- Every box's Parent is the box before it, or one around that. -/
def ordP (zs : List Int) (n : Nat) : Prop := ∀ i, i < n → 0 < i → anc zs (par zs i).toNat (i - 1) = true
instance (zs : List Int) (n : Nat) : Decidable (ordP zs n) := by unfold ordP; infer_instance
def ordB (zs : List Int) (n : Nat) : Bool := decide (ordP zs n)
section
variable {zs : List Int} {k n i : Nat}
theorem ups_of (h : ∀ j, j < k → SokP n zs j) : Ups zs k := by
  refine ⟨fun h0 => ?_, fun j h0 hj => ?_⟩
  · have := (h 0 h0).2.1; omega
  · have := (h j hj).2.1; exact ⟨(par zs j).toNat, by omega, by omega⟩
theorem ups_more (h : Ups zs k) {p : Nat} (hp : par zs k = (p : Int)) (hpk : p < k) : Ups zs (k + 1) := by
  refine ⟨fun _ => h.1 (by omega), fun j h0 hj => ?_⟩
  by_cases e : j = k
  · subst e; exact ⟨p, hp, hpk⟩
  · exact h.2 j h0 (by omega)
theorem vt_no_sok (hi : i < n) (h : ¬ SokP n zs i) : vtB n zs = false := by
  cases hv : vtB n zs
  · rfl
  · exact absurd ((vt_spec.1 hv).1 i hi) h
end
set_option maxRecDepth 100000 in
set_option maxHeartbeats 2000000 in
theorem sinOrder_any (A : Option Addr) (n c : Nat) (zs : List Int) (hn : n ≤ 16) (h1 : 1 ≤ n) (hu : Ups zs n) (w : World) (hx : Sts 9 w A n zs) :
    Calls Try.prog 79 #[.slice A n c] w fun e w' => e = .returned (.bool (ordB zs n)) ∧ w = w' := by
  obtain ⟨b, off, rfl, hb, hc⟩ := hx.at_ (by omega)
  have HC := Lib.hid (fun i hi => par_cell (i := i) hc hi)
  have HU := Lib.hid hu
  have n1 : (n : Int) ≤ 16 := by omega
  have n0 : (1 : Int) ≤ (n : Int) := by omega
  clear hx hc hu hb
  go_enter Try.func79, Try.ntmps79
  go_wp2
  go_loopw [3] (fun x wr => wr = w ∧ ∃ k : Nat, 1 ≤ k ∧ k ≤ n ∧ x = .int .i64 (k : Int) ∧ Hid (ordP zs k)) (fun x _ => n - (intOf x).toNat)
  case atStart => exact ⟨rfl, 1, Nat.le_refl _, h1, rfl, Lib.hid (fun i hi h0 => absurd hi (by omega))⟩
  case round =>
    obtain ⟨rfl, k, hk1, hk, rfl, HO⟩ := hrel
    by_cases hlt : k < n
    · obtain ⟨p, hp, hpk⟩ := HU.out.2 k (by omega) hlt
      have gp : wr.cell? ⟨b, off + k * 9, none⟩ = some (.int .i64 (p : Int)) := by rw [← hp]; exact HC.out k hlt
      have k0 : (0 : Int) ≤ (k : Int) := by omega
      have k1 : (k : Int) < (n : Int) := by omega
      have k2 : (1 : Int) ≤ (k : Int) := by omega
      have HP := Lib.hid hp
      clear hp
      obtain ⟨wo, rfl⟩ : ∃ x, x = wr := ⟨wr, rfl⟩
      go_wp2
      go_loopw [4] (fun x wz => wz = wo ∧ ∃ y : Int, x = .int .i64 y ∧ ((∃ j : Nat, y = (j : Int) ∧ j < n ∧ Hid (anc zs p j = anc zs p (k - 1))) ∨ (y = -1 ∧ Hid (anc zs p (k - 1) = false)))) (fun x _ => (intOf x + 1).toNat)
      case atStart => exact ⟨rfl, (k : Int) - 1, rfl, .inl ⟨k - 1, by omega, by omega, Lib.hid rfl⟩⟩
      case round =>
        obtain ⟨rfl, y, rfl, hy⟩ := hrel
        rcases hy with ⟨j, rfl, hj, HA⟩ | ⟨rfl, HA⟩
        · have j0 : (0 : Int) ≤ (j : Int) := by omega
          have j1 : (j : Int) < (n : Int) := by omega
          have g0 : wr.cell? ⟨b, off + j * 9, none⟩ = some (.int .i64 (par zs j)) := HC.out j hj
          by_cases hjp : j = p
          · subst hjp
            have HO2 : Hid (ordP zs (k + 1)) := Lib.hid (fun i hi h0 => by
              by_cases e : i = k
              · subst e; rw [HP.out, Int.toNat_natCast, ← HA.out, anc_self]
              · exact HO.out i (by omega) h0)
            clear HA g0
            go_wp2
            go_roundw
            case rel => exact ⟨trivial, k + 1, by omega, by omega, by go_num, HO2⟩
            case measure => simp [intOf]; omega
          · have hb : ((j : Int) != (p : Int)) = true := by simp; omega
            have hb2 : (j != p) = true := by simp; omega
            have hnx : (∃ j' : Nat, par zs j = (j' : Int) ∧ j' < n ∧ anc zs p j' = anc zs p (k - 1) ∧ j' < j) ∨ (par zs j = -1 ∧ anc zs p (k - 1) = false) := by
              rcases Nat.eq_zero_or_pos j with h0 | h0
              · subst h0
                have hr := HU.out.1 (by omega)
                exact .inr ⟨hr, by rw [← HA.out, anc_top (by omega) (by omega)]⟩
              · obtain ⟨q, e, hq⟩ := HU.out.2 j h0 hj
                exact .inl ⟨q, e, by omega, by rw [← HA.out, anc_par e hq hjp], hq⟩
            clear HA hjp
            rcases hnx with ⟨j', e, e1, e2, e3⟩ | ⟨e, e2⟩
            · rw [e] at g0
              have HA2 := Lib.hid e2
              clear e e2
              go_wp2
              go_roundw
              case rel => exact ⟨trivial, _, rfl, .inl ⟨j', rfl, e1, HA2⟩⟩
              case measure => simp [intOf]; omega
            · rw [e] at g0
              have HA2 := Lib.hid e2
              clear e e2
              go_wp2
              go_roundw
              case rel => exact ⟨trivial, _, rfl, .inr ⟨rfl, HA2⟩⟩
              case measure => simp [intOf]
        · have hf : Hid (ordB zs n = false) := Lib.hid (decide_eq_false (fun h => by
            have := h k hlt (by omega)
            rw [HP.out, Int.toNat_natCast, HA.out] at this; cases this))
          go_wp2
          go_ret
          exact ⟨by rw [hf.out]; rfl, rfl⟩
    · obtain rfl : k = n := by omega
      have ht : Hid (ordB zs k = true) := Lib.hid (decide_eq_true HO.out)
      go_wp2
      go_ret
      exact ⟨by rw [ht.out]; rfl, rfl⟩
set_option maxRecDepth 100000 in
set_option maxHeartbeats 4000000 in
theorem svalidTree_any (A : Option Addr) (n c : Nat) (zs : List Int) (hn : n ≤ 1048576) (w : World) (hx : Sts 9 w A n zs) :
    Calls Try.prog 41 #[.slice A n c] w fun e w' => e = .returned (.bool (vtB n zs)) ∧ New w w' := by
  have HX := Lib.hid hx
  have n1 : (n : Int) ≤ 1048576 := by omega
  clear hx
  go_enter Try.func41, Try.ntmps41
  go_wp2
  go_loopw [3] (fun x wr => ∃ k : Nat, k ≤ n ∧ x = .int .i64 (k : Int) ∧ Hid (∀ j, j < k → SokP n zs j) ∧ Hid (New w wr)) (fun x _ => n - (intOf x).toNat)
  case atStart => exact ⟨0, Nat.zero_le _, rfl, Lib.hid (fun j h => absurd h (by omega)), Lib.hid (New.refl _)⟩
  case round =>
    obtain ⟨k, hk, rfl, HS, HN⟩ := hrel
    by_cases hlt : k < n
    · obtain ⟨b, off, rfl, hb, hc⟩ := HX.out.at_ (by omega)
      have HC := Lib.hid hc; have HB := Lib.hid hb
      have HBL : Hid (b < wr.heap.size) := Lib.hid (Nat.lt_of_lt_of_le hb HN.out.le)
      have k0 : (0 : Int) ≤ (k : Int) := by omega
      have k1 : (k : Int) < (n : Int) := by omega
      obtain ⟨y0, e0⟩ : ∃ y, zs.getD (k * 9) 0 = y := ⟨_, rfl⟩
      have g0 : wr.cell? ⟨b, off + k * 9, none⟩ = some (.int .i64 y0) := by rw [← e0]; exact (HN.out.cells b _ hb).trans (hc (k * 9) (by omega))
      obtain ⟨y1, e1⟩ : ∃ y, zs.getD (k * 9 + 1) 0 = y := ⟨_, rfl⟩
      have g1 : wr.cell? ⟨b, off + k * 9 + 1, none⟩ = some (.int .i64 y1) := by rw [← e1]; exact (HN.out.cells b _ hb).trans (hc (k * 9 + 1) (by omega))
      obtain ⟨y2, e2⟩ : ∃ y, zs.getD (k * 9 + 2) 0 = y := ⟨_, rfl⟩
      have g2 : wr.cell? ⟨b, off + k * 9 + 2, none⟩ = some (.int .i64 y2) := by rw [← e2]; exact (HN.out.cells b _ hb).trans (hc (k * 9 + 2) (by omega))
      obtain ⟨y3, e3⟩ : ∃ y, zs.getD (k * 9 + 3) 0 = y := ⟨_, rfl⟩
      have g3 : wr.cell? ⟨b, off + k * 9 + 3, none⟩ = some (.int .i64 y3) := by rw [← e3]; exact (HN.out.cells b _ hb).trans (hc (k * 9 + 3) (by omega))
      obtain ⟨y4, e4⟩ : ∃ y, zs.getD (k * 9 + 4) 0 = y := ⟨_, rfl⟩
      have g4 : wr.cell? ⟨b, off + k * 9 + 4, none⟩ = some (.int .i64 y4) := by rw [← e4]; exact (HN.out.cells b _ hb).trans (hc (k * 9 + 4) (by omega))
      obtain ⟨y5, e5⟩ : ∃ y, zs.getD (k * 9 + 5) 0 = y := ⟨_, rfl⟩
      have g5 : wr.cell? ⟨b, off + k * 9 + 5, none⟩ = some (.int .i64 y5) := by rw [← e5]; exact (HN.out.cells b _ hb).trans (hc (k * 9 + 5) (by omega))
      obtain ⟨y6, e6⟩ : ∃ y, zs.getD (k * 9 + 6) 0 = y := ⟨_, rfl⟩
      have g6 : wr.cell? ⟨b, off + k * 9 + 6, none⟩ = some (.int .i64 y6) := by rw [← e6]; exact (HN.out.cells b _ hb).trans (hc (k * 9 + 6) (by omega))
      obtain ⟨y7, e7⟩ : ∃ y, zs.getD (k * 9 + 7) 0 = y := ⟨_, rfl⟩
      have g7 : wr.cell? ⟨b, off + k * 9 + 7, none⟩ = some (.int .i64 y7) := by rw [← e7]; exact (HN.out.cells b _ hb).trans (hc (k * 9 + 7) (by omega))
      obtain ⟨y8, e8⟩ : ∃ y, zs.getD (k * 9 + 8) 0 = y := ⟨_, rfl⟩
      have g8 : wr.cell? ⟨b, off + k * 9 + 8, none⟩ = some (.int .i64 y8) := by rw [← e8]; exact (HN.out.cells b _ hb).trans (hc (k * 9 + 8) (by omega))
      have hbx : boxB zs k = okX y1 y2 y3 y4 y5 y6 y7 y8 := by unfold boxB; rw [e1, e2, e3, e4, e5, e6, e7, e8]
      have hy : par zs k = y0 := e0
      have HY := Lib.hid hy
      clear e0 e1 e2 e3 e4 e5 e6 e7 e8 hc hb
      cases hok : boxB zs k
      · have hv := Lib.hid (vt_no_box hlt hok)
        have HOK := Lib.hid (show okX y1 y2 y3 y4 y5 y6 y7 y8 = false by rw [← hbx]; exact hok)
        clear hok hbx hy
        go_wp2_with (go_at_call 76; refine (svalidBox_any _ _ _ _ _ _ _ _ _ _).mono ?_; rw [HOK.out]; rintro e w2 ⟨rfl, h2⟩; (have H2 := Lib.hid h2); clear h2)
        go_ret
        exact ⟨by rw [hv.out]; rfl, HN.out.trans H2.out⟩
      · have HBX := Lib.hid (boxB_iff.1 hok)
        have HOK := Lib.hid (show okX y1 y2 y3 y4 y5 y6 y7 y8 = true by rw [← hbx]; exact hok)
        have hmn := fun W ts t => run_mn Try.prog W ts t (k : Int) 1
        have mb : 0 ≤ mn (k : Int) 1 ∧ mn (k : Int) 1 ≤ 1 := by unfold mn; omega
        have mk : mn (k : Int) 1 = ((min k 1 : Nat) : Int) := by unfold mn; omega
        obtain ⟨mb0, mb1⟩ := mb
        have MK := Lib.hid mk
        clear hok hbx hy mk
        by_cases hr : mn (k : Int) 1 - 1 ≤ y0 ∧ y0 ≤ (k : Int) - 1
        · have hd := decide_eq_true hr
          rcases Nat.eq_zero_or_pos k with hz | hz
          · have HS' : Hid (∀ j, j < k + 1 → SokP n zs j) := Lib.hid (fun j hj => by
              by_cases e : j = k
              · rw [e]; exact ⟨HBX.out, by rw [HY.out, ← MK.out]; exact hr, fun h => absurd h (by omega)⟩
              · exact HS.out j (by omega))
            have kz : decide ((0 : Int) < (k : Int)) = false := decide_eq_false (by omega)
            have kz2 : decide (0 < k) = false := decide_eq_false (by omega)
            generalize mn (k : Int) 1 = mm at *
            clear hr hz
            go_wp2_with (first
              | (go_at_call 76; refine (svalidBox_any _ _ _ _ _ _ _ _ _ _).mono ?_; rw [HOK.out]; rintro e w2 ⟨rfl, h2⟩; (have H2 := Lib.hid h2); (have g0 := (h2.cells _ _ HBL.out).trans g0); clear h2)
              | (go_at_call 42; refine (inRange_any _ _ _ _).mono ?_; rw [hd]; rintro e w' ⟨rfl, rfl⟩))
            go_roundw
            case rel => exact ⟨k + 1, by omega, by go_num, HS', Lib.hid (HN.out.trans H2.out)⟩
            case measure => simp [intOf]; omega
          · have yp : 0 ≤ y0 := by
              have h1 : mn (k : Int) 1 = 1 := by
                unfold mn
                omega
              omega
            obtain ⟨p, rfl⟩ : ∃ p : Nat, y0 = (p : Int) := ⟨y0.toNat, by omega⟩
            have hpk : p < k := by omega
            have kz : (0 : Int) < (k : Int) := by omega
            have p0 : (0 : Int) ≤ (p : Int) := by omega
            have p1 : (p : Int) < (n : Int) := by omega
            have HU := Lib.hid (ups_more (ups_of HS.out) HY.out hpk)
            have gk : wr.cell? ⟨b, off + p * 9 + 1, none⟩ = some (.int .i64 (knd zs p)) := (HN.out.cells b _ HB.out).trans (HC.out (p * 9 + 1) (by omega))
            have RNG := Lib.hid hr
            have KB := Lib.hid (show (kidL zs n p).length ≤ n from by unfold kidL; have := List.length_filter_le (fun j => decide (par zs j = (p : Int))) (List.range n); simpa using this)
            clear hr
            generalize hmm : mn (k : Int) 1 = mm at *
            clear hmm hz
            by_cases hk0 : knd zs p = 0
            · have hv := Lib.hid (vt_no_sok (n := n) (zs := zs) hlt (fun h => by
                have := (h.2.2 (by omega)).1
                rw [HY.out, Int.toNat_natCast] at this
                exact this hk0))
              rw [hk0] at gk
              clear hk0
              go_wp2_with (first
                | (go_at_call 76; refine (svalidBox_any _ _ _ _ _ _ _ _ _ _).mono ?_; rw [HOK.out]; rintro e w2 ⟨rfl, h2⟩; (have H2 := Lib.hid h2); (have g0 := (h2.cells _ _ HBL.out).trans g0); (have gk := (h2.cells _ _ HBL.out).trans gk); clear h2)
                | (go_at_call 42; refine (inRange_any _ _ _ _).mono ?_; rw [hd]; rintro e w' ⟨rfl, rfl⟩))
              go_ret
              exact ⟨by rw [hv.out]; rfl, HN.out.trans H2.out⟩
            · have hkb : (knd zs p == 0) = false := by simpa using hk0
              have HK0 := Lib.hid hk0
              generalize knd zs p = kk at gk hkb
              clear hk0
              go_wp2_with fail
              refine (svalidBox_any _ _ _ _ _ _ _ _ _ _).mono ?_
              rw [HOK.out]
              rintro e w2 ⟨rfl, h2⟩
              have H2 := Lib.hid (HN.out.trans h2)
              have g0 := (h2.cells _ _ HBL.out).trans g0
              have gk := (h2.cells _ _ HBL.out).trans gk
              clear h2
              go_wp2_with fail
              refine (inRange_any _ _ _ _).mono ?_
              rw [hd]
              rintro e w' ⟨rfl, rfl⟩
              go_wp2_with fail
              refine (skids_any _ n c p zs hn (by omega) (fun j hj => HU.out.not_kid (by omega) hj) _ (HX.out.new H2.out)).mono ?_
              rintro e w3 ⟨v, rfl, O3, N3⟩
              obtain ⟨A3, c3, rfl, _, _⟩ := O3.res
              rw [List.length_map]
              have H3 := Lib.hid (H2.out.trans N3)
              clear O3 N3
              by_cases hl : (kidL zs n p).length ≤ 8
              · have hl8 : decide (8 < ((kidL zs n p).length : Int)) = false := decide_eq_false (by omega)
                have hl9 : decide (8 < (kidL zs n p).length) = false := decide_eq_false (by omega)
                have HL := Lib.hid hl
                generalize hq : (kidL zs n p).length = q at hl8 hl9 ⊢
                have q0 : (0 : Int) ≤ (q : Int) := by omega
                clear hl hq
                go_wp2_with fail
                refine (sdepth_any _ n c k (k + 1) zs hn (by omega) (by omega) HU.out _ (HX.out.new H3.out)).mono ?_
                rintro e w' ⟨rfl, rfl⟩
                have db := dep_le zs k
                by_cases hd5 : dep zs k ≤ 5
                · have HS' : Hid (∀ j, j < k + 1 → SokP n zs j) := Lib.hid (fun j hj => by
                    by_cases e : j = k
                    · rw [e]; exact ⟨HBX.out, by rw [HY.out, ← MK.out]; exact RNG.out, fun _ => by rw [HY.out, Int.toNat_natCast]; exact ⟨HK0.out, HL.out, hd5⟩⟩
                    · exact HS.out j (by omega))
                  have h5 : decide (5 < ((dep zs k : Nat) : Int)) = false := decide_eq_false (by omega)
                  have h6 : decide (5 < dep zs k) = false := decide_eq_false (by omega)
                  generalize dep zs k = dd at *
                  clear hd5
                  go_wp2
                  go_roundw
                  case rel => exact ⟨k + 1, by omega, by go_num, HS', H3⟩
                  case measure => simp [intOf]; omega
                · have hv := Lib.hid (vt_no_sok (n := n) (zs := zs) hlt (fun h => hd5 (h.2.2 (by omega)).2.2))
                  have h5 : (5 : Int) < ((dep zs k : Nat) : Int) := by omega
                  generalize dep zs k = dd at *
                  clear hd5
                  go_wp2
                  go_ret
                  exact ⟨by rw [hv.out]; rfl, H3.out⟩
              · have hv := Lib.hid (vt_no_sok (n := n) (zs := zs) hlt (fun h => hl (by
                  have := (h.2.2 (by omega)).2.1
                  rw [HY.out, Int.toNat_natCast] at this
                  exact this)))
                have hl8 : (8 : Int) < ((kidL zs n p).length : Int) := by omega
                generalize hq : (kidL zs n p).length = q at hl8 ⊢
                clear hl hq
                go_wp2
                go_ret
                exact ⟨by rw [hv.out]; rfl, H3.out⟩
        · have hd := decide_eq_false hr
          have hv := Lib.hid (vt_no_sok (n := n) (zs := zs) hlt (fun h => hr (by have := h.2.1; rw [HY.out, ← MK.out] at this; exact this)))
          generalize mn (k : Int) 1 = mm at *
          clear hr
          go_wp2_with (first
            | (go_at_call 76; refine (svalidBox_any _ _ _ _ _ _ _ _ _ _).mono ?_; rw [HOK.out]; rintro e w2 ⟨rfl, h2⟩; (have H2 := Lib.hid h2); (have g0 := (h2.cells _ _ HBL.out).trans g0); clear h2)
            | (go_at_call 42; refine (inRange_any _ _ _ _).mono ?_; rw [hd]; rintro e w' ⟨rfl, rfl⟩))
          go_ret
          exact ⟨by rw [hv.out]; rfl, HN.out.trans H2.out⟩
    · obtain rfl : k = n := by omega
      have n0 : (0 : Int) ≤ (k : Int) := by omega
      by_cases hr : 1 ≤ (k : Int) ∧ (k : Int) ≤ 16
      · have hd := decide_eq_true hr
        have HU := Lib.hid (ups_of HS.out)
        have CT := Lib.hid (sinOrder_any A k c zs (by omega) (by omega) HU.out wr (HX.out.new HN.out))
        have VT : Hid (vtB k zs = ordB zs k) := Lib.hid (by
          rw [Bool.eq_iff_iff, vt_spec]
          unfold ordB
          rw [decide_eq_true_eq]
          exact ⟨fun h i hi h0 => h.2.2 i h0 hi, fun h => ⟨HS.out, by omega, fun i h0 hi => h i hi h0⟩⟩)
        obtain ⟨hr1, hr2⟩ := hr
        cases ho : ordB zs k
        · have HOf := Lib.hid ho
          clear ho
          go_wp2_with (first
            | (go_at_call 42; refine (inRange_any _ _ _ _).mono ?_; rw [hd]; rintro e w' ⟨rfl, rfl⟩)
            | (go_at_call 79; refine CT.out.mono ?_; rw [HOf.out]; rintro e w' ⟨rfl, rfl⟩))
          go_ret
          exact ⟨by rw [VT.out, HOf.out]; rfl, HN.out⟩
        · have HOf := Lib.hid ho
          clear ho
          go_wp2_with (first
            | (go_at_call 42; refine (inRange_any _ _ _ _).mono ?_; rw [hd]; rintro e w' ⟨rfl, rfl⟩)
            | (go_at_call 79; refine CT.out.mono ?_; rw [HOf.out]; rintro e w' ⟨rfl, rfl⟩))
          go_ret
          exact ⟨by rw [VT.out, HOf.out]; rfl, HN.out⟩
      · have hd := decide_eq_false hr
        have VT : Hid (vtB k zs = false) := Lib.hid (by unfold vtB; rw [hd]; rfl)
        go_wp2_with (go_at_call 42; refine (inRange_any _ _ _ _).mono ?_; rw [hd]; rintro e w' ⟨rfl, rfl⟩)
        go_ret
        exact ⟨by rw [VT.out]; rfl, HN.out⟩
end Go.Proofs.Ytobnjagmakhgpaa

/- ValidTree, KidsOf, DepthOf, IsAround, CountIn of the program and of the reference, walked: both answer as the plain functions do. Condition: the tree can be read. -/
namespace Go.Proofs.Ytobnjagmakhgpaa
open Go.RowKit

theorem run_neq_slice_nil {P : Program} (w : World) (t e : TypeId) (a : Option Addr) (n c n' c' : Nat) (h : P.underlying t = some (.slice e)) :
    (binOp .neq t (.slice a n c) (.slice none n' c')).run P w = .ok (.bool (!a.isNone)) w := by
  simp only [binOp]
  simp [Op.equal, Op.maxDepth, Go.Lib.run_equalIn_slice_nil w 9999 t e a n c n' c' h]
def kidsA (n : Nat) (zs : List Int) (at_ : Int) : List Int := if nodeOk n zs at_ = true then (kidL zs n at_.toNat).map Int.ofNat else []
def depA (n : Nat) (zs : List Int) (at_ : Int) : Int := if nodeOk n zs at_ = true then (dep zs at_.toNat : Int) else -1
def cntA (n : Nat) (zs : List Int) (at_ : Int) : Int := if nodeOk n zs at_ = true then (en zs n at_.toNat : Int) - at_ else -1
def arA (n : Nat) (zs : List Int) (at_ inner : Int) : Bool := nodeOk n zs at_ && nodeOk n zs inner && anc zs at_.toNat inner.toNat
theorem kidsA_len (n : Nat) (zs : List Int) (at_ : Int) : (kidsA n zs at_).length ≤ 16 := by
  unfold kidsA
  split
  · next h =>
    obtain ⟨h1, i, rfl, hi⟩ := nodeOk_iff.1 h
    rw [List.length_map]
    have h2 := (vtB_iff.1 h1).1
    have : (kidL zs n (i : Int).toNat).length ≤ n := by unfold kidL; have := List.length_filter_le (fun j => decide (par zs j = (((i : Int).toNat : Nat) : Int))) (List.range n); simpa using this
    omega
  · simp
theorem Ans.own {w w' : World} {v : Value} {zs : List Int} {e : Ending} (he : e = .returned v) (h : Own w.heap.size w' v zs) (hN : New w w') : Ans w zs e w' := by
  obtain ⟨A, c, rfl, _, hR⟩ := h.res
  exact ⟨A, zs.length, c, he, rfl, hR, hN⟩
set_option maxHeartbeats 1000000 in
theorem ValidTree_any (A : Option Addr) (n c : Nat) (zs : List Int) (hn : n ≤ 1048576) (w : World) (hx : Sts 9 w A n zs) :
    Calls Try.prog 86 #[.slice A n c] w fun e w' => e = .returned (.bool (vtB n zs)) ∧ New w w' := by
  have HX := Lib.hid hx
  clear hx
  have hnil := fun (W : World) (a : Option Addr) (n c : Nat) => run_neq_slice_nil (P := Try.prog) W 60 67 a n c 0 0 Try.underlying60
  go_enter Try.func86, Try.ntmps86
  go_wp2_with fail
  refine (linkTree_any A n c zs hn _ HX.out).mono ?_
  rintro e w1 ⟨N1, ⟨hv, rfl⟩ | ⟨hv, g, nb, ar, fi, la, ne, rfl, hg, _, _⟩⟩
  all_goals
    have N1' := Lib.hid N1
    have HV := Lib.hid hv
    clear N1 hv
    go_wp2
    go_ret
    exact ⟨by rw [HV.out]; rfl, N1'.out⟩
set_option maxHeartbeats 1000000 in
theorem KidsOf_ans (A : Option Addr) (n c : Nat) (zs : List Int) (at_ : Int) (hn : n ≤ 1048576) (w : World) (hx : Sts 9 w A n zs) :
    Calls Try.prog 13 #[.slice A n c, .int .i64 at_] w (Ans w (kidsA n zs at_)) := by
  have HX := Lib.hid hx
  cases hok : nodeOk n zs at_
  · have e1 : kidsA n zs at_ = [] := by unfold kidsA; rw [hok]; rfl
    have E1 := Lib.hid e1
    have CT := Lib.hid (nodeAt_no A n c zs at_ hn hok w hx)
    clear hok e1 hx
    go_enter Try.func13, Try.ntmps13
    go_wp2_with (go_at_call 44; refine CT.out.mono ?_; rintro e w1 ⟨rfl, h1⟩; (have N1 := Lib.hid h1); clear h1)
    go_ret
    rw [E1.out]
    exact Ans.none_ rfl N1.out
  · obtain ⟨hv, i, rfl, hi⟩ := nodeOk_iff.1 hok
    have hn16 := (vtB_iff.1 hv).1
    have e1 : kidsA n zs (i : Int) = (kidL zs n i).map Int.ofNat := by unfold kidsA; rw [if_pos hok, Int.toNat_natCast]
    have E1 := Lib.hid e1
    have CT := Lib.hid (nodeAt_yes A n c i zs hv hi w hx)
    clear hok e1 hx hv
    go_enter Try.func13, Try.ntmps13
    go_wp2_with fail
    refine CT.out.mono ?_
    rintro e w1 ⟨h1, nb, ar, fi, la, ne, rfl, h2⟩
    have N1 := Lib.hid h1; have L1 := Lib.hid h2
    clear h1 h2
    go_wp2_with fail
    refine (kids_any w.heap.size nb zs n i ar fi la ne hi _ L1.out).mono ?_
    rintro e w2 ⟨v, rfl, O2, N2⟩
    have O2 := Lib.hid O2; have N2 := Lib.hid N2
    go_wp2
    go_ret
    rw [E1.out]
    exact Ans.own (w' := w2) rfl (by
      obtain ⟨A1, c1, _, _⟩ := O2.out.res
      exact ⟨O2.out.1, O2.out.2.imp id (fun ⟨g, cap, cur, a1, a2, a3⟩ => ⟨g, cap, cur, a1, Nat.le_trans N1.out.le a2, a3⟩)⟩) (N1.out.trans N2.out)
set_option maxHeartbeats 1000000 in
theorem IsAround_any (A : Option Addr) (n c : Nat) (zs : List Int) (at_ inner : Int) (hn : n ≤ 1048576) (w : World) (hx : Sts 9 w A n zs) :
    Calls Try.prog 30 #[.slice A n c, .int .i64 at_, .int .i64 inner] w fun e w' => e = .returned (.bool (arA n zs at_ inner)) ∧ New w w' := by
  have HX := Lib.hid hx
  cases hok : nodeOk n zs inner
  · have e1 : arA n zs at_ inner = false := by unfold arA; rw [hok, Bool.and_false, Bool.false_and]
    have E1 := Lib.hid e1
    have CT := Lib.hid (nodeAt_no A n c zs inner hn hok w hx)
    clear hok e1 hx
    go_enter Try.func30, Try.ntmps30
    go_wp2_with fail
    refine CT.out.mono ?_
    rintro e w1 ⟨rfl, h1⟩
    have N1 := Lib.hid h1
    clear h1
    have OT := Lib.hid (outTo_any w1.heap.size (fun _ => 0) zs 0 none at_ (fun _ => none) (fun _ => none) (fun _ => none) (fun _ => none) (fun j h => by cases h) w1 (Lnk.nil _ _ _ _ _ _ _ _))
    go_wp2_with (go_at_call 63; refine OT.out.mono ?_; rintro e w' ⟨rfl, rfl⟩; rw [show pv (fun _ => 0) (outO zs at_ none) = .pointer none from rfl])
    go_ret
    exact ⟨by rw [E1.out]; rfl, N1.out⟩
  · obtain ⟨hv, i, rfl, hi⟩ := nodeOk_iff.1 hok
    have hn16 := (vtB_iff.1 hv).1
    have OT := Lib.hid (fun (lo : Nat) (nb : Nat → Nat) (ar fi la ne : Nat → Option Nat) (W : World) (h : Lnk lo W nb zs n ar fi la ne) => outTo_any lo nb zs n (some i) at_ ar fi la ne (fun j hj => by have := Option.some.inj hj; omega) W h)
    have CT := Lib.hid (nodeAt_yes A n c i zs hv hi w hx)
    by_cases hpa : 0 ≤ at_ ∧ anc zs at_.toNat i = true
    · have e1 : arA n zs at_ (i : Int) = true := by
        have := anc_le hpa.2
        unfold arA
        rw [hok, Int.toNat_natCast, hpa.2, Bool.and_true, Bool.and_true]
        exact nodeOk_iff.2 ⟨hv, at_.toNat, by omega, by omega⟩
      have E1 := Lib.hid e1
      have EO : Hid (outO zs at_ (some i) = some at_.toNat) := Lib.hid (if_pos hpa)
      clear hok e1 hx hv hpa
      go_enter Try.func30, Try.ntmps30
      go_wp2_with fail
      refine CT.out.mono ?_
      rintro e w1 ⟨h1, nb, ar, fi, la, ne, rfl, h2⟩
      have N1 := Lib.hid h1
      have OT1 := OT.out _ nb ar fi la ne w1 h2
      rw [EO.out, pv_some, pv_some] at OT1
      have OT1 := Lib.hid OT1
      clear h1 h2
      go_wp2_with (go_at_call 63; refine OT1.out.mono ?_; rintro e w' ⟨rfl, rfl⟩)
      go_ret
      exact ⟨by rw [E1.out]; rfl, N1.out⟩
    · have e1 : arA n zs at_ (i : Int) = false := by
        unfold arA
        cases ho : nodeOk n zs at_
        · rfl
        · obtain ⟨_, j, rfl, _⟩ := nodeOk_iff.1 ho
          rw [hok, Int.toNat_natCast, Int.toNat_natCast]
          cases ha : anc zs j i
          · rfl
          · exact absurd ⟨by omega, by rw [Int.toNat_natCast]; exact ha⟩ hpa
      have E1 := Lib.hid e1
      have EO : Hid (outO zs at_ (some i) = none) := Lib.hid (if_neg hpa)
      clear hok e1 hx hv hpa
      go_enter Try.func30, Try.ntmps30
      go_wp2_with fail
      refine CT.out.mono ?_
      rintro e w1 ⟨h1, nb, ar, fi, la, ne, rfl, h2⟩
      have N1 := Lib.hid h1
      have OT1 := OT.out _ nb ar fi la ne w1 h2
      rw [EO.out, pv_some, pv_none] at OT1
      have OT1 := Lib.hid OT1
      clear h1 h2
      go_wp2_with (go_at_call 63; refine OT1.out.mono ?_; rintro e w' ⟨rfl, rfl⟩)
      go_ret
      exact ⟨by rw [E1.out]; rfl, N1.out⟩
end Go.Proofs.Ytobnjagmakhgpaa

/- Plain facts on valid trees: a beginning of a valid tree is one; how many boxes are in a box and how deep; the boxes directly in a box one behind the other. No condition. -/
namespace Go.Proofs.Ytobnjagmakhgpaa
open Go.RowKit

/-- Two lists have the same first m boxes. -/
def SameTo (ys zs : List Int) (m : Nat) : Prop := ∀ i, i < m * 9 → ys.getD i 0 = zs.getD i 0
section
variable {zs ys : List Int} {a i j k m n p t : Nat}
theorem SameTo.par (h : SameTo ys zs m) (hi : i < m) : par ys i = par zs i := h _ (by omega)
theorem SameTo.knd (h : SameTo ys zs m) (hi : i < m) : knd ys i = knd zs i := h _ (by omega)
theorem SameTo.anc (h : SameTo ys zs m) (hi : i < m) : anc ys a i = anc zs a i := by
  induction i using Nat.strongRecOn with
  | ind i ih =>
    by_cases hn : i = a
    · subst hn; rw [anc_self, anc_self]
    · rcases par_cases zs i with ⟨p, e, hp⟩ | h2
      · rw [anc_par e hp hn, anc_par ((h.par hi).trans e) hp hn]
        exact ih p hp (by omega)
      · rw [anc_top h2 hn, anc_top (by rw [h.par hi]; exact h2) hn]
theorem SameTo.dep (h : SameTo ys zs m) (hi : i < m) : dep ys i = dep zs i := by
  induction i using Nat.strongRecOn with
  | ind i ih =>
    rcases par_cases zs i with ⟨p, e, hp⟩ | h2
    · rw [dep_par e hp, dep_par ((h.par hi).trans e) hp, ih p hp (by omega)]
    · rw [dep.eq_1 ys, dif_neg (by rw [h.par hi]; exact h2), dep.eq_1 zs, dif_neg h2]
theorem SameTo.kids (h : SameTo ys zs m) (hk : k ≤ m) : kidL ys k a = kidL zs k a :=
  List.filter_congr fun i hi => by rw [h.par (by have := List.mem_range.1 hi; omega)]
theorem SameTo.box (h : SameTo ys zs m) (hi : i < m) (hb : BoxP zs i) : BoxP ys i := by
  unfold BoxP Go.Proofs.Ytobnjagmakhgpaa.knd at *
  rw [h (i * 9 + 1) (by omega), h (i * 9 + 2) (by omega), h (i * 9 + 3) (by omega), h (i * 9 + 4) (by omega), h (i * 9 + 5) (by omega), h (i * 9 + 6) (by omega), h (i * 9 + 7) (by omega), h (i * 9 + 8) (by omega)]
  exact hb
theorem SameTo.place (h : SameTo ys zs m) (hi : i < m) (hb : PlaceP zs i) : PlaceP ys i := by
  rcases Nat.eq_zero_or_pos i with h0 | h0
  · subst h0
    unfold PlaceP
    rw [if_pos rfl, h.par hi]
    exact hb.zero
  · obtain ⟨p, e, hp, h1, h2, h3, h4⟩ := hb.pos h0
    unfold PlaceP
    rw [if_neg (by omega), h.par hi, e, Int.toNat_natCast, h.anc (by omega), h.knd (by omega), h.kids (by omega), h.dep (by omega)]
    exact ⟨⟨by omega, hp⟩, h1, h2, h3, h4⟩
theorem vt_pref (h : vtB n zs = true) (h1 : 1 ≤ m) (hm : m ≤ n) (hs : SameTo ys zs m) : vtB m ys = true := by
  obtain ⟨h2, h3⟩ := vtB_iff.1 h
  exact vtB_iff.2 ⟨by omega, fun i hi => ⟨hs.box hi (h3 i (by omega)).1, hs.place hi (h3 i (by omega)).2⟩⟩
theorem take_same (zs : List Int) (m : Nat) : SameTo (zs.take (m * 9)) zs m := fun i hi => by
  rw [List.getD_eq_getElem?_getD, List.getElem?_take_of_lt hi, ← List.getD_eq_getElem?_getD]
theorem kids_le (h : vtB n zs = true) : (kidL zs n a).length ≤ 8 := by
  by_cases hk : kidL zs n a = []
  · rw [hk]; exact Nat.zero_le _
  · obtain ⟨l, h1, h2, h3⟩ := kid_last hk
    obtain ⟨_, h4⟩ := vtB_iff.1 h
    rcases Nat.eq_zero_or_pos l with h0 | h0
    · subst h0; have := (h4 0 h1).2.zero; omega
    · obtain ⟨p, e, hp, _, _, h5, _⟩ := (h4 l h1).2.pos h0
      obtain rfl : p = a := by omega
      omega
theorem dep_le5 (h : vtB n zs = true) (hi : i < n) : dep zs i ≤ 5 := by
  obtain ⟨_, h4⟩ := vtB_iff.1 h
  rcases Nat.eq_zero_or_pos i with h0 | h0
  · subst h0; rw [dep_top (by have := (h4 0 hi).2.zero; omega)]; omega
  · obtain ⟨p, e, hp, _, _, _, h5⟩ := (h4 i hi).2.pos h0
    rw [dep_par e hp]; omega
theorem kid_kind (h : vtB n zs = true) (hj : j ∈ kidL zs n a) : knd zs a ≠ 0 := by
  obtain ⟨_, h4⟩ := vtB_iff.1 h
  obtain ⟨h1, h2⟩ := kid_mem.1 hj
  obtain ⟨h3, _⟩ := (link_vt h).not_kid h1 h2
  obtain ⟨p, e, hp, _, h5, _⟩ := (h4 j h1).2.pos h3
  obtain rfl : p = a := by omega
  exact h5
theorem kid_pref (hi : i < n) (e : par zs i = (a : Int)) : ∃ rest, kidL zs n a = kidL zs i a ++ i :: rest := by
  induction n with
  | zero => omega
  | succ n ih =>
    rw [kid_succ]
    rcases Nat.lt_or_ge i n with h1 | h1
    · obtain ⟨r, hr⟩ := ih h1
      split
      · exact ⟨r ++ [n], by rw [hr]; simp⟩
      · exact ⟨r, hr⟩
    · obtain rfl : i = n := by omega
      rw [if_pos e]
      exact ⟨[], rfl⟩
theorem kid_nth (hi : i < n) (e : par zs i = (a : Int)) : (kidL zs i a).length < (kidL zs n a).length ∧ (kidL zs n a).getD (kidL zs i a).length 0 = i := by
  obtain ⟨r, hr⟩ := kid_pref hi e
  rw [hr]
  refine ⟨by simp, by simp [List.getD_eq_getElem?_getD]⟩
theorem kid_at (n : Nat) (zs : List Int) (a t : Nat) : ((kidL zs n a).map Int.ofNat).getD t 0 = (((kidL zs n a).getD t 0 : Nat) : Int) := by
  rw [List.getD_eq_getElem?_getD, List.getD_eq_getElem?_getD, List.getElem?_map]
  cases (kidL zs n a)[t]? <;> rfl
theorem kid_get (ht : t < (kidL zs n a).length) : (kidL zs n a).getD t 0 ∈ kidL zs n a := by
  rw [List.getD_eq_getElem?_getD, List.getElem?_eq_getElem ht]
  exact List.getElem_mem ht
theorem kid_next (h : Link zs n) (ha : a < n) (ht : t < (kidL zs n a).length) : en zs n ((kidL zs n a).getD t 0) = if t + 1 < (kidL zs n a).length then (kidL zs n a).getD (t + 1) 0 else en zs n a := by
  have hs : kidL zs n a = (kidL zs n a).take t ++ (kidL zs n a).getD t 0 :: (kidL zs n a).drop (t + 1) := by
    rw [List.getD_eq_getElem?_getD, List.getElem?_eq_getElem ht]
    simp
  rw [h.next_kid ha hs, List.head?_drop]
  split
  · rw [List.getD_eq_getElem?_getD, List.getElem?_eq_getElem (by assumption)]; rfl
  · rw [List.getElem?_eq_none (by omega)]; rfl
theorem kid_first (h : Link zs n) (ha : a < n) : (if 0 < (kidL zs n a).length then (kidL zs n a).getD 0 0 else en zs n a) = a + 1 := by
  cases hk : kidL zs n a with
  | nil => simp; exact h.no_kid ha hk
  | cons j r => simp; exact h.first_kid ha hk
theorem en_root (h : Link zs n) (hn : 0 < n) : en zs n 0 = n := by
  have h1 := en_bd (zs := zs) (k := n) (a := 0) hn
  rcases Nat.lt_or_ge (en zs n 0) n with h2 | h2
  · have := (h.in_iff hn h2).1 (h.root_anc h2)
    omega
  · omega
/-- The boxes of a valid tree are numbered from 0. -/
theorem par_bd (h : vtB n zs = true) (hi : i < n) (h0 : 0 < i) : ∃ p : Nat, par zs i = (p : Int) ∧ p < i := by
  obtain ⟨p, e, hp, _⟩ := ((vtB_iff.1 h).2 i hi).2.pos h0
  exact ⟨p, e, hp⟩
theorem par_root (h : vtB n zs = true) (hn : 0 < n) : par zs 0 = -1 := ((vtB_iff.1 h).2 0 hn).2.zero
/-- What the answers are in a valid tree. -/
theorem depA_at (h : vtB n zs = true) (hi : i < n) : depA n zs (i : Int) = (dep zs i : Int) := by
  unfold depA; rw [if_pos (nodeOk_iff.2 ⟨h, i, rfl, hi⟩), Int.toNat_natCast]
theorem cntA_at (h : vtB n zs = true) (hi : i < n) : cntA n zs (i : Int) = (en zs n i : Int) - (i : Int) := by
  unfold cntA; rw [if_pos (nodeOk_iff.2 ⟨h, i, rfl, hi⟩), Int.toNat_natCast]
theorem arA_at (h : vtB n zs = true) (ha : a < n) (hi : i < n) : arA n zs (a : Int) (i : Int) = anc zs a i := by
  unfold arA; rw [nodeOk_iff.2 ⟨h, i, rfl, hi⟩, nodeOk_iff.2 ⟨h, a, rfl, ha⟩, Int.toNat_natCast, Int.toNat_natCast]; rfl
theorem kidsA_at (h : vtB n zs = true) (ha : a < n) : kidsA n zs (a : Int) = (kidL zs n a).map Int.ofNat := by
  unfold kidsA; rw [if_pos (nodeOk_iff.2 ⟨h, a, rfl, ha⟩), Int.toNat_natCast]
theorem depA_no {at_ : Int} (h : nodeOk n zs at_ = false) : depA n zs at_ = -1 := by unfold depA; rw [h]; rfl
theorem cntA_no {at_ : Int} (h : nodeOk n zs at_ = false) : cntA n zs at_ = -1 := by unfold cntA; rw [h]; rfl
theorem kidsA_no {at_ : Int} (h : nodeOk n zs at_ = false) : kidsA n zs at_ = [] := by unfold kidsA; rw [h]; rfl
end
end Go.Proofs.Ytobnjagmakhgpaa
