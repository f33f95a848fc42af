/- slices.IndexFunc and slices.DeleteFunc on a list of the call's own, over the predicate of CleanBox, walked. Conditions: the tree can be read. -/
import Derived.Test.YtkaagpfgpacfcaaDirtyZ
import Derived.Lib.SliceRun
import Derived.Laws.IdiomCopy
namespace Go.Proofs.Ytkaagpfgpacfcaa
open Go.RowKit

/-- The predicate of CleanBox in the world w: it answers with p, and only lays new memory. -/
def CleanP (w : World) (g q1 q2 : Nat) (p : Int → Bool) : Prop :=
  ∀ (W : World), w.grownBy W (some g) → ∀ x : Int, Calls Try.prog 61 #[.int .i64 x, .pointer (some ⟨q1, 0, none⟩), .pointer (some ⟨q2, 0, none⟩)] W fun e W' => e = .returned (.bool (p x)) ∧ New W W'
set_option maxHeartbeats 1000000 in
theorem IndexFunc_any (A : Option Addr) (n c g q1 q2 : Nat) (p : Int → Bool) (xs : List Int) (hn : n ≤ 1000) (w : World) (hx : Ints w A n xs) (hp : CleanP w g q1 q2 p) :
    Calls Try.prog 95 #[.slice A n c, .func (.func 61) #[] #[.pointer (some ⟨q1, 0, none⟩), .pointer (some ⟨q2, 0, none⟩)]] w fun e w' => New w w' ∧
      ((e = .returned (.int .i64 (-1)) ∧ ∀ i, i < n → p (xs.getD i 0) = false) ∨ ∃ k, k < n ∧ e = .returned (.int .i64 (k : Int)) ∧ (∀ i, i < k → p (xs.getD i 0) = false) ∧ p (xs.getD k 0) = true) := by
  have HX := Lib.hid hx; have HP := Lib.hid hp
  have n1 : (n : Int) ≤ 1000 := by omega
  clear hx hp
  go_enter Try.func95, Try.ntmps95
  go_wp2
  go_loopw [8] (fun i wr => ∃ k : Nat, k ≤ n ∧ i = .int .i64 (k : Int) ∧ Hid (New w wr) ∧ Hid (∀ i, i < k → p (xs.getD i 0) = false)) (fun i _ => n - (intOf i).toNat)
  case atStart => exact ⟨0, Nat.zero_le _, rfl, Lib.hid (New.refl _), Lib.hid (fun i h => absurd h (by omega))⟩
  case round =>
    obtain ⟨k, hk, rfl, HN, HA⟩ := hrel
    have k0 : (0 : Int) ≤ (k : Int) := by omega
    by_cases hlt : k < n
    · have k1 : (k : Int) < (n : Int) := by omega
      obtain ⟨b, off, rfl, hb, hc⟩ := HX.out.at_ (by omega)
      have g1 := (HN.out.cells b _ hb).trans (hc k hlt)
      obtain ⟨x, hxk⟩ : ∃ x, xs.getD k 0 = x := ⟨_, rfl⟩
      rw [hxk] at g1
      have HK := Lib.hid hxk
      have CP := Lib.hid (HP.out wr (HN.out.grown _) x)
      clear hc hb hxk
      cases hpx : p x
      · rw [hpx] at CP
        have HA2 : Hid (∀ i, i < k + 1 → p (xs.getD i 0) = false) := Lib.hid (fun i hi => by
          by_cases e : i = k
          · subst e; rw [HK.out]; exact hpx
          · exact HA.out i (by omega))
        go_wp2_with fail
        refine CP.out.mono ?_
        rintro e w2 ⟨rfl, h2⟩
        have N2 := Lib.hid (HN.out.trans h2)
        clear h2
        go_wp2
        go_roundw
        case rel => exact ⟨k + 1, by omega, by go_num, N2, HA2⟩
        case measure => simp [intOf]; omega
      · rw [hpx] at CP
        go_wp2_with fail
        refine CP.out.mono ?_
        rintro e w2 ⟨rfl, h2⟩
        have N2 := Lib.hid (HN.out.trans h2)
        clear h2
        go_wp2
        go_ret
        exact ⟨N2.out, .inr ⟨k, hlt, rfl, HA.out, by rw [HK.out]; exact hpx⟩⟩
    · obtain rfl : n = k := by omega
      go_wp2
      go_ret
      exact ⟨HN.out, .inl ⟨rfl, HA.out⟩⟩
theorem Row.take {w : World} {g : Nat} {l : List Int} (h : Row w g l) (k : Nat) : Row w g (l.take k) :=
  ⟨h.lt, fun i hi => by
    rw [List.length_take] at hi
    rw [h.c i (by omega), List.getD_eq_getElem?_getD, List.getD_eq_getElem?_getD, List.getElem?_take_of_lt (by omega)], fun i hi => by
    rw [List.length_take] at hi
    exact h.f i (by omega)⟩
theorem grown_setCells {g : Nat} : ∀ (vs : List Value) (o : Nat) {w0 w : World}, w0.grownBy w (some g) → w0.grownBy (w.setCells g o vs) (some g)
  | [], _, _, _, h => h
  | v :: vs, o, _, _, h => grown_setCells vs (o + 1) (own_set h v (k := o))
theorem Row.cleared {w : World} {g k o : Nat} {l : List Int} {vs : List Value} (h : Row w g l) (hk : l.length = k) (ho : k ≤ o) : Row (w.setCells g o vs) g l :=
  ⟨Nat.lt_of_lt_of_le h.lt (grown_setCells vs o (World.grownBy.refl w (some g))).size, fun i hi => by
    rw [World.cell?_setCells_out g vs o w ⟨g, i, none⟩ (fun _ _ => .inl (show i < o by omega))]; exact h.c i hi, fun i hi => by
    rw [World.frozen?_setCells g vs o w ⟨g, i, none⟩]; exact h.f i hi⟩
/-- What DeleteFunc has done so far. -/
structure DelTo (p : Int → Bool) (xs : List Int) (i j : Nat) (l : List Int) : Prop where
  len : l.length = xs.length
  ij : i < j
  head : l.take i = (xs.take j).filter fun x => !p x
  tail : ∀ t, j ≤ t → l.getD t 0 = xs.getD t 0
theorem take_snoc {xs : List Int} {k : Nat} (h : k < xs.length) : xs.take (k + 1) = xs.take k ++ [xs.getD k 0] := by
  rw [List.take_add_one, List.getD_eq_getElem?_getD, List.getElem?_eq_getElem h]; rfl
theorem DelTo.begin {p : Int → Bool} {xs : List Int} {k : Nat} (hk : k < xs.length) (h : ∀ i, i < k → p (xs.getD i 0) = false) (hp : p (xs.getD k 0) = true) : DelTo p xs k (k + 1) xs := by
  refine ⟨rfl, Nat.lt_succ_self k, ?_, fun _ _ => rfl⟩
  rw [take_snoc hk, List.filter_append, List.filter_eq_self.2, List.filter_cons_of_neg (by rw [hp]; simp)]
  · simp
  · intro x hx
    obtain ⟨i, hi, rfl⟩ := List.getElem_of_mem hx
    have hi2 : i < k := by rw [List.length_take] at hi; omega
    have := h i hi2
    rw [List.getElem_take]
    rw [List.getD_eq_getElem?_getD, List.getElem?_eq_getElem (by omega)] at this
    simpa using this
theorem DelTo.drop {p : Int → Bool} {xs l : List Int} {i j : Nat} (h : DelTo p xs i j l) (hj : j < xs.length) (hp : p (xs.getD j 0) = true) : DelTo p xs i (j + 1) l :=
  ⟨h.len, Nat.lt_succ_of_lt h.ij, by rw [h.head, take_snoc hj, List.filter_append, List.filter_cons_of_neg (by rw [hp]; simp)]; simp, fun t ht => h.tail t (by omega)⟩
theorem DelTo.keep {p : Int → Bool} {xs l : List Int} {i j : Nat} (h : DelTo p xs i j l) (hj : j < xs.length) (hp : p (xs.getD j 0) = false) : DelTo p xs (i + 1) (j + 1) (l.set i (xs.getD j 0)) := by
  have hl := h.len; have hij := h.ij
  refine ⟨by rw [List.length_set]; exact hl, by omega, ?_, fun t ht => ?_⟩
  · rw [take_snoc (by rw [List.length_set]; omega), List.take_set_of_le (Nat.le_refl i), h.head, take_snoc hj, List.filter_append, List.filter_cons_of_pos (by rw [hp]; rfl), getD_set_same (by omega)]
    rfl
  · rw [getD_set_other (by omega)]; exact h.tail t (by omega)
set_option maxRecDepth 4000 in
set_option maxHeartbeats 2000000 in
theorem DeleteFunc_any (g n c q1 q2 : Nat) (p : Int → Bool) (xs : List Int) (hl : xs.length = n) (hn : n ≤ 1000) (hnc : n ≤ c) (w : World) (R : Row w g xs) (hp : CleanP w g q1 q2 p) :
    Calls Try.prog 63 #[.slice (some ⟨g, 0, none⟩) n c, .func (.func 61) #[] #[.pointer (some ⟨q1, 0, none⟩), .pointer (some ⟨q2, 0, none⟩)]] w fun e w' =>
      ∃ k, e = .returned (.slice (some ⟨g, 0, none⟩) k c) ∧ (xs.filter fun x => !p x).length = k ∧ k ≤ n ∧ Row w' g (xs.filter fun x => !p x) ∧ w.grownBy w' (some g) := by
  have HR := Lib.hid R; have HP := Lib.hid hp; have HL := Lib.hid hl
  have CT := Lib.hid (IndexFunc_any (some ⟨g, 0, none⟩) n c g q1 q2 p xs hn w (hl ▸ R.ints) hp)
  have n1 : (n : Int) ≤ 1000 := by omega
  have nc : (n : Int) ≤ (c : Int) := by omega
  clear R hp hl
  go_enter Try.func63, Try.ntmps63
  go_wp2_with fail
  refine CT.out.mono ?_
  rintro e w1 ⟨N1, ⟨rfl, hall⟩ | ⟨k, hk, rfl, hbe, hpk⟩⟩
  · have e0 : (xs.filter fun x => !p x) = xs := List.filter_eq_self.2 fun x hx => by
      obtain ⟨i, hi, rfl⟩ := List.getElem_of_mem hx
      have := hall i (by rw [← HL.out]; exact hi)
      rw [List.getD_eq_getElem?_getD, List.getElem?_eq_getElem hi] at this
      simpa using this
    have E0 := Lib.hid e0; have N1 := Lib.hid N1
    clear e0 hall
    go_wp2
    go_ret
    rw [E0.out]
    exact ⟨n, rfl, HL.out, Nat.le_refl _, HR.out.new N1.out, N1.out.grown _⟩
  · have D0 := Lib.hid (DelTo.begin (by rw [HL.out]; exact hk) hbe hpk)
    have R1 := Lib.hid (HR.out.new N1); have G1 := Lib.hid (N1.grown (some g))
    have k0 : (0 : Int) ≤ (k : Int) := by omega
    have kb : ((k : Int) == -1) = false := by simp
    have k1 : (k : Int) ≤ 1000 := by omega
    clear N1 hbe hpk
    go_wp2
    go_loopw [5, 6] (fun iv jv wr => ∃ (i j : Nat) (l : List Int), j ≤ n ∧ iv = .int .i64 (i : Int) ∧ jv = .int .i64 (j : Int) ∧ Hid (DelTo p xs i j l) ∧ Hid (Row wr g l) ∧ Hid (w.grownBy wr (some g))) (fun _ jv _ => n - (intOf jv).toNat)
    case atStart => exact ⟨k, k + 1, xs, by omega, rfl, by go_num, D0, R1, G1⟩
    case round =>
      obtain ⟨i, j, l, hj, rfl, rfl, HD, HW, HG⟩ := hrel
      have hij := HD.out.ij
      have ln : l.length = n := HD.out.len.trans HL.out
      have LN := Lib.hid ln
      have i0 : (0 : Int) ≤ (i : Int) := by omega
      have j0 : (0 : Int) ≤ (j : Int) := by omega
      have in_ : (i : Int) < (n : Int) := by omega
      by_cases hlt : j < n
      · have j1 : (j : Int) < (n : Int) := by omega
        have c1 := HW.out.c j (by rw [ln]; exact hlt)
        rw [HD.out.tail j (Nat.le_refl _)] at c1
        obtain ⟨x, hxj⟩ : ∃ x, xs.getD j 0 = x := ⟨_, rfl⟩
        rw [hxj] at c1
        have HXJ := Lib.hid hxj
        have CP := Lib.hid (HP.out wr HG.out x)
        clear hxj ln
        cases hpx : p x
        · rw [hpx] at CP
          go_wp2_with fail
          refine CP.out.mono ?_
          rintro e w2 ⟨rfl, h2⟩
          have R2 := HW.out.new h2
          have f2 := R2.f i (by rw [LN.out]; omega); have o2 := R2.c i (by rw [LN.out]; omega)
          generalize l.getD i 0 = old at o2
          have R3 := Lib.hid (R2.set_ (k := i) (by rw [LN.out]; omega) x)
          have D3 := Lib.hid (HXJ.out ▸ HD.out.keep (by rw [HL.out]; exact hlt) (by rw [HXJ.out]; exact hpx))
          have G3 := Lib.hid (own_set (HG.out.trans (h2.grown _)) (.int .i64 x) (k := i))
          clear h2 R2
          go_wp2
          go_roundw
          case rel => exact ⟨i + 1, j + 1, _, by omega, by go_num, by go_num, D3, R3, G3⟩
          case measure => simp [intOf]; omega
        · rw [hpx] at CP
          have D3 := Lib.hid (HD.out.drop (by rw [HL.out]; exact hlt) (by rw [HXJ.out]; exact hpx))
          go_wp2_with fail
          refine CP.out.mono ?_
          rintro e w2 ⟨rfl, h2⟩
          have R3 := Lib.hid (HW.out.new h2); have G3 := Lib.hid (HG.out.trans (h2.grown _))
          clear h2
          go_wp2
          go_roundw
          case rel => exact ⟨i, j + 1, l, by omega, rfl, by go_num, D3, R3, G3⟩
          case measure => simp [intOf]; omega
      · obtain rfl : n = j := by omega
        have hcl : ∀ ty, (Builtin.clear_ #[23] ty #[.slice (some ⟨g, i, none⟩) (n - i) (c - i)]).run Try.prog wr = .ok (.tuple #[]) (wr.setCells g i (List.replicate (n - i) (.int .i64 0))) :=
          fun ty => Lib.run_clear_slice wr _ _ ty (.int .i64 0) Try.underlying23 (fun _ => rfl) rfl rfl g i _ _ (by omega) (fun t ht => by rw [HW.out.c (i + t) (by rw [LN.out]; omega)]; rfl) (fun t ht => HW.out.f (i + t) (by rw [LN.out]; omega))
        have hd := HD.out.head
        rw [List.take_of_length_le (show xs.length ≤ n by rw [HL.out]; exact Nat.le_refl _)] at hd
        have ic : (i : Int) ≤ (c : Int) := by omega
        have in2 : (i : Int) ≤ (n : Int) := by omega
        have RT := Lib.hid ((HW.out.take i).cleared (k := i) (o := i) (vs := List.replicate (n - i) (.int .i64 0)) (by rw [List.length_take, LN.out]; omega) (Nat.le_refl _))
        have GT := Lib.hid (grown_setCells (List.replicate (n - i) (.int .i64 0)) i HG.out)
        have HDD := Lib.hid hd
        clear hd ln
        go_wp2
        go_ret
        refine ⟨i, rfl, by rw [← HDD.out, List.length_take, LN.out]; omega, by omega, ?_, GT.out⟩
        rw [← HDD.out]
        exact RT.out
end Go.Proofs.Ytkaagpfgpacfcaa
