/- Lists of pairs of numbers, each pair a slice of its own: read, compared, marked. Conditions: the lists can be read, or lie between two marks. -/
import Derived.Test.YtmpbghepcjcnjaaSts
namespace Go.Proofs.Ytmpbghepcjcnjaa
open Go.RowKit

/-- A list of n slices in block g, the slice i of two numbers in block h i; all between two marks; zs: the numbers, pair by pair. -/
structure PrG (lo hi : Nat) (w : World) (g : Nat) (h : Nat → Nat) (n : Nat) (zs : List Int) : Prop where
  g0 : lo ≤ g
  g1 : g < hi
  c : ∀ i, i < n → w.cell? ⟨g, i, none⟩ = some (.slice (some ⟨h i, 0, none⟩) 2 2)
  h0 : ∀ i, i < n → lo ≤ h i
  h1 : ∀ i, i < n → h i < hi
  hg : ∀ i, i < n → h i ≠ g
  inj : ∀ i j, i < n → j < n → h i = h j → i = j
  r : ∀ i, i < n → Row w (h i) [zs.getD (i * 2) 0, zs.getD (i * 2 + 1) 0]
def Prs (lo hi : Nat) (w : World) (A : Option Addr) (n : Nat) (zs : List Int) : Prop := hi ≤ w.heap.size ∧ (0 < n → ∃ g h, A = some ⟨g, 0, none⟩ ∧ PrG lo hi w g h n zs)
section
variable {lo hi lo' hi' n g : Nat} {h : Nat → Nat} {w w1 : World} {A : Option Addr} {zs : List Int}
theorem PrG.chg (p : PrG lo hi w g h n zs) (hl : hi ≤ w.heap.size) (k : Chg lo' hi' w w1) (hd : hi ≤ lo' ∨ hi' ≤ lo) : PrG lo hi w1 g h n zs :=
  ⟨p.g0, p.g1, fun i hi => (World.cell?_of_block (k.block g (by have := p.g1; omega) (by have := p.g0; have := p.g1; omega))).trans (p.c i hi), p.h0, p.h1, p.hg, p.inj,
    fun i hi => (p.r i hi).chg k (by have := p.h0 i hi; have := p.h1 i hi; omega)⟩
theorem Prs.chg (p : Prs lo hi w A n zs) (k : Chg lo' hi' w w1) (hd : hi ≤ lo' ∨ hi' ≤ lo) : Prs lo hi w1 A n zs :=
  ⟨Nat.le_trans p.1 k.size, fun h0 => by obtain ⟨g, h, e, q⟩ := p.2 h0; exact ⟨g, h, e, q.chg p.1 k hd⟩⟩
theorem Prs.new (p : Prs lo hi w A n zs) (k : New w w1) : Prs lo hi w1 A n zs :=
  ⟨Nat.le_trans p.1 k.size, fun h0 => by obtain ⟨g, h, e, q⟩ := p.2 h0; exact ⟨g, h, e, q.chg p.1 (k.chg w.heap.size w.heap.size) (Or.inl p.1)⟩⟩
theorem Prs.le (p : Prs lo hi w A n zs) : hi ≤ w.heap.size := p.1
theorem PrG.pair (p : PrG lo hi w g h n zs) {i : Nat} (hi : i < n) (hN : New w w1) : Ints w1 (some ⟨h i, 0, none⟩) 2 [zs.getD (i * 2) 0, zs.getD (i * 2 + 1) 0] := ((p.r i hi).new hN).ints
end
/-- An answer that is a list of pairs of its own. -/
def AnsP (w : World) (zs : List Int) (e : Ending) (w' : World) : Prop :=
  ∃ (A : Option Addr) (n c : Nat), e = .returned (.slice A n c) ∧ zs.length = n * 2 ∧ Prs w.heap.size w'.heap.size w' A n zs ∧ New w w'
theorem AnsP.none_ {w w' : World} {e : Ending} (he : e = .returned (.slice none 0 0)) (hN : New w w') : AnsP w [] e w' := ⟨_, 0, 0, he, rfl, ⟨Nat.le_refl _, fun h => absurd h (by omega)⟩, hN⟩
set_option maxRecDepth 100000 in
set_option maxHeartbeats 2000000 in
theorem eqPrs_any (lo hi lo2 hi2 : Nat) (A B : Option Addr) (n m c d : Nat) (zs : List Int) (hn : n ≤ 1048576) (hnm : n = m) (w : World) (hx : Prs lo hi w A n zs) (hy : Prs lo2 hi2 w B m zs) :
    Calls Try.prog 31 #[.slice A n c, .slice B m d] w fun e w' => e = .returned (.bool true) ∧ New w w' := by
  subst hnm
  have HX := Lib.hid hx; have HY := Lib.hid hy
  clear hx hy
  go_enter Try.func31, Try.ntmps31
  go_wp2
  go_loopw [5] (fun i wr => ∃ k : Nat, k ≤ n ∧ i = .int .i64 k ∧ Hid (New w wr)) (fun i _ => n - (intOf i).toNat)
  case atStart => exact ⟨0, Nat.zero_le _, rfl, Lib.hid (New.refl _)⟩
  case round =>
    obtain ⟨k, hk, rfl, HN⟩ := hrel
    by_cases hlt : k < n
    · obtain ⟨g, h, rfl, P⟩ := HX.out.2 (by omega)
      obtain ⟨g', h', rfl, P'⟩ := HY.out.2 (by omega)
      have g0 := (HN.out.cells g k (by have := P.g1; have := HX.out.1; omega)).trans (P.c k hlt)
      have g0' := (HN.out.cells g' k (by have := P'.g1; have := HY.out.1; omega)).trans (P'.c k hlt)
      have I1 := Lib.hid (fun W (hW : New w W) => P.pair hlt hW)
      have I2 := Lib.hid (fun W (hW : New w W) => P'.pair hlt hW)
      clear P P'
      generalize h k = a at *
      generalize h' k = a' at *
      have k0 : (0 : Int) ≤ (k : Int) := by omega
      have k1 : (k : Int) < (n : Int) := by omega
      go_wp2
      go_still_tail 8, (by kernel_rfl)
      change wpList _ _ _ _ _ wr.drew
      have HN1 := Lib.hid HN.out.drew
      generalize wr.drew = w1 at HN1 ⊢
      go_wp2_with fail
      refine (eqIntS_any _ _ 2 2 _ _ _ _ (by omega) (by omega) _ (I1.out _ HN1.out) (I2.out _ HN1.out)).mono ?_
      rw [decide_eq_true rfl]
      rintro e w2 ⟨rfl, h2⟩
      have HN2 := Lib.hid (HN1.out.trans h2)
      clear h2
      go_wp2
      go_roundw
      case rel => exact ⟨k + 1, by omega, by go_num, HN2⟩
      case measure => simp [intOf]; omega
    · obtain rfl : n = k := by omega
      go_wp2
      go_ret
      exact ⟨rfl, HN.out⟩
theorem markPrs_none (A : Option Addr) (c : Nat) (k0 : Int) (w : World) : Calls Try.prog 32 #[.slice A 0 c, .int .i64 k0] w fun e w' => e = .returned (.int .i64 k0) ∧ w = w' := by
  go_enter Try.func32, Try.ntmps32
  go_wp2
  go_loopw [1, 5] (fun s i wr => s = .int .i64 k0 ∧ i = .int .i64 0 ∧ wr = w) (fun _ _ _ => 0)
  case atStart => exact ⟨rfl, rfl, rfl⟩
  case round =>
    obtain ⟨rfl, rfl, rfl⟩ := hrel
    go_wp2
    go_ret
    exact ⟨rfl, rfl⟩
theorem markTo_get (k0 : Int) (k i : Nat) (zs : List Int) : (markTo k0 k zs).getD i 0 = if i < k then k0 + (i : Int) else zs.getD i 0 := by
  unfold markTo
  rw [List.getD_eq_getElem?_getD]
  split
  · next h => rw [List.getElem?_append_left (by rw [marks_len]; exact h), ← List.getD_eq_getElem?_getD, marks_at _ _ _ h]
  · next h => rw [List.getElem?_append_right (by rw [marks_len]; omega), marks_len, List.getElem?_drop, ← List.getD_eq_getElem?_getD, show k + (i - k) = i by omega]
theorem marks_two (k : Int) : marks k 2 = [k + (0 : Nat), k + (1 : Nat)] := rfl
theorem PrG.mark {lo hi : Nat} {w w' : World} {g n k : Nat} {h : Nat → Nat} {zs : List Int} {k0 : Int} (p : PrG lo hi w g h n (markTo k0 (k * 2) zs)) (hl : hi ≤ w.heap.size) (hk : k < n) (hR : Row w' (h k) (marks (k0 + (k : Int) * 2) 2)) (hG : w.grownBy w' (some (h k))) : PrG lo hi w' g h n (markTo k0 ((k + 1) * 2) zs) := by
  refine ⟨p.g0, p.g1, fun i hi => (World.cell?_of_block (hG.block g (by have := p.g1; omega) (fun e => p.hg k hk (Option.some.inj e).symm))).trans (p.c i hi), p.h0, p.h1, p.hg, p.inj, fun i hi => ?_⟩
  by_cases e : i = k
  · subst e
    rw [markTo_get, if_pos (by omega), markTo_get, if_pos (by omega)]
    rw [marks_two] at hR
    rw [show k0 + ((i * 2 : Nat) : Int) = k0 + (i : Int) * 2 + ((0 : Nat) : Int) by omega, show k0 + ((i * 2 + 1 : Nat) : Int) = k0 + (i : Int) * 2 + ((1 : Nat) : Int) by omega]
    exact hR
  · have r := p.r i hi
    rw [markTo_get, markTo_get] at r
    rw [markTo_get, markTo_get]
    have hne : h i ≠ h k := fun e2 => e (p.inj i k hi hk e2)
    have r2 : Row w' (h i) _ := ⟨Nat.lt_of_lt_of_le r.lt hG.size, fun j hj => (World.cell?_of_block (hG.block _ r.lt (fun e => hne (Option.some.inj e)))).trans (r.c j hj), fun j hj => (World.frozen?_of_block (w := w) (hG.block _ r.lt (fun e => hne (Option.some.inj e)))).trans (r.f j hj)⟩
    by_cases hik : i < k
    · rw [if_pos (by omega), if_pos (by omega)] at r2
      rw [if_pos (by omega), if_pos (by omega)]
      exact r2
    · rw [if_neg (by omega), if_neg (by omega)] at r2
      rw [if_neg (by omega), if_neg (by omega)]
      exact r2
set_option maxHeartbeats 2000000 in
theorem markPrs_any (lo hi : Nat) (A : Option Addr) (n c : Nat) (zs : List Int) (k0 : Int) (h0 : 0 ≤ k0) (h1 : k0 ≤ 1000000) (hn : n ≤ 1048576) (hz : zs.length = n * 2) (w : World) (hx : Prs lo hi w A n zs) :
    Calls Try.prog 32 #[.slice A n c, .int .i64 k0] w fun e w' => e = .returned (.int .i64 (k0 + ((n * 2 : Nat) : Int))) ∧ Prs lo hi w' A n (marks k0 (n * 2)) ∧ Chg lo hi w w' := by
  rcases Nat.eq_zero_or_pos n with rfl | hp
  · refine (markPrs_none A c k0 w).mono ?_
    rintro e w' ⟨rfl, rfl⟩
    exact ⟨by simp, ⟨hx.1, fun h => absurd h (by omega)⟩, Chg.refl _ _ _⟩
  · obtain ⟨g, h, rfl, P⟩ := hx.2 hp
    have HP := Lib.hid P; have HL := Lib.hid hx.1; have HZ := Lib.hid hz
    clear hx hz P
    go_enter Try.func32, Try.ntmps32
    go_wp2
    go_loopw [1, 5] (fun s i wr => ∃ k : Nat, k ≤ n ∧ i = .int .i64 k ∧ s = .int .i64 (k0 + (k : Int) * 2) ∧ Hid (PrG lo hi wr g h n (markTo k0 (k * 2) zs)) ∧ Hid (Chg lo hi w wr)) (fun _ i _ => n - (intOf i).toNat)
    case atStart => exact ⟨0, Nat.zero_le _, rfl, by simp, Lib.hid (by simpa [markTo, marks] using HP.out), Lib.hid (Chg.refl _ _ _)⟩
    case round =>
      obtain ⟨k, hk, rfl, rfl, HQ, HC⟩ := hrel
      have k00 : (0 : Int) ≤ (k : Int) := by omega
      by_cases hlt : k < n
      · have k1 : (k : Int) < (n : Int) := by omega
        have g0 := HQ.out.c k hlt
        have C1 := Lib.hid (fun W (hW : W = wr) => markIntS_any (h k) 2 2 _ (k0 + (k : Int) * 2) (by omega) (by omega) (by omega) rfl W (hW ▸ HQ.out.r k hlt))
        have hh0 := HQ.out.h0 k hlt; have hh1 := HQ.out.h1 k hlt
        go_wp2_with (go_at_call 24; refine (C1.out _ rfl).mono ?_; rintro e w2 ⟨rfl, R2, G2⟩; have R2 := Lib.hid R2; have G2 := Lib.hid G2)
        go_roundw
        case rel => exact ⟨k + 1, by omega, by go_num, by go_num, Lib.hid (HQ.out.mark (Nat.le_trans HL.out HC.out.size) hlt R2.out G2.out), Lib.hid (HC.out.trans (Chg.of_grown G2.out hh0 hh1))⟩
        case measure => simp [intOf]; omega
      · obtain rfl : n = k := by omega
        go_wp2
        go_ret
        have e : markTo k0 (n * 2) zs = marks k0 (n * 2) := by rw [← HZ.out]; exact markTo_all k0 zs
        exact ⟨ret_int (by omega), ⟨Nat.le_trans HL.out HC.out.size, fun _ => ⟨g, h, rfl, by rw [← e]; exact HQ.out⟩⟩, HC.out⟩
set_option maxHeartbeats 2000000 in
theorem heldPrs_any (lo hi : Nat) (A : Option Addr) (n c : Nat) (k0 : Int) (h0 : 0 ≤ k0) (h1 : k0 ≤ 1000000) (hn : n ≤ 1048576) (w : World) (hx : Prs lo hi w A n (marks k0 (n * 2))) :
    Calls Try.prog 33 #[.slice A n c, .int .i64 k0] w fun e w' => e = .returned (.int .i64 (k0 + ((n * 2 : Nat) : Int))) ∧ w = w' := by
  have HX := Lib.hid hx
  clear hx
  go_enter Try.func33, Try.ntmps33
  go_wp2
  go_loopw [1, 5] (fun s i wr => ∃ k : Nat, k ≤ n ∧ i = .int .i64 k ∧ s = .int .i64 (k0 + (k : Int) * 2) ∧ wr = w) (fun _ i _ => n - (intOf i).toNat)
  case atStart => exact ⟨0, Nat.zero_le _, rfl, by simp, rfl⟩
  case round =>
    obtain ⟨k, hk, rfl, rfl, rfl⟩ := hrel
    have k00 : (0 : Int) ≤ (k : Int) := by omega
    by_cases hlt : k < n
    · obtain ⟨g, h, rfl, P⟩ := HX.out.2 (by omega)
      have k1 : (k : Int) < (n : Int) := by omega
      have g0 := P.c k hlt
      have I1 := P.pair hlt (New.refl wr)
      rw [marks_at _ _ _ (by omega), marks_at _ _ _ (by omega)] at I1
      have e1 : [k0 + ((k * 2 : Nat) : Int), k0 + ((k * 2 + 1 : Nat) : Int)] = marks (k0 + (k : Int) * 2) 2 := by
        rw [marks_two, show k0 + ((k * 2 : Nat) : Int) = k0 + (k : Int) * 2 + ((0 : Nat) : Int) by omega, show k0 + ((k * 2 + 1 : Nat) : Int) = k0 + (k : Int) * 2 + ((1 : Nat) : Int) by omega]
      rw [e1] at I1
      have C1 := Lib.hid (heldIntS_any (some ⟨h k, 0, none⟩) 2 2 (k0 + (k : Int) * 2) (by omega) (by omega) (by omega) wr I1)
      clear I1 e1 P
      generalize h k = a at *
      go_wp2_with (go_at_call 25; refine C1.out.mono ?_; rintro e w2 ⟨rfl, rfl⟩)
      go_roundw
      case rel => exact ⟨k + 1, by omega, by go_num, by go_num, trivial⟩
      case measure => simp [intOf]; omega
    · obtain rfl : n = k := by omega
      go_wp2
      go_ret
      exact ⟨ret_int (by omega), rfl⟩
end Go.Proofs.Ytmpbghepcjcnjaa
