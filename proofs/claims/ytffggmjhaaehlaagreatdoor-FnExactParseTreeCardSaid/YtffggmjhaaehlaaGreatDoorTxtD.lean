/- The reference's decimal form of a number. Condition: the number is small. -/
import Derived.Test.YtffggmjhaaehlaaGreatDoorProg
import Derived.Test.YtffggmjhaaehlaaGreatDoorBase
import Derived.Lib.ItoaNum
import Derived.Laws.Concat
import Derived.Laws.IdiomStrings
import Derived.IntWalk
import Derived.RegionTactic
import Derived.BigRegion
import Derived.Deep.RegionHeld3
import Derived.Deep.QuietTactic
namespace Go.Proofs.YtffggmjhaaehlaaGreatDoor
open Go.RowKit

/-- A text, as a value. -/
abbrev str (l : List UInt8) : Value := .string ⟨l.toArray⟩
theorem decDigits_low {u : Nat} (h : u < 10) : Lib.decDigits u = [UInt8.ofNat (48 + u)] := by rw [Lib.decDigits, dif_pos h]
theorem decDigits_high {u : Nat} (h : ¬ u < 10) : Lib.decDigits u = Lib.decDigits (u / 10) ++ [UInt8.ofNat (48 + u % 10)] := by rw [Lib.decDigits, dif_neg h]
theorem decDigits_len : ∀ (k u : Nat), u < 10 ^ (k + 1) → (Lib.decDigits u).length ≤ k + 1
  | 0, u, h => by rw [decDigits_low (by simpa using h)]; exact Nat.le_refl _
  | k + 1, u, h => by
    by_cases h1 : u < 10
    · rw [decDigits_low h1]; simp
    · have h2 := decDigits_len k (u / 10) (by
        have : 10 ^ (k + 1 + 1) = 10 ^ (k + 1) * 10 := Nat.pow_succ _ _
        omega)
      rw [decDigits_high h1, List.length_append]
      simp only [List.length_singleton]
      omega
/-- Two texts joined. -/
theorem run_add_str (P : Program) (w : World) (t : TypeId) (x y : List UInt8) (hx : x.length ≤ 1000000) (hy : y.length ≤ 1000000) : (binOp .add t (str x) (str y)).run P w = .ok (str (x ++ y)) w := by
  rw [binOp_string_add]
  exact run_string_add_lists w x y (by omega) (by omega)
/-- One byte as a text. -/
theorem run_byte_str (w : World) (g : Nat) (b : UInt8) (h : w.cell? ⟨g, 0, none⟩ = some (.int .u8 (b.toNat : Int))) : (convert 28 9 (.slice (some ⟨g, 0, none⟩) 1 1)).run Tryz.prog w = .ok (str [b]) w := by
  have r := run_convert_bytes_back (P := Tryz.prog) w 28 9 5 ⟨g, 0, none⟩ 1 [b] Tryz.underlying28 Tryz.underlying5 Tryz.underlying9 (fun j hj => by
    obtain rfl : j = 0 := by simpa using hj
    exact h)
  exact r
theorem byte48 {k : Nat} (h : k < 10) : ((UInt8.ofNat (48 + k)).toNat : Int) = 48 + (k : Int) := by
  rw [UInt8.toNat_ofNat']
  omega
set_option maxRecDepth 100000 in
set_option maxHeartbeats 1000000 in
theorem decimalN_any : ∀ (u : Nat), u ≤ 1000000 → ∀ (w : World), Calls Tryz.prog 59 #[.int .i64 (u : Int)] w fun e w' => e = .returned (str (Lib.decDigits u)) ∧ New w w' := by
  intro u
  induction u using Nat.strongRecOn with
  | ind u ih =>
    intro hu w
    have u0 : (0 : Int) ≤ (u : Int) := by omega
    have un : decide ((u : Int) < 0) = false := decide_eq_false (by omega)
    by_cases h10 : u < 10
    · have ui : (u : Int) < 10 := by omega
      obtain ⟨b, hb⟩ : ∃ b, UInt8.ofNat (48 + u) = b := ⟨_, rfl⟩
      have E : Hid (Lib.decDigits u = [b]) := Lib.hid (by rw [decDigits_low h10, hb])
      have wr1 : IntKind.i64.wrap (48 + (u : Int)) = 48 + (u : Int) := IntWalk.i64_in _ (by omega)
      have wr2 : IntKind.u8.wrap (48 + (u : Int)) = 48 + (u : Int) := by unfold IntKind.wrap; simp [IntKind.bits, IntKind.signed]; omega
      have RB := fun (W : World) (h : W.cell? ⟨w.heap.size, 0, none⟩ = some (.int .u8 (48 + (u : Int)))) => run_byte_str W w.heap.size b (by rw [← hb, byte48 h10]; exact h)
      clear ih hb
      go_enter Tryz.func59, Tryz.ntmps59
      go_wp2
      go_ret
      exact ⟨by rw [E.out]; rfl, by (repeat (first | exact New.refl _ | assumption | refine New.alloc ?_ _ | refine New.drew ?_ | refine New.drewN ?_ _ | refine New.setCell ?_ (by first | omega | (simp; omega) | (simp; done)) _ | refine New.trans ?_ (by assumption)))⟩
    · have ui : ¬ (u : Int) < 10 := by omega
      have uid : decide ((u : Int) < 10) = false := decide_eq_false ui
      obtain ⟨q, hq⟩ : ∃ q, u / 10 = q := ⟨_, rfl⟩
      obtain ⟨r, hr⟩ : ∃ r, u % 10 = r := ⟨_, rfl⟩
      obtain ⟨b, hb⟩ : ∃ b, UInt8.ofNat (48 + r) = b := ⟨_, rfl⟩
      have E : Hid (Lib.decDigits u = Lib.decDigits q ++ [b]) := Lib.hid (by rw [decDigits_high h10, hq, hr, hb])
      have IH := Lib.hid (fun W => ih q (by omega) (by omega) W)
      have LD : (Lib.decDigits q).length ≤ 1000000 := Nat.le_trans (decDigits_len 6 q (by omega)) (by omega)
      have r10 : r < 10 := by omega
      have wr1 : IntKind.i64.wrap (48 + (r : Int)) = 48 + (r : Int) := IntWalk.i64_in _ (by omega)
      have wr2 : IntKind.u8.wrap (48 + (r : Int)) = 48 + (r : Int) := by unfold IntKind.wrap; simp [IntKind.bits, IntKind.signed]; omega
      have RB := Lib.hid (fun (W : World) g (h : W.cell? ⟨g, 0, none⟩ = some (.int .u8 (48 + (r : Int)))) => run_byte_str W g b (by rw [← hb, byte48 r10]; exact h))
      have e1 : (u : Int).tdiv 10 = (q : Int) := by rw [Int.tdiv_eq_ediv_of_nonneg u0]; omega
      have e2 : (u : Int).tmod 10 = (r : Int) := by rw [Int.tmod_eq_emod_of_nonneg u0]; omega
      have e3 : (u : Int) / 10 = (q : Int) := by omega
      have wq : IntKind.i64.wrap (q : Int) = (q : Int) := IntWalk.i64_in _ (by omega)
      have wr0 : IntKind.i64.wrap (r : Int) = (r : Int) := IntWalk.i64_in _ (by omega)
      have e4 : (u : Int) % 10 = (r : Int) := by omega
      have LN : ¬ 9223372036854775807 < (Lib.decDigits q).length + 1 := by omega
      generalize Lib.decDigits q = D at *
      clear ih hb hq hr
      go_enter Tryz.func59, Tryz.ntmps59
      go_wp2
      have ND := Lib.hid (New.refl w).drew
      refine wp_region_noPanic ?_
      refine wp_region_held_drew (S := fun _ => True) (by kernel_rfl) (trivial) (fun hHeld => ?_)
      generalize w.drew = Vd at ND hHeld ⊢
      refine wpAnyH_take (i := 0) (oi := _) (v := ?_) rfl (by kernel_rfl) (by kernel_rfl) (by kernel_rfl) (fun _ _ _ h => h) (Or.inl ⟨by kernel_rfl, ?_⟩) (by assumption) ?_
      rotate_left; (intro w' hSw; (try dsimp only at hSw); go_split_ands; go_simp; (try with_reducible rfl))
      try dsimp only [Act.put]
      refine wpAnyH_take (i := 1) (oi := _) (v := ?_) rfl (by kernel_rfl) (by kernel_rfl) (by kernel_rfl) (fun _ _ _ h => h) (Or.inl ⟨by kernel_rfl, ?_⟩) (by assumption) ?_
      rotate_left; (intro w' hSw; (try dsimp only at hSw); go_split_ands; go_simp; (try with_reducible rfl))
      try dsimp only [Act.put]
      refine wpAnyH_take (i := 3) (oi := _) (v := ?_) rfl (by kernel_rfl) (by kernel_rfl) (by kernel_rfl) (fun _ _ _ h => h) (Or.inl ⟨by kernel_rfl, ?_⟩) (by assumption) ?_
      rotate_left; (intro w' hSw; (try dsimp only at hSw); go_split_ands; go_simp; (try with_reducible rfl))
      try dsimp only [Act.put]
      refine wpAnyH_take (i := 4) (oi := _) (v := ?_) rfl (by kernel_rfl) (by kernel_rfl) (by kernel_rfl) (fun _ _ _ h => h) (Or.inl ⟨by kernel_rfl, ?_⟩) (by assumption) ?_
      rotate_left; (intro w' hSw; (try dsimp only at hSw); go_split_ands; go_simp; (try with_reducible rfl))
      try dsimp only [Act.put]
      refine wpAnyH_take (i := 5) (oi := _) (v := ?_) rfl (by kernel_rfl) (by kernel_rfl) (by kernel_rfl) (fun _ _ _ h => h) (Or.inl ⟨by kernel_rfl, ?_⟩) (by assumption) ?_
      rotate_left; (intro w' hSw; (try dsimp only at hSw); go_split_ands; go_simp; (try with_reducible rfl))
      try dsimp only [Act.put]
      refine wpAnyH_take (i := 6) (oi := _) (v := ?_) rfl (by kernel_rfl) (by kernel_rfl) (by kernel_rfl) (fun _ _ _ h => h) (Or.inl ⟨by kernel_rfl, ?_⟩) (by assumption) ?_
      rotate_left; (intro w' hSw; (try dsimp only at hSw); go_split_ands; go_simp; (try with_reducible rfl))
      try dsimp only [Act.put]
      refine wpAnyH_ready (rs := [2, 7]) (by kernel_rfl) (by simp) ?_
      refine AllReadyH.cons (o := _) rfl (fun K hK => ?_) (AllReadyH.cons (o := _) rfl (fun K hK => ?_) AllReadyH.nil)
      · go_simp
        go_at_call 59
        refine (IH.out Vd).mono ?_
        rintro e wc ⟨rfl, Nc⟩
        have NC := Lib.hid (ND.out.trans Nc)
        clear Nc
        go_wp2_with fail
        refine hK.out _ _ (trivial) (fun hH2 => ?_)
        clear hK K
        try dsimp only [Act.put]
        refine wpAnyH_ready (rs := [7]) (by kernel_rfl) (by simp) ?_
        refine AllReadyH.cons (o := _) rfl (fun K hK => ?_) AllReadyH.nil
        go_simp
        refine hK.out _ _ (trivial) (fun hH7 => ?_)
        clear hK K
        try dsimp only [Act.put]
        have LB := Lib.hid (show (wc.alloc (.cells #[.int .u8 (48 + (r : Int))] 5)).cell? ⟨wc.heap.size, 0, none⟩ = some (.int .u8 (48 + (r : Int))) by simp [go_sem])
        have NL := Lib.hid (NC.out.alloc (.cells #[.int .u8 (48 + (r : Int))] 5))
        obtain ⟨gB, hgB⟩ : ∃ g, wc.heap.size = g := ⟨_, rfl⟩
        rw [hgB] at LB ⊢
        generalize wc.alloc (.cells #[.int .u8 (48 + (r : Int))] 5) = VL at LB NL ⊢
        clear hgB
        refine wpAnyH_ready (rs := [8]) (by kernel_rfl) (by simp) ?_
        refine AllReadyH.cons (o := _) rfl (fun K hK => ?_) AllReadyH.nil
        have rb := RB.out VL gB LB.out
        go_simp
        refine hK.out _ _ (trivial) (fun hH8 => ?_)
        clear hK K
        try dsimp only [Act.put]
        clear rb
        refine wpAnyH_take (i := 9) (oi := _) (v := ?_) rfl (by kernel_rfl) (by kernel_rfl) (by kernel_rfl) (fun _ _ _ h => h) (Or.inl ⟨by kernel_rfl, ?_⟩) (by assumption) ?_
        rotate_left; (intro w' hSw; (try dsimp only at hSw); go_split_ands; go_simp; (try with_reducible rfl))
        try dsimp only [Act.put]
        refine wpAnyH_ready (rs := [10]) (by kernel_rfl) (by simp) ?_
        refine AllReadyH.cons (o := _) rfl (fun K hK => ?_) AllReadyH.nil
        go_simp
        refine hK.out _ _ (trivial) (fun hH10 => ?_)
        clear hK K
        try dsimp only [Act.put]
        refine wpAnyH_done (by kernel_rfl) ?_ _
        refine NoPanic.normal ?_
        go_simp
        go_wp2
        go_ret
        exact ⟨by rw [E.out]; rfl, NL.out⟩
      · go_simp
        refine hK.out _ _ (trivial) (fun hH7 => ?_)
        clear hK K
        try dsimp only [Act.put]
        have LB := Lib.hid (show (Vd.alloc (.cells #[.int .u8 (48 + (r : Int))] 5)).cell? ⟨Vd.heap.size, 0, none⟩ = some (.int .u8 (48 + (r : Int))) by simp [go_sem])
        have NL := Lib.hid (ND.out.alloc (.cells #[.int .u8 (48 + (r : Int))] 5))
        obtain ⟨gB, hgB⟩ : ∃ g, Vd.heap.size = g := ⟨_, rfl⟩
        rw [hgB] at LB ⊢
        generalize Vd.alloc (.cells #[.int .u8 (48 + (r : Int))] 5) = VL at LB NL ⊢
        clear hgB
        refine wpAnyH_ready (rs := [2, 8]) (by kernel_rfl) (by simp) ?_
        refine AllReadyH.cons (o := _) rfl (fun K hK => ?_) (AllReadyH.cons (o := _) rfl (fun K hK => ?_) AllReadyH.nil)
        · go_simp
          go_at_call 59
          refine (IH.out VL).mono ?_
          rintro e wc ⟨rfl, Nc⟩
          have NC := Lib.hid (NL.out.trans Nc)
          have LB := Lib.hid ((Nc.cells gB 0 (World.block_lt_of_cell? _ _ LB.out)).trans LB.out)
          clear Nc
          go_wp2_with fail
          refine hK.out _ _ (trivial) (fun hH2 => ?_)
          clear hK K
          try dsimp only [Act.put]
          refine wpAnyH_ready (rs := [8]) (by kernel_rfl) (by simp) ?_
          refine AllReadyH.cons (o := _) rfl (fun K hK => ?_) AllReadyH.nil
          have rb := RB.out wc gB LB.out
          go_simp
          refine hK.out _ _ (trivial) (fun hH8 => ?_)
          clear hK K
          try dsimp only [Act.put]
          clear rb
          refine wpAnyH_take (i := 9) (oi := _) (v := ?_) rfl (by kernel_rfl) (by kernel_rfl) (by kernel_rfl) (fun _ _ _ h => h) (Or.inl ⟨by kernel_rfl, ?_⟩) (by assumption) ?_
          rotate_left; (intro w' hSw; (try dsimp only at hSw); go_split_ands; go_simp; (try with_reducible rfl))
          try dsimp only [Act.put]
          refine wpAnyH_ready (rs := [10]) (by kernel_rfl) (by simp) ?_
          refine AllReadyH.cons (o := _) rfl (fun K hK => ?_) AllReadyH.nil
          go_simp
          refine hK.out _ _ (trivial) (fun hH10 => ?_)
          clear hK K
          try dsimp only [Act.put]
          refine wpAnyH_done (by kernel_rfl) ?_ _
          refine NoPanic.normal ?_
          go_simp
          go_wp2
          go_ret
          exact ⟨by rw [E.out]; rfl, NC.out⟩
        · have rb := RB.out VL gB LB.out
          go_simp
          refine hK.out _ _ (trivial) (fun hH8 => ?_)
          clear hK K
          try dsimp only [Act.put]
          clear rb
          refine wpAnyH_ready (rs := [2]) (by kernel_rfl) (by simp) ?_
          refine AllReadyH.cons (o := _) rfl (fun K hK => ?_) AllReadyH.nil
          go_simp
          go_at_call 59
          refine (IH.out VL).mono ?_
          rintro e wc ⟨rfl, Nc⟩
          have NC := Lib.hid (NL.out.trans Nc)
          have LB := Lib.hid ((Nc.cells gB 0 (World.block_lt_of_cell? _ _ LB.out)).trans LB.out)
          clear Nc
          go_wp2_with fail
          refine hK.out _ _ (trivial) (fun hH2 => ?_)
          clear hK K
          try dsimp only [Act.put]
          refine wpAnyH_take (i := 9) (oi := _) (v := ?_) rfl (by kernel_rfl) (by kernel_rfl) (by kernel_rfl) (fun _ _ _ h => h) (Or.inl ⟨by kernel_rfl, ?_⟩) (by assumption) ?_
          rotate_left; (intro w' hSw; (try dsimp only at hSw); go_split_ands; go_simp; (try with_reducible rfl))
          try dsimp only [Act.put]
          refine wpAnyH_ready (rs := [10]) (by kernel_rfl) (by simp) ?_
          refine AllReadyH.cons (o := _) rfl (fun K hK => ?_) AllReadyH.nil
          go_simp
          refine hK.out _ _ (trivial) (fun hH10 => ?_)
          clear hK K
          try dsimp only [Act.put]
          refine wpAnyH_done (by kernel_rfl) ?_ _
          refine NoPanic.normal ?_
          go_simp
          go_wp2
          go_ret
          exact ⟨by rw [E.out]; rfl, NC.out⟩
end Go.Proofs.YtffggmjhaaehlaaGreatDoor
