/- FormatTree of the program, walked. Condition: the tree can be read; the library answers as it should. -/
import Derived.Test.YtffggmjhaaehlaaGreatDoorTxtX
import Derived.Test.YtffggmjhaaehlaaGreatDoorTxtN
import Derived.Test.YtffggmjhaaehlaaGreatDoorTreeE
namespace Go.Proofs.YtffggmjhaaehlaaGreatDoor
open Go.RowKit

/-- strings.Repeat repeats a sign. -/
def RepC : Prop := ∀ (d : Nat), d ≤ 5 → ∀ W, Calls Tryz.prog 27 #[str [45], .int .i64 (d : Int)] W fun e W' => e = .returned (str (List.replicate d 45)) ∧ New W W'
set_option maxRecDepth 100000 in
set_option maxHeartbeats 2000000 in
theorem FormatTree_any (A : Option Addr) (n c : Nat) (zs : List Int) (hn : n ≤ 1048576) (w : World) (hx : Sts 9 w A n zs) (hI : ItoaC w) (hJ : JoinC) (hR : RepC) (hK : KnC w) :
    Calls Tryz.prog 12 #[.slice A n c] w fun e w' => e = .returned (str (txA n zs)) ∧ New w w' := by
  have HX := Lib.hid hx
  have II := Lib.hid hI; have HJ := Lib.hid hJ; have HR := Lib.hid hR; have HK := Lib.hid hK
  have HT := Lib.hid (fun hv : vtB n zs = true => join_txT zs n (vtB_iff.1 hv).1.1)
  clear hx hI hJ hR hK
  go_enter Tryz.func12, Tryz.ntmps12
  go_wp2_with fail
  refine (linkTree_any A n c zs hn _ HX.out).mono ?_
  rintro e w1 ⟨N1, ⟨hv, rfl⟩ | ⟨hv, g, nb, ar, fi, la, ne, rfl, hg, PR, LN⟩⟩
  · have HV := Lib.hid hv
    have hmk : ∀ W, (Instr.makeSlice 34 (.int .i64 0) (.int .i64 0)).run Tryz.prog W = .ok (.slice (some ⟨W.heap.size, 0, none⟩) 0 0) (W.alloc (.cells (madeCells #[.string ⟨#[]⟩] 0) 9)) := fun W => run_make_row' (P := Tryz.prog) 34 9 (.string ⟨#[]⟩) 16 Tryz.underlying34 (by kernel_rfl) rfl .i64 .i64 0 (by omega) (by omega) W
    have N1 := Lib.hid N1
    have EJ : Lib.join ((List.range 0).map fun _ => ([] : List UInt8)) [10] = [] := rfl
    clear hv
    go_wp2
    go_loopw [14] (fun i wr => i = .int .i64 0 ∧ Hid (New w1 wr) ∧ Hid (SRow wr w1.heap.size (fun _ => []) 0)) (fun _ _ => 0)
    case atStart => exact ⟨rfl, Lib.hid (by (repeat (first | exact New.refl _ | assumption | refine New.alloc ?_ _ | refine New.drew ?_ | refine New.drewN ?_ _ | refine New.setCell ?_ (by first | omega | (simp; omega) | (simp; done)) _ | refine New.trans ?_ (by assumption)))), Lib.hid (SRow.made _ _ _)⟩
    case round =>
      obtain ⟨rfl, HN, HB⟩ := hrel
      have CT := HJ.out w1.heap.size 0 (fun _ => []) [10] wr HB.out (by omega) (by rw [EJ]; simp)
      rw [EJ] at CT
      have CT := Lib.hid CT
      go_wp2_with fail
      refine CT.out.mono ?_
      rintro e wc ⟨rfl, Nc⟩
      have NR := Lib.hid ((N1.out.trans HN.out).trans Nc)
      clear Nc
      go_wp2
      go_ret
      exact ⟨by unfold txA; rw [HV.out]; rfl, NR.out⟩
  · have HV := Lib.hid hv
    have n16 : n ≤ 16 := (vtB_iff.1 hv).1.2
    have hmk := fun W => run_make_row' (P := Tryz.prog) 34 9 (.string ⟨#[]⟩) 16 Tryz.underlying34 (by kernel_rfl) rfl .i64 .i64 n (by omega) (by omega) W
    have n0 : (0 : Int) ≤ (n : Int) := by omega
    have n1 : (n : Int) ≤ 16 := by omega
    have N1 := Lib.hid N1; have PR := Lib.hid PR; have LN := Lib.hid LN
    clear hv
    go_wp2
    go_loopw [14] (fun i wr => ∃ k : Nat, k ≤ n ∧ i = .int .i64 (k : Int) ∧ Hid (New w1 wr) ∧ Hid (SRow wr w1.heap.size (fun i => if i < k then lnT zs i else []) n)) (fun i _ => n - (intOf i).toNat)
    case atStart => exact ⟨0, Nat.zero_le _, rfl, Lib.hid (by (repeat (first | exact New.refl _ | assumption | refine New.alloc ?_ _ | refine New.drew ?_ | refine New.drewN ?_ _ | refine New.setCell ?_ (by first | omega | (simp; omega) | (simp; done)) _ | refine New.trans ?_ (by assumption)))), Lib.hid ((SRow.made _ _ _).cong (fun i _ => by rw [if_neg (by omega)]))⟩
    case round =>
      obtain ⟨k, hk, rfl, HN, HB⟩ := hrel
      have k0 : (0 : Int) ≤ (k : Int) := by omega
      have sz := HN.out.le
      by_cases hlt : k < n
      · have k1 : (k : Int) < (n : Int) := by omega
        have g1 := (PR.out.new HN.out).c k hlt
        have d5 := dep_le5 HV.out hlt
        have DP := Lib.hid (fun W (hW : New w1 W) => depth_any w.heap.size nb zs n k ar fi la ne hlt W (LN.out.new hW))
        have RP := Lib.hid (fun W => HR.out (dep zs k) d5 W)
        have bz := LN.out.nd.lt k hlt
        have hc := LN.out.nd.box k hlt
        obtain ⟨y0, e0⟩ : ∃ y, zs.getD (k * 9) 0 = y := ⟨_, rfl⟩
        have c0 : w1.cell? ⟨nb k, 0, none⟩ = some (.int .i64 y0) := by rw [← e0]; exact hc 0 (by omega)
        obtain ⟨y1, e1⟩ : ∃ y, zs.getD (k * 9 + 1) 0 = y := ⟨_, rfl⟩
        have c1 : w1.cell? ⟨nb k, 1, none⟩ = some (.int .i64 y1) := by rw [← e1]; exact hc 1 (by omega)
        obtain ⟨y2, e2⟩ : ∃ y, zs.getD (k * 9 + 2) 0 = y := ⟨_, rfl⟩
        have c2 : w1.cell? ⟨nb k, 2, none⟩ = some (.int .i64 y2) := by rw [← e2]; exact hc 2 (by omega)
        obtain ⟨y3, e3⟩ : ∃ y, zs.getD (k * 9 + 3) 0 = y := ⟨_, rfl⟩
        have c3 : w1.cell? ⟨nb k, 3, none⟩ = some (.int .i64 y3) := by rw [← e3]; exact hc 3 (by omega)
        obtain ⟨y4, e4⟩ : ∃ y, zs.getD (k * 9 + 4) 0 = y := ⟨_, rfl⟩
        have c4 : w1.cell? ⟨nb k, 4, none⟩ = some (.int .i64 y4) := by rw [← e4]; exact hc 4 (by omega)
        obtain ⟨y5, e5⟩ : ∃ y, zs.getD (k * 9 + 5) 0 = y := ⟨_, rfl⟩
        have c5 : w1.cell? ⟨nb k, 5, none⟩ = some (.int .i64 y5) := by rw [← e5]; exact hc 5 (by omega)
        obtain ⟨y6, e6⟩ : ∃ y, zs.getD (k * 9 + 6) 0 = y := ⟨_, rfl⟩
        have c6 : w1.cell? ⟨nb k, 6, none⟩ = some (.int .i64 y6) := by rw [← e6]; exact hc 6 (by omega)
        obtain ⟨y7, e7⟩ : ∃ y, zs.getD (k * 9 + 7) 0 = y := ⟨_, rfl⟩
        have c7 : w1.cell? ⟨nb k, 7, none⟩ = some (.int .i64 y7) := by rw [← e7]; exact hc 7 (by omega)
        obtain ⟨y8, e8⟩ : ∃ y, zs.getD (k * 9 + 8) 0 = y := ⟨_, rfl⟩
        have c8 : w1.cell? ⟨nb k, 8, none⟩ = some (.int .i64 y8) := by rw [← e8]; exact hc 8 (by omega)
        have P := ((vtB_iff.1 HV.out).2 k hlt).1
        have BX : bxT zs k = boxTx y1.toNat y2 y3 [y4, y5, y6, y7, y8] := by unfold bxT valL knd; rw [e1, e2, e3, e4, e5, e6, e7, e8]
        have BL := bxT_len P
        obtain ⟨PW, PH⟩ := P.wide
        have VL := P.vals
        have KB : 0 ≤ y1 ∧ y1 ≤ 3 := by rw [← e1]; exact P.1
        unfold valL at VL
        rw [e2] at PW
        rw [e3] at PH
        rw [e4, e5, e6, e7, e8] at VL
        obtain ⟨kk, rfl, hkk⟩ := nat_toNat KB.1
        rw [hkk] at BX
        have BT := Lib.hid (fun W (hW : New w1 W) => boxText_any kk (by omega) y0 y2 y3 y4 y5 y6 y7 y8 PW PH VL W (II.out.new (N1.out.trans hW)) HJ.out (HK.out.new (N1.out.trans hW)))
        rw [BX] at BL
        have BX := Lib.hid BX
        have LX : Hid (lnT zs k = List.replicate (dep zs k) 45 ++ boxTx kk y2 y3 [y4, y5, y6, y7, y8]) := Lib.hid (by unfold lnT; rw [BX.out])
        have RL : (List.replicate (dep zs k) (45 : UInt8)).length ≤ 5 := by rw [List.length_replicate]; exact d5
        generalize boxTx kk y2 y3 [y4, y5, y6, y7, y8] = B at *
        generalize List.replicate (dep zs k) (45 : UInt8) = R at *
        have f1 : ¬ 9223372036854775807 < R.length + B.length := by omega
        have EQ : ∀ (i : Nat), (if i < k + 1 then lnT zs i else []) = if i = k then R ++ B else if i < k then lnT zs i else [] := fun i => by
          by_cases e : i = k
          · subst e; rw [if_pos (by omega), if_pos rfl, LX.out]
          · rw [if_neg e]
            by_cases e2 : i < k
            · rw [if_pos e2, if_pos (by omega)]
            · rw [if_neg e2, if_neg (by omega)]
        have EQ := Lib.hid EQ
        generalize nb k = gk at *
        have SX := Lib.hid (fun X (hX : New w1 X) => (show (fun w' => w'.cell? ⟨gk, 0, none⟩ = some (.int .i64 y0) ∧ w'.cell? ⟨gk, 1, none⟩ = some (.int .i64 (kk : Int)) ∧ w'.cell? ⟨gk, 2, none⟩ = some (.int .i64 y2) ∧ w'.cell? ⟨gk, 3, none⟩ = some (.int .i64 y3) ∧ w'.cell? ⟨gk, 4, none⟩ = some (.int .i64 y4) ∧ w'.cell? ⟨gk, 5, none⟩ = some (.int .i64 y5) ∧ w'.cell? ⟨gk, 6, none⟩ = some (.int .i64 y6) ∧ w'.cell? ⟨gk, 7, none⟩ = some (.int .i64 y7) ∧ w'.cell? ⟨gk, 8, none⟩ = some (.int .i64 y8)) X from ⟨(hX.cells gk 0 bz).trans c0, (hX.cells gk 1 bz).trans c1, (hX.cells gk 2 bz).trans c2, (hX.cells gk 3 bz).trans c3, (hX.cells gk 4 bz).trans c4, (hX.cells gk 5 bz).trans c5, (hX.cells gk 6 bz).trans c6, (hX.cells gk 7 bz).trans c7, (hX.cells gk 8 bz).trans c8⟩))
        clear e0 e1 e2 e3 e4 e5 e6 e7 e8 hc P PW PH VL KB hkk
        go_wp2
        have ND := Lib.hid (HN.out.drew)
        have HB0 := Lib.hid (HB.out.new (New.refl wr).drew)
        refine wp_region_noPanic ?_
        refine wp_region_held_drew (S := fun w' => w'.cell? ⟨gk, 0, none⟩ = some (.int .i64 y0) ∧ w'.cell? ⟨gk, 1, none⟩ = some (.int .i64 (kk : Int)) ∧ w'.cell? ⟨gk, 2, none⟩ = some (.int .i64 y2) ∧ w'.cell? ⟨gk, 3, none⟩ = some (.int .i64 y3) ∧ w'.cell? ⟨gk, 4, none⟩ = some (.int .i64 y4) ∧ w'.cell? ⟨gk, 5, none⟩ = some (.int .i64 y5) ∧ w'.cell? ⟨gk, 6, none⟩ = some (.int .i64 y6) ∧ w'.cell? ⟨gk, 7, none⟩ = some (.int .i64 y7) ∧ w'.cell? ⟨gk, 8, none⟩ = some (.int .i64 y8)) (by kernel_rfl) (SX.out wr HN.out) (fun hHeld => ?_)
        generalize wr.drew = Vd at ND HB0 hHeld ⊢
        refine wpAnyH_take (i := 0) (oi := _) (v := ?_) rfl (by kernel_rfl) (by kernel_rfl) (by kernel_rfl) (fun _ _ _ h => h) (Or.inl ⟨by kernel_rfl, ?_⟩) (by assumption) ?_
        rotate_left; (intro w' hSw; (try dsimp only at hSw); go_split_ands; go_simp; (try with_reducible rfl))
        try dsimp only [Act.put]
        refine wpAnyH_take (i := 1) (oi := _) (v := ?_) rfl (by kernel_rfl) (by kernel_rfl) (by kernel_rfl) (fun _ _ _ h => h) (Or.inl ⟨by kernel_rfl, ?_⟩) (by assumption) ?_
        rotate_left; (intro w' hSw; (try dsimp only at hSw); go_split_ands; go_simp; (try with_reducible rfl))
        try dsimp only [Act.put]
        refine wpAnyH_take (i := 2) (oi := _) (v := ?_) rfl (by kernel_rfl) (by kernel_rfl) (by kernel_rfl) (fun _ _ _ h => h) (Or.inl ⟨by kernel_rfl, ?_⟩) (by assumption) ?_
        rotate_left; (intro w' hSw; (try dsimp only at hSw); go_split_ands; go_simp; (try with_reducible rfl))
        try dsimp only [Act.put]
        refine wpAnyH_take (i := 5) (oi := _) (v := ?_) rfl (by kernel_rfl) (by kernel_rfl) (by kernel_rfl) (fun _ _ _ h => h) (Or.inl ⟨by kernel_rfl, ?_⟩) (by assumption) ?_
        rotate_left; (intro w' hSw; (try dsimp only at hSw); go_split_ands; go_simp; (try with_reducible rfl))
        try dsimp only [Act.put]
        refine wpAnyH_take (i := 6) (oi := _) (v := ?_) rfl (by kernel_rfl) (by kernel_rfl) (by kernel_rfl) (fun _ _ _ h => h) (Or.inl ⟨by kernel_rfl, ?_⟩) (by assumption) ?_
        rotate_left; (intro w' hSw; (try dsimp only at hSw); go_split_ands; go_simp; (try with_reducible rfl))
        try dsimp only [Act.put]
        refine wpAnyH_take (i := 7) (oi := _) (v := ?_) rfl (by kernel_rfl) (by kernel_rfl) (by kernel_rfl) (fun _ _ _ h => h) (Or.inl ⟨by kernel_rfl, ?_⟩) (by assumption) ?_
        rotate_left; (intro w' hSw; (try dsimp only at hSw); go_split_ands; go_simp; (try with_reducible rfl))
        try dsimp only [Act.put]
        refine wpAnyH_take (i := 8) (oi := _) (v := ?_) rfl (by kernel_rfl) (by kernel_rfl) (by kernel_rfl) (fun _ _ _ h => h) (Or.inl ⟨by kernel_rfl, ?_⟩) (by assumption) ?_
        rotate_left; (intro w' hSw; (try dsimp only at hSw); go_split_ands; go_simp; (try with_reducible rfl))
        try dsimp only [Act.put]
        refine wpAnyH_ready (rs := [3]) (by kernel_rfl) (by simp) ?_
        refine AllReadyH.cons (o := _) rfl (fun K hK => ?_) AllReadyH.nil
        go_simp
        go_at_call 28
        refine (DP.out _ ND.out).mono ?_
        rintro e w' ⟨rfl, rfl⟩
        go_wp2_with fail
        refine hK.out _ _ (SX.out _ ND.out) (fun hH3 => ?_)
        clear hK K
        try dsimp only [Act.put]
        refine wpAnyH_ready (rs := [4]) (by kernel_rfl) (by simp) ?_
        refine AllReadyH.cons (o := _) rfl (fun K hK => ?_) AllReadyH.nil
        go_simp
        go_at_call 27
        refine (RP.out _).mono ?_
        rintro e wa ⟨rfl, Nc⟩
        have NA := Lib.hid (ND.out.trans Nc)
        have BA := Lib.hid (HB0.out.new Nc)
        clear Nc
        have Hwa := SX.out wa NA.out
        go_wp2_with fail
        refine hK.out _ _ (Hwa) (fun hH4 => ?_)
        clear hK K
        try dsimp only [Act.put]
        refine wpAnyH_ready (rs := [9]) (by kernel_rfl) (by simp) ?_
        refine AllReadyH.cons (o := _) rfl (fun K hK => ?_) AllReadyH.nil
        go_simp
        go_at_call 29
        refine (BT.out _ NA.out).mono ?_
        rintro e wb ⟨rfl, Nc⟩
        have NB := Lib.hid (NA.out.trans Nc)
        have BB := Lib.hid (BA.out.new Nc)
        clear Nc
        have Hwb := SX.out wb NB.out
        go_wp2_with fail
        refine hK.out _ _ (Hwb) (fun hH9 => ?_)
        clear hK K
        try dsimp only [Act.put]
        refine wpAnyH_take (i := 10) (oi := _) (v := ?_) rfl (by kernel_rfl) (by kernel_rfl) (by kernel_rfl) (fun _ _ _ h => h) (Or.inl ⟨by kernel_rfl, ?_⟩) (by assumption) ?_
        rotate_left; (intro w' hSw; (try dsimp only at hSw); go_split_ands; go_simp; (try with_reducible rfl))
        try dsimp only [Act.put]
        refine wpAnyH_take (i := 11) (oi := _) (v := ?_) rfl (by kernel_rfl) (by kernel_rfl) (by kernel_rfl) (fun _ _ _ h => h) (Or.inl ⟨by kernel_rfl, ?_⟩) (by assumption) ?_
        rotate_left; (intro w' hSw; (try dsimp only at hSw); go_split_ands; go_simp; (try with_reducible rfl))
        try dsimp only [Act.put]
        refine wpAnyH_ready (rs := [12]) (by kernel_rfl) (by simp) ?_
        refine AllReadyH.cons (o := _) rfl (fun K hK => ?_) AllReadyH.nil
        have g2 := BB.out.c k hlt
        have f2 := BB.out.f k hlt
        go_simp
        have eqv : Value.string ((⟨R.toArray⟩ : ByteArray) ++ ⟨B.toArray⟩) = str (R ++ B) := by simp [str, ByteArray.mk_append_mk]
        rw [eqv]
        have NF := Lib.hid (NB.out.setCell (p := ⟨w1.heap.size, k, none⟩) (Nat.le_refl _) (str (R ++ B)))
        have B2 := Lib.hid ((BB.out.put hlt (R ++ B)).cong (fun i _ => EQ.out i))
        refine hK.out _ _ (SX.out _ NF.out) (fun hH12 => ?_)
        clear hK K
        try dsimp only [Act.put]
        refine wpAnyH_done (by kernel_rfl) ?_ _
        refine NoPanic.normal ?_
        go_simp
        go_wp2
        go_roundw
        case rel => exact ⟨k + 1, by omega, by go_num, NF, B2⟩
        case measure => simp [intOf]; omega
      · obtain rfl : n = k := by omega
        have B2 := HB.out.cong (h := lnT zs) (fun i hi => by rw [if_pos hi])
        have LT : (txT zs n).length ≤ 1280 := by have := txT_len HV.out n (Nat.le_refl _); omega
        have CT := Lib.hid (HJ.out w1.heap.size n (lnT zs) [10] wr B2 (by omega) (by rw [HT.out HV.out]; omega))
        rw [HT.out HV.out] at CT
        go_wp2_with fail
        refine CT.out.mono ?_
        rintro e wc ⟨rfl, Nc⟩
        have NR := Lib.hid ((N1.out.trans HN.out).trans Nc)
        clear Nc
        go_wp2
        go_ret
        exact ⟨by unfold txA; rw [if_pos HV.out]; rfl, NR.out⟩
end Go.Proofs.YtffggmjhaaehlaaGreatDoor
