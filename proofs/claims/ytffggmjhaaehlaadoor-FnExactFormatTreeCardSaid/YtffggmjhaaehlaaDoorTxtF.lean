/- FormatTree of the reference, walked. Condition: the tree can be read. -/
import Derived.Test.YtffggmjhaaehlaaDoorTxtB
import Derived.Test.YtffggmjhaaehlaaDoorTxtN
import Derived.Test.YtffggmjhaaehlaaDoorTreeE
namespace Go.Proofs.YtffggmjhaaehlaaDoor
open Go.RowKit

set_option maxRecDepth 100000 in
set_option maxHeartbeats 2000000 in
theorem SFormatTree_any (A : Option Addr) (n c : Nat) (zs : List Int) (hn : n ≤ 1048576) (w : World) (hx : Sts 9 w A n zs) :
    Calls Tryd.prog 7 #[.slice A n c] w fun e w' => e = .returned (str (txA n zs)) ∧ New w w' := by
  have HX := Lib.hid hx
  have CT := Lib.hid (svalidTree_any A n c zs hn w hx)
  have n0 : (0 : Int) ≤ (n : Int) := by omega
  have n1 : (n : Int) ≤ 1048576 := by omega
  clear hx
  cases hv : vtB n zs
  · have E1 : Hid (txA n zs = []) := Lib.hid (by unfold txA; rw [hv]; rfl)
    have HV := Lib.hid hv
    clear hv
    go_enter Tryd.func7, Tryd.ntmps7
    go_wp2_with (go_at_call 12; refine CT.out.mono ?_; rw [HV.out]; rintro e w1 ⟨rfl, h1⟩; (have N1 := Lib.hid h1); clear h1)
    go_ret
    exact ⟨by rw [E1.out]; rfl, N1.out⟩
  · have E1 : Hid (txA n zs = txT zs n) := Lib.hid (by unfold txA; rw [if_pos hv])
    have HV := Lib.hid hv
    have HU := Lib.hid (link_vt hv).ups
    have LT := Lib.hid (fun i hi => txT_len hv i hi)
    have HD := Lib.hid (fun i (hi : i < n) => dep_le5 hv hi)
    have HP := Lib.hid (fun i (hi : i < n) => ((vtB_iff.1 hv).2 i hi).1)
    have n16 : n ≤ 16 := (vtB_iff.1 hv).1.2
    clear hv
    go_enter Tryd.func7, Tryd.ntmps7
    go_wp2_with fail
    refine CT.out.mono ?_
    rw [HV.out]
    rintro e w1 ⟨rfl, h1⟩
    have N1 := Lib.hid h1
    clear h1
    go_wp2
    go_loopw [3, 4] (fun t i wr => ∃ j : Nat, j ≤ n ∧ i = .int .i64 j ∧ t = str (txT zs j) ∧ Hid (New w wr)) (fun _ i _ => n - (intOf i).toNat)
    case atStart => exact ⟨0, Nat.zero_le _, rfl, rfl, N1⟩
    case round =>
      obtain ⟨j, hj, rfl, rfl, HN⟩ := hrel
      have j0 : (0 : Int) ≤ (j : Int) := by omega
      obtain ⟨T, hT⟩ : ∃ T, txT zs j = T := ⟨_, rfl⟩
      have TL : T.length ≤ 1280 := by have := LT.out j hj; rw [← hT]; omega
      rw [hT]
      have HT := Lib.hid hT
      clear hT
      by_cases hlt : j < n
      · have j1 : (j : Int) < (n : Int) := by omega
        have NX : Hid (txT zs (j + 1) = (T ++ spT j) ++ (List.replicate (dep zs j) 45 ++ bxT zs j)) := Lib.hid (by rw [← HT.out]; rfl)
        have SD := Lib.hid (fun W (hW : New wr W) => sdepth_any A n c j n zs hn (Nat.le_refl _) hlt HU.out W (HX.out.new (HN.out.trans hW)))
        have d5 := HD.out j hlt
        generalize dep zs j = d at *
        by_cases h0 : j = 0
        · have jp : ¬ (0 : Int) < (j : Int) := by omega
          have SJ : spT j = [] := by unfold spT; rw [if_pos h0]
          rw [SJ] at NX
          clear h0
          obtain ⟨T2, hT2⟩ : ∃ T2, T ++ [] = T2 := ⟨_, rfl⟩
          have L2 : T2.length ≤ 1300 := by rw [← hT2, List.length_append]; simp only [List.length_nil]; omega
          have HT2 := Lib.hid hT2
          clear hT2
          go_wp2_with (go_at_call 13; refine (SD.out wr (New.refl _)).mono ?_; rintro e w' ⟨rfl, rfl⟩)
          generalize hwo : wr = wo at *
          clear hwo
          go_loopw [3, 5] (fun t x wq => ∃ k : Nat, k ≤ d ∧ x = .int .i64 k ∧ t = str (T2 ++ List.replicate (d - k) 45) ∧ Hid (New wo wq)) (fun _ x _ => (intOf x).toNat)
          case atStart => exact ⟨d, Nat.le_refl _, rfl, by rw [← HT2.out]; simp [str], Lib.hid (New.refl _)⟩
          case round =>
            obtain ⟨k, hk, rfl, rfl, HQ⟩ := hrel
            have k0 : (0 : Int) ≤ (k : Int) := by omega
            obtain ⟨T3, hT3⟩ : ∃ T3, T2 ++ List.replicate (d - k) 45 = T3 := ⟨_, rfl⟩
            have L3 : T3.length ≤ 1310 := by rw [← hT3, List.length_append, List.length_replicate]; omega
            rw [hT3]
            have HT3 := Lib.hid hT3
            clear hT3
            by_cases hk0 : k = 0
            · subst hk0
              obtain ⟨b, off, rfl, hb, hc⟩ := HX.out.at_ (by omega)
              obtain ⟨y0, e0⟩ : ∃ y, zs.getD (j * 9) 0 = y := ⟨_, rfl⟩
              have g0 : wr.cell? ⟨b, off + j * 9, none⟩ = some (.int .i64 y0) := by rw [← e0]; exact ((HN.out.trans HQ.out).cells b _ hb).trans (hc (j * 9) (by omega))
              obtain ⟨y1, e1⟩ : ∃ y, zs.getD (j * 9 + 1) 0 = y := ⟨_, rfl⟩
              have g1 : wr.cell? ⟨b, off + j * 9 + 1, none⟩ = some (.int .i64 y1) := by rw [← e1]; exact ((HN.out.trans HQ.out).cells b _ hb).trans (hc (j * 9 + 1) (by omega))
              obtain ⟨y2, e2⟩ : ∃ y, zs.getD (j * 9 + 2) 0 = y := ⟨_, rfl⟩
              have g2 : wr.cell? ⟨b, off + j * 9 + 2, none⟩ = some (.int .i64 y2) := by rw [← e2]; exact ((HN.out.trans HQ.out).cells b _ hb).trans (hc (j * 9 + 2) (by omega))
              obtain ⟨y3, e3⟩ : ∃ y, zs.getD (j * 9 + 3) 0 = y := ⟨_, rfl⟩
              have g3 : wr.cell? ⟨b, off + j * 9 + 3, none⟩ = some (.int .i64 y3) := by rw [← e3]; exact ((HN.out.trans HQ.out).cells b _ hb).trans (hc (j * 9 + 3) (by omega))
              obtain ⟨y4, e4⟩ : ∃ y, zs.getD (j * 9 + 4) 0 = y := ⟨_, rfl⟩
              have g4 : wr.cell? ⟨b, off + j * 9 + 4, none⟩ = some (.int .i64 y4) := by rw [← e4]; exact ((HN.out.trans HQ.out).cells b _ hb).trans (hc (j * 9 + 4) (by omega))
              obtain ⟨y5, e5⟩ : ∃ y, zs.getD (j * 9 + 5) 0 = y := ⟨_, rfl⟩
              have g5 : wr.cell? ⟨b, off + j * 9 + 5, none⟩ = some (.int .i64 y5) := by rw [← e5]; exact ((HN.out.trans HQ.out).cells b _ hb).trans (hc (j * 9 + 5) (by omega))
              obtain ⟨y6, e6⟩ : ∃ y, zs.getD (j * 9 + 6) 0 = y := ⟨_, rfl⟩
              have g6 : wr.cell? ⟨b, off + j * 9 + 6, none⟩ = some (.int .i64 y6) := by rw [← e6]; exact ((HN.out.trans HQ.out).cells b _ hb).trans (hc (j * 9 + 6) (by omega))
              obtain ⟨y7, e7⟩ : ∃ y, zs.getD (j * 9 + 7) 0 = y := ⟨_, rfl⟩
              have g7 : wr.cell? ⟨b, off + j * 9 + 7, none⟩ = some (.int .i64 y7) := by rw [← e7]; exact ((HN.out.trans HQ.out).cells b _ hb).trans (hc (j * 9 + 7) (by omega))
              obtain ⟨y8, e8⟩ : ∃ y, zs.getD (j * 9 + 8) 0 = y := ⟨_, rfl⟩
              have g8 : wr.cell? ⟨b, off + j * 9 + 8, none⟩ = some (.int .i64 y8) := by rw [← e8]; exact ((HN.out.trans HQ.out).cells b _ hb).trans (hc (j * 9 + 8) (by omega))
              have P := HP.out j hlt
              have BX : bxT zs j = boxTx y1.toNat y2 y3 [y4, y5, y6, y7, y8] := by unfold bxT valL knd; rw [e1, e2, e3, e4, e5, e6, e7, e8]
              have BL := bxT_len P
              obtain ⟨PW, PH⟩ := P.wide
              have VL := P.vals
              have KB : 0 ≤ y1 ∧ y1 ≤ 3 := by rw [← e1]; exact P.1
              unfold valL at VL
              rw [e2] at PW
              rw [e3] at PH
              rw [e4, e5, e6, e7, e8] at VL
              obtain ⟨kk, rfl, hkk⟩ := nat_toNat KB.1
              rw [hkk] at BX
              have BT := Lib.hid (fun W => sboxText_any kk (by omega) y0 y2 y3 y4 y5 y6 y7 y8 PW PH VL W)
              rw [BX] at BL
              have BX := Lib.hid BX
              generalize boxTx kk y2 y3 [y4, y5, y6, y7, y8] = B at *
              have f1 : ¬ 9223372036854775807 < T3.length + B.length := by omega
              clear e0 e1 e2 e3 e4 e5 e6 e7 e8 hb hc P PW PH VL KB hkk
              go_wp2_with fail
              refine (BT.out _).mono ?_
              rintro e wz ⟨rfl, hz⟩
              have NZ := Lib.hid hz
              clear hz
              go_wp2
              go_roundw
              case rel => exact ⟨j + 1, by omega, by go_num, by rw [NX.out, BX.out, ← List.append_assoc, HT2.out, ← HT3.out]; simp [str, ByteArray.mk_append_mk], Lib.hid ((HN.out.trans HQ.out).trans NZ.out)⟩
              case measure => simp [intOf]; omega
            · obtain ⟨k, rfl⟩ : ∃ q, k = q + 1 := ⟨k - 1, by omega⟩
              have kp : (0 : Int) < ((k + 1 : Nat) : Int) := by omega
              go_wp2
              go_roundw
              case rel => exact ⟨k, by omega, by go_num, by rw [show d - k = d - (k + 1) + 1 by omega, List.replicate_succ', ← List.append_assoc, HT3.out]; simp [str, ByteArray.mk_append_mk], HQ⟩
              case measure => simp [intOf]
        · have jp : (0 : Int) < (j : Int) := by omega
          have SJ : spT j = [10] := by unfold spT; rw [if_neg h0]
          rw [SJ] at NX
          clear h0
          obtain ⟨T2, hT2⟩ : ∃ T2, T ++ [10] = T2 := ⟨_, rfl⟩
          have L2 : T2.length ≤ 1300 := by rw [← hT2, List.length_append]; simp only [List.length_singleton]; omega
          have HT2 := Lib.hid hT2
          clear hT2
          go_wp2_with (go_at_call 13; refine (SD.out wr (New.refl _)).mono ?_; rintro e w' ⟨rfl, rfl⟩)
          generalize hwo : wr = wo at *
          clear hwo
          go_loopw [3, 5] (fun t x wq => ∃ k : Nat, k ≤ d ∧ x = .int .i64 k ∧ t = str (T2 ++ List.replicate (d - k) 45) ∧ Hid (New wo wq)) (fun _ x _ => (intOf x).toNat)
          case atStart => exact ⟨d, Nat.le_refl _, rfl, by rw [← HT2.out]; simp [str, ByteArray.mk_append_mk], Lib.hid (New.refl _)⟩
          case round =>
            obtain ⟨k, hk, rfl, rfl, HQ⟩ := hrel
            have k0 : (0 : Int) ≤ (k : Int) := by omega
            obtain ⟨T3, hT3⟩ : ∃ T3, T2 ++ List.replicate (d - k) 45 = T3 := ⟨_, rfl⟩
            have L3 : T3.length ≤ 1310 := by rw [← hT3, List.length_append, List.length_replicate]; omega
            rw [hT3]
            have HT3 := Lib.hid hT3
            clear hT3
            by_cases hk0 : k = 0
            · subst hk0
              obtain ⟨b, off, rfl, hb, hc⟩ := HX.out.at_ (by omega)
              obtain ⟨y0, e0⟩ : ∃ y, zs.getD (j * 9) 0 = y := ⟨_, rfl⟩
              have g0 : wr.cell? ⟨b, off + j * 9, none⟩ = some (.int .i64 y0) := by rw [← e0]; exact ((HN.out.trans HQ.out).cells b _ hb).trans (hc (j * 9) (by omega))
              obtain ⟨y1, e1⟩ : ∃ y, zs.getD (j * 9 + 1) 0 = y := ⟨_, rfl⟩
              have g1 : wr.cell? ⟨b, off + j * 9 + 1, none⟩ = some (.int .i64 y1) := by rw [← e1]; exact ((HN.out.trans HQ.out).cells b _ hb).trans (hc (j * 9 + 1) (by omega))
              obtain ⟨y2, e2⟩ : ∃ y, zs.getD (j * 9 + 2) 0 = y := ⟨_, rfl⟩
              have g2 : wr.cell? ⟨b, off + j * 9 + 2, none⟩ = some (.int .i64 y2) := by rw [← e2]; exact ((HN.out.trans HQ.out).cells b _ hb).trans (hc (j * 9 + 2) (by omega))
              obtain ⟨y3, e3⟩ : ∃ y, zs.getD (j * 9 + 3) 0 = y := ⟨_, rfl⟩
              have g3 : wr.cell? ⟨b, off + j * 9 + 3, none⟩ = some (.int .i64 y3) := by rw [← e3]; exact ((HN.out.trans HQ.out).cells b _ hb).trans (hc (j * 9 + 3) (by omega))
              obtain ⟨y4, e4⟩ : ∃ y, zs.getD (j * 9 + 4) 0 = y := ⟨_, rfl⟩
              have g4 : wr.cell? ⟨b, off + j * 9 + 4, none⟩ = some (.int .i64 y4) := by rw [← e4]; exact ((HN.out.trans HQ.out).cells b _ hb).trans (hc (j * 9 + 4) (by omega))
              obtain ⟨y5, e5⟩ : ∃ y, zs.getD (j * 9 + 5) 0 = y := ⟨_, rfl⟩
              have g5 : wr.cell? ⟨b, off + j * 9 + 5, none⟩ = some (.int .i64 y5) := by rw [← e5]; exact ((HN.out.trans HQ.out).cells b _ hb).trans (hc (j * 9 + 5) (by omega))
              obtain ⟨y6, e6⟩ : ∃ y, zs.getD (j * 9 + 6) 0 = y := ⟨_, rfl⟩
              have g6 : wr.cell? ⟨b, off + j * 9 + 6, none⟩ = some (.int .i64 y6) := by rw [← e6]; exact ((HN.out.trans HQ.out).cells b _ hb).trans (hc (j * 9 + 6) (by omega))
              obtain ⟨y7, e7⟩ : ∃ y, zs.getD (j * 9 + 7) 0 = y := ⟨_, rfl⟩
              have g7 : wr.cell? ⟨b, off + j * 9 + 7, none⟩ = some (.int .i64 y7) := by rw [← e7]; exact ((HN.out.trans HQ.out).cells b _ hb).trans (hc (j * 9 + 7) (by omega))
              obtain ⟨y8, e8⟩ : ∃ y, zs.getD (j * 9 + 8) 0 = y := ⟨_, rfl⟩
              have g8 : wr.cell? ⟨b, off + j * 9 + 8, none⟩ = some (.int .i64 y8) := by rw [← e8]; exact ((HN.out.trans HQ.out).cells b _ hb).trans (hc (j * 9 + 8) (by omega))
              have P := HP.out j hlt
              have BX : bxT zs j = boxTx y1.toNat y2 y3 [y4, y5, y6, y7, y8] := by unfold bxT valL knd; rw [e1, e2, e3, e4, e5, e6, e7, e8]
              have BL := bxT_len P
              obtain ⟨PW, PH⟩ := P.wide
              have VL := P.vals
              have KB : 0 ≤ y1 ∧ y1 ≤ 3 := by rw [← e1]; exact P.1
              unfold valL at VL
              rw [e2] at PW
              rw [e3] at PH
              rw [e4, e5, e6, e7, e8] at VL
              obtain ⟨kk, rfl, hkk⟩ := nat_toNat KB.1
              rw [hkk] at BX
              have BT := Lib.hid (fun W => sboxText_any kk (by omega) y0 y2 y3 y4 y5 y6 y7 y8 PW PH VL W)
              rw [BX] at BL
              have BX := Lib.hid BX
              generalize boxTx kk y2 y3 [y4, y5, y6, y7, y8] = B at *
              have f1 : ¬ 9223372036854775807 < T3.length + B.length := by omega
              clear e0 e1 e2 e3 e4 e5 e6 e7 e8 hb hc P PW PH VL KB hkk
              go_wp2_with fail
              refine (BT.out _).mono ?_
              rintro e wz ⟨rfl, hz⟩
              have NZ := Lib.hid hz
              clear hz
              go_wp2
              go_roundw
              case rel => exact ⟨j + 1, by omega, by go_num, by rw [NX.out, BX.out, ← List.append_assoc, HT2.out, ← HT3.out]; simp [str, ByteArray.mk_append_mk], Lib.hid ((HN.out.trans HQ.out).trans NZ.out)⟩
              case measure => simp [intOf]; omega
            · obtain ⟨k, rfl⟩ : ∃ q, k = q + 1 := ⟨k - 1, by omega⟩
              have kp : (0 : Int) < ((k + 1 : Nat) : Int) := by omega
              go_wp2
              go_roundw
              case rel => exact ⟨k, by omega, by go_num, by rw [show d - k = d - (k + 1) + 1 by omega, List.replicate_succ', ← List.append_assoc, HT3.out]; simp [str, ByteArray.mk_append_mk], HQ⟩
              case measure => simp [intOf]
      · obtain rfl : j = n := by omega
        go_wp2
        go_ret
        exact ⟨by rw [E1.out, HT.out]; rfl, HN.out⟩
end Go.Proofs.YtffggmjhaaehlaaDoor
