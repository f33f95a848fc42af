/- The law FnTreeTextShort, walked: the text of a tree has no two spaces side by side, and none at the end of a line. Condition: the code can be read; the words for the kinds lie where the program's start lays them, and small numbers have their digits. -/
import Derived.Test.YtffggmjhaaehlaaDoorTxtC
import Derived.Test.YtffggmjhaaehlaaDoorTxtF
import Derived.Test.YtffggmjhaaehlaaDoorTxtR
import Derived.Test.YtffggmjhaaehlaaDoorTxtP
import Derived.Lib.SlBytesConst
namespace Go.Proofs.YtffggmjhaaehlaaDoor
open Go.RowKit

set_option maxRecDepth 100000 in
set_option maxHeartbeats 4000000 in
theorem lawTreeTextShort (A : Option Addr) (n c : Nat) (hn : n ≤ maxLen) (hnc : n ≤ c) (w : World) (hb : Bytes w A n) (hI : ItoaC w) (hK : KnC w) :
    Calls Tryd.prog 5 #[.slice A n c] w fun e w' => e = .returned (.bool true) ∧ New w w' := by
  have HB := Lib.hid hb; have HM := Lib.hid hn
  clear hb
  unfold maxLen at hn
  by_cases hbig : 1048576 < n
  · go_enter Tryd.func5, Tryd.ntmps5
    go_wp2
    go_ret
    exact ⟨rfl, by (repeat (first | exact New.refl _ | assumption | refine New.alloc ?_ _ | refine New.drew ?_ | refine New.drewN ?_ _ | refine New.setCell ?_ (by first | omega | (simp; omega) | (simp; done)) _ | refine New.trans ?_ (by assumption)))⟩
  have hm : (n : Int) ≤ 1048576 := by omega
  have hm0 : (0 : Int) ≤ (n : Int) := by omega
  have HI := Lib.hid hI; have HK := Lib.hid hK
  clear hI hK
  go_enter Tryd.func5, Tryd.ntmps5
  go_wp2_with fail
  refine (DrawFormatTree_any A n c HM.out hnc _ HB.out).mono ?_
  rintro e w1 ⟨B1, m1, d1, zs, rfl, I1, l1, kd, N1a⟩
  have s1 := N1a.le
  have N1 := Lib.hid ((New.refl w).trans N1a); clear N1a
  replace I1 := Lib.hid I1
  have FT := Lib.hid (fun W (hN : New w W) (h : Sts 9 W B1 m1 zs) => FormatTree_any B1 m1 d1 zs (by omega) W h (HI.out.new hN) joinC repC (HK.out.new hN))
  have ST := Lib.hid (fun W (h : Sts 9 W B1 m1 zs) => SFormatTree_any B1 m1 d1 zs (by omega) W h)
  clear HI HK
  go_wp2_with fail
  refine (FT.out _ N1.out I1.out).mono ?_
  rintro e w2 ⟨rfl, N2a⟩
  have s2 := N2a.le
  have I1 := Lib.hid (I1.out.new N2a)
  have N2 := Lib.hid (N1.out.trans N2a); clear N2a
  go_wp2_with fail
  refine (ST.out _ I1.out).mono ?_
  rintro e w3 ⟨rfl, N3a⟩
  have s3 := N3a.le
  have I1 := Lib.hid (I1.out.new N3a)
  have N3 := Lib.hid (N2.out.trans N3a); clear N3a
  by_cases h0 : txA m1 zs = []
  · have E0 := Lib.hid h0
    clear h0 FT
    rw [E0.out]
    go_wp2_with fail
    refine (ST.out _ I1.out).mono ?_
    rintro e w4 ⟨rfl, N4a⟩
    have N4 := Lib.hid (N3.out.trans N4a); clear N4a
    rw [E0.out]
    go_wp2
    go_ret
    exact ⟨rfl, N4.out⟩
  have hv : vtB m1 zs = true := by
    cases h : vtB m1 zs
    · exact absurd (by unfold txA; rw [h]; rfl) h0
    · rfl
  have m0 := (vtB_iff.1 hv).1.1
  have TL : (txA m1 zs).length ≤ 1280 := by
    unfold txA; rw [if_pos hv]
    exact Nat.le_trans (txT_len hv m1 (Nat.le_refl _)) (by omega)
  have TP : 0 < (txA m1 zs).length := List.length_pos_iff.2 h0
  have SP : spOk (txA m1 zs) = true := by unfold txA; rw [if_pos hv]; exact txT_sp zs m1
  clear hv FT ST
  generalize txA m1 zs = T at *
  obtain ⟨L, hL⟩ : ∃ L, T.length = L := ⟨_, rfl⟩
  have SA := Lib.hid (fun i hi => spOk_at SP i hi)
  have SL := Lib.hid (spOk_last SP TP)
  rw [hL] at TL TP
  have HL := Lib.hid hL
  have L0 : (0 : Int) < (L : Int) := by omega
  have L1 : (L : Int) ≤ 1280 := by omega
  have NE : (T == []) = false := by cases T with | nil => exact absurd rfl h0 | cons a r => rfl
  clear h0 SP
  go_wp2
  go_loopw [5] (fun i wr => ∃ k : Nat, k + 1 ≤ L ∧ i = .int .i64 ((k : Int) + 1) ∧ Hid (New w3 wr)) (fun i _ => L - (intOf i).toNat)
  case atStart => exact ⟨0, by omega, rfl, Lib.hid (New.refl _)⟩
  case round =>
    obtain ⟨k, hk, rfl, HN⟩ := hrel
    have k0 : (0 : Int) ≤ (k : Int) := by omega
    have wk : IntKind.i64.wrap ((k : Int) + 1 - 1) = (k : Int) := by rw [IntWalk.i64_in _ (by omega)]; omega
    have wk2 : (k : Int) + 1 - 1 = (k : Int) := by omega
    by_cases hlt : k + 1 < L
    · have kL : (k : Int) + 1 < (L : Int) := by omega
      have klt : k < L := by omega
      have IX := fun W => run_str_at 9 Tryd.underlying9 T k (by rw [HL.out]; omega) W
      have IY : ∀ W, (Instr.index 9 (str T) (.int .i64 ((k : Int) + 1))).run Tryd.prog W = .ok (.int .u8 ((T.getD (k + 1) 0).toNat : Int)) W := fun W => run_str_at 9 Tryd.underlying9 T (k + 1) (by rw [HL.out]; exact hlt) W
      by_cases hb : T.getD k 0 = 32
      · obtain ⟨hy, hz⟩ := SA.out k (by rw [HL.out]; exact hlt) hb
        have hu : ¬ (((T.getD (k + 1) 0).toNat : Int) = 32) := fun h => hy (UInt8.toNat_inj.1 (by show _ = 32; omega))
        have hv : ¬ (((T.getD (k + 1) 0).toNat : Int) = 10) := fun h => hz (UInt8.toNat_inj.1 (by show _ = 10; omega))
        have hu2 : ((((T.getD (k + 1) 0).toNat : Int)) == 32) = false := by simpa using hu
        have hv2 : ((((T.getD (k + 1) 0).toNat : Int)) == 10) = false := by simpa using hv
        rw [hb] at IX
        generalize ((T.getD (k + 1) 0).toNat : Int) = u at *
        clear hb hy hz
        go_wp2
        exact ⟨⟨k + 1, by omega, by simp, HN⟩, by simp [intOf]; omega⟩
      · have hu : ¬ (((T.getD k 0).toNat : Int) = 32) := fun h => hb (UInt8.toNat_inj.1 (by show _ = 32; omega))
        have hu2 : ((((T.getD k 0).toNat : Int)) == 32) = false := by simpa using hu
        generalize ((T.getD k 0).toNat : Int) = u at *
        clear hb IY
        go_wp2
        exact ⟨⟨k + 1, by omega, by simp, HN⟩, by simp [intOf]; omega⟩
    · obtain ⟨q, rfl⟩ : ∃ q, L = q + 1 := ⟨k, by omega⟩
      obtain rfl : q = k := by omega
      have IX := fun W => run_str_at 9 Tryd.underlying9 T q (by rw [HL.out]; omega) W
      have hb : T.getD q 0 ≠ 32 := by have := SL.out; rw [HL.out] at this; exact this
      have hu : ¬ (((T.getD q 0).toNat : Int) = 32) := fun h => hb (UInt8.toNat_inj.1 (by show _ = 32; omega))
      have hu2 : ((((T.getD q 0).toNat : Int)) == 32) = false := by simpa using hu
      generalize ((T.getD q 0).toNat : Int) = u at *
      clear hb
      go_wp2
      rw [show (u != 32) = true by simp [bne, hu2]]
      go_ret
      exact ⟨rfl, N3.out.trans HN.out⟩
end Go.Proofs.YtffggmjhaaehlaaDoor
