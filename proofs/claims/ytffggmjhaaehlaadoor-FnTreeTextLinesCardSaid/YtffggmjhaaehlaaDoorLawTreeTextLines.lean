/- The law FnTreeTextLines, walked: the text of a tree has a line for each box, and begins with the kind of the first one. Condition: the code can be read; the words for the kinds lie where the program's start lays them, and small numbers have their digits. -/
import Derived.Test.YtffggmjhaaehlaaDoorTxtC
import Derived.Test.YtffggmjhaaehlaaDoorTxtF
import Derived.Test.YtffggmjhaaehlaaDoorTxtR
import Derived.Test.YtffggmjhaaehlaaDoorTxtP
import Derived.Lib.SlBytesConst
namespace Go.Proofs.YtffggmjhaaehlaaDoor
open Go.RowKit

set_option maxRecDepth 100000 in
set_option maxHeartbeats 4000000 in
theorem lawTreeTextLines (A : Option Addr) (n c : Nat) (hn : n ≤ maxLen) (hnc : n ≤ c) (w : World) (hb : Bytes w A n) (hI : ItoaC w) (hK : KnC w) :
    Calls Tryd.prog 4 #[.slice A n c] w fun e w' => e = .returned (.bool true) ∧ New w w' := by
  have HB := Lib.hid hb; have HM := Lib.hid hn
  clear hb
  unfold maxLen at hn
  by_cases hbig : 1048576 < n
  · go_enter Tryd.func4, Tryd.ntmps4
    go_wp2
    go_ret
    exact ⟨rfl, by (repeat (first | exact New.refl _ | assumption | refine New.alloc ?_ _ | refine New.drew ?_ | refine New.drewN ?_ _ | refine New.setCell ?_ (by first | omega | (simp; omega) | (simp; done)) _ | refine New.trans ?_ (by assumption)))⟩
  have hm : (n : Int) ≤ 1048576 := by omega
  have hm0 : (0 : Int) ≤ (n : Int) := by omega
  have HI := Lib.hid hI; have HK := Lib.hid hK
  clear hI hK
  go_enter Tryd.func4, Tryd.ntmps4
  go_wp2_with fail
  refine (DrawFormatTree_any A n c HM.out hnc _ HB.out).mono ?_
  rintro e w1 ⟨B1, m1, d1, zs, rfl, I1, l1, kd, N1a⟩
  have s1 := N1a.le
  have N1 := Lib.hid ((New.refl w).trans N1a); clear N1a
  replace I1 := Lib.hid I1
  have FT := Lib.hid (fun W (hN : New w W) (h : Sts 9 W B1 m1 zs) => FormatTree_any B1 m1 d1 zs (by omega) W h (HI.out.new hN) joinC repC (HK.out.new hN))
  have ST := Lib.hid (fun W (h : Sts 9 W B1 m1 zs) => SFormatTree_any B1 m1 d1 zs (by omega) W h)
  clear HI HK
  go_wp2_with fail
  refine (FT.out _ N1.out I1.out).mono ?_
  rintro e w2 ⟨rfl, N2a⟩
  have s2 := N2a.le
  have I1 := Lib.hid (I1.out.new N2a)
  have N2 := Lib.hid (N1.out.trans N2a); clear N2a
  go_wp2_with fail
  refine (ST.out _ I1.out).mono ?_
  rintro e w3 ⟨rfl, N3a⟩
  have s3 := N3a.le
  have I1 := Lib.hid (I1.out.new N3a)
  have N3 := Lib.hid (N2.out.trans N3a); clear N3a
  by_cases h0 : txA m1 zs = []
  · have E0 := Lib.hid h0
    clear h0 FT
    rw [E0.out]
    go_wp2_with fail
    refine (ST.out _ I1.out).mono ?_
    rintro e w4 ⟨rfl, N4a⟩
    have N4 := Lib.hid (N3.out.trans N4a); clear N4a
    rw [E0.out]
    go_wp2
    go_ret
    exact ⟨rfl, N4.out⟩
  have hv : vtB m1 zs = true := by
    cases h : vtB m1 zs
    · exact absurd (by unfold txA; rw [h]; rfl) h0
    · rfl
  have m0 := (vtB_iff.1 hv).1.1
  have TL : (txA m1 zs).length ≤ 1280 := by
    unfold txA; rw [if_pos hv]
    exact Nat.le_trans (txT_len hv m1 (Nat.le_refl _)) (by omega)
  have TP : 0 < (txA m1 zs).length := List.length_pos_iff.2 h0
  have TC : Hid (ctN (txA m1 zs) (txA m1 zs).length = m1 - 1) := Lib.hid (by
    rw [ctN_all]; unfold txA; rw [if_pos hv]
    obtain ⟨q, rfl⟩ : ∃ q, m1 = q + 1 := ⟨m1 - 1, by omega⟩
    rw [txT_count]; rfl)
  obtain ⟨kz, hkz, k3⟩ : ∃ k : Nat, knd zs 0 = (k : Int) ∧ k ≤ 3 := by
    have h := ((vtB_iff.1 hv).2 0 (by omega)).1.1
    exact ⟨(knd zs 0).toNat, by omega, by omega⟩
  have TF : Hid ((txA m1 zs).getD 0 0 = [(108 : UInt8), 98, 114, 99].getD kz 0) := Lib.hid (by
    unfold txA; rw [if_pos hv]
    obtain ⟨q, rfl⟩ : ∃ q, m1 = q + 1 := ⟨m1 - 1, by omega⟩
    rw [(txT_first (dep_top (by rw [par_root hv (by omega)]; omega)) q).2, hkz]
    exact kn_first k3)
  have HKZ := Lib.hid hkz
  clear hv FT ST hkz
  generalize txA m1 zs = T at *
  obtain ⟨L, hL⟩ : ∃ L, T.length = L := ⟨_, rfl⟩
  rw [hL] at TL TP TC
  have HL := Lib.hid hL
  have L0 : (0 : Int) < (L : Int) := by omega
  have L1 : (L : Int) ≤ 1280 := by omega
  have NE : (T == []) = false := by cases T with | nil => exact absurd rfl h0 | cons a r => rfl
  have KC := fun (W : World) (C : Array Value) (n c : Nat) => Lib.run_convert_bytes_const (P := Tryd.prog) W 29 5 C n c Tryd.underlying29 Tryd.underlying5
  clear h0
  go_wp2
  go_loopw [5, 6] (fun nn i wr => ∃ k : Nat, k ≤ L ∧ i = .int .i64 (k : Int) ∧ nn = .int .i64 (ctN T k : Int) ∧ Hid (New w3 wr)) (fun _ i _ => L - (intOf i).toNat)
  case atStart => exact ⟨0, Nat.zero_le _, rfl, rfl, Lib.hid (New.refl _)⟩
  case round =>
    obtain ⟨k, hk, rfl, rfl, HN⟩ := hrel
    have k0 : (0 : Int) ≤ (k : Int) := by omega
    by_cases hlt : k < L
    · have c0 : (0 : Int) ≤ (ctN T k : Int) := by omega
      have c1 : (ctN T k : Int) ≤ 1280 := by have := ctN_le T k; omega
      have IX := fun W => run_str_at 9 Tryd.underlying9 T k (by rw [HL.out]; exact hlt) W
      by_cases hb : T.getD k 0 = 10
      · have CY := Lib.hid (ctN_yes (by rw [HL.out]; exact hlt) hb)
        rw [hb] at IX
        have c2 : (ctN T k : Int) + 1 ≤ 1281 := by omega
        generalize hcc : ctN T k = cc at *
        clear hb
        go_wp2
        exact ⟨⟨k + 1, by omega, by simp, by rw [CY.out]; simp, HN⟩, by simp [intOf]; omega⟩
      · have CY := Lib.hid (ctN_no (by rw [HL.out]; exact hlt) hb)
        have hu : ¬ (((T.getD k 0).toNat : Int) = 10) := fun h => hb (UInt8.toNat_inj.1 (by show _ = 10; omega))
        have hu2 : ((((T.getD k 0).toNat : Int)) == 10) = false := by simpa using hu
        generalize ((T.getD k 0).toNat : Int) = u at *
        clear hb
        go_wp2
        exact ⟨⟨k + 1, by omega, by simp, by rw [CY.out], HN⟩, by simp [intOf]; omega⟩
    · obtain rfl : L = k := by omega
      have tc : (ctN T L : Int) = (m1 : Int) - 1 := by have := TC.out; omega
      have IX0 : ∀ W, (Instr.index 9 (str T) (.int .i64 0)).run Tryd.prog W = .ok (.int .u8 ((T.getD 0 0).toNat : Int)) W := fun W => run_str_at 9 Tryd.underlying9 T 0 (by rw [HL.out]; exact TP) W
      rw [TF.out] at IX0
      obtain ⟨b, off, rfl, hb9, hc9⟩ := (I1.out.new HN.out).at_ (by omega)
      have g1 := hc9 1 (by omega)
      have e1 : zs.getD 1 0 = (kz : Int) := by have := HKZ.out; simpa [knd] using this
      rw [e1] at g1
      rw [tc]
      have m0n : 0 < m1 := by omega
      have wm : IntKind.i64.wrap ((m1 : Int) - 1) = (m1 : Int) - 1 := IntWalk.i64_in _ (by omega)
      clear hc9 e1 tc
      rcases (show kz = 0 ∨ kz = 1 ∨ kz = 2 ∨ kz = 3 by omega) with rfl | rfl | rfl | rfl
      all_goals
        simp only [List.getD_cons_zero, List.getD_cons_succ] at IX0
        go_wp2
        have CF := fun j => World.cell?_alloc_mark wr #[.int .u8 108, .int .u8 98, .int .u8 114, .int .u8 99] 5 (4, 5) j
        have c0 := CF 0
        have c1 := CF 1
        have c2 := CF 2
        have c3 := CF 3
        simp only [List.getElem?_toArray, List.getElem?_cons_zero, List.getElem?_cons_succ] at c0 c1 c2 c3
        clear CF
        go_quiet (fail)
        go_simp
        go_wp2
        go_ret
        exact ⟨rfl, by (repeat (first | exact New.refl _ | assumption | refine New.alloc ?_ _ | refine New.drew ?_ | refine New.drewN ?_ _ | refine New.setCell ?_ (by first | omega | (simp; omega) | (simp; done)) _ | refine New.trans ?_ (by assumption)))⟩
end Go.Proofs.YtffggmjhaaehlaaDoor
