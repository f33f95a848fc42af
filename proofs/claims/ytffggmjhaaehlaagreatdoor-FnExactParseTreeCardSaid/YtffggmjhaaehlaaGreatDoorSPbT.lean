/- ParseTree of the reference. Condition: the text is not too long. -/
import Derived.Test.YtffggmjhaaehlaaGreatDoorPbT
import Derived.Test.YtffggmjhaaehlaaGreatDoorSPbX
import Derived.Test.YtffggmjhaaehlaaGreatDoorTreeT
import Derived.Test.YtffggmjhaaehlaaGreatDoorBoxB
import Derived.Deep.Cut
import Derived.Deep.CutRange
namespace Go.Proofs.YtffggmjhaaehlaaGreatDoor
open Go.RowKit

/-- An answer: the tree with a text, in its room, and whether there is one. -/
def AnsTr (w : World) (o : Option (List Int)) (e : Ending) (w' : World) : Prop := New w w' ∧
  ((o = none ∧ e = .returned (.tuple #[.slice none 0 0, .bool false])) ∨ ∃ (zs : List Int) (n c : Nat) (g : Nat), o = some zs ∧ e = .returned (.tuple #[.slice (some ⟨g, 0, none⟩) n c, .bool true]) ∧ w.heap.size ≤ g ∧ n ≤ c ∧ zs.length = n * 9 ∧ Row w' g zs)
theorem dash_stop {l : List UInt8} {k : Nat} (hk : k ≤ l.length) (hd : ∀ i, i < k → l.getD i 0 = 45) (hn : k < l.length → l.getD k 0 ≠ 45) : txL l = l.drop k ∧ dpL l = k := by
  have e : txL l = l.drop k := Lib.trimLeftB_drop l 45 k hk (fun j b hj hb => by
    have := hd j hj
    rw [List.getD_eq_getElem?_getD, hb] at this
    exact this) (fun b hb h => by
    have h1 : k < l.length := (List.getElem?_eq_some_iff.1 hb).1
    have := hn h1
    rw [List.getD_eq_getElem?_getD, hb] at this
    exact this h)
  refine ⟨e, ?_⟩
  unfold dpL
  rw [e, List.length_drop]
  omega
theorem Own.oneDrawn {lo g : Nat} (w : World) (x : Int) (hg : w.heap.size = g) (hl : lo ≤ w.heap.size) (c : Nat) (h1 : 1 ≤ c) (h2 : c ≤ maxLen) : Own lo (w.alloc (.cells (#[.int .i64 x] ++ Builtin.zeroCells #[.int .i64 0] (c - 1)) 3)).drew (.slice (some ⟨g, 0, none⟩) 1 c) [x] := by
  subst hg
  refine ⟨rfl, .inr ⟨w.heap.size, c, _, rfl, hl, heap_alloc_new w _, h1, h2, ?_, ?_⟩⟩
  · simp [Builtin.zeroCells]
    omega
  · simp
theorem Own.lowT {lo lo' : Nat} {w : World} {v : Value} {zs : List Int} (h : Own lo' w v zs) (hl : lo ≤ lo') : Own lo w v zs :=
  ⟨h.1, h.2.imp id (fun ⟨g, cap, cur, a, b, r⟩ => ⟨g, cap, cur, a, Nat.le_trans hl b, r⟩)⟩
theorem wp_appBoxB {w : World} {ops : Array Oper} {rest : List Oper} {o : Oper} {a : Act} {Q : Exit → Act → World → Prop} (hgd : o.guard = none) (s x : Operand)
    (ho : o.op = .call { callee := .builtin .append, args := #[s, x], argTypes := #[22, 22] }) (lo : Nat) (v : Value) (n : Nat) (zs : List Int) (hs : a.eval s = v) (hown : OwnBox lo w v n zs)
    (A : Option Addr) (k c : Nat) (xs : List Int) (hx : a.eval x = .slice A k c) (hr : Sts 9 w A k xs) (hn : n + k ≤ 1000000) (hlo : lo ≤ w.heap.size)
    (h : ∀ v' w', OwnBox lo w' v' (n + k) (zs ++ xs) → w.grownBy w' v.ownBlock → (v'.ownBlock = v.ownBlock ∨ v'.ownBlock = some w.heap.size) → wpList Tryz.prog ops Q rest (a.put o.dst v') w') : wpList Tryz.prog ops Q (o :: rest) a w :=
  wpList_plain hgd fun K hK => by
    obtain ⟨v', w', hrun, h2, h3, h4⟩ := run_appBox w o.type lo v n zs hown A k c xs hr hn hlo
    unfold Oper.wp execOp
    simp only [ho, resolve, invoke, builtin, Sem.run_bind, Sem.run_pure, Result.andThen_ok, List.map_toArray, List.map_cons, List.map_nil, hs, hx, hrun]
    exact hK _ _ (h v' w' h2 h3 h4)
set_option maxRecDepth 100000 in
set_option maxHeartbeats 4000000 in
theorem SParseTree_any (s : List UInt8) (hs : s.length ≤ 2000000) (w : World) : Calls Tryz.prog 6 #[str s] w (AnsTr w (prT s)) := by
  have HS := Lib.hid hs
  have A0 := (New.refl w).alloc (.cells #[] 38)
  have O0 := OwnBox.empty (lo := w.heap.size) w (Nat.le_refl _)
  have A0 := Lib.hid A0; have O0 := Lib.hid O0
  clear hs
  go_enter Tryz.func6, Tryz.ntmps6
  go_wp2_with fail
  refine (splitAt_any 10 s HS.out _).mono ?_
  rintro e w1 ⟨gl, dl, rfl, hd, N1, S1, g1⟩
  have O1 := Lib.hid (O0.out.new N1)
  have N1 := Lib.hid (A0.out.trans N1)
  have LN := pcs_len 10 s
  obtain ⟨ls, hls⟩ : ∃ ls, pcs 10 s = ls := ⟨_, rfl⟩
  have HLS := Lib.hid hls
  have LW := Lib.hid (fun i => pcs_at_len 10 s i)
  have LP : 0 < ls.length := by obtain ⟨a, t, e⟩ := pcs_ne 10 s; rw [hls] at e; rw [e]; simp
  rw [hls] at S1 hd LW LN ⊢
  obtain ⟨L, hL⟩ : ∃ L, ls.length = L := ⟨_, rfl⟩
  have HL := Lib.hid hL
  rw [hL] at S1 hd LN LP ⊢
  have CL := Lib.hid (fun X (hX : New w1 X) i (hi : i < L) => (hX.cells gl i S1.lt).trans (S1.c i hi))
  have L0 : (0 : Int) ≤ (L : Int) := by omega
  have GLT := Lib.hid S1.lt
  clear hls hL S1 A0 O0
  by_cases hbig : 16 < L
  · have PN : Hid (prT s = none) := Lib.hid (prT_long (by rw [HLS.out, HL.out]; exact hbig))
    have hbi : (16 : Int) < (L : Int) := by omega
    go_wp2
    go_ret2
    exact ⟨N1.out, Or.inl ⟨PN.out, rfl⟩⟩
  have hbi : ¬ (16 : Int) < (L : Int) := by omega
  have L16 : L ≤ 16 := by omega
  have P0 := Lib.hid (Own.empty (lo := w.heap.size) w1 0 N1.out.le rfl)
  have NP := (New.refl w1).alloc (.cells #[] 3)
  have O2 := Lib.hid (O1.out.new NP)
  have N2 := Lib.hid (N1.out.trans NP)
  have C2 := Lib.hid (fun i (hi : i < L) => CL.out _ NP i hi)
  have GN : Hid (w.heap.size ≠ gl) := Lib.hid (by simp at g1; omega)
  clear NP O1 CL
  go_wp2_with fail
  go_loopw [4, 6, 7] (fun o p i wr => ∃ (k : Nat) (zs ps : List Int) (A : Option Addr) (c q : Nat) (B : Option Addr) (cb : Nat), k ≤ L ∧ q ≤ k ∧ i = .int .i64 (k : Int) ∧ o = .slice B k cb ∧ p = .slice A q c ∧ Hid (q ≤ c ∧ ps.length = q) ∧ Hid (OwnBox w.heap.size wr (.slice B k cb) k zs ∧ (Value.slice B k cb).ownBlock ≠ some gl) ∧ Hid (Own w.heap.size wr (.slice A q c) ps) ∧ Hid (New w wr ∧ gl < wr.heap.size) ∧ Hid (∀ i, i < L → wr.cell? ⟨gl, i, none⟩ = some (str (ls.getD i []))) ∧ Hid (runL ls 0 [] [] = runL (ls.drop k) k zs ps)) (fun _ _ i _ => L - (intOf i).toNat)
  case atStart => exact ⟨0, [], [], some ⟨w1.heap.size, 0, none⟩, 0, 0, some ⟨w.heap.size, 0, none⟩, 0, by omega, by omega, rfl, rfl, rfl, Lib.hid ⟨by omega, rfl⟩, Lib.hid ⟨O2.out, by intro h; exact GN.out (Option.some.inj h)⟩, P0, Lib.hid ⟨N2.out, by have := GLT.out; simp; omega⟩, C2, Lib.hid rfl⟩
  case round =>
    obtain ⟨k, zs, ps, A, c, q, B, cb, hk, hqk, rfl, rfl, rfl, HQ, HO, HP, HN, HC, HR⟩ := hrel
    have k0 : (0 : Int) ≤ (k : Int) := by omega
    by_cases hlt : k < L
    · have kL : (k : Int) < (L : Int) := by omega
      obtain ⟨l, hl⟩ : ∃ l, ls.getD k [] = l := ⟨_, rfl⟩
      have ck := HC.out k hlt
      rw [hl] at ck
      have HL2 := Lib.hid hl
      have HLL : Hid (l.length ≤ 2000000) := Lib.hid (by rw [← hl]; exact Nat.le_trans (LW.out k) HS.out)
      clear hl
      go_upto_region 9 with (fail)
      go_cut [8] from 18 to 88 (fun s8 wx => s8 = .int .i64 0 ∧ wx = wr)
      case first =>
        go_wp2
        go_meet
        case rel => exact ⟨rfl, rfl⟩
      obtain ⟨rfl, hw⟩ := hcut
      rw [hw]
      clear hw
      go_step
      go_step
      go_cut [8] from 18 to 88 (fun s8 wx => s8 = .int .i64 (dpL l : Int) ∧ wx = wr ∧ Hid (txL l = l.drop (dpL l) ∧ dpL l ≤ l.length))
      case first =>
        go_wp2
        go_loopw [8] (fun s8 wx => ∃ j : Nat, j ≤ l.length ∧ s8 = .int .i64 (j : Int) ∧ wx = wr ∧ Hid (∀ i, i < j → l.getD i 0 = 45)) (fun s8 _ => l.length - (intOf s8).toNat)
        case atStart => exact ⟨0, by omega, rfl, rfl, Lib.hid (fun i hi => absurd hi (by omega))⟩
        case round =>
          obtain ⟨j, hj, rfl, rfl, HD⟩ := hrel
          have j0 : (0 : Int) ≤ (j : Int) := by omega
          have lb := HLL.out
          by_cases hj2 : j < l.length
          · have jl : (j : Int) < (l.length : Int) := by omega
            have IX := fun W => run_str_at 9 Tryz.underlying9 l j hj2 W
            by_cases hb : l.getD j 0 = 45
            · have HD2 : Hid (∀ i, i < j + 1 → l.getD i 0 = 45) := Lib.hid (fun i hi => by
                rcases Nat.lt_or_ge i j with h1 | h1
                · exact HD.out i h1
                · obtain rfl : i = j := by omega
                  exact hb)
              rw [hb] at IX
              clear hb
              go_wp2
              exact ⟨⟨j + 1, by omega, rfl, trivial, HD2⟩, by simp [intOf]; omega⟩
            · have hu : ¬ (((l.getD j 0).toNat : Int) = 45) := fun h => hb (UInt8.toNat_inj.1 (by show _ = 45; omega))
              have hu2 : ((((l.getD j 0).toNat : Int)) == 45) = false := by simpa using hu
              have DS := Lib.hid (dash_stop hj HD.out (fun _ => hb))
              generalize ((l.getD j 0).toNat : Int) = u at *
              clear hb hu
              go_wp2
              go_meet
              case rel => exact ⟨by rw [DS.out.2], rfl, Lib.hid ⟨by rw [DS.out.2]; exact DS.out.1, by rw [DS.out.2]; exact hj⟩⟩
          · have jl : ¬ (j : Int) < (l.length : Int) := by omega
            have jd : decide ((j : Int) < (l.length : Int)) = false := decide_eq_false jl
            have DS := Lib.hid (dash_stop hj HD.out (fun h => absurd h hj2))
            go_wp2
            go_meet
            case rel => exact ⟨by rw [DS.out.2], rfl, Lib.hid ⟨by rw [DS.out.2]; exact DS.out.1, by rw [DS.out.2]; exact hj⟩⟩
      case rest =>
        obtain ⟨rfl, hw, HT⟩ := hcut
        rw [hw]
        clear hw
        obtain ⟨d, hd⟩ : ∃ d, dpL l = d := ⟨_, rfl⟩
        rw [hd] at HT ⊢
        have HDD := Lib.hid hd
        have dl := HT.out.2
        have dli : (d : Int) ≤ (l.length : Int) := by omega
        have d0 : (0 : Int) ≤ (d : Int) := by omega
        have EX : (⟨l.toArray⟩ : ByteArray).extract d l.length = ⟨(txL l).toArray⟩ := by
          rw [Lib.extract_mk l d l.length, HT.out.1, List.take_of_length_le (by rw [List.length_drop]; omega)]
        have HTL : Hid ((txL l).length ≤ 2000000) := Lib.hid (Nat.le_trans (txL_le l) HLL.out)
        clear hd
        go_wp2_with fail
        refine (parseBox_any (txL l) HTL.out _).mono ?_
        rintro e w3 ⟨N3, ⟨hb, rfl⟩ | ⟨hb, rfl⟩⟩
        · obtain ⟨y1, y2, y3, y4, y5, y6, y7, y8, hy⟩ : ∃ y1 y2 y3 y4 y5 y6 y7 y8, rdI (pcs 32 (txL l)) = [0, y1, y2, y3, y4, y5, y6, y7, y8] := ⟨_, _, _, _, _, _, _, _, rfl⟩
          rw [hy]
          have HY := Lib.hid hy
          have HB := Lib.hid hb
          clear hy hb ck EX
          by_cases hdq : d ≤ q
          · have dq : (d : Int) ≤ (q : Int) := by omega
            have dqn : ¬ (q : Int) < (d : Int) := by omega
            have dqd : decide ((q : Int) < (d : Int)) = false := decide_eq_false dqn
            have OKL : Hid (lnOk l ps.length) := Lib.hid ⟨HB.out, by rw [HDD.out, HQ.out.2]; exact hdq⟩
            by_cases hk0 : 0 < k ∧ d = 0
            · have PN : Hid (prT s = none) := Lib.hid (prT_two (k := k) (zs := zs) (ps := ps) (by rw [HLS.out]; exact HR.out) (HO.out.1.2) (by rw [HLS.out, HL.out]; exact hlt) hk0.1 (by rw [HLS.out, HL2.out, HDD.out]; exact hk0.2))
              have kp : (0 : Int) < (k : Int) := by omega
              obtain rfl : d = 0 := hk0.2
              clear hk0
              go_wp2
              go_ret2
              exact ⟨(HN.out.1.trans N3).alloc _, Or.inl ⟨PN.out, rfl⟩⟩
            · go_upto_region 13 with (fail)
              have WBE : ∀ P : Int, New w3 (w3.alloc (.cells #[.int .i64 P, .int .i64 y1, .int .i64 y2, .int .i64 y3, .int .i64 y4, .int .i64 y5, .int .i64 y6, .int .i64 y7, .int .i64 y8] 38)) := fun P => (New.refl w3).alloc _
              go_cut [67] from 18 to 88 (fun s67 wx => s67 = .bool false ∧ wx = w3.alloc (.cells #[.int .i64 0, .int .i64 y1, .int .i64 y2, .int .i64 y3, .int .i64 y4, .int .i64 y5, .int .i64 y6, .int .i64 y7, .int .i64 y8] 38))
              case first =>
                by_cases kz : k = 0
                · subst kz
                  go_wp2
                  go_meet
                  case rel => exact ⟨by rw [decide_eq_false (show ¬ q < d by omega)], rfl⟩
                · have kp : (0 : Int) < (k : Int) := by omega
                  have dz : ((d : Int) == 0) = false := by simp; omega
                  go_wp2
                  go_meet
                  case rel => exact ⟨by rw [decide_eq_false (show ¬ q < d by omega)], rfl⟩
              obtain ⟨rfl, hw⟩ := hcut
              rw [hw]
              clear hw
              obtain ⟨gb, hgb⟩ : ∃ g, w3.heap.size = g := ⟨_, rfl⟩
              have HGB := Lib.hid hgb
              clear hgb
              go_upto_if 70 with (fail)
              go_cut [9] from 18 to 88 (fun s9 wx => s9 = .pointer (some ⟨w3.heap.size, 0, none⟩) ∧ wx = w3.alloc (.cells #[.int .i64 (parL ps d), .int .i64 y1, .int .i64 y2, .int .i64 y3, .int .i64 y4, .int .i64 y5, .int .i64 y6, .int .i64 y7, .int .i64 y8] 38))
              case first =>
                by_cases hd0 : d = 0
                · subst hd0
                  go_wp2
                  go_meet
                  case rel => exact ⟨rfl, rfl⟩
                · obtain ⟨j, rfl⟩ : ∃ j, d = j + 1 := ⟨d - 1, by omega⟩
                  rcases HP.out.form with ⟨hv, hp⟩ | ⟨g, cc, hv, hg, RW, hcc, _⟩
                  · simp only [Value.slice.injEq] at hv
                    obtain ⟨_, hq0, _⟩ := hv
                    omega
                  · simp only [Value.slice.injEq] at hv
                    obtain ⟨rfl, hq2, rfl⟩ := hv
                    have zg := Nat.lt_of_lt_of_le RW.lt N3.le
                    have gk := (N3.cells g j RW.lt).trans (RW.c j (by have := HQ.out.2; omega))
                    obtain ⟨pk, hpk⟩ : ∃ pk, ps.getD j 0 = pk := ⟨_, rfl⟩
                    rw [hpk] at gk
                    have HPK : Hid (parL ps (j + 1) = pk) := Lib.hid hpk
                    have j0 : (0 : Int) ≤ (j : Int) := by omega
                    have j1 : (0 : Int) < (j : Int) + 1 := by omega
                    have j2 : (j : Int) < (q : Int) := by omega
                    have j3 : (j : Int) + 1 - 1 = (j : Int) := by omega
                    have j5 : IntKind.i64.wrap ((j : Int) + 1 - 1) = (j : Int) := by rw [j3]; exact IntWalk.i64_in _ (by omega)
                    have j4 : j < q := by omega
                    clear RW hpk hd0 hcc hg
                    go_wp2
                    go_meet
                    case rel => exact ⟨rfl, by rw [HPK.out]⟩
              obtain ⟨rfl, hw⟩ := hcut
              rw [hw, HGB.out]
              clear hw
              have HPP := Lib.hid (rfl : parL ps d = parL ps d)
              obtain ⟨P, hPd⟩ : ∃ P, parL ps d = P := ⟨_, rfl⟩
              rw [hPd]
              have HPD := Lib.hid hPd
              have RB : Hid (Row (w3.alloc (.cells #[.int .i64 P, .int .i64 y1, .int .i64 y2, .int .i64 y3, .int .i64 y4, .int .i64 y5, .int .i64 y6, .int .i64 y7, .int .i64 y8] 38)) gb [P, y1, y2, y3, y4, y5, y6, y7, y8]) := Lib.hid (by rw [← HGB.out]; exact Row.oneBox1 w3 P y1 y2 y3 y4 y5 y6 y7 y8 38)
              have N4 := N3.trans (WBE P)
              have O4 := Lib.hid (And.intro (HO.out.1.new N4) HO.out.2)
              have P4 := Lib.hid (HP.out.new N4)
              have M4 := Lib.hid (And.intro (HN.out.1.trans N4) (Nat.lt_of_lt_of_le HN.out.2 N4.le))
              have C4 := Lib.hid (fun i hi => (N4.cells gl i HN.out.2).trans (HC.out i hi))
              have R4 : Hid (runL ls 0 [] [] = runL (ls.drop (k + 1)) (k + 1) (zs ++ bxL P l) (ps.take d ++ [(k : Int)])) := Lib.hid (by
                rw [HR.out, run_next (by rw [HL.out]; exact hlt) HL2.out OKL.out, HDD.out, HPD.out])
              have BX : Hid (bxL P l = [P, y1, y2, y3, y4, y5, y6, y7, y8]) := Lib.hid (by unfold bxL; rw [HY.out]; rfl)
              have KT : Hid ((ps.take d).length = d) := Lib.hid (by rw [List.length_take, HQ.out.2]; omega)
              have WBL := Lib.hid (HN.out.1.trans N4).le
              clear hPd N4 WBE HPP HN HC HO HP HR N3 HY HB HLL HT HTL dli HDD HGB
              generalize w3.alloc (.cells #[.int .i64 P, .int .i64 y1, .int .i64 y2, .int .i64 y3, .int .i64 y4, .int .i64 y5, .int .i64 y6, .int .i64 y7, .int .i64 y8] 38) = WB at *
              go_upto_region 18 with (fail)
              have OE := Lib.hid (Own.empty (lo := WB.heap.size) WB 0 (Nat.le_refl _) rfl)
              go_cut [6] from 18 to 88 (fun s6 wx => ∃ (A9 : Option Addr) (c9 : Nat), s6 = .slice A9 (d + 1) c9 ∧ Hid (New WB wx) ∧ Hid (Own WB.heap.size wx (.slice A9 (d + 1) c9) (ps.take d ++ [(k : Int)])) ∧ d + 1 ≤ c9)
              case first =>
                rcases P4.out.form with ⟨hv, hp⟩ | ⟨g, cc, hv, hg, RW, hcc, _⟩
                · simp only [Value.slice.injEq] at hv
                  obtain ⟨rfl, rfl, rfl⟩ := hv
                  obtain rfl : d = 0 := by omega
                  have I0 : Ints (WB.alloc (.cells #[] 3)) none 0 [] := ⟨rfl, fun h => absurd h (by omega)⟩
                  clear P4 HQ hdq
                  go_wp2
                  go_meet
                  case rel =>
                    have c1 : 1 ≤ (Question.appendCap 1 0 3).cut (WB.tape WB.drawn (Question.appendCap 1 0 3)) := by simp [Question.cut]
                    have c2 : (Question.appendCap 1 0 3).cut (WB.tape WB.drawn (Question.appendCap 1 0 3)) ≤ maxLen := by simp [Question.cut, maxLen]; omega
                    have NW := ((New.refl WB).alloc (.cells #[] 3)).alloc (.cells #[.int .i64 (k : Int)] 3)
                    exact ⟨_, _, rfl, Lib.hid ((NW.alloc _).drew), Lib.hid (show Own WB.heap.size _ _ [(k : Int)] from Own.oneDrawn _ (k : Int) (by simp) NW.le _ c1 c2), c1⟩
                · simp only [Value.slice.injEq] at hv
                  obtain ⟨rfl, hq2, rfl⟩ := hv
                  have dc : d ≤ c := by omega
                  have I1 : Ints (WB.alloc (.cells #[] 3)) (some ⟨g, 0, none⟩) d (ps.take d) := by
                    rcases ((P4.out.take (d := d) HQ.out.2 hdq).new ((New.refl WB).alloc (.cells #[] 3))).form with ⟨h1, _⟩ | ⟨g', c', h1, _, R1, _, _⟩
                    · simp only [Value.slice.injEq] at h1; exact absurd h1.1 (by simp)
                    · simp only [Value.slice.injEq] at h1
                      have e : g = g' := by have := h1.1; simp at this; exact this
                      subst e
                      have r := R1.ints
                      rw [KT.out] at r
                      exact r
                  clear RW hcc
                  go_wp2_with (first | (refine wp_app rfl _ _ rfl WB.heap.size _ ([] ++ ps.take d) rfl (O8.new ((New.refl w8).alloc _)) (some ⟨w8.heap.size, 0, none⟩) 1 1 [(k : Int)] rfl (Ints.one w8 (k : Int) 3) (by simp; omega) (by have := N8.le; simp; omega) ?_; intro v9 w9 O9 G9) | (refine wp_app rfl _ _ rfl WB.heap.size (.slice (some ⟨WB.heap.size, 0, none⟩) 0 0) [] rfl OE.out (some ⟨g, 0, none⟩) d c (ps.take d) rfl I1 (by simp; omega) (by simp) ?_; intro v8 w8 O8 G8; have N8 := new_own ((New.refl WB).alloc _) G8 OE.out (Nat.le_refl _)))
                  have N9 := Lib.hid (new_own (N8.trans ((New.refl w8).alloc _)) G9 (O8.new ((New.refl w8).alloc _)) (Nat.le_refl _))
                  have O9' : Own WB.heap.size w9 v9 ((ps.take d) ++ [(k : Int)]) := O9
                  obtain ⟨A9, c9, hv9, hc9, _⟩ := O9'.res
                  rw [show ((ps.take d) ++ [(k : Int)]).length = d + 1 by rw [List.length_append, KT.out]; rfl] at hv9 hc9
                  rw [hv9] at O9'
                  rw [hv9]
                  go_meet
                  case rel => exact ⟨A9, c9, rfl, N9, Lib.hid O9', hc9⟩
              obtain ⟨A9, c9, rfl, N9, O9, hc9⟩ := hcut
              have O5 := Lib.hid (And.intro (O4.out.1.new N9.out) O4.out.2)
              have M5 := Lib.hid (And.intro (M4.out.1.trans N9.out) (Nat.lt_of_lt_of_le M4.out.2 N9.out.le))
              have C5 := Lib.hid (fun i hi => (N9.out.cells gl i M4.out.2).trans (C4.out i hi))
              obtain ⟨q0, q1, q2, q3, q4, q5, q6, q7, q8⟩ := Row.allBox (RB.out.new N9.out)
              have RLT := Nat.lt_of_lt_of_le RB.out.lt N9.out.le
              clear O4 M4 C4 P4 RB OE
              go_wp2_with (refine wp_appBoxB rfl _ _ rfl w.heap.size (.slice B k cb) k zs rfl (O5.out.1.new ((New.refl wc).alloc _)) (some ⟨wc.heap.size, 0, none⟩) 1 1 [P, y1, y2, y3, y4, y5, y6, y7, y8] rfl (Sts.of_res (Res.of_row (Row.oneBox1 wc P y1 y2 y3 y4 y5 y6 y7 y8 38) (Nat.zero_le _)) rfl) (by omega) (by have := M5.out.1.le; simp; omega) ?_; intro v7 w7 O7 G7 E7)
              have NA := (New.refl wc).alloc (.cells #[.int .i64 P, .int .i64 y1, .int .i64 y2, .int .i64 y3, .int .i64 y4, .int .i64 y5, .int .i64 y6, .int .i64 y7, .int .i64 y8] 38)
              have hgl : some gl ≠ (Value.slice B k cb).ownBlock := fun h => O5.out.2 h.symm
              have N7 := Lib.hid (new_ownBox (M5.out.1.trans NA) G7 (O5.out.1.new NA) (Nat.le_refl _))
              have P7 := Lib.hid (((O9.out.new NA).keptBox (O5.out.1.new NA) G7).lowT WBL.out)
              have C7 : Hid (∀ i, i < L → w7.cell? ⟨gl, i, none⟩ = some (str (ls.getD i []))) := Lib.hid (fun i hi => G7.cell ((NA.cells gl i M5.out.2).trans (C5.out i hi)) hgl)
              have L7 : Hid (gl < w7.heap.size) := Lib.hid (Nat.lt_of_lt_of_le (Nat.lt_of_lt_of_le M5.out.2 NA.le) G7.size)
              have E7' : v7.ownBlock ≠ some gl := by
                rcases E7 with h | h
                · rw [h]; exact O5.out.2
                · rw [h]; intro h2
                  have h3 := Option.some.inj h2
                  have h4 := M5.out.2
                  simp at h3
                  omega
              obtain ⟨A7, c7, rfl, _, _⟩ := O7.res
              have LE9 : Hid (d + 1 ≤ c9 ∧ (ps.take d ++ [(k : Int)]).length = d + 1) := Lib.hid ⟨hc9, by rw [List.length_append, KT.out]; rfl⟩
              exact ⟨⟨k + 1, _, _, A9, c9, d + 1, A7, c7, by omega, by omega, rfl, rfl, rfl, LE9, Lib.hid ⟨O7, E7'⟩, P7, Lib.hid ⟨N7.out, L7.out⟩, C7, Lib.hid (by rw [R4.out, BX.out])⟩, by simp [intOf]; omega⟩
          · have PN : Hid (prT s = none) := Lib.hid (prT_none_of (by rw [HLS.out, HR.out]; exact run_stop (by rw [HL.out]; exact hlt) HL2.out (fun h => hdq (by have := h.2; rw [HDD.out, HQ.out.2] at this; exact this))))
            have dqn : (q : Int) < (d : Int) := by omega
            clear hdq
            go_wp2
            go_ret2
            exact ⟨(HN.out.1.trans N3).alloc _, Or.inl ⟨PN.out, rfl⟩⟩
        · have PN : Hid (prT s = none) := Lib.hid (prT_none_of (by rw [HLS.out, HR.out]; exact run_stop (by rw [HL.out]; exact hlt) HL2.out (fun h => hb h.1)))
          clear hb ck EX
          go_wp2
          go_ret2
          exact ⟨(HN.out.1.trans N3).alloc _, Or.inl ⟨PN.out, rfl⟩⟩
    · obtain rfl : k = L := by omega
      have RF : runL ls 0 [] [] = some zs := by rw [HR.out, List.drop_of_length_le (by rw [HL.out]; omega)]; rfl
      have PT : Hid (prT s = if vtB k zs = true then some zs else none) := Lib.hid (by rw [prT_of (by rw [HLS.out]; exact RF), HLS.out, HL.out])
      clear RF HR HP HC HQ LW HLS HL
      rcases HO.out.1.form with ⟨_, hk0, _⟩ | ⟨g, cc, hv, hg, RW, hcc, _⟩
      · omega
      · simp only [Value.slice.injEq] at hv
        obtain ⟨rfl, -, rfl⟩ := hv
        have ZL : Hid (zs.length = k * 9) := Lib.hid HO.out.1.2
        have RH := Lib.hid RW
        have GH := Lib.hid hg
        have CH := Lib.hid hcc
        have ST := Lib.hid (Sts.of_res (n := k) (Res.of_row RW (Nat.zero_le _)) ZL.out)
        clear RW hg hcc HO
        have kd : decide ((k : Int) < (k : Int)) = false := decide_eq_false (by omega)
        go_wp2_with fail
        refine (svalidTree_any (some ⟨g, 0, none⟩) k cb zs (by omega) _ ST.out).mono ?_
        rintro e w3 ⟨rfl, N3⟩
        by_cases hv : vtB k zs = true
        · rw [if_pos hv] at PT
          rw [hv]
          go_wp2
          go_ret2
          exact ⟨HN.out.1.trans N3, Or.inr ⟨zs, k, cb, g, PT.out, rfl, GH.out, CH.out, ZL.out, RH.out.new N3⟩⟩
        · rw [if_neg hv] at PT
          have hv2 : vtB k zs = false := by simpa using hv
          rw [hv2]
          clear hv hv2
          go_wp2
          go_ret2
          exact ⟨HN.out.1.trans N3, Or.inl ⟨PT.out, rfl⟩⟩
end Go.Proofs.YtffggmjhaaehlaaGreatDoor
