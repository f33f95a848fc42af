/- The reference's grow and shrink, walked: sizes are moved in rounds until nothing moves, as the plain function says. Condition: the sizes lie in a block of the call's own. -/
import Derived.Test.YtobnjagmakhgpaaZO
import Derived.Test.YtobnjagmakhgpaaZJ
import Derived.Test.YtobnjagmakhgpaaZM
import Derived.Deep.RegionHeld3
namespace Go.Proofs.Ytobnjagmakhgpaa
open Go.RowKit

theorem step_app2 {w : World} {ops : Array Oper} {o : Oper} {a : Act} {K : Act → World → Prop} {Q : Exit → Act → World → Prop} {E : Prop} (hgd : o.guard = none) (s x : Operand)
    (ho : o.op = .call { callee := .builtin .append, args := #[s, x], argTypes := #[31, 31] }) (lo : Nat) (v : Value) (zs : List Int) (hs : a.eval s = v) (hown : Own lo w v zs)
    (g : Nat) (z : Int) (hx : a.eval x = .slice (some ⟨g, 0, none⟩) 1 1) (hr : Ints w (some ⟨g, 0, none⟩) 1 [z]) (hn : zs.length + 1 ≤ 1000000) (hlo : lo ≤ w.heap.size)
    (h : ∀ v' w', Own lo w' v' (zs ++ [z]) → w.grownBy w' v.ownBlock → K (a.put o.dst v') w') :
    if Region.wanted o (yielded ops a.tmps) = true then Oper.wp Try.prog o a w K Q else E := by
  have hw : Region.wanted o (yielded ops a.tmps) = true := by simp [Region.wanted, hgd]
  rw [if_pos hw]
  obtain ⟨v', w', hrun, h2, h3, _⟩ := run_app2 w o.type lo v zs hown g z hr hn hlo
  unfold Oper.wp execOp
  simp only [ho, resolve, invoke, builtin, Sem.run_bind, Sem.run_pure, Result.andThen_ok, List.map_toArray, List.map_cons, List.map_nil, hs, hx, hrun]
  exact h v' w' h2 h3
theorem Chg.drewN {lo hi : Nat} {w w' : World} (h : Chg lo hi w w') (k : Nat) : Chg lo hi w (w'.drewN k) := ⟨h.os, h.tape, h.output, h.size, h.block⟩
set_option maxHeartbeats 400000 in
theorem toInt_yes (w : World) : Calls Try.prog 61 #[.bool true] w fun e w' => e = .returned (.int .i64 1) ∧ w = w' := by
  go_enter Try.func61, Try.ntmps61
  go_wp2
  go_ret
  exact ⟨rfl, rfl⟩
set_option maxHeartbeats 400000 in
theorem toInt_no (w : World) : Calls Try.prog 61 #[.bool false] w fun e w' => e = .returned (.int .i64 0) ∧ w = w' := by
  go_enter Try.func61, Try.ntmps61
  go_wp2
  go_ret
  exact ⟨rfl, rfl⟩
set_option maxRecDepth 100000 in
set_option maxHeartbeats 8000000 in
theorem sgrow_any (A : Option Addr) (n c go co : Nat) (zs os0 r0 : List Int) (a0 : Int) (hv : flsB n zs = true) (h : Rm n (colL n zs 3) r0 a0) (hlo : os0.length = n) (hos : ∀ i, i < n → os0.getD i 0 = zs.getD (i * 5 + 2) 0 - r0.getD i 0) (w : World) (hx : Sts 5 w A n zs) (hR : Row w go os0) (hA : ∀ b off, A = some ⟨b, off, none⟩ → b ≠ go) :
    Calls Try.prog 109 #[.slice A n c, .slice (some ⟨go, 0, none⟩) n co, .int .i64 a0] w fun e w' => e = .returned (.slice (some ⟨go, 0, none⟩) n co) ∧ ∃ os, os.length = n ∧ Row w' go os ∧ (∀ i, i < n → os.getD i 0 = zs.getD (i * 5 + 2) 0 - (finL (colL n zs 3) r0 a0).getD i 0) ∧ w.grownBy w' (some go) := by
  have n1 := h.n1; have n8 := h.n8
  have i1 : (1 : Int) ≤ (n : Int) := by omega
  have i8 : (n : Int) ≤ 8 := by omega
  have gl0 : go < w.heap.size := hR.lt
  have HOK := Lib.hid (fun k hk => flOk_iff.1 ((flsB_iff.1 hv).2 k hk))
  obtain ⟨b, off, rfl, hb, hc⟩ := hx.at_ (by omega)
  have hne : b ≠ go := hA b off rfl
  have HC := Lib.hid hc; have H := Lib.hid h; have HR := Lib.hid hR; have HO := Lib.hid hos; have HL := Lib.hid hlo
  clear hx hc hA h hR hos hlo hv
  go_enter Try.func109, Try.ntmps109
  go_wp2
  go_loopw [2] (fun s wr => ∃ (rooms os : List Int) (a : Int), s = .int .i64 a ∧ Hid (Rm n (colL n zs 3) rooms a) ∧ Hid (finL (colL n zs 3) rooms a = finL (colL n zs 3) r0 a0) ∧ Hid (Row wr go os) ∧ Hid (os.length = n ∧ ∀ i, i < n → os.getD i 0 = zs.getD (i * 5 + 2) 0 - rooms.getD i 0) ∧ Hid (w.grownBy wr (some go))) (fun s _ => (intOf s).toNat)
  case atStart => exact ⟨r0, os0, a0, rfl, H, Lib.hid rfl, HR, Lib.hid ⟨HL.out, HO.out⟩, Lib.hid (World.grownBy.refl _ _)⟩
  case round =>
    obtain ⟨rooms, os, a, rfl, HRm, HF, HR1, HOS, HG⟩ := hrel
    obtain ⟨wo, rfl⟩ : ∃ x, x = wr := ⟨wr, rfl⟩
    have gl : go < wo.heap.size := HR1.out.lt
    have hgs := HG.out.size
    obtain ⟨ab0, ab1⟩ := HRm.out.ab
    have E0 : Hid (Own wo.heap.size (wo.alloc (.cells #[] 3)) (.slice (some ⟨wo.heap.size, 0, none⟩) 0 0) ((openL (colL n zs 3) rooms).take 0)) := Lib.hid (Own.empty wo 0 (Nat.le_refl _) rfl)
    have CELL := Lib.hid (fun (j : Nat) (hj : j < n * 5) => (only_cells HG.out b (off + j) hb hne).trans (HC.out j hj))
    have NA : Hid (New wo (wo.alloc (.cells #[] 3))) := Lib.hid ((New.refl _).alloc _)
    go_wp2
    go_loopw [7, 8] (fun v i wr => ∃ k : Nat, k ≤ n ∧ i = .int .i64 k ∧ Hid (Own wo.heap.size wr v ((openL (colL n zs 3) rooms).take k)) ∧ Hid (New wo wr)) (fun _ i _ => n - (intOf i).toNat)
    case atStart => exact ⟨0, Nat.zero_le _, rfl, E0, NA⟩
    case round =>
      obtain ⟨k, hk, rfl, OW, HN⟩ := hrel
      have szr := HN.out.le
      by_cases hlt : k < n
      · have cx : wo.cell? ⟨b, off + k * 5 + 3, none⟩ = some (.int .i64 (zs.getD (k * 5 + 3) 0)) := CELL.out (k * 5 + 3) (by omega)
        have cm : wo.cell? ⟨b, off + k * 5 + 2, none⟩ = some (.int .i64 (zs.getD (k * 5 + 2) 0)) := CELL.out (k * 5 + 2) (by omega)
        have co := HR1.out.c k (by rw [HOS.out.1]; exact hlt)
        have oe := HOS.out.2 k hlt
        rw [oe] at co
        have rb := HRm.out.rb k hlt
        have oa := HRm.out.open_at hlt
        rw [colL_at hlt] at oa
        have tk : (openL (colL n zs 3) rooms).take (k + 1) = (openL (colL n zs 3) rooms).take k ++ [(openL (colL n zs 3) rooms).getD k 0] := take_snoc_i (by rw [HRm.out.lo]; exact hlt)
        have lt_ : ((openL (colL n zs 3) rooms).take k).length = k := by rw [List.length_take, HRm.out.lo]; omega
        have TK := Lib.hid tk; have LT := Lib.hid lt_; have OA := Lib.hid oa
        have bb : b < wo.heap.size := Nat.lt_of_lt_of_le hb hgs
        obtain ⟨p1, p2, p3, p4, p5⟩ := HOK.out k hlt
        have k0 : (0 : Int) ≤ (k : Int) := by omega
        have k1 : (k : Int) < (n : Int) := by omega
        clear oe oa tk lt_
        generalize zs.getD (k * 5 + 3) 0 = x at *
        generalize zs.getD (k * 5 + 2) 0 = mv at *
        generalize rooms.getD k 0 = r at *
        obtain ⟨ov, hov⟩ : ∃ ov, ov = mv - r := ⟨_, rfl⟩
        rw [← hov] at co
        have KF := Lib.hid (fun (W : World) (hW : New wo W) => (⟨(hW.cells _ _ bb).trans cx, (hW.cells _ _ gl).trans co, (hW.cells _ _ bb).trans cm⟩ : W.cell? ⟨b, off + k * 5 + 3, none⟩ = some (.int .i64 x) ∧ W.cell? ⟨go, k, none⟩ = some (.int .i64 ov) ∧ W.cell? ⟨b, off + k * 5 + 2, none⟩ = some (.int .i64 mv)))
        obtain ⟨v, hv⟩ : ∃ v, v = u7 := ⟨_, rfl⟩
        rw [← hv] at OW ⊢
        clear cx cm co hv
        have wx : IntKind.i64.wrap x = x := IntWalk.i64_in _ (by omega)
        by_cases hr : r = 0
        · have hd : decide (ov < mv) = false := decide_eq_false (by omega)
          subst hr
          rw [if_pos rfl] at OA
          clear hov rb
          have K1 := KF.out wr.drew HN.out.drew
          have K2 := KF.out (wr.drew.alloc (.cells #[.int .i64 0] 3)) (HN.out.drew.alloc _)
          have OWA := Lib.hid (OW.out.drew.alloc (.cells #[.int .i64 0] 3))
          go_wp2
          go_region_held3 (fun w' => w'.cell? ⟨b, off + k * 5 + 3, none⟩ = some (.int .i64 x) ∧ w'.cell? ⟨go, k, none⟩ = some (.int .i64 ov) ∧ w'.cell? ⟨b, off + k * 5 + 2, none⟩ = some (.int .i64 mv))
            (first | (exact K1) | (exact K2) | (exact K6) | assumption)
            (first
              | (go_at_call 61; refine (toInt_no _).mono ?_; rintro e w' ⟨rfl, rfl⟩)
              | (refine step_app2 rfl (.tmp 19) (.tmp 37) rfl wo.heap.size v _ rfl OWA.out wr.heap.size 0 rfl (ints1 (by first | (simp [go_sem]; done) | (simp [go_sem]; exact IntWalk.i64_in _ (by omega)))) (by rw [LT.out]; omega) (by simp; omega) ?_; intro v6 w6 O6 G6; (have N6 := Lib.hid (new_own (HN.out.drew.alloc (.cells #[.int .i64 0] 3)) G6 OWA.out (Nat.le_refl _))); (have K6 := KF.out w6 N6.out); (replace O6 := Lib.hid O6); clear G6))
          go_wp2
          go_roundw
          case rel => exact ⟨k + 1, by omega, by go_num, Lib.hid (by rw [TK.out]; rw [OA.out]; exact O6.out), N6⟩
          case measure => simp [intOf]; omega
        · have hd : decide (ov < mv) = true := decide_eq_true (by omega)
          rw [if_neg hr] at OA
          clear hov rb hr
          have K1 := KF.out wr.drew HN.out.drew
          have K2 := KF.out (wr.drew.alloc (.cells #[.int .i64 x] 3)) (HN.out.drew.alloc _)
          have OWA := Lib.hid (OW.out.drew.alloc (.cells #[.int .i64 x] 3))
          go_wp2
          go_region_held3 (fun w' => w'.cell? ⟨b, off + k * 5 + 3, none⟩ = some (.int .i64 x) ∧ w'.cell? ⟨go, k, none⟩ = some (.int .i64 ov) ∧ w'.cell? ⟨b, off + k * 5 + 2, none⟩ = some (.int .i64 mv))
            (first | (exact K1) | (exact K2) | (exact K6) | assumption)
            (first
              | (go_at_call 61; refine (toInt_yes _).mono ?_; rintro e w' ⟨rfl, rfl⟩)
              | (refine step_app2 rfl (.tmp 19) (.tmp 37) rfl wo.heap.size v _ rfl OWA.out wr.heap.size x rfl (ints1 (by simp [go_sem])) (by rw [LT.out]; omega) (by simp; omega) ?_; intro v6 w6 O6 G6; (have N6 := Lib.hid (new_own (HN.out.drew.alloc (.cells #[.int .i64 x] 3)) G6 OWA.out (Nat.le_refl _))); (have K6 := KF.out w6 N6.out); (replace O6 := Lib.hid O6); clear G6))
          go_wp2
          go_roundw
          case rel => exact ⟨k + 1, by omega, by go_num, Lib.hid (by rw [TK.out]; rw [OA.out]; exact O6.out), N6⟩
          case measure => simp [intOf]; omega
      · obtain rfl : n = k := by omega
        obtain ⟨w2, rfl⟩ : ∃ x, x = wr := ⟨wr, rfl⟩
        have OWA : Hid (Own wo.heap.size w2 u7 (openL (colL n zs 3) rooms)) := Lib.hid (by have h := OW.out; rw [List.take_of_length_le (by rw [HRm.out.lo]; exact Nat.le_refl _)] at h; exact h)
        obtain ⟨B5, c5, hv5, _, Z5⟩ := OWA.out.res
        rw [HRm.out.lo] at hv5
        subst hv5
        have I5 := Lib.hid (Z5.ints HRm.out.lo)
        clear Z5
        go_wp2_with fail
        refine (share_any B5 n c5 a (openL (colL n zs 3) rooms) n8 HRm.out.ab HRm.out.wts _ I5.out).mono ?_
        rintro e w3 ⟨g3, rfl, hg3, R3, N3⟩
        have I3 : Hid (Ints w3 (some ⟨g3, 0, none⟩) n (shareL a (openL (colL n zs 3) rooms))) := Lib.hid (by have h := R3.ints; rw [HRm.out.ls] at h; exact h)
        replace R3 := Lib.hid R3
        have HN3 := Lib.hid (HN.out.trans N3)
        have s3 := HN3.out.le
        have R1 := Lib.hid (HR1.out.new HN3.out)
        have hsm : Hid (Sml (shareL a (openL (colL n zs 3) rooms))) := Lib.hid (fun z hz => by
          obtain ⟨i, hi, rfl⟩ := List.mem_iff_getElem.1 hz
          have e : (shareL a (openL (colL n zs 3) rooms)).getD i 0 = (shareL a (openL (colL n zs 3) rooms))[i] := by simp [hi]
          have := HRm.out.share_bd i
          rw [e] at this; omega)
        have ST := HRm.out.still
        clear N3
        go_wp2_with fail
        refine (ssum_any _ n n _ (by omega) _ I3.out hsm.out).mono ?_
        rintro e w' ⟨rfl, rfl⟩
        by_cases hz : (shareL a (openL (colL n zs 3) rooms)).sum = 0
        · have FE : Hid (rooms = finL (colL n zs 3) r0 a0) := Lib.hid ((fin_end (ST.2 hz)).symm.trans HF.out)
          have GG : Hid (w.grownBy w3 (some go)) := Lib.hid (only_new HG.out HN3.out)
          rw [hz]
          clear hz ST
          go_wp2
          go_ret
          exact ⟨rfl, os, HOS.out.1, R1.out, fun i hi => by rw [← FE.out]; exact HOS.out.2 i hi, GG.out⟩
        · have hzb : ((shareL a (openL (colL n zs 3) rooms)).sum == 0) = false := by simpa using hz
          have hz2 : (stepL (colL n zs 3) rooms a).sum ≠ 0 := fun h => hz (ST.1 h)
          have HZ2 := Lib.hid hz2
          have CELL3 := Lib.hid (fun (j : Nat) (hj : j < n * 5) => (HN3.out.cells b (off + j) (Nat.lt_of_lt_of_le hb hgs)).trans (CELL.out j hj))
          clear hz ST hz2
          go_wp2
          go_loopw [2, 10] (fun sp i wr => ∃ (k : Nat) (ms : List Int), k ≤ n ∧ i = .int .i64 k ∧ sp = .int .i64 (a - ((stepL (colL n zs 3) rooms a).take k).sum) ∧ Hid (Row wr go ms) ∧ Hid (ms.length = n ∧ ∀ i, i < n → ms.getD i 0 = zs.getD (i * 5 + 2) 0 - (roomsTo (colL n zs 3) rooms a k).getD i 0) ∧ Hid (Chg go (go + 1) w3 wr)) (fun _ i _ => n - (intOf i).toNat)
          case atStart => exact ⟨0, os, Nat.zero_le _, rfl, by simp, R1, Lib.hid ⟨HOS.out.1, fun i hi => by rw [roomsTo_zero]; exact HOS.out.2 i hi⟩, Lib.hid (Chg.refl _ _ _)⟩
          case round =>
            obtain ⟨k, ms, hk, rfl, rfl, HR4, HM4, HC4⟩ := hrel
            obtain ⟨w4, rfl⟩ : ∃ x, x = wr := ⟨wr, rfl⟩
            have sl := HRm.out.step_le
            have tb := take_sum_bd (xs := stepL (colL n zs 3) rooms a) (fun i hi => (HRm.out.step_bd (by rw [HRm.out.lst] at hi; exact hi)).1) k
            by_cases hlt : k < n
            · have cs : w4.cell? ⟨g3, 0 + k, none⟩ = some (.int .i64 ((shareL a (openL (colL n zs 3) rooms)).getD k 0)) := ((R3.out.chg HC4.out (by omega)).ints.cell_ (by rw [HRm.out.ls]; exact hlt))
              have cm : w4.cell? ⟨b, off + k * 5 + 2, none⟩ = some (.int .i64 (zs.getD (k * 5 + 2) 0)) := (World.cell?_of_block (HC4.out.block b (by omega) (by omega))).trans (CELL3.out (k * 5 + 2) (by omega))
              have co := HR4.out.c k (by rw [HM4.out.1]; exact hlt)
              have fo := HR4.out.f k (by rw [HM4.out.1]; exact hlt)
              have me := HM4.out.2 k hlt
              rw [roomsTo_at HRm.out k k hk hlt, if_neg (by omega)] at me
              rw [me] at co
              rw [Nat.zero_add] at cs
              have sb := HRm.out.share_bd k
              have rb := HRm.out.rb k hlt
              have se := HRm.out.step_at hlt
              rw [show min ((shareL a (openL (colL n zs 3) rooms)).getD k 0) (rooms.getD k 0) = mn ((shareL a (openL (colL n zs 3) rooms)).getD k 0) (rooms.getD k 0) from rfl] at se
              have ss : ((stepL (colL n zs 3) rooms a).take (k + 1)).sum = ((stepL (colL n zs 3) rooms a).take k).sum + (stepL (colL n zs 3) rooms a).getD k 0 := sum_snoc (by rw [HRm.out.lst]; exact hlt)
              have stb := HRm.out.step_bd hlt
              have tb1 := (take_sum_bd (xs := stepL (colL n zs 3) rooms a) (fun i hi => (HRm.out.step_bd (by rw [HRm.out.lst] at hi; exact hi)).1) (k + 1)).2
              have NX : Hid (∀ y, y = zs.getD (k * 5 + 2) 0 - rooms.getD k 0 + (stepL (colL n zs 3) rooms a).getD k 0 → (ms.set k y).length = n ∧ ∀ i, i < n → (ms.set k y).getD i 0 = zs.getD (i * 5 + 2) 0 - (roomsTo (colL n zs 3) rooms a (k + 1)).getD i 0) := Lib.hid (fun y hy => ⟨by rw [List.length_set]; exact HM4.out.1, fun i hi => by
                rw [getD_set _ _ _ _ (by rw [HM4.out.1]; exact hi), roomsTo_at HRm.out (k + 1) i (by omega) hi]
                by_cases he : k = i
                · subst he
                  rw [if_pos rfl, if_pos (by omega), HRm.out.next_at hi, hy]
                  omega
                · rw [if_neg he, HM4.out.2 i hi, roomsTo_at HRm.out k i hk hi]
                  by_cases hik : i < k
                  · rw [if_pos hik, if_pos (by omega)]
                  · rw [if_neg hik, if_neg (by omega)]⟩)
              rw [se] at ss stb NX
              have SS := Lib.hid ss
              rw [ss] at tb1
              obtain ⟨p1, p2, p3, p4, p5⟩ := HOK.out k hlt
              have k0 : (0 : Int) ≤ (k : Int) := by omega
              have k1 : (k : Int) < (n : Int) := by omega
              have Rset := Lib.hid (fun (q : Nat) (y : Int) => (HR4.out.drewN q).set_ (k := k) (by rw [HM4.out.1]; exact hlt) y)
              clear me se ss
              generalize (shareL a (openL (colL n zs 3) rooms)).getD k 0 = sh at *
              generalize zs.getD (k * 5 + 2) 0 = mv at *
              generalize rooms.getD k 0 = r at *
              generalize ((stepL (colL n zs 3) rooms a).take k).sum = dd at *
              obtain ⟨ov, hov⟩ : ∃ ov, ov = mv - r := ⟨_, rfl⟩
              rw [← hov] at co NX
              have ro : mv - ov = r := by omega
              have hmn := fun (W : World) (ts : Array TypeId) (t : TypeId) => (run_mn Try.prog W ts t sh (mv - ov)).trans (by rw [ro])
              have wr1 : IntKind.i64.wrap (mv - ov) = mv - ov := IntWalk.i64_in _ (by omega)
              have ovb : -100000 ≤ ov ∧ ov ≤ 100000 := by omega
              have mb : 0 ≤ mn sh r ∧ mn sh r ≤ 200000 := mn_bd ⟨by omega, by omega⟩ ⟨by omega, by omega⟩
              clear hov ro
              generalize mn sh r = st at *
              obtain ⟨ov0, ov1⟩ := ovb
              go_wp2
              go_quiet (fail)
              go_wp2
              go_roundw
              case rel => exact ⟨k + 1, ms.set k (ov + st), by omega, by go_num, by rw [SS.out]; go_num, Lib.hid (Rset.out nq _), Lib.hid (NX.out _ rfl), Lib.hid ((HC4.out.drewN nq).setg _ _)⟩
              case measure => simp [intOf]; omega
            · obtain rfl : n = k := by omega
              have td : ((stepL (colL n zs 3) rooms a).take n).sum = (stepL (colL n zs 3) rooms a).sum := by rw [List.take_of_length_le (by rw [HRm.out.lst]; exact Nat.le_refl _)]
              have FN : Hid (finL (colL n zs 3) (nextL (colL n zs 3) rooms a) (a - (stepL (colL n zs 3) rooms a).sum) = finL (colL n zs 3) r0 a0) := Lib.hid ((HRm.out.fin_go HZ2.out).symm.trans HF.out)
              have RN := Lib.hid HRm.out.next
              have GG : Hid (w.grownBy w4 (some go)) := Lib.hid (only_trans (only_new HG.out HN3.out) HC4.out.grown_)
              have M4 : Hid (ms.length = n ∧ ∀ i, i < n → ms.getD i 0 = zs.getD (i * 5 + 2) 0 - (nextL (colL n zs 3) rooms a).getD i 0) := Lib.hid (by have h := HM4.out; rw [roomsTo_all HRm.out] at h; exact h)
              have hpos : 0 < (stepL (colL n zs 3) rooms a).sum := by have := HZ2.out; omega
              rw [td]
              clear td tb
              generalize (stepL (colL n zs 3) rooms a).sum = dd at *
              go_wp2
              go_roundw
              case rel => exact ⟨nextL (colL n zs 3) rooms a, ms, a - dd, rfl, RN, FN, HR4, M4, GG⟩
              case measure => simp [intOf]; omega
set_option maxRecDepth 100000 in
set_option maxHeartbeats 8000000 in
theorem sshrink_any (A : Option Addr) (n c go co : Nat) (zs os0 r0 : List Int) (a0 : Int) (hv : flsB n zs = true) (h : Rm n (colL n zs 4) r0 a0) (hlo : os0.length = n) (hos : ∀ i, i < n → os0.getD i 0 = zs.getD (i * 5 + 1) 0 + r0.getD i 0) (w : World) (hx : Sts 5 w A n zs) (hR : Row w go os0) (hA : ∀ b off, A = some ⟨b, off, none⟩ → b ≠ go) :
    Calls Try.prog 110 #[.slice A n c, .slice (some ⟨go, 0, none⟩) n co, .int .i64 a0] w fun e w' => e = .returned (.slice (some ⟨go, 0, none⟩) n co) ∧ ∃ os, os.length = n ∧ Row w' go os ∧ (∀ i, i < n → os.getD i 0 = zs.getD (i * 5 + 1) 0 + (finL (colL n zs 4) r0 a0).getD i 0) ∧ w.grownBy w' (some go) := by
  have n1 := h.n1; have n8 := h.n8
  have i1 : (1 : Int) ≤ (n : Int) := by omega
  have i8 : (n : Int) ≤ 8 := by omega
  have gl0 : go < w.heap.size := hR.lt
  have HOK := Lib.hid (fun k hk => flOk_iff.1 ((flsB_iff.1 hv).2 k hk))
  obtain ⟨b, off, rfl, hb, hc⟩ := hx.at_ (by omega)
  have hne : b ≠ go := hA b off rfl
  have HC := Lib.hid hc; have H := Lib.hid h; have HR := Lib.hid hR; have HO := Lib.hid hos; have HL := Lib.hid hlo
  clear hx hc hA h hR hos hlo hv
  go_enter Try.func110, Try.ntmps110
  go_wp2
  go_loopw [2] (fun s wr => ∃ (rooms os : List Int) (a : Int), s = .int .i64 a ∧ Hid (Rm n (colL n zs 4) rooms a) ∧ Hid (finL (colL n zs 4) rooms a = finL (colL n zs 4) r0 a0) ∧ Hid (Row wr go os) ∧ Hid (os.length = n ∧ ∀ i, i < n → os.getD i 0 = zs.getD (i * 5 + 1) 0 + rooms.getD i 0) ∧ Hid (w.grownBy wr (some go))) (fun s _ => (intOf s).toNat)
  case atStart => exact ⟨r0, os0, a0, rfl, H, Lib.hid rfl, HR, Lib.hid ⟨HL.out, HO.out⟩, Lib.hid (World.grownBy.refl _ _)⟩
  case round =>
    obtain ⟨rooms, os, a, rfl, HRm, HF, HR1, HOS, HG⟩ := hrel
    obtain ⟨wo, rfl⟩ : ∃ x, x = wr := ⟨wr, rfl⟩
    have gl : go < wo.heap.size := HR1.out.lt
    have hgs := HG.out.size
    obtain ⟨ab0, ab1⟩ := HRm.out.ab
    have E0 : Hid (Own wo.heap.size (wo.alloc (.cells #[] 3)) (.slice (some ⟨wo.heap.size, 0, none⟩) 0 0) ((openL (colL n zs 4) rooms).take 0)) := Lib.hid (Own.empty wo 0 (Nat.le_refl _) rfl)
    have CELL := Lib.hid (fun (j : Nat) (hj : j < n * 5) => (only_cells HG.out b (off + j) hb hne).trans (HC.out j hj))
    have NA : Hid (New wo (wo.alloc (.cells #[] 3))) := Lib.hid ((New.refl _).alloc _)
    go_wp2
    go_loopw [7, 8] (fun v i wr => ∃ k : Nat, k ≤ n ∧ i = .int .i64 k ∧ Hid (Own wo.heap.size wr v ((openL (colL n zs 4) rooms).take k)) ∧ Hid (New wo wr)) (fun _ i _ => n - (intOf i).toNat)
    case atStart => exact ⟨0, Nat.zero_le _, rfl, E0, NA⟩
    case round =>
      obtain ⟨k, hk, rfl, OW, HN⟩ := hrel
      have szr := HN.out.le
      by_cases hlt : k < n
      · have cx : wo.cell? ⟨b, off + k * 5 + 4, none⟩ = some (.int .i64 (zs.getD (k * 5 + 4) 0)) := CELL.out (k * 5 + 4) (by omega)
        have cm : wo.cell? ⟨b, off + k * 5 + 1, none⟩ = some (.int .i64 (zs.getD (k * 5 + 1) 0)) := CELL.out (k * 5 + 1) (by omega)
        have co := HR1.out.c k (by rw [HOS.out.1]; exact hlt)
        have oe := HOS.out.2 k hlt
        rw [oe] at co
        have rb := HRm.out.rb k hlt
        have oa := HRm.out.open_at hlt
        rw [colL_at hlt] at oa
        have tk : (openL (colL n zs 4) rooms).take (k + 1) = (openL (colL n zs 4) rooms).take k ++ [(openL (colL n zs 4) rooms).getD k 0] := take_snoc_i (by rw [HRm.out.lo]; exact hlt)
        have lt_ : ((openL (colL n zs 4) rooms).take k).length = k := by rw [List.length_take, HRm.out.lo]; omega
        have TK := Lib.hid tk; have LT := Lib.hid lt_; have OA := Lib.hid oa
        have bb : b < wo.heap.size := Nat.lt_of_lt_of_le hb hgs
        obtain ⟨p1, p2, p3, p4, p5⟩ := HOK.out k hlt
        have k0 : (0 : Int) ≤ (k : Int) := by omega
        have k1 : (k : Int) < (n : Int) := by omega
        clear oe oa tk lt_
        generalize zs.getD (k * 5 + 4) 0 = x at *
        generalize zs.getD (k * 5 + 1) 0 = mv at *
        generalize rooms.getD k 0 = r at *
        obtain ⟨ov, hov⟩ : ∃ ov, ov = mv + r := ⟨_, rfl⟩
        rw [← hov] at co
        have KF := Lib.hid (fun (W : World) (hW : New wo W) => (⟨(hW.cells _ _ bb).trans cx, (hW.cells _ _ gl).trans co, (hW.cells _ _ bb).trans cm⟩ : W.cell? ⟨b, off + k * 5 + 4, none⟩ = some (.int .i64 x) ∧ W.cell? ⟨go, k, none⟩ = some (.int .i64 ov) ∧ W.cell? ⟨b, off + k * 5 + 1, none⟩ = some (.int .i64 mv)))
        obtain ⟨v, hv⟩ : ∃ v, v = u7 := ⟨_, rfl⟩
        rw [← hv] at OW ⊢
        clear cx cm co hv
        have wx : IntKind.i64.wrap x = x := IntWalk.i64_in _ (by omega)
        by_cases hr : r = 0
        · have hd : decide (mv < ov) = false := decide_eq_false (by omega)
          subst hr
          rw [if_pos rfl] at OA
          clear hov rb
          have K1 := KF.out wr.drew HN.out.drew
          have K2 := KF.out (wr.drew.alloc (.cells #[.int .i64 0] 3)) (HN.out.drew.alloc _)
          have OWA := Lib.hid (OW.out.drew.alloc (.cells #[.int .i64 0] 3))
          go_wp2
          go_region_held3 (fun w' => w'.cell? ⟨b, off + k * 5 + 4, none⟩ = some (.int .i64 x) ∧ w'.cell? ⟨go, k, none⟩ = some (.int .i64 ov) ∧ w'.cell? ⟨b, off + k * 5 + 1, none⟩ = some (.int .i64 mv))
            (first | (exact K1) | (exact K2) | (exact K6) | assumption)
            (first
              | (go_at_call 61; refine (toInt_no _).mono ?_; rintro e w' ⟨rfl, rfl⟩)
              | (refine step_app2 rfl (.tmp 19) (.tmp 37) rfl wo.heap.size v _ rfl OWA.out wr.heap.size 0 rfl (ints1 (by first | (simp [go_sem]; done) | (simp [go_sem]; exact IntWalk.i64_in _ (by omega)))) (by rw [LT.out]; omega) (by simp; omega) ?_; intro v6 w6 O6 G6; (have N6 := Lib.hid (new_own (HN.out.drew.alloc (.cells #[.int .i64 0] 3)) G6 OWA.out (Nat.le_refl _))); (have K6 := KF.out w6 N6.out); (replace O6 := Lib.hid O6); clear G6))
          go_wp2
          go_roundw
          case rel => exact ⟨k + 1, by omega, by go_num, Lib.hid (by rw [TK.out]; rw [OA.out]; exact O6.out), N6⟩
          case measure => simp [intOf]; omega
        · have hd : decide (mv < ov) = true := decide_eq_true (by omega)
          rw [if_neg hr] at OA
          clear hov rb hr
          have K1 := KF.out wr.drew HN.out.drew
          have K2 := KF.out (wr.drew.alloc (.cells #[.int .i64 x] 3)) (HN.out.drew.alloc _)
          have OWA := Lib.hid (OW.out.drew.alloc (.cells #[.int .i64 x] 3))
          go_wp2
          go_region_held3 (fun w' => w'.cell? ⟨b, off + k * 5 + 4, none⟩ = some (.int .i64 x) ∧ w'.cell? ⟨go, k, none⟩ = some (.int .i64 ov) ∧ w'.cell? ⟨b, off + k * 5 + 1, none⟩ = some (.int .i64 mv))
            (first | (exact K1) | (exact K2) | (exact K6) | assumption)
            (first
              | (go_at_call 61; refine (toInt_yes _).mono ?_; rintro e w' ⟨rfl, rfl⟩)
              | (refine step_app2 rfl (.tmp 19) (.tmp 37) rfl wo.heap.size v _ rfl OWA.out wr.heap.size x rfl (ints1 (by simp [go_sem])) (by rw [LT.out]; omega) (by simp; omega) ?_; intro v6 w6 O6 G6; (have N6 := Lib.hid (new_own (HN.out.drew.alloc (.cells #[.int .i64 x] 3)) G6 OWA.out (Nat.le_refl _))); (have K6 := KF.out w6 N6.out); (replace O6 := Lib.hid O6); clear G6))
          go_wp2
          go_roundw
          case rel => exact ⟨k + 1, by omega, by go_num, Lib.hid (by rw [TK.out]; rw [OA.out]; exact O6.out), N6⟩
          case measure => simp [intOf]; omega
      · obtain rfl : n = k := by omega
        obtain ⟨w2, rfl⟩ : ∃ x, x = wr := ⟨wr, rfl⟩
        have OWA : Hid (Own wo.heap.size w2 u7 (openL (colL n zs 4) rooms)) := Lib.hid (by have h := OW.out; rw [List.take_of_length_le (by rw [HRm.out.lo]; exact Nat.le_refl _)] at h; exact h)
        obtain ⟨B5, c5, hv5, _, Z5⟩ := OWA.out.res
        rw [HRm.out.lo] at hv5
        subst hv5
        have I5 := Lib.hid (Z5.ints HRm.out.lo)
        clear Z5
        go_wp2_with fail
        refine (share_any B5 n c5 a (openL (colL n zs 4) rooms) n8 HRm.out.ab HRm.out.wts _ I5.out).mono ?_
        rintro e w3 ⟨g3, rfl, hg3, R3, N3⟩
        have I3 : Hid (Ints w3 (some ⟨g3, 0, none⟩) n (shareL a (openL (colL n zs 4) rooms))) := Lib.hid (by have h := R3.ints; rw [HRm.out.ls] at h; exact h)
        replace R3 := Lib.hid R3
        have HN3 := Lib.hid (HN.out.trans N3)
        have s3 := HN3.out.le
        have R1 := Lib.hid (HR1.out.new HN3.out)
        have hsm : Hid (Sml (shareL a (openL (colL n zs 4) rooms))) := Lib.hid (fun z hz => by
          obtain ⟨i, hi, rfl⟩ := List.mem_iff_getElem.1 hz
          have e : (shareL a (openL (colL n zs 4) rooms)).getD i 0 = (shareL a (openL (colL n zs 4) rooms))[i] := by simp [hi]
          have := HRm.out.share_bd i
          rw [e] at this; omega)
        have ST := HRm.out.still
        clear N3
        go_wp2_with fail
        refine (ssum_any _ n n _ (by omega) _ I3.out hsm.out).mono ?_
        rintro e w' ⟨rfl, rfl⟩
        by_cases hz : (shareL a (openL (colL n zs 4) rooms)).sum = 0
        · have FE : Hid (rooms = finL (colL n zs 4) r0 a0) := Lib.hid ((fin_end (ST.2 hz)).symm.trans HF.out)
          have GG : Hid (w.grownBy w3 (some go)) := Lib.hid (only_new HG.out HN3.out)
          rw [hz]
          clear hz ST
          go_wp2
          go_ret
          exact ⟨rfl, os, HOS.out.1, R1.out, fun i hi => by rw [← FE.out]; exact HOS.out.2 i hi, GG.out⟩
        · have hzb : ((shareL a (openL (colL n zs 4) rooms)).sum == 0) = false := by simpa using hz
          have hz2 : (stepL (colL n zs 4) rooms a).sum ≠ 0 := fun h => hz (ST.1 h)
          have HZ2 := Lib.hid hz2
          have CELL3 := Lib.hid (fun (j : Nat) (hj : j < n * 5) => (HN3.out.cells b (off + j) (Nat.lt_of_lt_of_le hb hgs)).trans (CELL.out j hj))
          clear hz ST hz2
          go_wp2
          go_loopw [2, 10] (fun sp i wr => ∃ (k : Nat) (ms : List Int), k ≤ n ∧ i = .int .i64 k ∧ sp = .int .i64 (a - ((stepL (colL n zs 4) rooms a).take k).sum) ∧ Hid (Row wr go ms) ∧ Hid (ms.length = n ∧ ∀ i, i < n → ms.getD i 0 = zs.getD (i * 5 + 1) 0 + (roomsTo (colL n zs 4) rooms a k).getD i 0) ∧ Hid (Chg go (go + 1) w3 wr)) (fun _ i _ => n - (intOf i).toNat)
          case atStart => exact ⟨0, os, Nat.zero_le _, rfl, by simp, R1, Lib.hid ⟨HOS.out.1, fun i hi => by rw [roomsTo_zero]; exact HOS.out.2 i hi⟩, Lib.hid (Chg.refl _ _ _)⟩
          case round =>
            obtain ⟨k, ms, hk, rfl, rfl, HR4, HM4, HC4⟩ := hrel
            obtain ⟨w4, rfl⟩ : ∃ x, x = wr := ⟨wr, rfl⟩
            have sl := HRm.out.step_le
            have tb := take_sum_bd (xs := stepL (colL n zs 4) rooms a) (fun i hi => (HRm.out.step_bd (by rw [HRm.out.lst] at hi; exact hi)).1) k
            by_cases hlt : k < n
            · have cs : w4.cell? ⟨g3, 0 + k, none⟩ = some (.int .i64 ((shareL a (openL (colL n zs 4) rooms)).getD k 0)) := ((R3.out.chg HC4.out (by omega)).ints.cell_ (by rw [HRm.out.ls]; exact hlt))
              have cm : w4.cell? ⟨b, off + k * 5 + 1, none⟩ = some (.int .i64 (zs.getD (k * 5 + 1) 0)) := (World.cell?_of_block (HC4.out.block b (by omega) (by omega))).trans (CELL3.out (k * 5 + 1) (by omega))
              have co := HR4.out.c k (by rw [HM4.out.1]; exact hlt)
              have fo := HR4.out.f k (by rw [HM4.out.1]; exact hlt)
              have me := HM4.out.2 k hlt
              rw [roomsTo_at HRm.out k k hk hlt, if_neg (by omega)] at me
              rw [me] at co
              rw [Nat.zero_add] at cs
              have sb := HRm.out.share_bd k
              have rb := HRm.out.rb k hlt
              have se := HRm.out.step_at hlt
              rw [show min ((shareL a (openL (colL n zs 4) rooms)).getD k 0) (rooms.getD k 0) = mn ((shareL a (openL (colL n zs 4) rooms)).getD k 0) (rooms.getD k 0) from rfl] at se
              have ss : ((stepL (colL n zs 4) rooms a).take (k + 1)).sum = ((stepL (colL n zs 4) rooms a).take k).sum + (stepL (colL n zs 4) rooms a).getD k 0 := sum_snoc (by rw [HRm.out.lst]; exact hlt)
              have stb := HRm.out.step_bd hlt
              have tb1 := (take_sum_bd (xs := stepL (colL n zs 4) rooms a) (fun i hi => (HRm.out.step_bd (by rw [HRm.out.lst] at hi; exact hi)).1) (k + 1)).2
              have NX : Hid (∀ y, y = zs.getD (k * 5 + 1) 0 + rooms.getD k 0 - (stepL (colL n zs 4) rooms a).getD k 0 → (ms.set k y).length = n ∧ ∀ i, i < n → (ms.set k y).getD i 0 = zs.getD (i * 5 + 1) 0 + (roomsTo (colL n zs 4) rooms a (k + 1)).getD i 0) := Lib.hid (fun y hy => ⟨by rw [List.length_set]; exact HM4.out.1, fun i hi => by
                rw [getD_set _ _ _ _ (by rw [HM4.out.1]; exact hi), roomsTo_at HRm.out (k + 1) i (by omega) hi]
                by_cases he : k = i
                · subst he
                  rw [if_pos rfl, if_pos (by omega), HRm.out.next_at hi, hy]
                  omega
                · rw [if_neg he, HM4.out.2 i hi, roomsTo_at HRm.out k i hk hi]
                  by_cases hik : i < k
                  · rw [if_pos hik, if_pos (by omega)]
                  · rw [if_neg hik, if_neg (by omega)]⟩)
              rw [se] at ss stb NX
              have SS := Lib.hid ss
              rw [ss] at tb1
              obtain ⟨p1, p2, p3, p4, p5⟩ := HOK.out k hlt
              have k0 : (0 : Int) ≤ (k : Int) := by omega
              have k1 : (k : Int) < (n : Int) := by omega
              have Rset := Lib.hid (fun (q : Nat) (y : Int) => (HR4.out.drewN q).set_ (k := k) (by rw [HM4.out.1]; exact hlt) y)
              clear me se ss
              generalize (shareL a (openL (colL n zs 4) rooms)).getD k 0 = sh at *
              generalize zs.getD (k * 5 + 1) 0 = mv at *
              generalize rooms.getD k 0 = r at *
              generalize ((stepL (colL n zs 4) rooms a).take k).sum = dd at *
              obtain ⟨ov, hov⟩ : ∃ ov, ov = mv + r := ⟨_, rfl⟩
              rw [← hov] at co NX
              have ro : ov - mv = r := by omega
              have hmn := fun (W : World) (ts : Array TypeId) (t : TypeId) => (run_mn Try.prog W ts t sh (ov - mv)).trans (by rw [ro])
              have wr1 : IntKind.i64.wrap (ov - mv) = ov - mv := IntWalk.i64_in _ (by omega)
              have ovb : -100000 ≤ ov ∧ ov ≤ 100000 := by omega
              have mb : 0 ≤ mn sh r ∧ mn sh r ≤ 200000 := mn_bd ⟨by omega, by omega⟩ ⟨by omega, by omega⟩
              clear hov ro
              generalize mn sh r = st at *
              obtain ⟨ov0, ov1⟩ := ovb
              go_wp2
              go_quiet (fail)
              go_wp2
              go_roundw
              case rel => exact ⟨k + 1, ms.set k (ov - st), by omega, by go_num, by rw [SS.out]; go_num, Lib.hid (Rset.out nq _), Lib.hid (NX.out _ rfl), Lib.hid ((HC4.out.drewN nq).setg _ _)⟩
              case measure => simp [intOf]; omega
            · obtain rfl : n = k := by omega
              have td : ((stepL (colL n zs 4) rooms a).take n).sum = (stepL (colL n zs 4) rooms a).sum := by rw [List.take_of_length_le (by rw [HRm.out.lst]; exact Nat.le_refl _)]
              have FN : Hid (finL (colL n zs 4) (nextL (colL n zs 4) rooms a) (a - (stepL (colL n zs 4) rooms a).sum) = finL (colL n zs 4) r0 a0) := Lib.hid ((HRm.out.fin_go HZ2.out).symm.trans HF.out)
              have RN := Lib.hid HRm.out.next
              have GG : Hid (w.grownBy w4 (some go)) := Lib.hid (only_trans (only_new HG.out HN3.out) HC4.out.grown_)
              have M4 : Hid (ms.length = n ∧ ∀ i, i < n → ms.getD i 0 = zs.getD (i * 5 + 1) 0 + (nextL (colL n zs 4) rooms a).getD i 0) := Lib.hid (by have h := HM4.out; rw [roomsTo_all HRm.out] at h; exact h)
              have hpos : 0 < (stepL (colL n zs 4) rooms a).sum := by have := HZ2.out; omega
              rw [td]
              clear td tb
              generalize (stepL (colL n zs 4) rooms a).sum = dd at *
              go_wp2
              go_roundw
              case rel => exact ⟨nextL (colL n zs 4) rooms a, ms, a - dd, rfl, RN, FN, HR4, M4, GG⟩
              case measure => simp [intOf]; omega
end Go.Proofs.Ytobnjagmakhgpaa
