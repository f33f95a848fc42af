/- DirtyRoots and DirtyBoxes of the program and of the reference, walked. Condition: the tree and the marks can be read. -/
import Derived.Test.YtobnjagmakhgpaaDirtyR
import Derived.Test.YtobnjagmakhgpaaZF
namespace Go.Proofs.Ytobnjagmakhgpaa
open Go.RowKit

def drA (n : Nat) (zs ms : List Int) : List Int := if marksB n zs ms = true then (rootL n zs ms).map Int.ofNat else []
def dbA (n : Nat) (zs ms : List Int) : List Int := if marksB n zs ms = true then (covL n zs ms).map Int.ofNat else []
theorem Own.low {lo lo' : Nat} {w : World} {v : Value} {zs : List Int} (h : Own lo' w v zs) (hl : lo ≤ lo') : Own lo w v zs :=
  ⟨h.1, h.2.imp id (fun ⟨g, cap, cur, hv, hg, r⟩ => ⟨g, cap, cur, hv, Nat.le_trans hl hg, r⟩)⟩
theorem Res.low {lo lo' hi : Nat} {w : World} {A : Option Addr} {zs : List Int} (h : Res lo' hi w A zs) (hl : lo ≤ lo') : Res lo hi w A zs :=
  ⟨h.1, fun h0 => by obtain ⟨g, e, h1, h2⟩ := h.2 h0; exact ⟨g, e, Nat.le_trans hl h1, h2⟩⟩
section
variable {n k : Nat} {zs ms : List Int}
theorem rootL_succ : rootL (k + 1) zs ms = rootL k zs ms ++ (if drt (mk ms) zs k == some k then [k] else []) := by
  unfold rootL
  rw [List.range_succ, List.filter_append]
  congr 1
  simp [List.filter_cons]
theorem covL_succ : covL (k + 1) zs ms = covL k zs ms ++ (if (drt (mk ms) zs k).isSome then [k] else []) := by
  unfold covL
  rw [List.range_succ, List.filter_append]
  congr 1
  simp [List.filter_cons]
theorem rootL_len : (rootL k zs ms).length ≤ k := by unfold rootL; have := List.length_filter_le (fun i => drt (mk ms) zs i == some i) (List.range k); simpa using this
theorem covL_len : (covL k zs ms).length ≤ k := by unfold covL; have := List.length_filter_le (fun i => (drt (mk ms) zs i).isSome) (List.range k); simpa using this
theorem drA_len : (drA n zs ms).length ≤ 16 := by
  unfold drA
  split
  · next h => rw [List.length_map]; have h1 := (vtB_iff.1 (mks_at h).1).1; have := rootL_len (k := n) (zs := zs) (ms := ms); omega
  · simp
theorem dbA_len : (dbA n zs ms).length ≤ 16 := by
  unfold dbA
  split
  · next h => rw [List.length_map]; have h1 := (vtB_iff.1 (mks_at h).1).1; have := covL_len (k := n) (zs := zs) (ms := ms); omega
  · simp
theorem oi_eq (x : Option Nat) (k : Nat) : (oi x == (k : Int)) = (x == some k) := by
  cases x with
  | none => simp [oi]
  | some r =>
    rw [Bool.eq_iff_iff, beq_iff_eq, beq_iff_eq]
    exact ⟨fun h => by rw [show r = k from Int.ofNat.inj h], fun h => by rw [Option.some.inj h]; rfl⟩
/-- A marked box that is not the box itself is around it. -/
def farB (zs : List Int) (i : Nat) (z : Int) : Bool := z == (i : Int) || !anc zs z.toNat i
theorem all_take {p : Int → Bool} (hk : k < ms.length) : (ms.take (k + 1)).all p = ((ms.take k).all p && p (ms.getD k 0)) := by
  have e : ms.take (k + 1) = ms.take k ++ [ms.getD k 0] := by
    rw [List.take_add_one, List.getD_eq_getElem?_getD, List.getElem?_eq_getElem hk]; rfl
  rw [e, List.all_append]
  simp
theorem any_take {p : Int → Bool} (hk : k < ms.length) : (ms.take (k + 1)).any p = ((ms.take k).any p || p (ms.getD k 0)) := by
  have e : ms.take (k + 1) = ms.take k ++ [ms.getD k 0] := by
    rw [List.take_add_one, List.getD_eq_getElem?_getD, List.getElem?_eq_getElem hk]; rfl
  rw [e, List.any_append]
  simp
theorem root_bool (hb : ∀ z ∈ ms, 0 ≤ z) (i : Nat) : (drt (mk ms) zs i == some i) = (mk ms i && ms.all (farB zs i)) := by
  rw [Bool.eq_iff_iff, beq_iff_eq, root_iff hb, Bool.and_eq_true, List.all_eq_true]
  unfold farB
  simp
theorem cov_bool (hb : ∀ z ∈ ms, 0 ≤ z) (i : Nat) : (drt (mk ms) zs i).isSome = ms.any (fun z => anc zs z.toNat i) := by
  rw [Bool.eq_iff_iff, cov_iff hb, List.any_eq_true]
theorem oi_ge (x : Option Nat) : decide (0 ≤ oi x) = x.isSome := by
  cases x with
  | none => simp [oi]
  | some r => simp [oi]
end
-- WALKS
set_option maxHeartbeats 1000000 in
theorem DirtyRoots_own (A M : Option Addr) (n c m d : Nat) (zs ms : List Int) (hn : n ≤ 1048576) (hm : m ≤ 1048576) (w : World) (hx : Sts 9 w A n zs) (hy : Ints w M m ms) :
    Calls Try.prog 32 #[.slice A n c, .slice M m d] w fun e w' => ∃ v, e = .returned v ∧ Own w.heap.size w' v (drA n zs ms) ∧ New w w' := by
  have CT := Lib.hid (rootOfEach_any A M n c m d zs ms hn hm w hx hy)
  clear hx hy
  go_enter Try.func32, Try.ntmps32
  go_wp2_with fail
  refine CT.out.mono ?_
  rintro e w1 ⟨N1, ⟨hf, rfl⟩ | ⟨ht, g, rfl, hg, R⟩⟩
  · have E1 : Hid (drA n zs ms = []) := Lib.hid (by unfold drA; rw [hf]; rfl)
    have N1 := Lib.hid N1
    clear hf
    go_wp2
    go_loopw [5, 12] (fun v i wr => v = .slice none 0 0 ∧ i = .int .i64 0 ∧ wr = w1) (fun _ _ _ => 0)
    case atStart => exact ⟨rfl, rfl, rfl⟩
    case round =>
      obtain ⟨rfl, rfl, rfl⟩ := hrel
      go_wp2
      go_ret
      rw [E1.out]
      exact ⟨_, rfl, Own.nil _ _, N1.out⟩
  · have n16 := (vtB_iff.1 (mks_at ht).1).1.2
    have E1 : Hid (drA n zs ms = (rootL n zs ms).map Int.ofNat) := Lib.hid (by unfold drA; rw [if_pos ht])
    have N1 := Lib.hid N1; have R := Lib.hid R; have GW := Lib.hid hg
    have n0 : (n : Int) ≤ 16 := by omega
    have sw := N1.out.le
    clear ht CT
    go_wp2
    go_loopw [5, 12] (fun v i wr => ∃ k : Nat, k ≤ n ∧ i = .int .i64 (k : Int) ∧ Hid (Own w1.heap.size wr v ((rootL k zs ms).map Int.ofNat)) ∧ Hid (New w1 wr)) (fun _ i _ => n - (intOf i).toNat)
    case atStart => exact ⟨0, Nat.zero_le _, rfl, Lib.hid (Own.nil _ _), Lib.hid (New.refl _)⟩
    case round =>
      obtain ⟨k, hk, rfl, HO, HN⟩ := hrel
      have sz := HN.out.le
      have k0 : (0 : Int) ≤ (k : Int) := by omega
      by_cases hlt : k < n
      · have k1 : (k : Int) < (n : Int) := by omega
        have g1 := (HN.out.cells g k R.out.lt).trans (R.out.c k (by rw [rootsL_len]; exact hlt))
        rw [rootsL_at _ _ hlt] at g1
        have LL : Hid ((rootL k zs ms).length ≤ k) := Lib.hid rootL_len
        have SU := Lib.hid (rootL_succ (k := k) (zs := zs) (ms := ms))
        have tb := oi_eq (drt (mk ms) zs k) k
        cases ht : drt (mk ms) zs k == some k
        · rw [ht] at tb
          have SU2 : Hid (rootL (k + 1) zs ms = rootL k zs ms) := Lib.hid (by rw [SU.out, ht]; simp)
          clear ht SU LL
          generalize oi (drt (mk ms) zs k) = r at *
          go_wp2
          go_roundw
          case rel => exact ⟨k + 1, by omega, by go_num, Lib.hid (by rw [SU2.out]; exact HO.out), HN⟩
          case measure => simp [intOf]; omega
        · rw [ht] at tb
          have SU2 : Hid (rootL (k + 1) zs ms = rootL k zs ms ++ [k]) := Lib.hid (by rw [SU.out, ht]; simp)
          clear ht SU
          generalize oi (drt (mk ms) zs k) = r at *
          go_wp2_with (at_builtin; refine wp_app rfl _ _ rfl w1.heap.size _ _ rfl (HO.out.alloc _) (some ⟨wr.heap.size, 0, none⟩) 1 1 [(k : Int)] rfl (Ints.one wr _ _) (by rw [List.length_map]; have := LL.out; omega) (by simp; omega) ?_; intro v6 w6 O6 G6; (have N6 := Lib.hid (new_own (HN.out.alloc _) G6 (HO.out.alloc _) (Nat.le_refl _))); (have O6 := Lib.hid O6); clear G6)
          go_wp2
          go_roundw
          case rel => exact ⟨k + 1, by omega, by go_num, Lib.hid (by rw [SU2.out, List.map_append]; exact O6.out), N6⟩
          case measure => simp [intOf]; omega
      · obtain rfl : k = n := by omega
        obtain ⟨v, hv⟩ : ∃ v, v = u5 := ⟨_, rfl⟩
        rw [← hv] at HO ⊢
        clear hv
        go_wp2
        go_ret
        rw [E1.out]
        exact ⟨_, rfl, HO.out.low sw, N1.out.trans HN.out⟩
theorem DirtyRoots_ans (A M : Option Addr) (n c m d : Nat) (zs ms : List Int) (hn : n ≤ 1048576) (hm : m ≤ 1048576) (w : World) (hx : Sts 9 w A n zs) (hy : Ints w M m ms) :
    Calls Try.prog 32 #[.slice A n c, .slice M m d] w (Ans w (drA n zs ms)) :=
  (DirtyRoots_own A M n c m d zs ms hn hm w hx hy).mono fun _ _ ⟨_, he, ho, hN⟩ => Ans.own he ho hN
set_option maxHeartbeats 400000 in
theorem sisIn_any (A : Option Addr) (n c i : Nat) (xs : List Int) (hn : n ≤ 1048576) (w : World) (hx : Ints w A n xs) :
    Calls Try.prog 93 #[.slice A n c, .int .i64 (i : Int)] w fun e w' => e = .returned (.bool (mk xs i)) ∧ w = w' := by
  have HX := Lib.hid hx; have LX := Lib.hid hx.len
  have n1 : (n : Int) ≤ 1048576 := by omega
  clear hx
  go_enter Try.func93, Try.ntmps93
  go_wp2
  go_loop [5] (fun x => ∃ k : Nat, k ≤ n ∧ x = .int .i64 (k : Int) ∧ Hid (mk (xs.take k) i = false)) (fun x => n - (intOf x).toNat)
  case atStart => exact ⟨0, Nat.zero_le _, rfl, Lib.hid rfl⟩
  case round =>
    obtain ⟨k, hk, rfl, HA⟩ := hrel
    have k0 : (0 : Int) ≤ (k : Int) := by omega
    by_cases hlt : k < n
    · obtain ⟨b, off, rfl, hb, hc⟩ := HX.out.at_ (by omega)
      have g := hc k hlt
      have k1 : (k : Int) < (n : Int) := by omega
      have MT := Lib.hid (mk_takeI (show k < xs.length by rw [LX.out]; exact hlt) i)
      have MI := Lib.hid (getD_in (show k < xs.length by rw [LX.out]; exact hlt))
      clear hc hb
      by_cases e : xs.getD k 0 = (i : Int)
      · have M1 : Hid (mk xs i = true) := Lib.hid (mk_iff.2 (by rw [← e]; exact MI.out))
        rw [e] at g
        clear e
        go_wp2
        go_ret
        exact ⟨by rw [M1.out]; rfl, rfl⟩
      · have M1 : Hid (mk (xs.take (k + 1)) i = false) := Lib.hid (by rw [MT.out, HA.out, decide_eq_false (fun h => e h.symm)]; rfl)
        have eb : (xs.getD k 0 == (i : Int)) = false := by simpa using e
        generalize xs.getD k 0 = z at g eb
        clear e
        go_wp2
        go_round
        case rel => exact ⟨k + 1, by omega, by go_num, M1⟩
        case measure => simp [intOf]; omega
    · obtain rfl : n = k := by omega
      have M1 : Hid (mk xs i = false) := Lib.hid (by have := HA.out; rw [List.take_of_length_le (by rw [LX.out]; exact Nat.le_refl _)] at this; exact this)
      go_wp2
      go_ret
      exact ⟨by rw [M1.out]; rfl, rfl⟩
set_option maxHeartbeats 400000 in
theorem svalidMarks_any (A M : Option Addr) (n c m d : Nat) (zs ms : List Int) (hn : n ≤ 1048576) (hm : m ≤ 1048576) (w : World) (hx : Sts 9 w A n zs) (hy : Ints w M m ms) :
    Calls Try.prog 66 #[.slice A n c, .slice M m d] w fun e w' => e = .returned (.bool (marksB n zs ms)) ∧ New w w' := by
  have CT := Lib.hid (svalidTree_any A n c zs hn w hx)
  have HY := Lib.hid hy; have LY := Lib.hid hy.len
  have n0 : (0 : Int) ≤ (n : Int) := by omega
  have n1 : (n : Int) ≤ 1048576 := by omega
  clear hx hy
  cases hv : vtB n zs
  · have E1 : Hid (marksB n zs ms = false) := Lib.hid (by unfold marksB; rw [hv]; rfl)
    have HV := Lib.hid hv
    clear hv
    go_enter Try.func66, Try.ntmps66
    go_wp2_with (go_at_call 41; refine CT.out.mono ?_; rw [HV.out]; rintro e w1 ⟨rfl, h1⟩; (have N1 := Lib.hid h1); clear h1)
    go_ret
    exact ⟨by rw [E1.out]; rfl, N1.out⟩
  · have HV := Lib.hid hv
    by_cases hl : (m : Int) ≤ 16
    · have E1 : Hid (marksB n zs ms = allB 0 ((n : Int) - 1) ms) := Lib.hid (by unfold marksB listB; rw [hv, LY.out, decide_eq_true hl]; rfl)
      clear hv
      go_enter Try.func66, Try.ntmps66
      go_wp2_with fail
      refine CT.out.mono ?_
      rw [HV.out]
      rintro e w1 ⟨rfl, h1⟩
      have N1 := Lib.hid h1
      have HY2 := Lib.hid (HY.out.new h1)
      clear h1
      go_wp2_with (go_at_call 92; refine (allIn_any M m d ms _ _ hm _ HY2.out).mono ?_; rintro e w' ⟨rfl, rfl⟩)
      go_ret
      exact ⟨by rw [E1.out]; rfl, N1.out⟩
    · have E1 : Hid (marksB n zs ms = false) := Lib.hid (by unfold marksB listB; rw [LY.out, decide_eq_false hl]; simp)
      have hlb : decide ((m : Int) ≤ 16) = false := decide_eq_false hl
      clear hv hl
      go_enter Try.func66, Try.ntmps66
      go_wp2_with (go_at_call 41; refine CT.out.mono ?_; rw [HV.out]; rintro e w1 ⟨rfl, h1⟩; (have N1 := Lib.hid h1); clear h1)
      go_ret
      exact ⟨by rw [E1.out]; rfl, N1.out⟩
set_option maxRecDepth 100000 in
set_option maxHeartbeats 4000000 in
theorem sroots_any (A M : Option Addr) (n c m d : Nat) (zs ms : List Int) (h : marksB n zs ms = true) (w : World) (hx : Sts 9 w A n zs) (hy : Ints w M m ms) :
    Calls Try.prog 67 #[.slice A n c, .slice M m d] w (Ans w ((rootL n zs ms).map Int.ofNat)) := by
  obtain ⟨hv, hm, hz⟩ := mks_at h
  have n16 := (vtB_iff.1 hv).1.2
  have m16 : m ≤ 16 := by have := hy.len; omega
  have HU := Lib.hid ((link_vt hv).ups)
  have HX := Lib.hid hx; have HY := Lib.hid hy; have LY := Lib.hid hy.len
  have MZ := Lib.hid hz; have M0 := Lib.hid (fun z (hh : z ∈ ms) => (hz z hh).1)
  have n0 : (n : Int) ≤ 16 := by omega
  have m0 : (m : Int) ≤ 16 := by omega
  clear hx hy h hv hm hz
  go_enter Try.func67, Try.ntmps67
  go_wp2
  go_loopw [5, 6] (fun v i wr => ∃ k : Nat, k ≤ n ∧ i = .int .i64 (k : Int) ∧ Hid (Own w.heap.size wr v ((rootL k zs ms).map Int.ofNat)) ∧ Hid (New w wr)) (fun _ i _ => n - (intOf i).toNat)
  case atStart => exact ⟨0, Nat.zero_le _, rfl, Lib.hid (Own.empty w 0 (Nat.le_refl _) rfl), Lib.hid (by (repeat (first | exact New.refl _ | assumption | refine New.alloc ?_ _ | refine New.drew ?_ | refine New.drewN ?_ _ | refine New.setCell ?_ (by first | omega | (simp; omega) | (simp; done)) _ | refine New.trans ?_ (by assumption))))⟩
  case round =>
    obtain ⟨k, hk, rfl, HO, HN⟩ := hrel
    have sz := HN.out.le
    have k0 : (0 : Int) ≤ (k : Int) := by omega
    by_cases hlt : k < n
    · have k1 : (k : Int) < (n : Int) := by omega
      have X2 := Lib.hid (HX.out.new HN.out); have Y2 := Lib.hid (HY.out.new HN.out)
      have LL : Hid ((rootL k zs ms).length ≤ k) := Lib.hid rootL_len
      have SU := Lib.hid (rootL_succ (k := k) (zs := zs) (ms := ms))
      have TB := Lib.hid (root_bool (zs := zs) M0.out k)
      cases hmk : mk ms k
      · have SU2 : Hid (rootL (k + 1) zs ms = rootL k zs ms) := Lib.hid (by rw [SU.out, TB.out, hmk]; simp)
        have CM := Lib.hid (sisIn_any M m d k ms (by omega) wr Y2.out)
        clear SU TB LL
        go_wp2_with (go_at_call 93; refine CM.out.mono ?_; rw [hmk]; rintro e w' ⟨rfl, rfl⟩)
        go_roundw
        case rel => exact ⟨k + 1, by omega, by go_num, Lib.hid (by rw [SU2.out]; exact HO.out), HN⟩
        case measure => simp [intOf]; omega
      have CM := Lib.hid (sisIn_any M m d k ms (by omega) wr Y2.out)
      rw [hmk, Bool.true_and] at TB
      go_wp2_with (go_at_call 93; refine CM.out.mono ?_; rw [hmk]; rintro e w' ⟨rfl, rfl⟩)
      clear CM
      obtain ⟨wo, rfl⟩ : ∃ x, x = wr := ⟨wr, rfl⟩
      go_wp2
      go_loopw [7, 8] (fun t q wz => wz = wo ∧ ∃ j : Nat, j ≤ m ∧ q = .int .i64 (j : Int) ∧ t = .bool ((ms.take j).all (farB zs k))) (fun _ q _ => m - (intOf q).toNat)
      case atStart => exact ⟨rfl, 0, Nat.zero_le _, rfl, rfl⟩
      case round =>
        obtain ⟨rfl, j, hj, rfl, rfl⟩ := hrel
        have j0 : (0 : Int) ≤ (j : Int) := by omega
        by_cases hjm : j < m
        · have j1 : (j : Int) < (m : Int) := by omega
          have AT := Lib.hid (all_take (p := (farB zs k)) (show j < ms.length by rw [LY.out]; exact hjm))
          have hz := MZ.out _ (getD_in (show j < ms.length by rw [LY.out]; exact hjm))
          obtain ⟨z, hze⟩ := Int.eq_ofNat_of_zero_le hz.1
          rw [hze] at AT
          obtain ⟨b, off, rfl, hb, hc⟩ := Y2.out.at_ (by omega)
          have g1 := hc j hjm
          rw [hze] at g1
          have z0 : (0 : Int) ≤ (z : Int) := by omega
          clear hc hb hz hze
          cases hb : (ms.take j).all (farB zs k)
          · go_wp2
            go_roundw
            case rel => exact ⟨trivial, j + 1, by omega, by go_num, by rw [AT.out, hb]; rfl⟩
            case measure => simp [intOf]; omega
          · by_cases hzk : (z : Int) = (k : Int)
            · have F1 : farB zs k (z : Int) = true := by unfold farB; rw [beq_iff_eq.2 hzk]; rfl
              rw [hzk] at g1
              go_wp2
              go_roundw
              case rel => exact ⟨trivial, j + 1, by omega, by go_num, by rw [AT.out, hb, F1]; rfl⟩
              case measure => simp [intOf]; omega
            · have hzb : ((z : Int) == (k : Int)) = false := by simpa using hzk
              cases ha : anc zs z k
              · have F1 : farB zs k (z : Int) = true := by unfold farB; rw [Int.toNat_natCast, ha, Bool.not_false, Bool.or_true]
                go_wp2_with (go_at_call 85; refine (saround_any A n c k z zs (by omega) hlt HU.out _ X2.out).mono ?_; rw [ha]; rintro e w' ⟨rfl, rfl⟩)
                go_roundw
                case rel => exact ⟨trivial, j + 1, by omega, by go_num, by rw [AT.out, hb, F1]; rfl⟩
                case measure => simp [intOf]; omega
              · have F1 : farB zs k (z : Int) = false := by unfold farB; rw [Int.toNat_natCast, ha, hzb]; rfl
                go_wp2_with (go_at_call 85; refine (saround_any A n c k z zs (by omega) hlt HU.out _ X2.out).mono ?_; rw [ha]; rintro e w' ⟨rfl, rfl⟩)
                go_roundw
                case rel => exact ⟨trivial, j + 1, by omega, by go_num, by rw [AT.out, hb, F1]; rfl⟩
                case measure => simp [intOf]; omega
        · obtain rfl : m = j := by omega
          rw [List.take_of_length_le (by rw [LY.out]; exact Nat.le_refl _)]
          cases hb : ms.all (farB zs k)
          · have SU2 : Hid (rootL (k + 1) zs ms = rootL k zs ms) := Lib.hid (by rw [SU.out, TB.out, hb]; simp)
            clear SU TB LL hb
            go_wp2
            go_roundw
            case rel => exact ⟨k + 1, by omega, by go_num, Lib.hid (by rw [SU2.out]; exact HO.out), HN⟩
            case measure => simp [intOf]; omega
          · have SU2 : Hid (rootL (k + 1) zs ms = rootL k zs ms ++ [k]) := Lib.hid (by rw [SU.out, TB.out, hb]; simp)
            clear SU TB hb
            go_wp2_with (at_builtin; refine wp_app rfl _ _ rfl w.heap.size _ _ rfl (HO.out.alloc _) (some ⟨wr.heap.size, 0, none⟩) 1 1 [(k : Int)] rfl (Ints.one wr _ _) (by rw [List.length_map]; have := LL.out; omega) (by simp; omega) ?_; intro v6 w6 O6 G6; (have N6 := Lib.hid (new_own (HN.out.alloc _) G6 (HO.out.alloc _) (Nat.le_refl _))); (have O6 := Lib.hid O6); clear G6)
            go_wp2
            go_roundw
            case rel => exact ⟨k + 1, by omega, by go_num, Lib.hid (by rw [SU2.out, List.map_append]; exact O6.out), N6⟩
            case measure => simp [intOf]; omega
    · obtain rfl : k = n := by omega
      obtain ⟨v, hv⟩ : ∃ v, v = u5 := ⟨_, rfl⟩
      rw [← hv] at HO ⊢
      clear hv
      go_wp2
      go_ret
      exact Ans.own rfl HO.out HN.out
set_option maxHeartbeats 400000 in
theorem SDirtyRoots_ans (A M : Option Addr) (n c m d : Nat) (zs ms : List Int) (hn : n ≤ 1048576) (hm : m ≤ 1048576) (w : World) (hx : Sts 9 w A n zs) (hy : Ints w M m ms) :
    Calls Try.prog 33 #[.slice A n c, .slice M m d] w (Ans w (drA n zs ms)) := by
  have CV := Lib.hid (svalidMarks_any A M n c m d zs ms hn hm w hx hy)
  have HX := Lib.hid hx; have HY := Lib.hid hy
  clear hx hy
  cases hok : marksB n zs ms
  · have E1 : Hid (drA n zs ms = []) := Lib.hid (by unfold drA; rw [hok]; rfl)
    go_enter Try.func33, Try.ntmps33
    go_wp2_with (go_at_call 66; refine CV.out.mono ?_; rw [hok]; rintro e w1 ⟨rfl, h1⟩; (have N1 := Lib.hid h1); clear h1)
    go_ret
    rw [E1.out]
    exact Ans.none_ rfl N1.out
  · have E1 : Hid (drA n zs ms = (rootL n zs ms).map Int.ofNat) := Lib.hid (by unfold drA; rw [if_pos hok])
    go_enter Try.func33, Try.ntmps33
    go_wp2_with fail
    refine CV.out.mono ?_
    rw [hok]
    rintro e w1 ⟨rfl, h1⟩
    have N1 := Lib.hid h1
    have CR := Lib.hid (sroots_any A M n c m d zs ms hok w1 (HX.out.new h1) (HY.out.new h1))
    have s1 := h1.le
    clear h1
    go_wp2_with fail
    refine CR.out.mono ?_
    rintro e w2 ⟨A2, n2, c2, rfl, l2, R2, N2⟩
    have R2 := Lib.hid R2; have N2 := Lib.hid (N1.out.trans N2); have L2 := Lib.hid l2
    clear l2
    go_wp2
    go_ret
    rw [E1.out]
    exact ⟨A2, n2, c2, rfl, L2.out, R2.out.low s1, N2.out⟩
end Go.Proofs.Ytobnjagmakhgpaa
