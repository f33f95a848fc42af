/- CleanBox of the program and of the reference, walked. Condition: the tree and the marks can be read. -/
import Derived.Test.YtkaagpfgpacfcaaCleanI
namespace Go.Proofs.Ytkaagpfgpacfcaa
open Go.RowKit

/-- An answer that is a list of numbers of its own, and a truth value. -/
def AnsI (w : World) (ok : Bool) (zs : List Int) (e : Ending) (w' : World) : Prop :=
  ∃ (A : Option Addr) (n c : Nat), e = .returned (.tuple #[.slice A n c, .bool ok]) ∧ zs.length = n ∧ Res w.heap.size w'.heap.size w' A zs ∧ New w w'
def cleanOk (n : Nat) (zs ms : List Int) (at_ : Int) : Bool := nodeOk n zs at_ && marksB n zs ms
def cleanA (n : Nat) (zs ms : List Int) (at_ : Int) : List Int := if cleanOk n zs ms at_ = true then ((rootL n zs ms).map Int.ofNat).filter (fun x => !arA n zs at_ x) else []
theorem cleanA_len {n : Nat} {zs ms : List Int} {at_ : Int} : (cleanA n zs ms at_).length ≤ 16 := by
  unfold cleanA
  split
  · next h =>
    unfold cleanOk at h
    rw [Bool.and_eq_true] at h
    have h1 := (vtB_iff.1 (mks_at h.2).1).1
    have h2 := List.length_filter_le (fun x => !arA n zs at_ x) ((rootL n zs ms).map Int.ofNat)
    have h3 := rootL_len (k := n) (zs := zs) (ms := ms)
    rw [List.length_map] at h2
    omega
  · simp
set_option maxHeartbeats 1000000 in
theorem DeleteFunc_none (A : Option Addr) (c q1 q2 : Nat) (p : Int → Bool) (w : World) (hp : CleanP w w.heap.size q1 q2 p) :
    Calls Try.prog 63 #[.slice A 0 c, .func (.func 61) #[] #[.pointer (some ⟨q1, 0, none⟩), .pointer (some ⟨q2, 0, none⟩)]] w fun e w' => e = .returned (.slice A 0 c) ∧ New w w' := by
  have CT := Lib.hid (IndexFunc_any A 0 c w.heap.size q1 q2 p [] (by omega) w ⟨rfl, fun h => absurd h (by omega)⟩ hp)
  clear hp
  go_enter Try.func63, Try.ntmps63
  go_wp2_with fail
  refine CT.out.mono ?_
  rintro e w1 ⟨N1, ⟨rfl, _⟩ | ⟨k, hk, _⟩⟩
  · have N1 := Lib.hid N1
    go_wp2
    go_ret
    exact ⟨rfl, N1.out⟩
  · omega
set_option maxHeartbeats 1000000 in
theorem clean_pred (A : Option Addr) (n c g q1 q2 : Nat) (zs : List Int) (at_ : Int) (hn : n ≤ 1048576) (w : World) (hx : Sts 9 w A n zs) (hA : ∀ b off, A = some ⟨b, off, none⟩ → b ≠ g) (h1 : w.cell? ⟨q1, 0, none⟩ = some (.slice A n c)) (h2 : w.cell? ⟨q2, 0, none⟩ = some (.int .i64 at_)) (g1 : q1 ≠ g) (g2 : q2 ≠ g) :
    CleanP w g q1 q2 (arA n zs at_) := by
  intro W hW x
  have l1 := World.block_lt_of_cell? w ⟨q1, 0, none⟩ h1
  have l2 := World.block_lt_of_cell? w ⟨q2, 0, none⟩ h2
  have c1 := (only_cells hW q1 0 l1 g1).trans h1
  have c2 := (only_cells hW q2 0 l2 g2).trans h2
  have HX : Hid (Sts 9 W A n zs) := Lib.hid ⟨hx.len, fun h0 => by
    obtain ⟨b, off, rfl, hb, hc⟩ := hx.at_ h0
    exact ⟨b, off, rfl, Nat.lt_of_lt_of_le hb hW.size, fun i hi => (only_cells hW b _ hb (hA b off rfl)).trans (hc i hi)⟩⟩
  clear hx hA h1 h2 hW l1 l2
  go_enter Try.func61, Try.ntmps61
  go_wp2_with fail
  refine (IsAround_any A n c zs at_ x hn _ HX.out).mono ?_
  rintro e w1 ⟨rfl, h3⟩
  have N1 := Lib.hid h3
  clear h3
  go_wp2
  go_ret
  exact ⟨rfl, N1.out⟩
theorem AnsI.no {w w' : World} {e : Ending} {ok : Bool} {zs : List Int} (he : e = .returned (.tuple #[.slice none 0 0, .bool false])) (ho : ok = false) (hz : zs = []) (hN : New w w') : AnsI w ok zs e w' := by
  subst ho; subst hz
  exact ⟨none, 0, 0, he, rfl, Res.nil _ _ _, hN⟩
set_option maxHeartbeats 4000000 in
theorem CleanBox_ansI (A M : Option Addr) (n c m d : Nat) (zs ms : List Int) (at_ : Int) (hn : n ≤ 1048576) (hm : m ≤ 1048576) (w : World) (hx : Sts 9 w A n zs) (hy : Ints w M m ms) :
    Calls Try.prog 23 #[.slice A n c, .slice M m d, .int .i64 at_] w (AnsI w (cleanOk n zs ms at_) (cleanA n zs ms at_)) := by
  have HX := Lib.hid hx; have HY := Lib.hid hy
  obtain ⟨W2, hW2⟩ : ∃ W2, ((w.alloc (.cells #[.slice A n c] 29)).alloc (.cells #[.int .i64 at_] 3)) = W2 := ⟨_, rfl⟩
  have N0 : New w W2 := hW2 ▸ (((New.refl w).alloc (.cells #[.slice A n c] 29)).alloc (.cells #[.int .i64 at_] 3))
  have sz : W2.heap.size = w.heap.size + 2 := by rw [← hW2]; simp
  have c1 : W2.cell? ⟨w.heap.size, 0, none⟩ = some (.slice A n c) := by rw [← hW2]; simp
  have c2 : W2.cell? ⟨w.heap.size + 1, 0, none⟩ = some (.int .i64 at_) := by rw [← hW2]; simp
  have hnil := fun (W : World) (a : Option Addr) (n c n' c' : Nat) => Lib.run_eql_slice_nil (P := Try.prog) W 23 3 a n c n' c' Try.underlying23
  cases hk : nodeOk n zs at_
  · have E1 : cleanOk n zs ms at_ = false := by unfold cleanOk; rw [hk]; rfl
    have E2 : cleanA n zs ms at_ = [] := by unfold cleanA; rw [E1]; rfl
    have CT := Lib.hid (nodeAt_no A n c zs at_ hn hk W2 (HX.out.new N0))
    rw [E1, E2]
    have N0 := Lib.hid N0; have SZ := Lib.hid sz
    clear E1 E2 hk sz hx hy
    go_enter Try.func23, Try.ntmps23
    go_wp2_with fail
    refine CT.out.mono ?_
    rintro e w1 ⟨rfl, h1⟩
    have N1 := Lib.hid (N0.out.trans h1)
    clear h1
    go_wp2
    go_ret2
    exact AnsI.no rfl rfl rfl N1.out
  · obtain ⟨hv, i, rfl, hi⟩ := nodeOk_iff.1 hk
    have CT := Lib.hid (nodeAt_yes A n c i zs hv hi W2 (HX.out.new N0))
    have n16 := (vtB_iff.1 hv).1
    have AB : ∀ g, w.heap.size ≤ g → ∀ b off, A = some ⟨b, off, none⟩ → b ≠ g := fun g hg b off hA hb => by
      obtain ⟨b', off', h1, h2, _⟩ := HX.out.at_ (by omega)
      rw [hA] at h1
      cases h1
      omega
    cases hmk : marksB n zs ms
    · have E1 : cleanOk n zs ms (i : Int) = false := by unfold cleanOk; rw [hmk, Bool.and_false]
      have E2 : cleanA n zs ms (i : Int) = [] := by unfold cleanA; rw [E1]; rfl
      rw [E1, E2]
      have HM := Lib.hid hmk
      have N0 := Lib.hid N0; have SZ := Lib.hid sz; have C1 := Lib.hid c1; have C2 := Lib.hid c2
      clear E1 E2 hk sz hx hy hv hmk
      go_enter Try.func23, Try.ntmps23
      go_wp2_with fail
      refine CT.out.mono ?_
      rintro e w1 ⟨h1, nb, ar, fi, la, ne, rfl, _⟩
      have d1 := (h1.cells w.heap.size 0 (by rw [SZ.out]; omega)).trans C1.out
      have d2 := (h1.cells (w.heap.size + 1) 0 (by rw [SZ.out]; omega)).trans C2.out
      have H1 := Lib.hid h1
      clear h1 c1 c2
      go_wp2_with fail
      refine (rootOfEach_any A M n c m d zs ms hn hm _ (HX.out.new (N0.out.trans H1.out)) (HY.out.new (N0.out.trans H1.out))).mono ?_
      rintro e w2 ⟨h2, ⟨_, rfl⟩ | ⟨ht, _⟩⟩
      · have N2 := Lib.hid (N0.out.trans (H1.out.trans h2))
        clear h2
        go_wp2
        go_ret2
        exact AnsI.no rfl rfl rfl N2.out
      · rw [HM.out] at ht; cases ht
    · have E1 : cleanOk n zs ms (i : Int) = true := by unfold cleanOk; rw [hmk, hk]; rfl
      have E2 : Hid (cleanA n zs ms (i : Int) = ((rootL n zs ms).map Int.ofNat).filter fun x => !arA n zs (i : Int) x) := Lib.hid (by unfold cleanA; rw [if_pos E1])
      have E3 : Hid (drA n zs ms = (rootL n zs ms).map Int.ofNat) := Lib.hid (by unfold drA; rw [if_pos hmk])
      rw [E1]
      have HM := Lib.hid hmk
      have N0 := Lib.hid N0; have SZ := Lib.hid sz; have C1 := Lib.hid c1; have C2 := Lib.hid c2
      clear E1 hk sz hx hy hv hmk
      go_enter Try.func23, Try.ntmps23
      go_wp2_with fail
      refine CT.out.mono ?_
      rintro e w1 ⟨h1, nb, ar, fi, la, ne, rfl, _⟩
      have d1 := (h1.cells w.heap.size 0 (by rw [SZ.out]; omega)).trans C1.out
      have d2 := (h1.cells (w.heap.size + 1) 0 (by rw [SZ.out]; omega)).trans C2.out
      have H1 := Lib.hid h1
      clear h1 c1 c2
      go_wp2_with fail
      refine (rootOfEach_any A M n c m d zs ms hn hm _ (HX.out.new (N0.out.trans H1.out)) (HY.out.new (N0.out.trans H1.out))).mono ?_
      rintro e w2 ⟨h2, ⟨hf, _⟩ | ⟨ht, g, rfl, _, _⟩⟩
      · rw [HM.out] at hf; cases hf
      · have e1 := (h2.cells w.heap.size 0 (Nat.lt_of_lt_of_le (by rw [SZ.out]; omega) H1.out.le)).trans d1
        have e2 := (h2.cells (w.heap.size + 1) 0 (Nat.lt_of_lt_of_le (by rw [SZ.out]; omega) H1.out.le)).trans d2
        have H2 := Lib.hid (H1.out.trans h2)
        clear h2 d1 d2 ht H1
        go_wp2_with fail
        refine (DirtyRoots_own A M n c m d zs ms hn hm _ (HX.out.new (N0.out.trans H2.out)) (HY.out.new (N0.out.trans H2.out))).mono ?_
        rintro e w3 ⟨v, rfl, O, h3⟩
        have f1 := (h3.cells w.heap.size 0 (Nat.lt_of_lt_of_le (by rw [SZ.out]; omega) H2.out.le)).trans e1
        have f2 := (h3.cells (w.heap.size + 1) 0 (Nat.lt_of_lt_of_le (by rw [SZ.out]; omega) H2.out.le)).trans e2
        have N3 := Lib.hid (N0.out.trans (H2.out.trans h3))
        have L2 := Lib.hid (show w.heap.size + 2 ≤ w2.heap.size from SZ.out ▸ H2.out.le)
        have L3 := Lib.hid h3.le
        clear h3 e1 e2 H2
        rw [E3.out] at O
        rcases O.form with ⟨rfl, h0⟩ | ⟨g3, c3, rfl, hg3, R3, hc3, _⟩
        · have CP := Lib.hid (DeleteFunc_none none 0 w.heap.size (w.heap.size + 1) (arA n zs (i : Int)) w3 (clean_pred A n c w3.heap.size w.heap.size (w.heap.size + 1) zs (i : Int) hn w3 (HX.out.new N3.out) (AB w3.heap.size (by have := L2.out; have := L3.out; omega)) f1 f2 (by have := L2.out; have := L3.out; omega) (by have := L2.out; have := L3.out; omega)))
          have E0 := Lib.hid h0
          clear O h0
          go_wp2_with fail
          refine CP.out.mono ?_
          rintro e w4 ⟨rfl, h4⟩
          have N4 := Lib.hid (N3.out.trans h4)
          clear h4
          go_wp2
          go_ret2
          rw [E2.out, E0.out]
          exact ⟨_, _, _, rfl, rfl, Res.nil _ _ _, N4.out⟩
        · obtain ⟨K, hK⟩ : ∃ K, ((rootL n zs ms).map Int.ofNat).length = K := ⟨_, rfl⟩
          have hK2 : K ≤ n := by rw [← hK, List.length_map]; exact rootL_len
          have hL2 := L2.out
          rw [hK] at hc3 O ⊢
          have CP := Lib.hid (DeleteFunc_any g3 K c3 w.heap.size (w.heap.size + 1) (arA n zs (i : Int)) _ hK (by omega) hc3 w3 R3 (clean_pred A n c g3 w.heap.size (w.heap.size + 1) zs (i : Int) hn w3 (HX.out.new N3.out) (AB g3 (by omega)) f1 f2 (by omega) (by omega)))
          have HO := Lib.hid O
          have G3 := Lib.hid hg3
          clear O R3 hc3 hg3 hL2 hK
          go_wp2_with fail
          refine CP.out.mono ?_
          rintro e w4 ⟨k, rfl, hk, hk2, R4, G4⟩
          have N4 := Lib.hid (new_own N3.out G4 HO.out (by have := L2.out; omega))
          have R4 := Lib.hid R4; have HK := Lib.hid hk
          clear G4 hk
          go_wp2
          go_ret2
          rw [E2.out]
          exact ⟨_, k, _, rfl, HK.out, Res.of_row R4.out (Nat.le_trans (by have := L2.out; omega) G3.out), N4.out⟩
theorem filt_snoc {xs : List Int} {p : Int → Bool} {k : Nat} {x : Int} (h : k < xs.length) (hx : xs.getD k 0 = x) : (xs.take (k + 1)).filter p = (xs.take k).filter p ++ (if p x = true then [x] else []) := by
  rw [take_snoc h, List.filter_append, hx]
  congr 1
  by_cases hp : p x = true
  · rw [if_pos hp, List.filter_cons_of_pos hp]; rfl
  · rw [if_neg hp, List.filter_cons_of_neg hp]; rfl
theorem rootL_at {n k : Nat} {zs ms : List Int} (h : k < ((rootL n zs ms).map Int.ofNat).length) : ∃ j : Nat, j < n ∧ ((rootL n zs ms).map Int.ofNat).getD k 0 = (j : Int) := by
  have hm := getD_in h
  obtain ⟨j, hj, e⟩ := List.mem_map.1 hm
  refine ⟨j, ?_, e.symm⟩
  have := (List.mem_filter.1 hj).1
  exact List.mem_range.1 this
set_option maxHeartbeats 4000000 in
theorem SCleanBox_ansI (A M : Option Addr) (n c m d : Nat) (zs ms : List Int) (at_ : Int) (hn : n ≤ 1048576) (hm : m ≤ 1048576) (w : World) (hx : Sts 9 w A n zs) (hy : Ints w M m ms) :
    Calls Try.prog 24 #[.slice A n c, .slice M m d, .int .i64 at_] w (AnsI w (cleanOk n zs ms at_) (cleanA n zs ms at_)) := by
  obtain ⟨W2, hW2⟩ : ∃ W2, (w.alloc (.cells #[] 3)) = W2 := ⟨_, rfl⟩
  have N0 : New w W2 := hW2 ▸ (New.refl w).alloc (.cells #[] 3)
  have CV := Lib.hid (svalidMarks_any A M n c m d zs ms hn hm W2 (hx.new N0) (hy.new N0))
  have n0 : (0 : Int) ≤ (n : Int) := by omega
  have n1 : (n : Int) ≤ 1048576 := by omega
  have HX := Lib.hid hx; have HY := Lib.hid hy
  cases hmk : marksB n zs ms
  · have E1 : cleanOk n zs ms at_ = false := by unfold cleanOk; rw [hmk, Bool.and_false]
    have E2 : cleanA n zs ms at_ = [] := by unfold cleanA; rw [E1]; rfl
    rw [E1, E2]
    have N0 := Lib.hid N0
    clear E1 E2 hx hy
    go_enter Try.func24, Try.ntmps24
    go_wp2_with (go_at_call 64; refine CV.out.mono ?_; rw [hmk]; rintro e w1 ⟨rfl, h1⟩; (have N1 := Lib.hid (N0.out.trans h1)); clear h1)
    go_ret2
    exact AnsI.no rfl rfl rfl N1.out
  · cases hd : decide (0 ≤ at_ ∧ at_ ≤ (n : Int) - 1)
    · have E1 : cleanOk n zs ms at_ = false := by unfold cleanOk nodeOk; rw [hd, Bool.and_false, Bool.false_and]
      have E2 : cleanA n zs ms at_ = [] := by unfold cleanA; rw [E1]; rfl
      rw [E1, E2]
      have N0 := Lib.hid N0
      clear E1 E2 hx hy
      go_enter Try.func24, Try.ntmps24
      go_wp2_with fail
      refine CV.out.mono ?_
      rw [hmk]
      rintro e w1 ⟨rfl, h1⟩
      have N1 := Lib.hid (N0.out.trans h1)
      clear h1
      go_wp2_with (go_at_call 55; refine (inRange_any _ _ _ _).mono ?_; rw [hd]; rintro e w' ⟨rfl, rfl⟩)
      go_ret2
      exact AnsI.no rfl rfl rfl N1.out
    · have hv := (mks_at hmk).1
      have hk : nodeOk n zs at_ = true := by unfold nodeOk; rw [hv, hd]; rfl
      obtain ⟨_, i, rfl, hi⟩ := nodeOk_iff.1 hk
      have E1 : cleanOk n zs ms (i : Int) = true := by unfold cleanOk; rw [hmk, hk]; rfl
      have E2 : Hid (cleanA n zs ms (i : Int) = ((rootL n zs ms).map Int.ofNat).filter fun x => !arA n zs (i : Int) x) := Lib.hid (by unfold cleanA; rw [if_pos E1])
      have AR : Hid (∀ j : Nat, j < n → arA n zs (i : Int) (j : Int) = anc zs i j) := Lib.hid (fun j hj => by
        unfold arA
        rw [hk, nodeOk_iff.2 ⟨hv, j, rfl, hj⟩, Int.toNat_natCast, Int.toNat_natCast]; rfl)
      have HU := Lib.hid (link_vt hv).ups
      have L16 := Lib.hid (show ((rootL n zs ms).map Int.ofNat).length ≤ 16 by
        have h1 := (vtB_iff.1 hv).1.2
        have h3 := rootL_len (k := n) (zs := zs) (ms := ms)
        rw [List.length_map]; omega)
      have RA := Lib.hid (fun k (h : k < ((rootL n zs ms).map Int.ofNat).length) => rootL_at h)
      have HM := Lib.hid hmk
      rw [E1]
      have N0 := Lib.hid N0
      clear E1 hx hy hv hk hmk
      go_enter Try.func24, Try.ntmps24
      go_wp2_with fail
      refine CV.out.mono ?_
      rw [HM.out]
      rintro e w1 ⟨rfl, h1⟩
      have N1 := Lib.hid (N0.out.trans h1)
      clear h1
      go_wp2_with fail
      refine (inRange_any _ _ _ _).mono ?_
      rw [hd]
      rintro e w' ⟨rfl, rfl⟩
      go_wp2_with fail
      refine (sroots_any A M n c m d zs ms HM.out _ (HX.out.new N1.out) (HY.out.new N1.out)).mono ?_
      rintro e w2 ⟨B, K, cB, rfl, hK, R2, h2⟩
      obtain ⟨xs, hxs⟩ : ∃ xs, (rootL n zs ms).map Int.ofNat = xs := ⟨_, rfl⟩
      rw [hxs] at RA L16 hK R2 E2
      have XI := Lib.hid (R2.ints hK)
      have HK := Lib.hid hK
      have K16 : (K : Int) ≤ 16 := by have := L16.out; omega
      have N2 := Lib.hid (N1.out.trans h2)
      clear h2 R2 hK hxs CV
      have S2 := Lib.hid (show w.heap.size ≤ w2.heap.size from N2.out.le)
      clear N1 HY HM
      go_wp2
      go_loopw [8, 10] (fun v q wr => ∃ k : Nat, k ≤ K ∧ q = .int .i64 (k : Int) ∧ Hid ((v = .slice (some ⟨w.heap.size, 0, none⟩) 0 0 ∧ (xs.take k).filter (fun x => !arA n zs (i : Int) x) = []) ∨ Own w2.heap.size wr v ((xs.take k).filter fun x => !arA n zs (i : Int) x)) ∧ Hid (New w2 wr)) (fun _ q _ => K - (intOf q).toNat)
      case atStart => exact ⟨0, Nat.zero_le _, rfl, Lib.hid (.inl ⟨rfl, rfl⟩), Lib.hid (New.refl _)⟩
      case round =>
        obtain ⟨k, hk, rfl, HO, HN⟩ := hrel
        have k0 : (0 : Int) ≤ (k : Int) := by omega
        by_cases hlt : k < K
        · have k1 : (k : Int) < (K : Int) := by omega
          obtain ⟨j, hj, hjx⟩ := RA.out k (by rw [HK.out]; exact hlt)
          have FS := Lib.hid (filt_snoc (p := fun x => !arA n zs (i : Int) x) (by rw [HK.out]; exact hlt) hjx)
          have XR := Lib.hid (XI.out.new HN.out)
          have FL := Lib.hid (show ((xs.take k).filter fun x => !arA n zs (i : Int) x).length ≤ 16 from Nat.le_trans (List.length_filter_le _ _) (by rw [List.length_take]; have := L16.out; omega))
          obtain ⟨b, off, rfl, hb, hc⟩ := XR.out.at_ (by omega)
          have g1 := hc k hlt
          rw [hjx] at g1
          have AJ := AR.out j hj
          clear hc hb hjx
          cases ha : anc zs i j
          · have F1 : Hid ((xs.take (k + 1)).filter (fun x => !arA n zs (i : Int) x) = (xs.take k).filter (fun x => !arA n zs (i : Int) x) ++ [(j : Int)]) := Lib.hid (by rw [FS.out]; simp only [AJ, ha, Bool.not_false, if_true])
            clear FS AJ
            go_wp2_with fail
            refine (saround_any A n c j i zs hn hj HU.out _ (HX.out.new (N2.out.trans HN.out))).mono ?_
            rw [ha]
            rintro e w' ⟨rfl, rfl⟩
            rcases HO.out with ⟨rfl, hz⟩ | HO
            · have HZ := Lib.hid hz
              clear hz
              go_wp2_with (at_builtin; refine wp_grow rfl _ _ rfl w.heap.size 0 [] rfl ⟨rfl, fun h => absurd h (by omega)⟩ wr.heap.size (j : Int) rfl (Ints.one wr _ _) (by omega) ?_; intro v6 w6 O6 N6; (have N6 := Lib.hid ((HN.out.alloc _).trans N6)); (have O6 := Lib.hid O6))
              go_wp2
              go_roundw
              case rel => exact ⟨k + 1, by omega, by go_num, Lib.hid (.inr (by rw [F1.out, HZ.out]; exact O6.out.low (Nat.le_trans HN.out.le (by simp)))), N6⟩
              case measure => simp [intOf]; omega
            · have HO := Lib.hid HO
              go_wp2_with (at_builtin; refine wp_app rfl _ _ rfl w2.heap.size _ _ rfl (HO.out.alloc _) (some ⟨wr.heap.size, 0, none⟩) 1 1 [(j : Int)] rfl (Ints.one wr _ _) (by have := FL.out; omega) (Nat.le_trans HN.out.le (by simp)) ?_; intro v6 w6 O6 G6; (have N6 := Lib.hid (new_own (HN.out.alloc _) G6 (HO.out.alloc _) (Nat.le_refl _))); (have O6 := Lib.hid O6); clear G6)
              go_wp2
              go_roundw
              case rel => exact ⟨k + 1, by omega, by go_num, Lib.hid (.inr (by rw [F1.out]; exact O6.out)), N6⟩
              case measure => simp [intOf]; omega
          · have F1 : Hid ((xs.take (k + 1)).filter (fun x => !arA n zs (i : Int) x) = (xs.take k).filter (fun x => !arA n zs (i : Int) x)) := Lib.hid (by rw [FS.out]; simp [AJ, ha])
            clear FS AJ
            go_wp2_with (go_at_call 66; refine (saround_any A n c j i zs hn hj HU.out _ (HX.out.new (N2.out.trans HN.out))).mono ?_; rw [ha]; rintro e w' ⟨rfl, rfl⟩)
            go_roundw
            case rel => exact ⟨k + 1, by omega, by go_num, Lib.hid (by rw [F1.out]; exact HO.out), HN⟩
            case measure => simp [intOf]; omega
        · obtain rfl : K = k := by omega
          have F1 : (xs.take K).filter (fun x => !arA n zs (i : Int) x) = xs.filter fun x => !arA n zs (i : Int) x := by rw [List.take_of_length_le (by rw [HK.out]; exact Nat.le_refl _)]
          have F1 := Lib.hid F1
          rcases HO.out with ⟨rfl, hz⟩ | HO
          · have HZ := Lib.hid hz
            clear hz
            go_wp2
            go_ret2
            rw [E2.out, ← F1.out, HZ.out]
            exact ⟨_, _, _, rfl, rfl, Res.nil _ _ _, N2.out.trans HN.out⟩
          · obtain ⟨A6, c6, rfl, _, R6⟩ := HO.res
            have R6 := Lib.hid R6
            clear HO
            go_wp2
            go_ret2
            rw [E2.out, ← F1.out]
            exact ⟨_, _, _, rfl, rfl, R6.out.low S2.out, N2.out.trans HN.out⟩
end Go.Proofs.Ytkaagpfgpacfcaa
