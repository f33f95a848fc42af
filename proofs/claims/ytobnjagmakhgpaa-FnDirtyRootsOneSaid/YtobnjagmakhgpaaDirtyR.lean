/- The dirty root of each box, and the answers of DirtyRoots and DirtyBoxes of the program, walked. Condition: the tree and the marks can be read. -/
import Derived.Test.YtobnjagmakhgpaaDirtyI
namespace Go.Proofs.Ytobnjagmakhgpaa
open Go.RowKit

theorem getD_in {ms : List Int} {k : Nat} (hk : k < ms.length) : ms.getD k 0 ∈ ms := by
  rw [List.getD_eq_getElem?_getD, List.getElem?_eq_getElem hk]
  exact List.getElem_mem hk
theorem Row.cong {w : World} {g : Nat} {l zs : List Int} (h : Row w g l) (hl : l.length = zs.length) (he : ∀ i, i < zs.length → l.getD i 0 = zs.getD i 0) : Row w g zs :=
  ⟨h.lt, fun i hi => by rw [h.c i (by omega), he i hi], fun i hi => h.f i (by omega)⟩
theorem getD_set_other {l : List Int} {i k : Nat} {v : Int} (h : i ≠ k) : (l.set k v).getD i 0 = l.getD i 0 := by
  rw [List.getD_eq_getElem?_getD, List.getElem?_set_ne (Ne.symm h), ← List.getD_eq_getElem?_getD]
theorem getD_set_same {l : List Int} {k : Nat} {v : Int} (h : k < l.length) : (l.set k v).getD k 0 = v := by
  rw [List.getD_eq_getElem?_getD, List.getElem?_set_self h]; rfl
set_option maxHeartbeats 2000000 in
theorem rootOfEach_any (A M : Option Addr) (n c m d : Nat) (zs ms : List Int) (hn : n ≤ 1048576) (hm : m ≤ 1048576) (w : World) (hx : Sts 9 w A n zs) (hy : Ints w M m ms) :
    Calls Try.prog 65 #[.slice A n c, .slice M m d] w (Rooted w n zs ms) := by
  have HX := Lib.hid hx; have HY := Lib.hid hy; have ly := Lib.hid hy.len
  have hnil := fun (W : World) (a : Option Addr) (n c n' c' : Nat) => Lib.run_eql_slice_nil (P := Try.prog) W 60 67 a n c n' c' Try.underlying60
  clear hx hy
  cases hv : vtB n zs
  · have E1 : Hid (marksB n zs ms = false) := Lib.hid (by unfold marksB; rw [hv]; rfl)
    have HV := Lib.hid hv
    clear hv
    go_enter Try.func65, Try.ntmps65
    go_wp2_with fail
    refine (linkTree_any A n c zs hn _ HX.out).mono ?_
    rintro e w1 ⟨N1, ⟨_, rfl⟩ | ⟨hf, _⟩⟩
    · have N1' := Lib.hid N1
      clear N1
      go_wp2
      go_ret
      exact ⟨N1'.out, .inl ⟨E1.out, rfl⟩⟩
    · rw [HV.out] at hf; cases hf
  · have HV := Lib.hid hv
    have n16 := (vtB_iff.1 hv).1
    obtain ⟨n16a, n16⟩ := n16
    cases hl : listB 16 ((n : Int) - 1) ms
    · have E1 : Hid (marksB n zs ms = false) := Lib.hid (by unfold marksB; rw [hl, Bool.and_false])
      have HL := Lib.hid hl
      clear hl hv
      go_enter Try.func65, Try.ntmps65
      go_wp2_with fail
      refine (linkTree_any A n c zs hn _ HX.out).mono ?_
      rintro e w1 ⟨N1, ⟨hf, _⟩ | ⟨_, g, nb, ar, fi, la, ne, rfl, hg, _, _⟩⟩
      · rw [HV.out] at hf; cases hf
      · have N1' := Lib.hid N1
        have HY2 := Lib.hid (HY.out.new N1)
        clear N1
        go_wp2_with (go_at_call 90; refine (validList_any M m d ms _ _ hm _ HY2.out).mono ?_; rw [HL.out]; rintro e w' ⟨rfl, rfl⟩)
        go_ret
        exact ⟨N1'.out, .inl ⟨E1.out, rfl⟩⟩
    · have hok : marksB n zs ms = true := by unfold marksB; rw [hv, hl]; rfl
      have E1 := Lib.hid hok
      have HL := Lib.hid hl
      obtain ⟨_, mb, mz⟩ := mks_at hok
      have m16 : m ≤ 16 := by have := ly.out; omega
      have MZ := Lib.hid mz
      clear hl hv hok mz mb
      have hmk := fun W => run_make_row' (P := Try.prog) 112 4 (.bool false) 1 Try.underlying112 (by kernel_rfl) rfl .i64 .i64 n (by omega) (by omega) W
      have hmi := fun W => run_make_row' (P := Try.prog) 31 3 (.int .i64 0) 8 Try.underlying31 (by kernel_rfl) rfl .i64 .i64 n (by omega) (by omega) W
      have n0 : (0 : Int) ≤ (n : Int) := by omega
      have n1 : (n : Int) ≤ 16 := by omega
      have m1 : (m : Int) ≤ 16 := by omega
      go_enter Try.func65, Try.ntmps65
      go_wp2_with fail
      refine (linkTree_any A n c zs hn _ HX.out).mono ?_
      rintro e w1 ⟨N1, ⟨hf, _⟩ | ⟨_, g, nb, ar, fi, la, ne, rfl, hg, PR, LN⟩⟩
      · rw [HV.out] at hf; cases hf
      · have N1' := Lib.hid N1
        have HY2 := Lib.hid (HY.out.new N1)
        have PR' := Lib.hid PR; have LN' := Lib.hid LN
        have s1 := N1.le
        have glt := PR.lt
        clear N1 PR LN
        go_wp2_with (go_at_call 90; refine (validList_any M m d ms _ _ hm _ HY2.out).mono ?_; rw [HL.out]; rintro e w' ⟨rfl, rfl⟩)
        go_loopw [29] (fun i wr => ∃ k : Nat, k ≤ m ∧ i = .int .i64 (k : Int) ∧ Hid (New w1 wr) ∧ Hid (BRow wr w1.heap.size (mk (ms.take k)) n)) (fun i _ => m - (intOf i).toNat)
        case atStart => exact ⟨0, Nat.zero_le _, rfl, Lib.hid (by (repeat (first | exact New.refl _ | assumption | refine New.alloc ?_ _ | refine New.drew ?_ | refine New.drewN ?_ _ | refine New.setCell ?_ (by first | omega | (simp; omega) | (simp; done)) _ | refine New.trans ?_ (by assumption)))), Lib.hid (BRow.made _ _ _)⟩
        case round =>
          obtain ⟨k, hk, rfl, HN, HB⟩ := hrel
          have k0 : (0 : Int) ≤ (k : Int) := by omega
          have sz := HN.out.le
          have blt := HB.out.lt
          by_cases hlt : k < m
          · obtain ⟨b, off, rfl, hb, hc⟩ := HY2.out.at_ (by omega)
            have g1 := (HN.out.cells b _ hb).trans (hc k hlt)
            have hz := MZ.out _ (getD_in (show k < ms.length by rw [ly.out]; exact hlt))
            obtain ⟨z, hze⟩ := Int.eq_ofNat_of_zero_le hz.1
            have MT := Lib.hid (mk_take (show k < ms.length by rw [ly.out]; exact hlt) hze)
            rw [hze] at g1 hz
            have z0 : (0 : Int) ≤ (z : Int) := by omega
            have z1 : (z : Int) < (n : Int) := hz.2
            have zn : z < n := by omega
            have k1 : (k : Int) < (m : Int) := by omega
            have g2 := HB.out.c z zn
            have f2 := HB.out.f z zn
            have B2 := Lib.hid ((HB.out.yes zn).cong MT.out)
            have N2 := Lib.hid (HN.out.setCell (p := ⟨w1.heap.size, z, none⟩) (Nat.le_refl _) (.bool true))
            generalize mk (ms.take k) z = ob at g2
            clear hc hb hz hze
            go_wp2
            go_roundw
            case rel => exact ⟨k + 1, by omega, by go_num, N2, B2⟩
            case measure => simp [intOf]; omega
          · obtain rfl : m = k := by omega
            have HB2 : Hid (BRow wr w1.heap.size (mk ms) n) := Lib.hid (by have := HB.out; rw [List.take_of_length_le (by rw [ly.out]; exact Nat.le_refl _)] at this; exact this)
            have L2 := Lib.hid (LN'.out.new HN.out); have P2 := Lib.hid (PR'.out.new HN.out)
            have NW := Lib.hid (N1'.out.trans HN.out)
            clear HB HY2 HN
            obtain ⟨wo, hwo⟩ : ∃ x, x = wr := ⟨wr, rfl⟩
            subst hwo
            go_wp2
            go_loopw [42] (fun i wr => ∃ (k : Nat) (l : List Int), k ≤ n ∧ i = .int .i64 (k : Int) ∧ Hid (New wo wr) ∧ Hid (l.length = n ∧ ∀ j, j < k → l.getD j 0 = oi (drt (mk ms) zs j)) ∧ Hid (Row wr wo.heap.size l)) (fun i _ => n - (intOf i).toNat)
            case atStart => exact ⟨0, _, Nat.zero_le _, rfl, Lib.hid (by (repeat (first | exact New.refl _ | assumption | refine New.alloc ?_ _ | refine New.drew ?_ | refine New.drewN ?_ _ | refine New.setCell ?_ (by first | omega | (simp; omega) | (simp; done)) _ | refine New.trans ?_ (by assumption)))), Lib.hid ⟨by simp, fun j h => absurd h (by omega)⟩, Lib.hid (Row.made _ _ _)⟩
            case round =>
              obtain ⟨k, l, hk, rfl, HN, HE, HR⟩ := hrel
              have k0 : (0 : Int) ≤ (k : Int) := by omega
              have sz := HN.out.le
              have rlt := HR.out.lt
              by_cases hlt : k < n
              · have k1 : (k : Int) < (n : Int) := by omega
                have P3 := P2.out.new HN.out
                have g1 := P3.c k hlt
                have CT := Lib.hid (dirtyRoot_any w.heap.size nb zs n n w1.heap.size k (mk ms) ar fi la ne hlt wr (L2.out.new HN.out) (HB2.out.new HN.out))
                have lk : k < l.length := by rw [HE.out.1]; exact hlt
                have g2 := HR.out.c k lk
                have f2 := HR.out.f k lk
                have R3 := Lib.hid (HR.out.set_ lk (oi (drt (mk ms) zs k)))
                have E3 : Hid ((l.set k (oi (drt (mk ms) zs k))).length = n ∧ ∀ j, j < k + 1 → (l.set k (oi (drt (mk ms) zs k))).getD j 0 = oi (drt (mk ms) zs j)) := Lib.hid ⟨by rw [List.length_set]; exact HE.out.1, fun j hj => by
                  by_cases e : j = k
                  · subst e; exact getD_set_same lk
                  · rw [getD_set_other e]; exact HE.out.2 j (by omega)⟩
                generalize oi (drt (mk ms) zs k) = r at *
                generalize l.getD k 0 = ol at g2
                have N3 := Lib.hid (HN.out.setCell (p := ⟨wo.heap.size, k, none⟩) (Nat.le_refl _) (.int .i64 r))
                clear P3 lk
                go_wp2_with (go_at_call 91; refine CT.out.mono ?_; rintro e w' ⟨rfl, rfl⟩)
                go_roundw
                case rel => exact ⟨k + 1, _, by omega, by go_num, N3, E3, R3⟩
                case measure => simp [intOf]; omega
              · obtain rfl : n = k := by omega
                go_wp2
                go_ret
                refine ⟨NW.out.trans HN.out, .inr ⟨E1.out, _, rfl, NW.out.le, ?_⟩⟩
                exact HR.out.cong (by rw [rootsL_len]; exact HE.out.1) (fun i hi => by rw [rootsL_len] at hi; rw [rootsL_at _ _ hi]; exact HE.out.2 i hi)
end Go.Proofs.Ytobnjagmakhgpaa
