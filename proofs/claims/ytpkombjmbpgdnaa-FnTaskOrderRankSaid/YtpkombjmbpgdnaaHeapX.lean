/- The reference takes a task out of a list: what stays is the other tasks, each older. Conditions: the tasks are valid, and there is one. -/
import Derived.Test.YtpkombjmbpgdnaaHeapN
import Derived.Test.YtpkombjmbpgdnaaHeapT
import Derived.Test.YtpkombjmbpgdnaaTaskA
namespace Go.Proofs.Ytpkombjmbpgdnaa
open Go.RowKit

/-- The tasks but one, each older. -/
def stk (zs : List Int) (m : Nat) : Nat → List Tk
  | 0 => []
  | j + 1 => if j = m then stk zs m j else stk zs m j ++ [age1 (tkOf zs j)]
def flL (l : List Tk) : List Int := l.flatMap fun t => [t.1, t.2.1, t.2.2]
theorem flL_snoc (l : List Tk) (t : Tk) : flL (l ++ [t]) = flL l ++ [t.1, t.2.1, t.2.2] := by unfold flL; simp
theorem stk_at {zs : List Int} {m : Nat} : stk zs m (m + 1) = stk zs m m := if_pos rfl
theorem stk_other {zs : List Int} {m j : Nat} (h : j ≠ m) : stk zs m (j + 1) = stk zs m j ++ [age1 (tkOf zs j)] := if_neg h
theorem stk_len (zs : List Int) (m : Nat) : ∀ j, (stk zs m j).length ≤ j
  | 0 => Nat.le_refl _
  | j + 1 => by
    have := stk_len zs m j
    by_cases h : j = m
    · subst h; rw [stk_at]; omega
    · rw [stk_other h, List.length_append]; simp only [List.length_singleton]; omega
set_option maxRecDepth 100000 in
set_option maxHeartbeats 4000000 in
theorem stake_any (A : Option Addr) (n c : Nat) (zs : List Int) (hv : vtk n zs = true) (h0 : 0 < n) (w : World) (hx : Sts 3 w A n zs) :
    Calls Try.prog 20 #[.slice A n c] w fun e w' => ∃ v, e = .returned v ∧ OwnTask w.heap.size w' v (stk zs (nx zs (n - 1)) n).length (flL (stk zs (nx zs (n - 1)) n)) ∧ New w w' := by
  have NX := Lib.hid (fun W (hW : New w W) => nextAt_any A n c zs hv h0 W (hx.new hW))
  obtain ⟨b, off, rfl, hb, hc⟩ := hx.at_ h0
  have HC := Lib.hid (fun k (hk : k < n) X (hX : New w X) => (show X.cell? ⟨b, off + k * 3, none⟩ = some (.int .i64 (tkOf zs k).1) ∧ X.cell? ⟨b, off + k * 3 + 1, none⟩ = some (.int .i64 (tkOf zs k).2.1) ∧ X.cell? ⟨b, off + k * 3 + 2, none⟩ = some (.int .i64 (tkOf zs k).2.2) from ⟨(hX.cells b _ hb).trans (hc (k * 3) (by omega)), (hX.cells b _ hb).trans (hc (k * 3 + 1) (by omega)), (hX.cells b _ hb).trans (hc (k * 3 + 2) (by omega))⟩))
  obtain ⟨n10, hall⟩ := vtk_at hv
  have HA := Lib.hid (fun k (hk : k < n) => (hall k hk).1)
  have ni : (n : Int) ≤ 10 := by omega
  have np : (0 : Int) < (n : Int) := by omega
  have hm := nx_le zs (n - 1)
  have E1 : Hid (New w (w.alloc (.cells #[] 30))) := Lib.hid (by (repeat (first | exact New.refl _ | assumption | refine New.alloc ?_ _ | refine New.drew ?_ | refine New.drewN ?_ _ | refine New.setCell ?_ (by first | omega | (simp; omega) | (simp; done)) _ | refine New.trans ?_ (by assumption))))
  have HB := Lib.hid hb
  clear hx hc hv hall hb
  generalize nx zs (n - 1) = m at *
  have m0 : (0 : Int) ≤ (m : Int) := by omega
  have m1 : (m : Int) < (n : Int) := by omega
  go_enter Try.func20, Try.ntmps20
  go_wp2_with (go_at_call 19; refine (NX.out _ E1.out).mono ?_; rintro e w1 ⟨rfl, N1⟩; (have HN := Lib.hid (E1.out.trans N1)); (have HO := Lib.hid ((OwnTask.empty w (Nat.le_refl _)).new N1)); clear N1)
  go_loopw [3, 5] (fun v i wr => ∃ k : Nat, k ≤ n ∧ i = .int .i64 k ∧ Hid (OwnTask w.heap.size wr v (stk zs m k).length (flL (stk zs m k))) ∧ Hid (New w wr)) (fun _ i _ => n - (intOf i).toNat)
  case atStart => exact ⟨0, by omega, rfl, HO, HN⟩
  case round =>
    clear HO HN
    obtain ⟨k, hk, rfl, HO, HN⟩ := hrel
    have k0 : (0 : Int) ≤ (k : Int) := by omega
    by_cases hlt : k < n
    · have k1 : (k : Int) < (n : Int) := by omega
      by_cases hkm : k = m
      · subst hkm
        have ES : Hid (stk zs k (k + 1) = stk zs k k) := Lib.hid stk_at
        go_wp2
        go_roundw
        case rel => exact ⟨k + 1, by omega, by go_num, by rw [ES.out]; exact HO, HN⟩
        case measure => simp [intOf]; omega
      · have km : ((k : Int) == (m : Int)) = false := by simp; omega
        have ES : Hid (stk zs m (k + 1) = stk zs m k ++ [age1 (tkOf zs k)]) := Lib.hid (stk_other hkm)
        obtain ⟨e0, e1, e2⟩ := HC.out k hlt wr HN.out
        obtain ⟨va0, va1⟩ := (HA.out k hlt).2.2
        have sl := stk_len zs m k
        generalize stk zs m k = l at *
        have EF := Lib.hid (flL_snoc l (age1 (tkOf zs k)))
        rw [show (age1 (tkOf zs k)) = ((tkOf zs k).1, (tkOf zs k).2.1, min ((tkOf zs k).2.2 + 1) 20) from rfl] at ES EF
        generalize (tkOf zs k).1 = a0 at *
        generalize (tkOf zs k).2.1 = a1 at *
        generalize (tkOf zs k).2.2 = a2 at *
        have aw : IntKind.i64.wrap (a2 + 1) = a2 + 1 := IntWalk.i64_in _ (by omega)
        have hmn := run_mn Try.prog
        have bw : b < wr.heap.size := Nat.lt_of_lt_of_le HB.out HN.out.le
        obtain ⟨v, hv'⟩ : ∃ v, v = u3 := ⟨_, rfl⟩
        rw [← hv'] at HO ⊢
        clear hv'
        have HL := Lib.hid (show l.length ≤ 1000 by omega)
        go_wp2_with (at_builtin; refine wp_appTask rfl _ _ rfl w.heap.size v l.length _ rfl ((HO.out.alloc _).alloc _) (wr.heap.size + 1) a0 a1 (mn (a2 + 1) 20) rfl (by have h := Row.oneTask (wr.alloc (.cells #[.int .i64 a0, .int .i64 a1, .int .i64 (mn (a2 + 1) 20)] 30)) a0 a1 (mn (a2 + 1) 20) 30; simpa using h) HL.out (by have := HN.out.le; simp; omega) ?_; intro v6 w6 O6 G6; (have N6 := Lib.hid (new_ownTask ((HN.out.alloc _).alloc _) G6 ((HO.out.alloc _).alloc _) (Nat.le_refl _))); (replace O6 := Lib.hid O6); clear G6)
        go_roundw
        case rel => exact ⟨k + 1, by omega, by go_num, Lib.hid (by rw [ES.out, EF.out, List.length_append]; exact O6.out), N6⟩
        case measure => simp [intOf]; omega
    · obtain rfl : n = k := by omega
      obtain ⟨v, hv'⟩ : ∃ v, v = u3 := ⟨_, rfl⟩
      go_wp2
      go_ret
      exact ⟨_, rfl, HO.out, HN.out⟩
end Go.Proofs.Ytpkombjmbpgdnaa
