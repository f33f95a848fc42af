/- A heap of tasks: a task that goes up. Conditions: the queue is the call's own; its tasks are valid. -/
import Derived.Test.YtpkombjmbpgdnaaHeapL
import Derived.Test.YtpkombjmbpgdnaaHeapI
import Derived.Deep.Cut
namespace Go.Proofs.Ytpkombjmbpgdnaa
open Go.RowKit

/-- A queue with the tasks of l, valid all; since w only its own block has turned, and new ones are there. -/
def Hp (lo P g c n : Nat) (f : Nat → Tk) (l : List Tk) (w w' : World) : Prop := Qu lo w' P g c n f ∧ (∀ k, k < n → VT (f k)) ∧ Same f n l ∧ w.grownBy w' (some g)
section
variable {lo P g c n i j : Nat} {f : Nat → Tk} {l : List Tk} {w w1 w2 : World}
theorem Hp.new (h : Hp lo P g c n f l w w1) (N : New w1 w2) : Hp lo P g c n f l w w2 := ⟨h.1.new N, h.2.1, h.2.2.1, only_new h.2.2.2 N⟩
theorem Hp.swp (h : Hp lo P g c n f l w w1) (hi : i < n) (hj : j < n) (hQ : Qu lo w2 P g c n (Go.Proofs.Ytpkombjmbpgdnaa.swp f i j)) (hG : w1.grownBy w2 (some g)) : Hp lo P g c n (Go.Proofs.Ytpkombjmbpgdnaa.swp f i j) l w w2 :=
  ⟨hQ, fun k hk => by rw [swp_ix]; exact h.2.1 _ (ix_lt hi hj hk), h.2.2.1.swp hi hj, only_trans h.2.2.2 hG⟩
end
/-- What going up or down leaves: a heap of the same tasks. -/
def Heaped (lo P g c n s : Nat) (l : List Tk) (w : World) (w' : World) : Prop := ∃ f', Hp lo P g c n f' l w w' ∧ HeapF f' n s
set_option maxRecDepth 100000 in
set_option maxHeartbeats 4000000 in
theorem up_any (lo P g c n j : Nat) (f : Nat → Tk) (hn : n ≤ 1000) (hj : j < n) (l : List Tk) (w : World) (h : Hp lo P g c n f l w w) (hu : UpInv f n j) :
    Calls Try.prog 37 #[.iface 38 (.pointer (some ⟨P, 0, none⟩)), .int .i64 j] w fun e w' => e = .returned (.tuple #[]) ∧ Heaped lo P g c n 0 l w w' := by
  have H0 := Lib.hid h; have U0 := Lib.hid hu
  clear h hu
  go_enter Try.func37, Try.ntmps37
  go_wp2
  go_loopw [1] (fun i wr => ∃ (k : Nat) (f' : Nat → Tk), k < n ∧ i = .int .i64 k ∧ Hid (Hp lo P g c n f' l w wr) ∧ Hid (UpInv f' n k)) (fun i _ => (intOf i).toNat)
  case atStart => exact ⟨j, f, hj, rfl, H0, U0⟩
  case round =>
    obtain ⟨k, f', hk, rfl, HH, HU⟩ := hrel
    have k0 : (0 : Int) ≤ (k : Int) := by omega
    have kn : (k : Int) ≤ 1000 := by omega
    rcases Nat.eq_zero_or_pos k with rfl | hk0
    · go_wp2
      go_end0
      exact ⟨rfl, f', HH.out, up_done HU.out (.inl rfl)⟩
    · obtain ⟨p, hp⟩ : ∃ p, pa k = p := ⟨_, rfl⟩
      have hpk : p < k := by rw [← hp]; exact pa_lt hk0
      have hpn : p < n := by omega
      have HPA := Lib.hid hp
      have p0 : (0 : Int) ≤ (p : Int) := by omega
      have pb : (p == k) = false := by simp; omega
      have pb2 : ((p : Int) == (k : Int)) = false := by simp; omega
      have LS := Lib.hid (Less_any HH.out.1 k p hk hpn hn HH.out.2.1)
      have m1 := to_less P g n c wr HH.out.1.cell
      have m2 := fun W (hW : New wr W) => to_swap P g n c W (HH.out.new hW).1.cell
      have M2 := Lib.hid m2
      have pe : ((k : Int) - 1) / 2 = (p : Int) := by unfold pa at hp; omega
      clear hp m2
      cases hb : ltB (f' k) (f' p)
      · rw [hb] at LS
        have HB := Lib.hid hb
        clear hb
        go_wp2_with fail
        refine LS.out.mono ?_
        rintro e w1 ⟨rfl, N1⟩
        have N1 := Lib.hid N1
        go_wp2
        go_end0
        exact ⟨rfl, f', HH.out.new N1.out, up_done HU.out (.inr (by rw [HPA.out]; exact leK_no HB.out))⟩
      · rw [hb] at LS
        have HB := Lib.hid (ltK_yes hb)
        clear hb
        go_wp2_with fail
        refine LS.out.mono ?_
        rintro e w1 ⟨rfl, N1⟩
        have N1 := Lib.hid N1
        have m3 := M2.out w1 N1.out
        clear m1
        go_wp2_with fail
        refine (Swap_any (HH.out.new N1.out).1 p k hpn hk hn (by omega)).mono ?_
        rintro e w2 ⟨rfl, Q2, G2⟩
        have HN := Lib.hid ((HH.out.new N1.out).swp hpn hk Q2 G2)
        have HUN : Hid (UpInv (swp f' p k) n p) := Lib.hid (by have h := up_step HU.out hk0 hk (by rw [HPA.out]; exact HB.out); rw [HPA.out] at h; exact h)
        clear m3 Q2 G2
        go_wp2
        go_roundw
        case rel => exact ⟨p, _, hpn, rfl, HN, HUN⟩
        case measure => simp [intOf]; omega
end Go.Proofs.Ytpkombjmbpgdnaa
