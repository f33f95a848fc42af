/- A queue made of a list of tasks, as a heap. Condition: the tasks can be read. -/
import Derived.Test.YtpkombjmbpgdnaaHeapR
import Derived.Test.YtpkombjmbpgdnaaTaskV
namespace Go.Proofs.Ytpkombjmbpgdnaa
open Go.RowKit

def tkOf (zs : List Int) (k : Nat) : Tk := (tid zs k, trk zs k, tag zs k)
def tks (zs : List Int) (n : Nat) : List Tk := (List.range n).map (tkOf zs)
/-- The tasks of a valid queue. -/
def tkL (n : Nat) (zs : List Int) : List Tk := if vtk n zs = true then tks zs n else []
section
variable {lo P n k : Nat} {l : List Tk} {w0 w1 w2 : World} {zs : List Int}
theorem QH.new (h : QH lo P n l w0 w1) (N : New w1 w2) : QH lo P n l w0 w2 := by
  obtain ⟨g, c, f, a, b, d, e, k⟩ := h
  exact ⟨g, c, f, a.new N, b, d, e, k.trans N⟩
theorem tks_len (zs : List Int) (n : Nat) : (tks zs n).length = n := by simp [tks]
theorem tks_succ (zs : List Int) (n : Nat) : tks zs (n + 1) = tks zs n ++ [tkOf zs n] := by unfold tks; rw [List.range_succ, List.map_append]; rfl
theorem tks_mem {u : Tk} : u ∈ tks zs n ↔ ∃ k, k < n ∧ tkOf zs k = u := by unfold tks; simp
theorem vtk_at (h : vtk n zs = true) : n ≤ 10 ∧ ∀ k, k < n → VT (tkOf zs k) ∧ ∀ j, j < k → tid zs j < tid zs k := by
  unfold vtk at h
  rw [Bool.and_eq_true, decide_eq_true_eq, upB_iff] at h
  obtain ⟨h1, h2⟩ := h
  refine ⟨by omega, fun k hk => ⟨?_, fun j hj => ?_⟩⟩
  · obtain ⟨_, a2, a3, a4, a5, a6⟩ := okT_iff.1 (h2 k hk)
    exact ⟨⟨okT_low h2 k hk, a2⟩, ⟨a3, a4⟩, a5, a6⟩
  · have step : ∀ d j, j + d + 1 ≤ k → tid zs j < tid zs (j + d + 1) := fun d => by
      induction d with
      | zero => intro j hj; have := (okT_iff.1 (h2 (j + 1) (by omega))).1; rw [low_succ] at this; show tid zs j < tid zs (j + 1); omega
      | succ d ih => intro j hj; have h3 := ih j (by omega); have := (okT_iff.1 (h2 (j + (d + 1) + 1) (by omega))).1; rw [low_succ] at this; show tid zs j < tid zs (j + (d + 1) + 1); have e : j + (d + 1) = j + d + 1 := by omega
                     rw [e] at this ⊢; omega
    have := step (k - j - 1) j (by omega)
    rw [show j + (k - j - 1) + 1 = k by omega] at this
    exact this
end
/-- A queue as a heap of its own. -/
def Queued (n : Nat) (zs : List Int) (w : World) (e : Ending) (w' : World) : Prop := ∃ P, e = .returned (.pointer (some ⟨P, 0, none⟩)) ∧ QH w.heap.size P (tkL n zs).length (tkL n zs) w w'
set_option maxHeartbeats 4000000 in
theorem queueOf_any (A : Option Addr) (n c : Nat) (zs : List Int) (hn : n ≤ 1048576) (w : World) (hx : Sts 3 w A n zs) :
    Calls Try.prog 15 #[.slice A n c] w (Queued n zs w) := by
  have HX := Lib.hid hx
  have E1 : Hid (New w ((w.alloc (.cells #[] 30)).alloc (.cells #[.slice (some ⟨w.heap.size, 0, none⟩) 0 0] 44))) := Lib.hid (by (repeat (first | exact New.refl _ | assumption | refine New.alloc ?_ _ | refine New.drew ?_ | refine New.drewN ?_ _ | refine New.setCell ?_ (by first | omega | (simp; omega) | (simp; done)) _ | refine New.trans ?_ (by assumption))))
  have E2 : Hid (QH w.heap.size (w.heap.size + 1) 0 [] w ((w.alloc (.cells #[] 30)).alloc (.cells #[.slice (some ⟨w.heap.size, 0, none⟩) 0 0] 44))) := Lib.hid ⟨w.heap.size, 0, fun _ => (0, 0, 0), ⟨by
      have e : w.heap.size + 1 = (w.alloc (.cells #[] 30)).heap.size := by simp
      rw [e]; simp [go_sem], by
      have e : w.heap.size + 1 = (w.alloc (.cells #[] 30)).heap.size := by simp
      rw [e]; simp [go_sem], (OwnTask.empty w (Nat.le_refl _)).new ((New.refl _).alloc _), by omega, by omega⟩, fun k hk => by omega, ⟨rfl, List.Pairwise.nil, fun i j hi => by omega, fun t => ⟨fun h => absurd h List.not_mem_nil, fun ⟨k, hk, _⟩ => by omega⟩⟩, heap_all (by omega), E1.out⟩
  clear hx
  cases hv : vtk n zs
  · have EL : Hid (tkL n zs = []) := Lib.hid (by unfold tkL; rw [hv]; rfl)
    have HV := Lib.hid hv
    clear hv
    go_enter Try.func15, Try.ntmps15
    go_wp2_with fail
    refine (ValidTasks_any A n c zs hn _ (HX.out.new E1.out)).mono ?_
    rw [HV.out]
    rintro e w1 ⟨rfl, N1⟩
    have FIN := Lib.hid (E2.out.new N1)
    go_wp2
    go_ret
    exact ⟨w.heap.size + 1, rfl, by rw [EL.out]; exact FIN.out⟩
  · have EL : Hid (tkL n zs = tks zs n) := Lib.hid (by unfold tkL; rw [hv]; rfl)
    have HV := Lib.hid hv
    obtain ⟨n10, hall⟩ := vtk_at hv
    have HA := Lib.hid hall
    have ni : (n : Int) ≤ 10 := by omega
    clear hv hall
    go_enter Try.func15, Try.ntmps15
    go_wp2_with fail
    refine (ValidTasks_any A n c zs hn _ (HX.out.new E1.out)).mono ?_
    rw [HV.out]
    rintro e w1 ⟨rfl, N1⟩
    have H1 := Lib.hid (E2.out.new N1)
    have LW : Hid (w.heap.size ≤ w1.heap.size) := Lib.hid (E1.out.trans N1).le
    clear N1
    obtain ⟨P, hP⟩ : ∃ P, w.heap.size + 1 = P := ⟨_, rfl⟩
    have HPE := Lib.hid hP
    rw [hP] at H1
    go_wp2
    clear hP
    go_loopw [14] (fun i wr => ∃ k : Nat, k ≤ n ∧ i = .int .i64 k ∧ Hid (QH w.heap.size P k (tks zs k) w wr)) (fun i _ => n - (intOf i).toNat)
    case atStart => exact ⟨0, Nat.zero_le _, rfl, H1⟩
    case round =>
      obtain ⟨k, hk, rfl, HQ⟩ := hrel
      have k0 : (0 : Int) ≤ (k : Int) := by omega
      by_cases hlt : k < n
      · have NW : Hid (New w wr) := Lib.hid (by obtain ⟨_, _, _, _, _, _, _, h⟩ := HQ.out; exact h)
        obtain ⟨b, off, rfl, hb, hc⟩ := (HX.out.new NW.out).at_ (by omega)
        have g0 : wr.cell? ⟨b, off + k * 3, none⟩ = some (.int .i64 (tid zs k)) := hc (k * 3) (by omega)
        have g1 : wr.cell? ⟨b, off + k * 3 + 1, none⟩ = some (.int .i64 (trk zs k)) := hc (k * 3 + 1) (by omega)
        have g2 : wr.cell? ⟨b, off + k * 3 + 2, none⟩ = some (.int .i64 (tag zs k)) := hc (k * 3 + 2) (by omega)
        have k1 : (k : Int) < (n : Int) := by omega
        obtain ⟨hvt, hasc⟩ := HA.out k hlt
        have TS := Lib.hid (tks_succ zs k)
        have PU := Lib.hid (fun W (hW : New wr W) => hPush_any w.heap.size P k (tks zs k) (tid zs k) (trk zs k) (tag zs k) (by omega) w W (HQ.out.new hW) (Nat.le_refl _) (NW.out.trans hW).le hvt (fun u hu => by
          obtain ⟨j, hj, e⟩ := tks_mem.1 hu
          rw [← e]; exact hasc j hj))
        have TK : Hid (tkOf zs k = (tid zs k, trk zs k, tag zs k)) := Lib.hid rfl
        clear hc hb hvt hasc
        generalize tid zs k = t0 at *
        generalize trk zs k = t1 at *
        generalize tag zs k = t2 at *
        go_wp2_with fail
        refine (PU.out _ (by (repeat (first | exact New.refl _ | assumption | refine New.alloc ?_ _ | refine New.drew ?_ | refine New.drewN ?_ _ | refine New.setCell ?_ (by first | omega | (simp; omega) | (simp; done)) _ | refine New.trans ?_ (by assumption))))).mono ?_
        rintro e w3 ⟨rfl, Q3⟩
        have Q3 : Hid (QH w.heap.size P (k + 1) (tks zs (k + 1)) w w3) := Lib.hid (by rw [TS.out, TK.out]; exact Q3)
        go_wp2
        go_roundw
        case rel => exact ⟨k + 1, by omega, by go_num, Q3⟩
        case measure => simp [intOf]; omega
      · obtain rfl : n = k := by omega
        go_wp2
        go_ret
        exact ⟨P, rfl, by rw [EL.out, tks_len]; exact HQ.out⟩
end Go.Proofs.Ytpkombjmbpgdnaa
