/- Which function a queue's pointer, held as an interface value, leads to for each method's name. Condition: the pointer's cell holds the queue. -/
import Derived.Test.YtpkombjmbpgdnaaHeapQ
namespace Go.Proofs.Ytpkombjmbpgdnaa
open Go.RowKit

theorem method_of {t : TypeId} {nm : String} {F : FuncId} {b : Bool} (h : (Try.prog.info? t).bind (fun i => (i.methods.find? (·.name == nm)).map (fun m => (m.path, m.func))) = some (#[], some (F, b))) : ∃ i m, Try.prog.info? t = some i ∧ i.methods.find? (·.name == nm) = some m ∧ m.path = #[] ∧ m.func = some (F, b) := by
  obtain ⟨i, hi, h2⟩ := Option.bind_eq_some_iff.1 h
  obtain ⟨m, hm, h3⟩ := Option.map_eq_some_iff.1 h2
  simp only [Prod.mk.injEq] at h3
  exact ⟨i, m, hi, hm, h3.1, h3.2⟩
theorem run_method_ptr {nm : String} {F : FuncId} (fuel : Nat) (P : Nat) (h : (Try.prog.info? 38).bind (fun i => (i.methods.find? (·.name == nm)).map (fun m => (m.path, m.func))) = some (#[], some (F, true))) (W : World) :
    (method (fuel + 1) 38 (.pointer (some ⟨P, 0, none⟩)) nm).run Try.prog W = .ok (F, .pointer (some ⟨P, 0, none⟩)) W := by
  obtain ⟨i, m, hi, hm, hp, hf⟩ := method_of h
  simp [method, typeInfo, hi, hm, hp, hf, follow, receiverAt, run_underlying Try.underlying38, Place.get, go_sem]
theorem run_nilChk (P : Nat) (ts : Array TypeId) (t : TypeId) (nm : String) (W : World) : (Builtin.ssaWrapNilChk_ ts t #[.pointer (some ⟨P, 0, none⟩), strVal "", strVal nm]).run Try.prog W = .ok (.pointer (some ⟨P, 0, none⟩)) W := rfl
theorem run_method_val {nm : String} {F : FuncId} (fuel : Nat) (P g n c : Nat) (h : (Try.prog.info? 38).bind (fun i => (i.methods.find? (·.name == nm)).map (fun m => (m.path, m.func))) = some (#[], some (F, false))) (W : World) (hc : W.cell? ⟨P, 0, none⟩ = some (.slice (some ⟨g, 0, none⟩) n c)) :
    (method (fuel + 1) 38 (.pointer (some ⟨P, 0, none⟩)) nm).run Try.prog W = .ok (F, .slice (some ⟨g, 0, none⟩) n c) W := by
  obtain ⟨i, m, hi, hm, hp, hf⟩ := method_of h
  simp [method, typeInfo, hi, hm, hp, hf, follow, receiverAt, run_underlying Try.underlying38, Place.get, run_nilChk, go_sem, hc]
theorem nm_less : (Try.prog.info? 38).bind (fun i => (i.methods.find? (·.name == "Less")).map (fun m => (m.path, m.func))) = some (#[], some (74, false)) := by kernel_rfl
theorem nm_swap : (Try.prog.info? 38).bind (fun i => (i.methods.find? (·.name == "Swap")).map (fun m => (m.path, m.func))) = some (#[], some (77, false)) := by kernel_rfl
theorem nm_len : (Try.prog.info? 38).bind (fun i => (i.methods.find? (·.name == "Len")).map (fun m => (m.path, m.func))) = some (#[], some (16, false)) := by kernel_rfl
theorem nm_push : (Try.prog.info? 38).bind (fun i => (i.methods.find? (·.name == "Push")).map (fun m => (m.path, m.func))) = some (#[], some (76, true)) := by kernel_rfl
theorem nm_pop : (Try.prog.info? 38).bind (fun i => (i.methods.find? (·.name == "Pop")).map (fun m => (m.path, m.func))) = some (#[], some (75, true)) := by kernel_rfl
theorem to_less (P g n c : Nat) (W : World) (hc : W.cell? ⟨P, 0, none⟩ = some (.slice (some ⟨g, 0, none⟩) n c)) : (method 207 38 (.pointer (some ⟨P, 0, none⟩)) "Less").run Try.prog W = .ok (74, .slice (some ⟨g, 0, none⟩) n c) W := run_method_val (nm := "Less") _ P g n c nm_less W hc
theorem to_swap (P g n c : Nat) (W : World) (hc : W.cell? ⟨P, 0, none⟩ = some (.slice (some ⟨g, 0, none⟩) n c)) : (method 207 38 (.pointer (some ⟨P, 0, none⟩)) "Swap").run Try.prog W = .ok (77, .slice (some ⟨g, 0, none⟩) n c) W := run_method_val (nm := "Swap") _ P g n c nm_swap W hc
theorem to_len (P g n c : Nat) (W : World) (hc : W.cell? ⟨P, 0, none⟩ = some (.slice (some ⟨g, 0, none⟩) n c)) : (method 207 38 (.pointer (some ⟨P, 0, none⟩)) "Len").run Try.prog W = .ok (16, .slice (some ⟨g, 0, none⟩) n c) W := run_method_val (nm := "Len") _ P g n c nm_len W hc
theorem to_push (P : Nat) (W : World) : (method 207 38 (.pointer (some ⟨P, 0, none⟩)) "Push").run Try.prog W = .ok (76, .pointer (some ⟨P, 0, none⟩)) W := run_method_ptr (nm := "Push") _ P nm_push W
theorem to_pop (P : Nat) (W : World) : (method 207 38 (.pointer (some ⟨P, 0, none⟩)) "Pop").run Try.prog W = .ok (75, .pointer (some ⟨P, 0, none⟩)) W := run_method_ptr (nm := "Pop") _ P nm_pop W
end Go.Proofs.Ytpkombjmbpgdnaa
