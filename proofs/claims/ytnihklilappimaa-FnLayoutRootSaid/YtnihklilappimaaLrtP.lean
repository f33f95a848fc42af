/- Plain facts on the box where a layout begins: it is around the box, is no block, and all between are blocks. No condition. -/
import Derived.Test.YtnihklilappimaaTreeR
import Derived.Test.YtnihklilappimaaPathM
namespace Go.Proofs.Ytnihklilappimaa
open Go.RowKit

theorem lrt_spec {zs : List Int} {n a : Nat} (h : Link zs n) (ha : a < n) : anc zs (lrt zs a) a = true ∧ (lrt zs a = 0 ∨ (knd zs (lrt zs a) ≠ 1 ∧ lrt zs a < a)) ∧ ∀ x, anc zs x a = true → x ≠ a → lrt zs a < x → knd zs x = 1 := by
  induction a using Nat.strongRecOn with
  | ind a ih =>
    rcases Nat.eq_zero_or_pos a with h0 | h0
    · subst h0
      have e : lrt zs 0 = 0 := lrt_top (by have := h.root ha; omega)
      rw [e]
      refine ⟨anc_self _ _, .inl rfl, fun x hx hn _ => ?_⟩
      have := anc_le hx
      omega
    · obtain ⟨p, e, hp, _⟩ := h.up a h0 ha
      have pa : anc zs p a = true := by rw [anc_par e hp (by omega)]; exact anc_self _ _
      rw [lrt_par e hp]
      by_cases hk : knd zs p = 1
      · rw [if_pos hk]
        obtain ⟨h1, h2, h3⟩ := ih p hp (by omega)
        refine ⟨anc_trans h1 pa, ?_, fun x hx hn hl => ?_⟩
        · rcases h2 with h2 | ⟨h2, h4⟩
          · exact .inl h2
          · exact .inr ⟨h2, by omega⟩
        · rw [anc_par e hp (fun e2 => hn e2.symm)] at hx
          by_cases hxp : x = p
          · rw [hxp]; exact hk
          · exact h3 x hx hxp hl
      · rw [if_neg hk]
        refine ⟨pa, .inr ⟨hk, hp⟩, fun x hx hn hl => ?_⟩
        rw [anc_par e hp (fun e2 => hn e2.symm)] at hx
        have := anc_le hx
        omega
end Go.Proofs.Ytnihklilappimaa
