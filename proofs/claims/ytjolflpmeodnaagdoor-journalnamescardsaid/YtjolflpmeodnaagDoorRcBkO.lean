import Derived.Test.YtjolflpmeodnaagDoorRcBkM
namespace Go.Proofs.YtjolflpmeodnaagDoor
open Go.RowKit
set_option linter.unusedVariables false
set_option linter.unusedSimpArgs false

theorem row_sh2 {w : World} {base n : Nat} {v : Value} {xs : List Int} (h : w.ownsRow base 5 1 v n (xs.map (Value.int .u8))) : ∃ a cap, v = .slice a n cap ∧ Lies .u8 w a xs ∧ xs.length = n ∧ n ≤ cap ∧ cap ≤ 9223372036854775807 := by
  have hs : ∃ a cap, v = .slice a n cap ∧ n ≤ cap ∧ cap ≤ 9223372036854775807 := by
    obtain ⟨_, ⟨rfl, rfl⟩ | ⟨g, cap, cur, rfl, _, _, h1, h2, _⟩⟩ := h
    · exact ⟨_, _, rfl, Nat.le_refl _, by omega⟩
    · exact ⟨_, _, rfl, h1, by unfold maxLen at h2; omega⟩
  obtain ⟨a, cap, rfl, h1, h2⟩ := hs
  exact ⟨a, cap, rfl, (own_lies h).1, (own_lies h).2, h1, h2⟩
/-- A record in memory of its own lies there as any. -/
theorem own_rin {w : World} {base : Nat} {r : Rc} {sa da : Option Addr} {sc dc : Nat} (hs : C.SOwn w base (.slice sa r.spans.length sc) r.spans) (hd : w.ownsRow base 5 1 (.slice da r.data.length dc) r.data.length (r.data.map (Value.int .u8))) (hb : r.data.length ≤ 140737488355328) : RIn w r sa da r.spans.length r.data.length sc dc := by
  have hl : r.spans.length ≤ 9223372036854775807 := by
    obtain ⟨_, ⟨_, h0⟩ | ⟨_, cap, cur, hv, _, _, h1, h2, _⟩⟩ := hs
    · omega
    · unfold maxLen at h2; omega
  refine ⟨rfl, rfl, hb, hs.ls hl, (own_lies hd).1, fun e => ?_⟩
  subst e
  obtain ⟨_, ⟨h, h0⟩ | ⟨g, cap, cur, h, _⟩⟩ := hd
  · simp only [Value.slice.injEq] at h; exact ⟨h.2.1, h.2.2⟩
  · cases h
end Go.Proofs.YtjolflpmeodnaagDoor
