import Derived.Test.YtgmbpagbiakciafDoorRcR26
import Derived.Test.YtgmbpagbiakciafDoorRcBkO
import Derived.Deep.RegionHeld3
namespace Go.Proofs.YtgmbpagbiakciafDoor
open Go.RowKit
set_option linter.unusedVariables false
set_option linter.unusedSimpArgs false

theorem byt2_len {q : Option (List Int)} {n : Nat} (hb : ∀ t, q = some t → Bytey t) (h : ∀ t, q = some t → t.length ≤ n) : (byt2P q).1.length ≤ n := by
  obtain ⟨_, _, b3⟩ := num2_bd hb
  rw [byt2_eq]
  cases hq : (num2P q).2 with
  | none => simp
  | some t1 =>
    obtain ⟨_, t, e1, e2⟩ := b3 t1 hq
    have := h t e1
    simp only
    split
    · simp only [List.length_take]; omega
    · simp

/-- What the reference has read so far. -/
structure Rd2 (wr w : World) (B bx rb g off n c : Nat) (zs : List Int) (s : Rc × Option (List Int)) : Prop where
  ex : ∃ sa da sc dc, wr.heap[bx]? = some (rcO s.1 (.slice sa s.1.spans.length sc) (.slice da s.1.data.length dc)) ∧ C.SOwn wr B (.slice sa s.1.spans.length sc) s.1.spans ∧ wr.ownsRow B 5 1 (.slice da s.1.data.length dc) s.1.data.length (s.1.data.map (Value.int .u8)) ∧ ∀ j, (Value.slice sa s.1.spans.length sc).ownBlock = some j → (Value.slice da s.1.data.length dc).ownBlock ≠ some j
  rd : R2 wr rb g off n c zs s.2
  be : Below w.heap.size w wr
  zh : wr.heap[w.heap.size]? = some (rcO rz0 (.slice none 0 0) (.slice none 0 0))
  dl : s.1.data.length ≤ n
  sz : B ≤ wr.heap.size
end Go.Proofs.YtgmbpagbiakciafDoor
