import Derived.Test.YtbehliigemoblaaNums
import Derived.Test.YtbehliigemoblaaRead
import Derived.Laws.BytesArg
namespace Go.Proofs.Ytbehliigemoblaa
open Go.RowKit

/-- What a row of bytes that is owned reads as, cell by cell. -/
theorem owned_cell {w : World} {base n cap g : Nat} {xs : List Int} {e : TypeId} (h : w.ownsRow base e 1 (.slice (some ⟨g, 0, none⟩) n cap) n (xs.map (Value.int .u8))) (hl : xs.length = n) :
    ∀ i, i < n → w.cell? ⟨g, 0 + i, none⟩ = some (.int .u8 (xs.getD i 0)) := by
  intro i hi
  rw [Nat.zero_add, h.cellAt i (by omega)]
  rw [List.getElem?_map, List.getD_eq_getElem?_getD, List.getElem?_eq_getElem (by omega)]
  rfl

theorem owned_below {w : World} {base n cap g : Nat} {xs : List Value} {e : TypeId} (h : w.ownsRow base e 1 (.slice (some ⟨g, 0, none⟩) n cap) n xs) : base ≤ g ∧ g < w.heap.size := h.lt g rfl

theorem conv_own (W : World) (g n cap : Nat) (xs : List Int) (hl : xs.length = n) (hc : ∀ i, i < n → W.cell? ⟨g, 0 + i, none⟩ = some (.int .u8 (xs.getD i 0))) :
    (convert 25 9 (.slice (some ⟨g, 0, none⟩) n cap)).run Try.prog W = .ok (.string (strOfNums xs)) W :=
  run_convert_bytes_arg (P := Try.prog) W 25 5 Try.underlying25 Try.underlying5 g 0 n cap xs hl hc 9 Try.underlying9

theorem sz300 : sz 300 = 2 := by decide +kernel
theorem enc300 : enc 300 = [130, 44] := by decide +kernel
theorem rd3 : rd [130, 44, 7] = (300, 2, 0) := by decide +kernel
theorem str300 : strOfNums [130, 44] = ⟨#[130, 44]⟩ := by decide +kernel

theorem lit3 (W : World) : Lies .u8 (W.alloc (.cells #[.int .u8 130, .int .u8 44, .int .u8 7] 5)) (some ⟨W.heap.size, 0, none⟩) [130, 44, 7] := by
  refine .inr ⟨_, _, rfl, fun i hi => ?_⟩
  match i, hi with
  | 0, _ => simp
  | 1, _ => simp
  | 2, _ => simp

set_option maxHeartbeats 400000 in
theorem awake_any (w : World) : Calls Try.prog 9 #[] w fun e w' => e = .returned (.bool true) ∧ Below w.heap.size w w' := by
  go_enter Try.func9, Try.ntmps9
  go_wp2_with (first
    | (go_at_call 18; refine (bytes_any 300 _ (by omega) (by omega)).mono ?_; rintro e w1 ⟨g, cap, rfl, hown, hb⟩; rw [sz300, enc300] at hown; rw [sz300])
    | (go_at_call 12; refine (read_any _ [130, 44, 7] 3 _ _ (by unfold Bytey; decide) rfl (by decide) (lit3 _)).mono ?_; rintro e w2 ⟨rfl, rfl⟩; rw [rd3]; have hcv := conv_own _ g 2 cap [130, 44] rfl (owned_cell (hown.alloc (.cells #[.int .u8 130, .int .u8 44, .int .u8 7] 5)) rfl); rw [str300] at hcv))
  go_ret
  exact ⟨rfl, hb.alloc (by have := hb.size; omega) _⟩

end Go.Proofs.Ytbehliigemoblaa
