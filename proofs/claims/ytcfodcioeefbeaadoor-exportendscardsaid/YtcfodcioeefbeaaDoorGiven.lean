import Derived.Test.YtcfodcioeefbeaaDoorRows
import Derived.Test.YtcfodcioeefbeaaDoorRead
import Derived.ProofKit
import Derived.OpenShut
import Derived.ShutString
import Derived.ChangeOld
import Derived.SizedLaws
namespace Go.Proofs.YtcfodcioeefbeaaDoor
open Go.ChangeShapes Go.WideShapes Go.ChangeAt Go.RowKit

theorem own : ownKnob Tryd.prog.godebug = none := by kernel_rfl
theorem laidOut : laidOutB Tryd.prog = true := by kernel_rfl

theorem lies_of {k : IntKind} {W : World} {x : Addr} {zs : List Int} {len : Nat} (hl : len ≤ zs.length) (hcell : ∀ i, i < zs.length → W.cell? (x.add i) = some (.int k (zs.getD i 0))) : Lies k W (some x) (zs.take len) := by
  by_cases h0 : len = 0
  · subst h0; exact .inl rfl
  · obtain ⟨b, off, spot⟩ := x
    have hc := hcell 0 (by omega)
    have hspot : spot = none := by simpa [Addr.add] using World.cell?_spot hc
    subst hspot
    refine .inr ⟨b, off, rfl, fun i hi => ?_⟩
    have hi' : i < len ∧ i < zs.length := by simp at hi; omega
    have := hcell i hi'.2
    rw [show (⟨b, off, none⟩ : Addr).add i = ⟨b, off + i, none⟩ from by unfold Addr.add; split <;> simp_all] at this
    rw [this]
    simp [List.getD_eq_getElem?_getD, hi'.1]

/-- A list of numbers that came in. -/
theorem given_ints {H : Type} {enc : TypeId × Value → H} {W : World} {k : IntKind} {t e : TypeId} {a : Option Addr} {len cap : Nat} {d : DataW H} {p : List MemPlace}
    (ht : Tryd.prog.underlying t = some (.slice e)) (he : Tryd.prog.underlying e = some (.int k)) (hc : Tryd.prog.cellsOf e = 1) (h : DataW.Trod enc Tryd.prog W 0 (fun _ => true) true t (.slice a len cap) d p) :
    ∃ zs : List Int, zs.length = len ∧ Lies k W a zs ∧ (∀ n ∈ zs, (Lit.int k n).wf = true) ∧ ((d = .nil ∧ len = 0 ∧ cap = 0) ∨ ∃ sp, d = .slice (lits k zs) sp ∧ len + sp.length = cap) ∧ (a = none → len = 0 ∧ cap = 0) := by
  obtain ⟨fuel, hf⟩ := h
  rcases open_ints ht he hc hf with ⟨hcs, hx⟩ | ⟨x, l, c, zs, hcs, _, hl, hm, hz, hx, hcell, hwz⟩
  · simp [Value.cells] at hcs
    obtain ⟨rfl, rfl, rfl⟩ := hcs
    simp only [Prod.mk.injEq] at hx
    exact ⟨[], rfl, .inl rfl, (fun _ h => by cases h), .inl ⟨hx.1, rfl, rfl⟩, fun _ => ⟨rfl, rfl⟩⟩
  · simp [Value.cells] at hcs
    obtain ⟨rfl, rfl, rfl⟩ := hcs
    simp only [Prod.mk.injEq] at hx
    simp only [if_true] at hz
    exact ⟨zs.take len, by simp; omega, lies_of (by omega) hcell, fun n hn => hwz n (List.mem_of_mem_take hn), .inr ⟨_, hx.1, by simp [lits]; omega⟩, fun h => by cases h⟩

theorem bytey_of {zs : List Int} (h : ∀ n ∈ zs, (Lit.int .u8 n).wf = true) : Bytey zs := fun z hz => by
  have := bounds_u8 (h z hz); omega

theorem nums_of {l : List Int} (h : ∀ n ∈ l, (Lit.int .u64 n).wf = true) : ∀ n ∈ l, 0 ≤ n ∧ n ≤ 18446744073709551615 := fun n hn => bounds_u64 (h n hn)

theorem bytes_u8 : Tryd.prog.bytesOf 5 = 1 := by kernel_rfl

theorem reach_bytes {H : Type} {ts : List TypeId} {ds : List (DataW H)} (hsz : (DataW.weightsEach Tryd.prog ts ds).all (· ≤ reachBytes) = true) {j : Nat} {d : DataW H} {zs : List Int} {len cap : Nat} (ht : ts[j]? = some 26) (hd : ds[j]? = some d) (hl : zs.length = len) (h : (d = .nil ∧ len = 0 ∧ cap = 0) ∨ ∃ sp, d = .slice (lits .u8 zs) sp ∧ len + sp.length = cap) : len ≤ cap ∧ cap ≤ 140737488351232 := by
  rcases h with ⟨_, h, h'⟩ | ⟨sp, h, hc⟩
  · omega
  · subst h
    have := sized_slice hsz ht hd Tryd.underlying26
    rw [bytes_u8] at this
    simp only [lits, List.length_map, reachBytes] at this
    omega

theorem bulk_one {H : Type} (d : DataW H) : 1 ≤ Rows.uptoBulk d := by
  cases d with
  | lit l => cases l <;> simp [Rows.uptoBulk]
  | _ => simp [Rows.uptoBulk]

theorem bulk_length {H : Type} : ∀ l : List (DataW H), l.length ≤ Rows.uptoBulkAll l
  | [] => by simp [Rows.uptoBulkAll]
  | x :: r => by have := bulk_one x; have := bulk_length r; simp only [Rows.uptoBulkAll, List.length_cons]; omega

theorem bulk_ints {H : Type} {k : IntKind} {d : DataW H} {zs : List Int} {len cap : Nat} (hl : zs.length = len) (h : (d = .nil ∧ len = 0 ∧ cap = 0) ∨ ∃ sp, d = .slice (lits k zs) sp ∧ len + sp.length = cap) : len ≤ cap ∧ cap ≤ Rows.uptoBulk d := by
  rcases h with ⟨_, h, h'⟩ | ⟨sp, h, hc⟩
  · omega
  · subst h
    have := bulk_length (lits (H := H) k zs)
    have := bulk_length sp
    simp only [Rows.uptoBulk]
    simp only [lits, List.length_map] at *
    omega

end Go.Proofs.YtcfodcioeefbeaaDoor
