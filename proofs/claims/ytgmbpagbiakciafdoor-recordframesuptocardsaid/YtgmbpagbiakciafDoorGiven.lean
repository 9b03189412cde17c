import Derived.Test.YtgmbpagbiakciafDoorRows
import Derived.Test.YtgmbpagbiakciafDoorRead
import Derived.ProofKit
import Derived.OpenShut
import Derived.ShutString
import Derived.ChangeOld
import Derived.SizedLaws
import Derived.Test.YtgmbpagbiakciafDoorRcPr2
import Derived.Deep.SlicePairs
import Derived.Test.YtgmbpagbiakciafDoorRcSby
import Derived.Deep.Slices
import Derived.Test.YtgmbpagbiakciafDoorRcFme
import Derived.Test.YtgmbpagbiakciafDoorRcSc2
import Derived.Test.YtgmbpagbiakciafDoorCards
import Derived.Test.YtgmbpagbiakciafDoorTie
import Derived.WalkKit
import Derived.Below
import Derived.JoinedCond
import Derived.Deep.DeepHandedRow
import Derived.Lib.LaidTab
namespace Go.Proofs.YtgmbpagbiakciafDoor
open Go.ChangeShapes Go.WideShapes Go.ChangeAt Go.RowKit

theorem own : ownKnob Tryd.prog.godebug = none := by kernel_rfl
theorem laidOut : laidOutB Tryd.prog = true := by kernel_rfl

theorem lies_of {k : IntKind} {W : World} {x : Addr} {zs : List Int} {len : Nat} (hl : len ≤ zs.length) (hcell : ∀ i, i < zs.length → W.cell? (x.add i) = some (.int k (zs.getD i 0))) : Lies k W (some x) (zs.take len) := by
  by_cases h0 : len = 0
  · subst h0; exact .inl rfl
  · obtain ⟨b, off, spot⟩ := x
    have hc := hcell 0 (by omega)
    have hspot : spot = none := by simpa [Addr.add] using World.cell?_spot hc
    subst hspot
    refine .inr ⟨b, off, rfl, fun i hi => ?_⟩
    have hi' : i < len ∧ i < zs.length := by simp at hi; omega
    have := hcell i hi'.2
    rw [show (⟨b, off, none⟩ : Addr).add i = ⟨b, off + i, none⟩ from by unfold Addr.add; split <;> simp_all] at this
    rw [this]
    simp [List.getD_eq_getElem?_getD, hi'.1]

/-- A list of numbers that came in. -/
theorem given_ints {H : Type} {enc : TypeId × Value → H} {W : World} {k : IntKind} {t e : TypeId} {a : Option Addr} {len cap : Nat} {d : DataW H} {p : List MemPlace}
    (ht : Tryd.prog.underlying t = some (.slice e)) (he : Tryd.prog.underlying e = some (.int k)) (hc : Tryd.prog.cellsOf e = 1) (h : DataW.Trod enc Tryd.prog W 0 (fun _ => true) true t (.slice a len cap) d p) :
    ∃ zs : List Int, zs.length = len ∧ Lies k W a zs ∧ (∀ n ∈ zs, (Lit.int k n).wf = true) ∧ ((d = .nil ∧ len = 0 ∧ cap = 0) ∨ ∃ sp, d = .slice (lits k zs) sp ∧ len + sp.length = cap) ∧ (a = none → len = 0 ∧ cap = 0) := by
  obtain ⟨fuel, hf⟩ := h
  rcases open_ints ht he hc hf with ⟨hcs, hx⟩ | ⟨x, l, c, zs, hcs, _, hl, hm, hz, hx, hcell, hwz⟩
  · simp [Value.cells] at hcs
    obtain ⟨rfl, rfl, rfl⟩ := hcs
    simp only [Prod.mk.injEq] at hx
    exact ⟨[], rfl, .inl rfl, (fun _ h => by cases h), .inl ⟨hx.1, rfl, rfl⟩, fun _ => ⟨rfl, rfl⟩⟩
  · simp [Value.cells] at hcs
    obtain ⟨rfl, rfl, rfl⟩ := hcs
    simp only [Prod.mk.injEq] at hx
    simp only [if_true] at hz
    exact ⟨zs.take len, by simp; omega, lies_of (by omega) hcell, fun n hn => hwz n (List.mem_of_mem_take hn), .inr ⟨_, hx.1, by simp [lits]; omega⟩, fun h => by cases h⟩

theorem bytey_of {zs : List Int} (h : ∀ n ∈ zs, (Lit.int .u8 n).wf = true) : Bytey zs := fun z hz => by
  have := bounds_u8 (h z hz); omega

theorem nums_of {l : List Int} (h : ∀ n ∈ l, (Lit.int .u64 n).wf = true) : ∀ n ∈ l, 0 ≤ n ∧ n ≤ 18446744073709551615 := fun n hn => bounds_u64 (h n hn)

theorem bytes_u8 : Tryd.prog.bytesOf 5 = 1 := by kernel_rfl

theorem reach_bytes {H : Type} {ts : List TypeId} {ds : List (DataW H)} (hsz : (DataW.weightsEach Tryd.prog ts ds).all (· ≤ reachBytes) = true) {j : Nat} {d : DataW H} {zs : List Int} {len cap : Nat} (ht : ts[j]? = some 39) (hd : ds[j]? = some d) (hl : zs.length = len) (h : (d = .nil ∧ len = 0 ∧ cap = 0) ∨ ∃ sp, d = .slice (lits .u8 zs) sp ∧ len + sp.length = cap) : len ≤ cap ∧ cap ≤ 140737488351232 := by
  rcases h with ⟨_, h, h'⟩ | ⟨sp, h, hc⟩
  · omega
  · subst h
    have := sized_slice hsz ht hd Tryd.underlying39
    rw [bytes_u8] at this
    simp only [lits, List.length_map, reachBytes] at this
    omega

theorem bulk_one {H : Type} (d : DataW H) : 1 ≤ Rows.uptoBulk d := by
  cases d with
  | lit l => cases l <;> simp [Rows.uptoBulk]
  | _ => simp [Rows.uptoBulk]

theorem bulk_length {H : Type} : ∀ l : List (DataW H), l.length ≤ Rows.uptoBulkAll l
  | [] => by simp [Rows.uptoBulkAll]
  | x :: r => by have := bulk_one x; have := bulk_length r; simp only [Rows.uptoBulkAll, List.length_cons]; omega

theorem bulk_ints {H : Type} {k : IntKind} {d : DataW H} {zs : List Int} {len cap : Nat} (hl : zs.length = len) (h : (d = .nil ∧ len = 0 ∧ cap = 0) ∨ ∃ sp, d = .slice (lits k zs) sp ∧ len + sp.length = cap) : len ≤ cap ∧ cap ≤ Rows.uptoBulk d := by
  rcases h with ⟨_, h, h'⟩ | ⟨sp, h, hc⟩
  · omega
  · subst h
    have := bulk_length (lits (H := H) k zs)
    have := bulk_length sp
    simp only [Rows.uptoBulk]
    simp only [lits, List.length_map] at *
    omega

end Go.Proofs.YtgmbpagbiakciafDoor

namespace Go.Proofs.YtgmbpagbiakciafDoor
open Go.ChangeShapes Go.WideShapes Go.ChangeAt Go.RowKit
set_option linter.unusedVariables false

theorem rlist_of {α : Type} {n : Nat} {p : Nat → α → Prop} (h : ∀ i, i < n → ∃ x, p i x) : ∃ l : List α, l.length = n ∧ ∀ (i : Nat) x, l[i]? = some x → p i x := by
  induction n with
  | zero => exact ⟨[], rfl, fun i x hx => by simp at hx⟩
  | succ n ih =>
    obtain ⟨l, hl, hp⟩ := ih (fun i hi => h i (by omega))
    obtain ⟨x, hx⟩ := h n (by omega)
    refine ⟨l ++ [x], by simp [hl], fun i y hy => ?_⟩
    rcases Nat.lt_or_ge i n with q | q
    · rw [List.getElem?_append_left (by omega)] at hy; exact hp i y hy
    · rw [List.getElem?_append_right (by omega)] at hy
      have : i - l.length = 0 := by
        rcases Nat.eq_zero_or_pos (i - l.length) with e | e
        · exact e
        · rw [List.getElem?_eq_none (by simp; omega)] at hy; cases hy
      rw [this] at hy
      simp at hy
      subst hy
      obtain rfl : i = n := by omega
      exact hx

variable {H : Type} {enc : TypeId × Value → H} {W : World}

theorem rspot_none {a : Addr} {j : Nat} {u : Value} (hj : j = 0) (h : W.cell? (a.add j) = some u) : ∃ g off, a = ⟨g, off, none⟩ := by
  subst hj
  obtain ⟨b, off, spot⟩ := a
  have hs : spot = none := by simpa [Addr.add] using World.cell?_spot h
  subst hs
  exact ⟨b, off, rfl⟩
theorem radd_none (g off j : Nat) : (⟨g, off, none⟩ : Addr).add j = ⟨g, off + j, none⟩ := by unfold Addr.add; split <;> simp_all

theorem rbytes_span : Tryd.prog.bytesOf 62 = 16 := by kernel_rfl
theorem rcells_int : Tryd.prog.cellsOf 3 = 1 := by kernel_rfl
theorem rcells_ses : Tryd.prog.cellsOf 23 = 2 := by kernel_rfl
theorem rcells_spans : Tryd.prog.cellsOf 26 = 1 := by kernel_rfl
theorem rcells_bytes : Tryd.prog.cellsOf 39 = 1 := by kernel_rfl
theorem rcells_rec : Tryd.prog.cellsOf 41 = 11 := by kernel_rfl

/-- Bytes of a record that came in. -/
theorem rbin_of {fuel : Nat} {v : Value} {d : DataW H} {p : List MemPlace} (h : DataW.trod enc Tryd.prog W 0 (fun _ => true) true fuel 39 [v] = some (d, p)) (hw : (d.weights Tryd.prog 39).all (· ≤ reachBytes) = true) :
    ∃ a zs n c, v = .slice a n c ∧ zs.length = n ∧ n ≤ c ∧ c ≤ 140737488351232 ∧ Lies .u8 W a zs ∧ Bytey zs ∧ (a = none → n = 0 ∧ c = 0) := by
  have hv : ∃ a len cap, v = .slice a len cap := by
    rcases open_ints Tryd.underlying39 Tryd.underlying5 (by kernel_rfl) h with ⟨hcs, _⟩ | ⟨x, l, c, zs, hcs, _⟩
    · simp at hcs; exact ⟨_, _, _, hcs⟩
    · simp at hcs; exact ⟨_, _, _, hcs⟩
  obtain ⟨a, len, cap, rfl⟩ := hv
  obtain ⟨zs, l, c, b, e, n⟩ := given_ints Tryd.underlying39 Tryd.underlying5 (by kernel_rfl) (p := p) ⟨fuel, h⟩
  have m := reach_bytes (ts := [39]) (ds := [d]) (j := 0) (by simpa [DataW.weightsEach] using hw) rfl rfl l e
  exact ⟨a, zs, len, cap, rfl, l, m.1, m.2, c, bytey_of b, n⟩

/-- Spans of a record that came in. -/
theorem rcin_of {fuel : Nat} {v : Value} {d : DataW H} {p : List MemPlace} (h : DataW.trod enc Tryd.prog W 0 (fun _ => true) true fuel 26 [v] = some (d, p)) (hw : (d.weights Tryd.prog 26).all (· ≤ reachBytes) = true) :
    ∃ a cl n c, v = .slice a n c ∧ cl.length = n ∧ n ≤ c ∧ c * 16 ≤ 140737488351232 ∧ C.Spa W a cl := by
  rcases Go.Deep.open_slice_pairs Tryd.underlying26 Tryd.underlying62 (by kernel_rfl) rfl rfl (by kernel_rfl) (by kernel_rfl) h with ⟨hcs, _⟩ | ⟨a, len, cap, m, n, V0, V1, D0, D1, P0, P1, hcs, _, hl, hm, hmm, hx, hcell⟩
  · simp at hcs
    subst hcs
    exact ⟨none, [], 0, 0, rfl, rfl, by omega, by omega, .inl rfl⟩
  · simp at hcs
    subst hcs
    simp only [if_true] at hmm
    subst hmm
    simp only [Prod.mk.injEq] at hx
    have hsz : m * 16 ≤ 140737488351232 := by
      have h1 := sized_slice (ts := [26]) (ds := [d]) (j := 0) (by simpa [DataW.weightsEach] using hw) rfl (by rw [hx.1]; rfl) Tryd.underlying26
      rw [rbytes_span] at h1
      simp only [List.length_map, List.length_range, reachBytes] at h1
      have : len + (m - len) = m := by omega
      rw [this] at h1
      exact h1
    obtain ⟨xs, hxl, hxs⟩ := rlist_of (n := len) (p := fun i (x : Int × Int) => W.cell? (a.add (i * 2)) = some (.int .i64 x.1) ∧ W.cell? (a.add (i * 2 + 1)) = some (.int .i64 x.2)) (fun i hi => by
      obtain ⟨c0, c1, t0, t1⟩ := hcell i (by omega)
      obtain ⟨t, ht, _⟩ := DataW.trod_int Tryd.underlying3 t0
      obtain ⟨u, hu, _⟩ := DataW.trod_int Tryd.underlying3 t1
      simp at ht hu
      exact ⟨(t, u), by rw [c0, ht], by rw [c1, hu]⟩)
    subst hxl
    refine ⟨some a, xs, xs.length, m, rfl, rfl, hl, hsz, ?_⟩
    by_cases h0 : xs = []
    · exact .inl h0
    · right
      obtain ⟨c0, _⟩ := hcell 0 (by have := List.length_pos_iff.mpr h0; omega)
      obtain ⟨g, off, rfl⟩ := rspot_none (by omega) c0
      refine ⟨g, off, rfl, fun i x hi => ?_⟩
      obtain ⟨q1, q2⟩ := hxs i x hi
      rw [radd_none] at q1 q2
      exact ⟨q1, q2⟩

set_option maxRecDepth 100000 in
/-- The cells of a record, read field by field. -/
theorem rec_fields {fuel : Nat} {c0 c1 c2 c3 c4 c5 c6 c7 c8 c9 c10 : Value} {x : DataW H × List MemPlace} (hf : DataW.trod enc Tryd.prog W 0 (fun _ => true) true fuel 41 [c0, c1, c2, c3, c4, c5, c6, c7, c8, c9, c10] = some x) :
    ∃ (n : Nat) (xs : List (DataW H × List MemPlace)), x.1 = .agg (xs.map (·.1)) ∧ xs.length = 10 ∧ DataW.trod enc Tryd.prog W 0 (fun _ => true) true n 3 [c0] = xs[0]? ∧ DataW.trod enc Tryd.prog W 0 (fun _ => true) true n 23 [c1, c2] = xs[1]? ∧ DataW.trod enc Tryd.prog W 0 (fun _ => true) true n 3 [c3] = xs[2]? ∧ DataW.trod enc Tryd.prog W 0 (fun _ => true) true n 3 [c4] = xs[3]? ∧ DataW.trod enc Tryd.prog W 0 (fun _ => true) true n 3 [c5] = xs[4]? ∧ DataW.trod enc Tryd.prog W 0 (fun _ => true) true n 3 [c6] = xs[5]? ∧ DataW.trod enc Tryd.prog W 0 (fun _ => true) true n 3 [c7] = xs[6]? ∧ DataW.trod enc Tryd.prog W 0 (fun _ => true) true n 3 [c8] = xs[7]? ∧ DataW.trod enc Tryd.prog W 0 (fun _ => true) true n 26 [c9] = xs[8]? ∧ DataW.trod enc Tryd.prog W 0 (fun _ => true) true n 39 [c10] = xs[9]? := by
  obtain ⟨xs, n, _, hx, _, hlen, hfd⟩ := DataW.trod_struct Tryd.underlying41 hf
  refine ⟨n, xs, by rw [hx], by simpa using hlen, ?_, ?_, ?_, ?_, ?_, ?_, ?_, ?_, ?_, ?_⟩
  · have q : DataW.trod enc Tryd.prog W 0 (fun _ => true) true n 3 (([c0, c1, c2, c3, c4, c5, c6, c7, c8, c9, c10].drop 0).take (Tryd.prog.cellsOf 3)) = xs[0]? := hfd 0 _ rfl
    rw [rcells_int] at q
    exact q
  · have q : DataW.trod enc Tryd.prog W 0 (fun _ => true) true n 23 (([c0, c1, c2, c3, c4, c5, c6, c7, c8, c9, c10].drop 1).take (Tryd.prog.cellsOf 23)) = xs[1]? := hfd 1 _ rfl
    rw [rcells_ses] at q
    exact q
  · have q : DataW.trod enc Tryd.prog W 0 (fun _ => true) true n 3 (([c0, c1, c2, c3, c4, c5, c6, c7, c8, c9, c10].drop 3).take (Tryd.prog.cellsOf 3)) = xs[2]? := hfd 2 _ rfl
    rw [rcells_int] at q
    exact q
  · have q : DataW.trod enc Tryd.prog W 0 (fun _ => true) true n 3 (([c0, c1, c2, c3, c4, c5, c6, c7, c8, c9, c10].drop 4).take (Tryd.prog.cellsOf 3)) = xs[3]? := hfd 3 _ rfl
    rw [rcells_int] at q
    exact q
  · have q : DataW.trod enc Tryd.prog W 0 (fun _ => true) true n 3 (([c0, c1, c2, c3, c4, c5, c6, c7, c8, c9, c10].drop 5).take (Tryd.prog.cellsOf 3)) = xs[4]? := hfd 4 _ rfl
    rw [rcells_int] at q
    exact q
  · have q : DataW.trod enc Tryd.prog W 0 (fun _ => true) true n 3 (([c0, c1, c2, c3, c4, c5, c6, c7, c8, c9, c10].drop 6).take (Tryd.prog.cellsOf 3)) = xs[5]? := hfd 5 _ rfl
    rw [rcells_int] at q
    exact q
  · have q : DataW.trod enc Tryd.prog W 0 (fun _ => true) true n 3 (([c0, c1, c2, c3, c4, c5, c6, c7, c8, c9, c10].drop 7).take (Tryd.prog.cellsOf 3)) = xs[6]? := hfd 6 _ rfl
    rw [rcells_int] at q
    exact q
  · have q : DataW.trod enc Tryd.prog W 0 (fun _ => true) true n 3 (([c0, c1, c2, c3, c4, c5, c6, c7, c8, c9, c10].drop 8).take (Tryd.prog.cellsOf 3)) = xs[7]? := hfd 7 _ rfl
    rw [rcells_int] at q
    exact q
  · have q : DataW.trod enc Tryd.prog W 0 (fun _ => true) true n 26 (([c0, c1, c2, c3, c4, c5, c6, c7, c8, c9, c10].drop 9).take (Tryd.prog.cellsOf 26)) = xs[8]? := hfd 8 _ rfl
    rw [rcells_spans] at q
    exact q
  · have q : DataW.trod enc Tryd.prog W 0 (fun _ => true) true n 39 (([c0, c1, c2, c3, c4, c5, c6, c7, c8, c9, c10].drop 10).take (Tryd.prog.cellsOf 39)) = xs[9]? := hfd 9 _ rfl
    rw [rcells_bytes] at q
    exact q

theorem rget_some {α : Type} {f : Option α} {xs : List α} {i n : Nat} (hl : xs.length = n) (hi : i < n) (h : f = xs[i]?) : ∃ y, f = some y ∧ xs[i]? = some y := by
  rw [List.getElem?_eq_getElem (by omega)] at h
  exact ⟨_, h, List.getElem?_eq_getElem (by omega)⟩
theorem all_of_mem {ys : List Nat} {xs : List Nat} (h : xs.all (· ≤ reachBytes) = true) (hm : ∀ n ∈ ys, n ∈ xs) : ys.all (· ≤ reachBytes) = true := by
  rw [List.all_eq_true] at h ⊢
  exact fun n hn => h n (hm n hn)

set_option maxRecDepth 100000 in
/-- The cells of a record that came in. -/
theorem rec_of {fuel : Nat} {l : List Value} {d : DataW H} {p : List MemPlace} (hsz : l.length = 11) (hf' : DataW.trod enc Tryd.prog W 0 (fun _ => true) true fuel 41 l = some (d, p)) (hw : (d.weights Tryd.prog 41).all (· ≤ reachBytes) = true) :
    ∃ r sa da ns nd sc dc, l = (rcC r (.slice sa ns sc) (.slice da nd dc)).toList ∧ RIn W r sa da ns nd sc dc ∧ Bytey r.data ∧ ns ≤ sc ∧ sc * 16 ≤ 140737488351232 ∧ nd ≤ dc ∧ dc ≤ 140737488351232 := by
  match l, hsz with
  | [c0, c1, c2, c3, c4, c5, c6, c7, c8, c9, c10], _ =>
    obtain ⟨n, xs, hd, hl, f0, f1, f2, f3, f4, f5, f6, f7, f8, f9⟩ := rec_fields hf'
    simp only at hd
    subst hd
    have hwe : (DataW.weightsEach Tryd.prog [3, 23, 3, 3, 3, 3, 3, 3, 26, 39] (xs.map (·.1))).all (· ≤ reachBytes) = true := by
      simp only [DataW.weights, Tryd.underlying41] at hw
      exact hw
    have hwm : ∀ (i : Nat) (t : TypeId) y, [3, 23, 3, 3, 3, 3, 3, 3, 26, 39][i]? = some t → xs[i]? = some y → (y.1.weights Tryd.prog t).all (· ≤ reachBytes) = true := fun i t y ht hy =>
      all_of_mem hwe (DataW.weights_mem_each ht (by rw [List.getElem?_map, hy]; rfl))
    obtain ⟨y0, e0, m0⟩ := rget_some hl (by omega) f0
    obtain ⟨n0, r0, _⟩ := DataW.trod_int Tryd.underlying3 e0
    simp only [List.cons.injEq, and_true] at r0
    obtain ⟨y1, e1, m1⟩ := rget_some hl (by omega) f1
    obtain ⟨y2, e2, m2⟩ := rget_some hl (by omega) f2
    obtain ⟨n3, r3, _⟩ := DataW.trod_int Tryd.underlying3 e2
    simp only [List.cons.injEq, and_true] at r3
    obtain ⟨y3, e3, m3⟩ := rget_some hl (by omega) f3
    obtain ⟨n4, r4, _⟩ := DataW.trod_int Tryd.underlying3 e3
    simp only [List.cons.injEq, and_true] at r4
    obtain ⟨y4, e4, m4⟩ := rget_some hl (by omega) f4
    obtain ⟨n5, r5, _⟩ := DataW.trod_int Tryd.underlying3 e4
    simp only [List.cons.injEq, and_true] at r5
    obtain ⟨y5, e5, m5⟩ := rget_some hl (by omega) f5
    obtain ⟨n6, r6, _⟩ := DataW.trod_int Tryd.underlying3 e5
    simp only [List.cons.injEq, and_true] at r6
    obtain ⟨y6, e6, m6⟩ := rget_some hl (by omega) f6
    obtain ⟨n7, r7, _⟩ := DataW.trod_int Tryd.underlying3 e6
    simp only [List.cons.injEq, and_true] at r7
    obtain ⟨y7, e7, m7⟩ := rget_some hl (by omega) f7
    obtain ⟨n8, r8, _⟩ := DataW.trod_int Tryd.underlying3 e7
    simp only [List.cons.injEq, and_true] at r8
    obtain ⟨y8, e8, m8⟩ := rget_some hl (by omega) f8
    obtain ⟨y9, e9, m9⟩ := rget_some hl (by omega) f9
    obtain ⟨z0, z1, k, _, _, s0, s1⟩ := trod_struct2 Tryd.underlying23 e1
    simp only [rcells_int] at s0 s1
    obtain ⟨n1, r1, _⟩ := DataW.trod_int Tryd.underlying3 s0
    obtain ⟨n2, r2, _⟩ := DataW.trod_int Tryd.underlying3 s1
    simp at r1 r2
    obtain ⟨sa, cl, ns, sc, rfl, k1, k2, k3, k4⟩ := rcin_of (d := y8.1) (p := y8.2) e8 (hwm 8 _ y8 rfl m8)
    obtain ⟨da, zs, nd, dc, rfl, q1, q2, q3, q4, q5, q6⟩ := rbin_of (d := y9.1) (p := y9.2) e9 (hwm 9 _ y9 rfl m9)
    subst r0 r1 r2 r3 r4 r5 r6 r7 r8
    subst k1 q1
    exact ⟨⟨n0, n1, n2, n3, n4, n5, n6, n7, n8, cl, zs⟩, sa, da, cl.length, zs.length, sc, dc, rfl, ⟨rfl, rfl, by show zs.length ≤ _; omega, ⟨⟨sa, sc, rfl, k4, k2, by omega⟩, by show cl.length ≤ _; omega⟩, q4, q6⟩, q5, k2, k3, q2, q3⟩

set_option maxRecDepth 100000 in
/-- A record that came in. -/
theorem given_rec {v : Value} {d : DataW H} {p : List MemPlace} {base : Nat} (hok : Value.okWide Tryd.prog W .any base 41 v) (h : DataW.Trod enc Tryd.prog W 0 (fun _ => true) true 41 v d p) (hw : (d.weights Tryd.prog 41).all (· ≤ reachBytes) = true) :
    ∃ r sa da ns nd sc dc, v = .agg (rcC r (.slice sa ns sc) (.slice da nd dc)) ∧ RIn W r sa da ns nd sc dc ∧ Bytey r.data ∧ ns ≤ sc ∧ sc * 16 ≤ 140737488351232 ∧ nd ≤ dc ∧ dc ≤ 140737488351232 := by
  obtain ⟨cs, rfl, hsz⟩ := okWide_struct Tryd.underlying41 hok
  rw [rcells_rec] at hsz
  obtain ⟨fuel, hf⟩ := h
  obtain ⟨l⟩ := cs
  have hf' : DataW.trod enc Tryd.prog W 0 (fun _ => true) true fuel 41 l = some (d, p) := hf
  obtain ⟨r, sa, da, ns, nd, sc, dc, rfl, h2⟩ := rec_of hsz hf' hw
  exact ⟨r, sa, da, ns, nd, sc, dc, rfl, h2⟩

end Go.Proofs.YtgmbpagbiakciafDoor

namespace Go.Proofs.YtgmbpagbiakciafDoor
open Go.ChangeShapes Go.WideShapes Go.ChangeAt Go.RowKit
set_option linter.unusedVariables false

variable {H : Type} {enc : TypeId × Value → H} {W : World}

theorem rwAll_mem {P : Program} {e : TypeId} : ∀ {l : List (DataW H)} {d : DataW H}, d ∈ l → ∀ n ∈ d.weights P e, n ∈ DataW.weightsAll P e l
  | x :: l, d, hd, n, hn => by
    simp only [DataW.weightsAll, List.mem_append]
    rcases List.mem_cons.mp hd with rfl | h
    · exact .inl hn
    · exact .inr (rwAll_mem h n hn)
theorem rbytes_rec : Tryd.prog.bytesOf 41 = 120 := by kernel_rfl

set_option maxRecDepth 100000 in
/-- A list of records that came in. -/
theorem given_recs2 {v : Value} {d : DataW H} {p : List MemPlace} {base : Nat} (hok : Value.okWide Tryd.prog W .any base 53 v) (h : DataW.Trod enc Tryd.prog W 0 (fun _ => true) true 53 v d p) (hw : (d.weights Tryd.prog 53).all (· ≤ reachBytes) = true) :
    ∃ a l n c, v = .slice a n c ∧ l.length = n ∧ n ≤ c ∧ c * 120 ≤ 140737488351232 ∧ RLin W a l ∧ (∀ r ∈ l, Bytey r.data) ∧ (a = none → n = 0 ∧ c = 0) ∧ n ≤ Rows.uptoBulk d ∧ (∀ r ∈ l, r.data.length ≤ 140737488351232 ∧ r.spans.length * 16 ≤ 140737488351232) := by
  obtain ⟨a0, len0, cap0, rfl⟩ := okWide_slice Tryd.underlying53 hok
  obtain ⟨fuel, hf⟩ := h
  have hf' : DataW.trod enc Tryd.prog W 0 (fun _ => true) true fuel 53 [.slice a0 len0 cap0] = some (d, p) := hf
  clear hf hok
  rcases Go.Deep.open_slice Tryd.underlying53 hf' with ⟨hcs, _⟩ | ⟨a, len, cap, m, n, D, Pl, hcs, _, hl, hm, hmm, hx, hel⟩
  · simp at hcs
    obtain ⟨rfl, rfl, rfl⟩ := hcs
    exact ⟨none, [], 0, 0, rfl, rfl, Nat.le_refl _, by omega, .inl rfl, fun r hr => by simp at hr, fun _ => ⟨rfl, rfl⟩, Nat.zero_le _, fun r hr => by simp at hr⟩
  · simp at hcs
    obtain ⟨rfl, rfl, rfl⟩ := hcs
    simp only [if_true] at hmm
    subst hmm
    simp only [Prod.mk.injEq] at hx
    have hwm : ∀ i, i < len0 → ((D i).weights Tryd.prog 41).all (· ≤ reachBytes) = true := fun i hi => by
      refine all_of_mem hw (fun n hn => ?_)
      rw [hx.1]
      simp only [DataW.weights, Tryd.underlying53, List.mem_cons, List.mem_append]
      exact .inr (.inl (rwAll_mem (List.mem_map.mpr ⟨i, List.mem_range.mpr hi, rfl⟩) n hn))
    have hsz : m * 120 ≤ 140737488351232 := by
      have h1 := sized_slice (ts := [53]) (ds := [d]) (j := 0) (by simpa [DataW.weightsEach] using hw) rfl (by rw [hx.1]; rfl) Tryd.underlying53
      rw [rbytes_rec] at h1
      simp only [List.length_map, List.length_range, reachBytes] at h1
      have : len0 + (m - len0) = m := by omega
      rw [this] at h1
      exact h1
    obtain ⟨xs, hxl, hxs⟩ := rlist_of (n := len0) (p := fun i (x : Rc) => (Bytey x.data ∧ x.data.length ≤ 140737488351232 ∧ x.spans.length * 16 ≤ 140737488351232) ∧ ∃ sa da sc dc, (∀ j u, (rcC x (.slice sa x.spans.length sc) (.slice da x.data.length dc))[j]? = some u → W.cell? ((a.add (i * 11)).add j) = some u) ∧ RIn W x sa da x.spans.length x.data.length sc dc) (fun i hi => by
      obtain ⟨cs', h1, h2⟩ := hel i (by omega)
      rw [rcells_rec] at h1
      obtain ⟨_, hlen, hcell⟩ := World.cells?_some h1
      obtain ⟨r, sa, da, ns, nd, sc, dc, rfl, q1, q2, q3, q4, q5, q6⟩ := rec_of hlen h2 (hwm i hi)
      obtain rfl := q1.spn
      obtain rfl := q1.dat
      refine ⟨r, ⟨q2, by omega, by omega⟩, sa, da, sc, dc, fun j u hj => ?_, q1⟩
      have hj2 : j < 11 := (Array.getElem?_eq_some_iff.mp hj).1
      rw [hcell j hj2, Array.getElem?_toList]
      exact hj)
    subst hxl
    refine ⟨some a, xs, xs.length, m, rfl, rfl, hl, hsz, ?_, fun r hr => ?_, (fun h => by cases h), ?_, fun r hr => ?_⟩
    · by_cases h0 : xs = []
      · exact .inl h0
      · right
        have h1 : 0 < xs.length := List.length_pos_iff.mpr h0
        have hx0 : xs[0]? = some xs[0] := List.getElem?_eq_getElem h1
        obtain ⟨_, sa, da, sc, dc, q1, _⟩ := hxs 0 _ hx0
        have q2 := q1 0 _ rfl
        obtain ⟨g, off, rfl⟩ : ∃ g off, a = ⟨g, off, none⟩ := by
          have q3 := World.cell?_spot q2
          obtain ⟨b, off, spot⟩ := a
          have hs : spot = none := by simpa [Addr.add] using q3
          subst hs
          exact ⟨b, off, rfl⟩
        refine ⟨g, off, rfl, fun i r hi => ?_⟩
        obtain ⟨_, sa, da, sc, dc, q3, q4⟩ := hxs i r hi
        refine ⟨sa, da, sc, dc, fun j u hj => ?_, q4⟩
        have := q3 j u hj
        rw [radd_none, radd_none] at this
        exact this
    · obtain ⟨i, hi⟩ := List.getElem?_of_mem hr
      exact (hxs i r hi).1.1
    · rw [hx.1]
      have h1 := bulk_length ((List.range xs.length).map D)
      simp only [List.length_map, List.length_range] at h1
      simp only [Rows.uptoBulk]
      omega
    · obtain ⟨i, hi⟩ := List.getElem?_of_mem hr
      exact (hxs i r hi).1.2
set_option maxRecDepth 100000 in
theorem given_recs {v : Value} {d : DataW H} {p : List MemPlace} {base : Nat} (hok : Value.okWide Tryd.prog W .any base 53 v) (h : DataW.Trod enc Tryd.prog W 0 (fun _ => true) true 53 v d p) (hw : (d.weights Tryd.prog 53).all (· ≤ reachBytes) = true) :
    ∃ a l n c, v = .slice a n c ∧ l.length = n ∧ n ≤ c ∧ c * 120 ≤ 140737488351232 ∧ RLin W a l ∧ (∀ r ∈ l, Bytey r.data) ∧ (a = none → n = 0 ∧ c = 0) ∧ n ≤ Rows.uptoBulk d := by
  obtain ⟨a, l, n, c, h1, h2, h3, h4, h5, h6, h7, h8, _⟩ := given_recs2 hok h hw
  exact ⟨a, l, n, c, h1, h2, h3, h4, h5, h6, h7, h8⟩
end Go.Proofs.YtgmbpagbiakciafDoor

namespace Go.Proofs.YtgmbpagbiakciafDoor
open Go.RowKit
set_option linter.unusedVariables false
set_option linter.unusedSimpArgs false

theorem fmR_len {l : List Rc} : (fmR l).1.length ≤ 80008 * l.length := by
  unfold fmR
  split
  · rename_i h
    exact fr_len (fun r hr => List.all_eq_true.mp h r hr)
  · simp
theorem fmR_by {l : List Rc} (hd : ∀ r ∈ l, Bytey r.data) : Bytey (fmR l).1 := by
  unfold fmR
  split
  · rename_i h
    exact fr_bytey (fun r hr => ⟨List.all_eq_true.mp h r hr, hd r hr⟩)
  · intro z hz; simp at hz
theorem row_nil {w : World} {base n : Nat} {a : Option Addr} {c : Nat} {xs : List Value} (h : w.ownsRow base 5 1 (.slice a n c) n xs) : a = none → n = 0 ∧ c = 0 := by
  intro e
  obtain ⟨_, ⟨h1, h2⟩ | ⟨g, cap, cur, h1, _⟩⟩ := h
  · simp only [Value.slice.injEq] at h1; exact ⟨h1.2.1, h1.2.2⟩
  · rw [e] at h1; cases h1

set_option maxRecDepth 100000 in
set_option maxHeartbeats 8000000 in
theorem frames_walk (l : List Rc) (a : Option Addr) (n c : Nat) (x : Int) (am : Option Addr) (zs : List Int) (lm cm : Nat) (w : World) (hT : Tab6 w) (hl : l.length = n) (hnc : n ≤ c) (hn : n ≤ 1048576) (ha : RLin w a l) (hd : ∀ r ∈ l, Bytey r.data) (hbd : ∀ r ∈ l, r.data.length ≤ 140737488351232 ∧ r.spans.length * 16 ≤ 140737488351232)
    (hx : -9223372036854775808 ≤ x ∧ x ≤ 9223372036854775807)
    (hbm : Bytey zs) (hlm : zs.length = lm) (hlc : lm ≤ cm) (hcm : cm ≤ 1048576) (hzm : Lies .u8 w am zs) (hnm : am = none → lm = 0 ∧ cm = 0) :
    Calls Tryd.prog 6 #[.slice a n c, .int .i64 x, .slice am lm cm] w fun e w' => e = .returned (.bool true) ∧ Below w.heap.size w w' := by
  obtain ⟨i0, hinf, hz0, hz1, hz2⟩ := info_parts Tryd.info_u8
  obtain ⟨i1, hinf1, hy0, hy1, hy2⟩ := info_parts Tryd.info_rec
  have HTB : Hid (∀ W, Below w.heap.size w W → Tab6 W) := fun W hW => hT.below hW (tab6_pos hT)
  have HL : Hid (l.length = n) := hl
  have HA : Hid (∀ W, Below w.heap.size w W → RLin W a l) := fun W hW => ha.below hW
  have HD : Hid (∀ r ∈ l, Bytey r.data) := hd
  have HBD : Hid (∀ r ∈ l, r.data.length ≤ 140737488351232 ∧ r.spans.length * 16 ≤ 140737488351232) := hbd
  have HZM : Hid (∀ W, Below w.heap.size w W → Lies .u8 W am zs) := fun W hW => hzm.below hW
  have HBM : Hid (Bytey zs) := hbm
  have HLM : Hid (zs.length = lm) := hlm
  have HNM : Hid (am = none → lm = 0 ∧ cm = 0) := hnm
  have HF2 : Hid (∀ W, Below w.heap.size w W → Calls Tryd.prog 27 #[.slice a n c] W (PrPost (fmR l) W)) := fun W hW => frame2_any l a n c W hl hn (ha.below hW) hd
  have HF1 : Hid (∀ W ao co, Below w.heap.size w W → RLin W ao l → Calls Tryd.prog 28 #[.slice ao n co] W (PrPost (fmR l) W)) := fun W ao co hW hr => frame_any l ao n co W (HTB.out W hW) hl hn hr hd
  have HSA : Hid (∀ W ao co, Below w.heap.size w W → RLin W ao l → Calls Tryd.prog 29 #[.slice ao n co, .slice a n c] W fun e w' => e = .returned (.bool true) ∧ Below W.heap.size W w') := fun W ao co hW hr => sameAll_eq l ao a n co c W hl (by omega) hr (ha.below hW)
  have hAl := fmR_len (l := l)
  have HAB : Hid (Bytey (fmR l).1) := fmR_by hd
  obtain ⟨A, E, hAE⟩ : ∃ A E, fmR l = (A, E) := ⟨_, _, rfl⟩
  rw [hAE] at HF1 HF2 HAB hAl
  rw [hl] at hAl
  simp only at HAB hAl
  obtain ⟨nA, hnA⟩ : ∃ q, A.length = q := ⟨_, rfl⟩
  have HNA : Hid (A.length = nA) := hnA
  have hnAb : nA ≤ 84000000000 := by omega
  clear hT hl ha hd hbd hzm hbm hlm hnm hAE hAl hnA
  obtain ⟨hx0, hx1⟩ := hx
  go_enter Tryd.func6, Tryd.ntmps6
  go_upto_region 4 with (first
    | (go_at_call 14; refine (awake6_any _ (HTB.out _ (Below.refl _ _))).mono ?_; rintro e w1 ⟨rfl, hb1⟩; have HB1 : Hid (Below w.heap.size w w1) := hb1; clear hb1)
    | (go_at_call 27; refine (HF2.out _ HB1.out).mono ?_; rintro e w2 ⟨v2, rfl, ho2, hb2⟩; simp only [HNA.out] at ho2; obtain ⟨pW, cW, rfl, hlz2, hln2, hnx2, hcx2⟩ := row_sh2 ho2))
  have hs1 := HB1.out.size
  have hs2 := hb2.size
  have HB2 : Hid (Below w.heap.size w w2) := HB1.out.trans (hb2.mono hs1)
  have HW2 : Hid (w2.ownsRow w1.heap.size 5 1 (.slice pW nA cW) nA (A.map (Value.int .u8))) := ho2
  clear hb2 ho2 hlz2 hln2 hnx2 hcx2 HF2 HB1
  go_wp2
  go_loopw [10, 11] (fun v i wr => ∃ (os : List Le), os.length ≤ n ∧ i = .int .i64 os.length ∧ os.map Le.r = l.take os.length ∧ Ll wr w2.heap.size v os ∧ Below w2.heap.size w2 wr) (fun _ i _ => n - (intOf i).toNat)
  case atStart => exact ⟨[], Nat.zero_le _, rfl, by simp, Ll.start _ _, Below.refl _ _⟩
  case round =>
    obtain ⟨os, hk, rfl, hmap, hll, hbw⟩ := hrel
    obtain ⟨k, hkk⟩ : ∃ k, os.length = k := ⟨_, rfl⟩
    have HKL : Hid (os.length = k) := hkk
    have HMP : Hid (os.map Le.r = l.take k) := by unfold Hid; rw [← hkk]; exact hmap
    have HLL : Hid (Ll wr w2.heap.size u10 os) := hll
    have HBW : Hid (Below w2.heap.size w2 wr) := hbw
    have hbx : Below w.heap.size w wr := HB2.out.trans (hbw.mono HB2.out.size)
    rw [hkk] at hk ⊢
    clear hmap hkk
    by_cases hlt : k < n
    · have hkl : k < l.length := by rw [HL.out]; exact hlt
      obtain ⟨r, hr⟩ : ∃ r, l[k]? = some r := ⟨l[k], List.getElem?_eq_getElem hkl⟩
      obtain ⟨g, off, sa, da, sc, dc, rfl, hc, hri⟩ := (HA.out wr hbx).at hr
      obtain ⟨hb1, hb2⟩ := HBD.out r (List.mem_of_getElem? hr)
      have c0 := hc 0 _ rfl
      have c1 := hc 1 _ rfl
      have c2 := hc 2 _ rfl
      have c3 := hc 3 _ rfl
      have c4 := hc 4 _ rfl
      have c5 := hc 5 _ rfl
      have c6 := hc 6 _ rfl
      have c7 := hc 7 _ rfl
      have c8 := hc 8 _ rfl
      have c9 := hc 9 _ rfl
      have c10 := hc 10 _ rfl
      simp only [Nat.add_zero] at c0
      have hlt' : (k : Int) < (n : Int) := by omega
      have HLN := lent6_any r sa da r.spans.length r.data.length sc dc wr hri hb1 hb2
      have HMN : Hid (∀ gd gs, (os ++ [(⟨r, gd, gs⟩ : Le)]).map Le.r = l.take (k + 1)) := fun gd gs => by rw [List.map_append, HMP.out, List.take_succ_eq_append_getElem hkl, (List.getElem?_eq_some_iff.mp hr).2]; rfl
      have HPS : Hid (∀ (w4 w5 : World) (gd gs : Nat) (v5 : Value), Blk .u8 w4 gd 5 (mkD r.data) → C.SOwn w4 wr.heap.size (.slice (some ⟨gs, 0, none⟩) (r.spans.length + 2) (r.spans.length + 2)) (mkS r.spans) → gd ≠ gs → wr.heap.size ≤ gd → Below wr.heap.size wr w4 → (w4.alloc (rcO r (.slice (some ⟨gs, 0, none⟩) r.spans.length (r.spans.length + 2)) (.slice (some ⟨gd, 0, none⟩) r.data.length (r.data.length + 2)))).grownBy w5 u10.ownBlock → w5.ownsRow w2.heap.size 41 11 v5 (k + 1) (llC os ++ (rcC r (.slice (some ⟨gs, 0, none⟩) r.spans.length (r.spans.length + 2)) (.slice (some ⟨gd, 0, none⟩) r.data.length (r.data.length + 2))).toList) → (v5.ownBlock = u10.ownBlock ∨ v5.ownBlock = some (w4.heap.size + 1)) → Ll w5 w2.heap.size v5 (os ++ [⟨r, gd, gs⟩]) ∧ Below w2.heap.size w2 w5) := fun w4 w5 gd gs v5 h1 h2 h3 h4 h5 h6 h7 h8 => by
        have hbo : Below wr.heap.size wr (w4.alloc (rcO r (.slice (some ⟨gs, 0, none⟩) r.spans.length (r.spans.length + 2)) (.slice (some ⟨gd, 0, none⟩) r.data.length (r.data.length + 2)))) := h5.alloc h5.size _
        have hlo := HBW.out.size
        have h9 := h5.size
        have hln : (⟨r, gd, gs⟩ : Le).Lnd (w4.alloc (rcO r (.slice (some ⟨gs, 0, none⟩) r.spans.length (r.spans.length + 2)) (.slice (some ⟨gd, 0, none⟩) r.data.length (r.data.length + 2)))) wr.heap.size := by
          have q : Lnd w4 wr.heap.size gd gs r.spans.length r.data.length r.spans r.data := ⟨h1, h2, rfl, rfl, h3, h4, hb1, hb2⟩
          exact q.below ((Below.refl _ _).alloc (Nat.le_refl _) _)
        refine ⟨HLL.out.push hlo hbo ⟨r, gd, gs⟩ hln h6 (by rw [HKL.out]; exact h7) (fun j hj => ?_), ?_⟩
        · rcases h8 with q | q
          · left; rw [← q]; exact hj
          · right; rw [q] at hj; simp at hj; simp; omega
        · exact (HBW.out.trans (hbo.mono hlo)).grown h6 (by simp; omega) (fun j hj => (HLL.out.row.lt j hj).1)
      have HRX : Hid (∀ w4 o, Below wr.heap.size wr w4 → (w4.alloc o).ownsRow w2.heap.size 41 11 u10 k (llC os) ∧ w2.heap.size ≤ w4.heap.size) := fun w4 o h => ⟨by have := (own_below6 HLL.out.row h).alloc o; rw [HKL.out] at this; exact this, Nat.le_trans HBW.out.size h.size⟩
      clear hc hri hr hll hbw hbx
      generalize r.spans.length = ns at *
      generalize r.data.length = nd at *
      go_wp2_with (first
        | (go_at_call 17; refine HLN.mono ?_; rintro e w4 ⟨gd, gs, rfl, hk1, hk2, hk3, hk4, hb4⟩; obtain ⟨hr4, hs4⟩ := HRX.out w4 (rcO r (.slice (some ⟨gs, 0, none⟩) ns (ns + 2)) (.slice (some ⟨gd, 0, none⟩) nd (nd + 2))) hb4; have HR4 := hidMk hr4; clear hr4)
        | (at_builtin; refine wpList_append_own_at _ rfl _ _ 53 rfl w2.heap.size 41 i1 _ 11 120 Tryd.underlying53 hinf1 hy0 hy1 hy2 rfl (by decide) _ _ _ rfl HR4.out ⟨w4.heap.size, 0, none⟩ 1 1 (rcC r (.slice (some ⟨gs, 0, none⟩) ns (ns + 2)) (.slice (some ⟨gd, 0, none⟩) nd (nd + 2))).toList rfl rfl (rec_lit _ _ _ _) (rec_one _ _ _ _ _ _ _) (by unfold maxLen; omega) (by omega) (by simp; omega) ?_; intro v5 w5 o5 g5 _ t5))
      have HN5 := hidMk (HPS.out w4 w5 gd gs v5 hk1 hk2 hk3 hk4 hb4 g5 o5 (t5.imp (fun q => q) (fun q => q.trans (by simp))))
      clear hk1 hk2 hk3 hk4 hb4 o5 g5 t5 c0 c1 c2 c3 c4 c5 c6 c7 c8 c9 c10 HLN HPS HR4 HRX
      go_wp2
      go_roundw
      case rel => exact ⟨os ++ [⟨r, gd, gs⟩], by rw [List.length_append, HKL.out]; simp; omega, by rw [List.length_append, HKL.out]; go_num, by rw [List.length_append, HKL.out]; exact HMN.out gd gs, HN5.out.1, HN5.out.2⟩
      case measure => simp [intOf]; omega
    · obtain rfl : k = n := by omega
      have HME : Hid (os.map Le.r = l) := by unfold Hid; rw [HMP.out, List.take_of_length_le (by rw [HL.out]; exact Nat.le_refl _)]
      obtain ⟨ao, co, hv, hrl⟩ := hll.rlin
      rw [HKL.out] at hv
      rw [HME.out] at hrl
      subst hv
      obtain ⟨w3, h3⟩ : ∃ q, q = wr := ⟨_, rfl⟩
      subst h3
      have hs3 := hbw.size
      have HB3 : Hid (Below w.heap.size w w3) := hbx
      have HW3 : Hid (w3.ownsRow w1.heap.size 5 1 (.slice pW nA cW) nA (A.map (Value.int .u8))) := own_same HW2.out (fun q hq => hbw.block q (HW2.out.lt q hq).2)
      have HWB : Hid (∀ q, (Value.slice pW nA cW).ownBlock = some q → w1.heap.size ≤ q ∧ q < w2.heap.size) := fun q hq => HW2.out.lt q hq
      have HR3 : Hid (RLin w3 ao l) := hrl
      have HLP : Hid (∀ (i : Nat) (o : Le), os[i]? = some o → (w2.heap.size ≤ o.gd ∧ o.gd < w3.heap.size) ∧ w2.heap.size ≤ o.gs ∧ o.gs < w3.heap.size) := fun i o hi => by have := (hll.lnd i o hi).lts; exact ⟨⟨this.1, this.2.1⟩, this.2.2⟩
      clear hll hbw hbx hrl HBW HW2
      go_upto_region 9 with (go_at_call 28; refine (HF1.out _ ao co HB3.out HR3.out).mono ?_; rintro e w4 ⟨v4, rfl, ho4, hb4⟩; simp only [HNA.out] at ho4; obtain ⟨pA, cA, rfl, hlz4, hln4, hnx4, hcx4⟩ := row_sh2 ho4)
      have hs4 := hb4.size
      have HB4 : Hid (Below w.heap.size w w4) := HB3.out.trans (hb4.mono HB3.out.size)
      have HL4 : Hid (Ll w4 w2.heap.size (.slice ao k co) os) := HLL.out.keep hb4
      have HR4 : Hid (RLin w4 ao l) := HR3.out.below hb4
      have HW4 : Hid (w4.ownsRow w1.heap.size 5 1 (.slice pW nA cW) nA (A.map (Value.int .u8))) := own_below6 HW3.out hb4
      have HA4 : Hid (w4.ownsRow w3.heap.size 5 1 (.slice pA nA cA) nA (A.map (Value.int .u8))) := ho4
      clear hb4 ho4 hlz4 hln4 hnx4 hcx4 HB3 HLL HR3 HW3
      go_upto_region 10 with (go_at_call 28; refine (HF1.out _ ao co HB4.out HR4.out).mono ?_; rintro e w5 ⟨v5, rfl, ho5, hb5⟩; simp only [HNA.out] at ho5; obtain ⟨pB, cB, rfl, hlz5, hln5, hnx5, hcx5⟩ := row_sh2 ho5)
      have hs5 := hb5.size
      have HB5 : Hid (Below w.heap.size w w5) := HB4.out.trans (hb5.mono HB4.out.size)
      have HL5 : Hid (Ll w5 w2.heap.size (.slice ao k co) os) := HL4.out.keep hb5
      have HR5 : Hid (RLin w5 ao l) := HR4.out.below hb5
      have HW5 : Hid (w5.ownsRow w1.heap.size 5 1 (.slice pW nA cW) nA (A.map (Value.int .u8))) := own_below6 HW4.out hb5
      have HA5 : Hid (w5.ownsRow w3.heap.size 5 1 (.slice pA nA cA) nA (A.map (Value.int .u8))) := own_below6 HA4.out hb5
      have HO5 : Hid (w5.ownsRow w4.heap.size 5 1 (.slice pB nA cB) nA (A.map (Value.int .u8))) := ho5
      have HAB4 : Hid (∀ q, (Value.slice pA nA cA).ownBlock = some q → w3.heap.size ≤ q ∧ q < w4.heap.size) := fun q hq => HA4.out.lt q hq
      have HLS : Hid (∀ (W : World) (lo : Nat) (p : Option Addr) (cc : Nat), W.ownsRow lo 5 1 (.slice p nA cc) nA (A.map (Value.int .u8)) → Lies .u8 W p A) := fun W lo p cc h => by
        obtain ⟨p', x', h1, h2, _⟩ := row_sh2 h
        simp only [Value.slice.injEq] at h1
        obtain ⟨rfl, _, rfl⟩ := h1
        exact h2
      clear hb5 ho5 hlz5 hln5 hnx5 hcx5 HB4 HL4 HR4 HW4 HA4 HF1
      go_upto_region 11 with (go_at_call 20; refine (sameBytes_eq pA pW A nA cA cW _ HNA.out (by omega) (HLS.out _ _ _ _ HA5.out) (HLS.out _ _ _ _ HW5.out)).mono ?_; rintro e w6 ⟨rfl, hb6⟩)
      go_upto_region 12 with (go_at_call 20; refine (sameBytes_eq pB pW A nA cB cW _ HNA.out (by omega) (HLS.out _ _ _ _ (own_below6 HO5.out hb6)) (HLS.out _ _ _ _ (own_below6 HW5.out hb6))).mono ?_; rintro e w7 ⟨rfl, hb7⟩)
      have hb57 : Below w5.heap.size w5 w7 := hb6.trans (hb7.mono hb6.size)
      have HB7 : Hid (Below w.heap.size w w7) := HB5.out.trans (hb57.mono HB5.out.size)
      have HR7 : Hid (RLin w7 ao l) := HR5.out.below hb57
      have HB57 : Hid (Below w5.heap.size w5 w7) := hb57
      clear hb6 hb7 hb57
      go_upto_region 15 with (go_at_call 29; refine (HSA.out _ ao co HB7.out HR7.out).mono ?_; rintro e w8 ⟨rfl, hb8⟩)
      have hb58 : Below w5.heap.size w5 w8 := HB57.out.trans (hb8.mono HB57.out.size)
      have hs8 := hb58.size
      have HB8 : Hid (Below w.heap.size w w8) := HB5.out.trans (hb58.mono HB5.out.size)
      have HL8 : Hid (Ll w8 w2.heap.size (.slice ao k co) os) := HL5.out.keep hb58
      have HW8 : Hid (w8.ownsRow w1.heap.size 5 1 (.slice pW nA cW) nA (A.map (Value.int .u8))) := own_below6 HW5.out hb58
      have HA8 : Hid (w8.ownsRow w3.heap.size 5 1 (.slice pA nA cA) nA (A.map (Value.int .u8))) := own_below6 HA5.out hb58
      have HO8 : Hid (w8.ownsRow w4.heap.size 5 1 (.slice pB nA cB) nA (A.map (Value.int .u8))) := own_below6 HO5.out hb58
      have HLB : Hid (∀ (i : Nat) (o : Le), os[i]? = some o → (w2.heap.size ≤ o.gd ∧ o.gd < w3.heap.size) ∧ w2.heap.size ≤ o.gs ∧ o.gs < w3.heap.size) := HLP.out
      clear hb8 hb58 HB5 HL5 HR5 HW5 HA5 HO5 HB57 HB7 HR7 HSA
      go_wp2
      go_loopw [19] (fun i wr => ∃ (m : Nat), m ≤ k ∧ i = .int .i64 m ∧ Kps (fun g => w2.heap.size ≤ g ∧ g < w3.heap.size) w8 wr ∧ wr.ownsRow w2.heap.size 41 11 (.slice ao k co) k (llC os) ∧ ∀ (i : Nat) (o : Le), m ≤ i → os[i]? = some o → o.Lnd wr w2.heap.size) (fun i _ => k - (intOf i).toNat)
      case atStart => exact ⟨0, Nat.zero_le _, rfl, Kps.refl _ _, by have := HL8.out.row; rw [HKL.out] at this; exact this, fun i o _ hi => HL8.out.lnd i o hi⟩
      case round =>
        obtain ⟨m, hm, rfl, hkp, hrow, hlnd⟩ := hrel
        have hsr := hkp.size
        by_cases hlt2 : m < k
        · have hmk : m < os.length := by rw [HKL.out]; exact hlt2
          obtain ⟨o, ho⟩ : ∃ o, os[m]? = some o := ⟨os[m], List.getElem?_eq_getElem hmk⟩
          obtain ⟨go, co', hv⟩ := C.own_some hrow (by omega)
          simp only [Value.slice.injEq] at hv
          obtain ⟨rfl, _, rfl⟩ := hv
          have hln := hlnd m o (Nat.le_refl _) ho
          have hbl := HLB.out m o ho
          have hsp := HL8.out.sep.row m o ho
          have hce : ∀ W, Below wr.heap.size wr W → ∀ j u, (rcC o.r o.sv o.dv)[j]? = some u → W.cell? ⟨go, m * 11 + j, none⟩ = some u := fun W hW j u hj => by
            have hj2 : j < 11 := (Array.getElem?_eq_some_iff.mp hj).1
            have h1 : wr.cell? ⟨go, m * 11 + j, none⟩ = some u := by rw [hrow.cellAt _ (by omega)]; exact llC_at ho j u hj
            exact C.cell_below h1 hW
          have HCE := hidMk hce
          have c0 := hce _ (Below.refl _ _) 0 _ rfl
          have c1 := hce _ (Below.refl _ _) 1 _ rfl
          have c2 := hce _ (Below.refl _ _) 2 _ rfl
          have c3 := hce _ (Below.refl _ _) 3 _ rfl
          have c4 := hce _ (Below.refl _ _) 4 _ rfl
          have c5 := hce _ (Below.refl _ _) 5 _ rfl
          have c6 := hce _ (Below.refl _ _) 6 _ rfl
          have c7 := hce _ (Below.refl _ _) 7 _ rfl
          have c8 := hce _ (Below.refl _ _) 8 _ rfl
          have c9 := hce _ (Below.refl _ _) 9 _ rfl
          have c10 := hce _ (Below.refl _ _) 10 _ rfl
          simp only [Nat.add_zero] at c0
          simp only [Le.sv, Le.dv] at c9 c10
          have HKE := kept6_any o.r w2.heap.size o.gd o.gs o.r.spans.length o.r.data.length o.r.spans o.r.data wr hln
          have HSL := hidMk (fun W (hW : Below wr.heap.size wr W) => spoil6_any o.r w2.heap.size o.gd o.gs o.r.spans.length o.r.data.length o.r.spans o.r.data 9 9 (-10) W (hln.below hW) (by decide) (by decide))
          have HNX : Hid (∀ (W W' : World), Below wr.heap.size wr W → Oth o.gd o.gs W W' → Kps (fun g => w2.heap.size ≤ g ∧ g < w3.heap.size) w8 W' ∧ W'.ownsRow w2.heap.size 41 11 (.slice (some ⟨go, 0, none⟩) k co) k (llC os) ∧ ∀ (i : Nat) (q : Le), m + 1 ≤ i → os[i]? = some q → q.Lnd W' w2.heap.size) := fun W W' h1 h2 => by
            have z1 := h1.size
            have z2 := h2.size
            refine ⟨⟨h2.os.trans (h1.os.trans hkp.os), h2.tape.trans (h1.tape.trans hkp.tape), h2.output.trans (h1.output.trans hkp.output), by omega, fun g hg hS => ?_⟩, ?_, fun i q hi hq => ?_⟩
            · exact (h2.block g (by omega) (fun e => hS (by rw [e]; exact hbl.1)) (fun e => hS (by rw [e]; exact hbl.2))).trans ((h1.block g (by omega)).trans (hkp.block g hg hS))
            · refine own_same hrow (fun q hq => ?_)
              have := (hrow.lt q hq).2
              exact (h2.block q (by omega) (fun e => hsp.1 (by rw [← e]; exact hq)) (fun e => hsp.2 (by rw [← e]; exact hq))).trans (h1.block q this)
            · have q1 := hlnd i q (by omega) hq
              have q2 := q1.lts
              have q3 := HL8.out.sep.two m i o q ho hq (by omega)
              have q4 := HL8.out.sep.two i m q o hq ho (by omega)
              exact q1.same ((h2.block _ (by omega) (fun e => q3.1 e.symm) (fun e => q4.2.1 e)).trans (h1.block _ q2.2.1)) ((h2.block _ (by omega) (fun e => q3.2.1 e.symm) (fun e => q3.2.2 e.symm)).trans (h1.block _ q2.2.2.2))
          have hlt2' : (m : Int) < (k : Int) := by omega
          clear hce hln hbl hsp ho hrow hlnd hkp
          go_upto_region 19 with (go_at_call 22; refine HKE.mono ?_; rintro e w9 ⟨rfl, hb9⟩)
          clear c0 c1 c2 c3 c4 c5 c6 c7 c8 c9 c10
          have HB9 := hidMk hb9
          have hce := HCE.out _ hb9
          have c0 := hce 0 _ rfl
          have c1 := hce 1 _ rfl
          have c2 := hce 2 _ rfl
          have c3 := hce 3 _ rfl
          have c4 := hce 4 _ rfl
          have c5 := hce 5 _ rfl
          have c6 := hce 6 _ rfl
          have c7 := hce 7 _ rfl
          have c8 := hce 8 _ rfl
          have c9 := hce 9 _ rfl
          have c10 := hce 10 _ rfl
          simp only [Nat.add_zero] at c0
          simp only [Le.sv, Le.dv] at c9 c10
          clear hce hb9 HKE HCE
          go_wp2_with (go_at_call 23; refine (HSL.out _ HB9.out).mono ?_; rintro e w10 ⟨⟨v10, rfl⟩, hl10, ho10⟩; have HN10 := hidMk (HNX.out _ _ HB9.out ho10); clear hl10 ho10)
          go_roundw
          case rel => exact ⟨m + 1, by omega, by go_num, HN10.out.1, HN10.out.2.1, HN10.out.2.2⟩
          case measure => simp [intOf]; omega
        · obtain ⟨w9, h9⟩ : ∃ q, q = wr := ⟨_, rfl⟩
          subst h9
          have hlt2' : (k : Int) ≤ (m : Int) := by omega
          have hblk : ∀ g, g < w8.heap.size → ¬ (w2.heap.size ≤ g ∧ g < w3.heap.size) → w9.heap[g]? = w8.heap[g]? := hkp.block
          have HB9 : Hid (Below w.heap.size w w9) := ⟨hkp.os.trans HB8.out.os, hkp.tape.trans HB8.out.tape, hkp.output.trans HB8.out.output, by have := HB8.out.size; omega, fun g hg => (hblk g (by have := HB8.out.size; omega) (by omega)).trans (HB8.out.block g hg)⟩
          have HW9 : Hid (w9.ownsRow w1.heap.size 5 1 (.slice pW nA cW) nA (A.map (Value.int .u8))) := own_same HW8.out (fun q hq => hblk q (HW8.out.lt q hq).2 (by have := HWB.out q hq; omega))
          have HA9 : Hid (w9.ownsRow w3.heap.size 5 1 (.slice pA nA cA) nA (A.map (Value.int .u8))) := own_same HA8.out (fun q hq => hblk q (HA8.out.lt q hq).2 (by have := HAB4.out q hq; omega))
          have HO9 : Hid (w9.ownsRow w4.heap.size 5 1 (.slice pB nA cB) nA (A.map (Value.int .u8))) := own_same HO8.out (fun q hq => hblk q (HO8.out.lt q hq).2 (by have := (HO8.out.lt q hq).1; omega))
          clear hkp hrow hlnd hblk HB8 HW8 HA8 HO8 HL8 HLB
          go_wp2
          go_loopw [21] (fun i wr => ∃ (q : Nat) (ys : List Int), q ≤ nA ∧ i = .int .i64 q ∧ w9.grownBy wr (Value.slice pA nA cA).ownBlock ∧ ys.length = nA ∧ DOwn wr w3.heap.size (.slice pA nA cA) ys) (fun i _ => nA - (intOf i).toNat)
          case atStart => exact ⟨0, A, Nat.zero_le _, rfl, World.grownBy.refl _ _, HNA.out, by unfold DOwn; rw [HNA.out]; exact HA9.out⟩
          case round =>
            obtain ⟨q, ys, hq, rfl, hg, hyl, hdo⟩ := hrel
            by_cases hlt3 : q < nA
            · have hlt3' : (q : Int) < (nA : Int) := by omega
              obtain ⟨ga, ca', hv⟩ := C.own_some hdo (by omega)
              rw [hyl] at hv
              simp only [Value.slice.injEq] at hv
              obtain ⟨rfl, _, rfl⟩ := hv
              obtain ⟨y, hy⟩ : ∃ y, ys[q]? = some y := ⟨_, List.getElem?_eq_getElem (by omega)⟩
              obtain ⟨e1, f1⟩ := hdo.cells (k := q) (x := y) hy
              have HN1 : Hid (∃ ys', w9.grownBy (wr.setCell ⟨ga, q, none⟩ (.int .u8 201)) (Value.slice (some ⟨ga, 0, none⟩) nA cA).ownBlock ∧ ys'.length = nA ∧ DOwn (wr.setCell ⟨ga, q, none⟩ (.int .u8 201)) w3.heap.size (.slice (some ⟨ga, 0, none⟩) nA cA) ys') := ⟨ys.set q 201, C.grown_trans hg (grown_set _ _ _ _), by rw [List.length_set]; exact hyl, hdo.put q 201⟩
              clear hg hdo hyl hy
              go_wp2
              go_roundw
              case rel => obtain ⟨ys', q1, q2, q3⟩ := HN1.out; exact ⟨q + 1, ys', by omega, by go_num, q1, q2, q3⟩
              case measure => simp [intOf]; omega
            · have hlt3' : (nA : Int) ≤ (q : Int) := by omega
              have hsr := hg.size
              have HB10 : Hid (Below w.heap.size w wr) := HB9.out.grown hg HB9.out.size (fun j hj => by have := HAB4.out j hj; have := HB2.out.size; omega)
              have HW10 : Hid (wr.ownsRow w1.heap.size 5 1 (.slice pW nA cW) nA (A.map (Value.int .u8))) := own_keep6 HW9.out hg (fun j hj e => by have := HWB.out j hj; have := HAB4.out j e; omega)
              have HO10 : Hid (wr.ownsRow w4.heap.size 5 1 (.slice pB nA cB) nA (A.map (Value.int .u8))) := own_keep6 HO9.out hg (fun j hj e => by have := (HO9.out.lt j hj).1; have := HAB4.out j e; omega)
              obtain ⟨w10, h10⟩ : ∃ q, q = wr := ⟨_, rfl⟩
              subst h10
              clear hg hyl hdo HB9 HW9 HA9 HO9
              go_upto_region 27 with (go_at_call 20; refine (sameBytes_eq pB pW A nA cB cW _ HNA.out (by omega) (HLS.out _ _ _ _ HO10.out) (HLS.out _ _ _ _ HW10.out)).mono ?_; rintro e w11 ⟨rfl, hb11⟩)
              have HBE : Hid (Below w.heap.size w w11) := HB10.out.trans (hb11.mono HB10.out.size)
              have HOE : Hid (w11.ownsRow w4.heap.size 5 1 (.slice pB nA cB) nA (A.map (Value.int .u8))) := own_below6 HO10.out hb11
              have hw11 := hb11.size
              have hw04 : w.heap.size ≤ w4.heap.size := by have := HB2.out.size; omega
              clear hb11 HB10 HW10 HO10
              by_cases hcut : 0 ≤ x ∧ x < (nA : Int)
              · obtain ⟨Cc, rfl⟩ : ∃ Cc : Nat, x = (Cc : Int) := ⟨x.toNat, by omega⟩
                have hcx : Cc < nA := by omega
                have hcx' : (Cc : Int) < (nA : Int) := by omega
                have hc0 : (0 : Int) ≤ (Cc : Int) := by omega
                have HOC : Hid (w11.ownsRow w4.heap.size 5 1 (.slice pB Cc cB) Cc ((A.take Cc).map (Value.int .u8))) := by unfold Hid; rw [List.map_take]; exact own_take HOE.out (by omega)
                obtain ⟨gB, cB', hvB⟩ := C.own_some HOE.out (by omega)
                simp only [Value.slice.injEq] at hvB
                obtain ⟨rfl, _, rfl⟩ := hvB
                have hcc : (Cc : Int) ≤ (cB : Int) := by
                  obtain ⟨_, ⟨h, _⟩ | ⟨g', cap', cur, h, _, _, h1, _⟩⟩ := HOE.out
                  · cases h
                  · simp only [Value.slice.injEq] at h
                    obtain ⟨_, _, rfl⟩ := h
                    omega
                clear HOE
                go_wp2_with (first
                  | (at_builtin; refine append_at _ rfl _ _ 39 rfl w4.heap.size 5 i0 (.int .u8 0) 1 Tryd.underlying39 hinf hz0 hz1 hz2 rfl _ _ _ rfl HOC.out .u8 _ _ _ zs rfl HNM.out HLM.out (HZM.out _ HBE.out) (by unfold maxLen; omega) (by omega) (by omega) ?_; intro v12 w12 ho12 hg12 hf12; rw [← List.map_append] at ho12; obtain ⟨p12, x12, rfl, hlz12, hln12, hnx12, hcx12⟩ := row_sh2 ho12; have HSX := scans_any p12 (A.take Cc ++ zs) (Cc + lm) x12 w12 (HTB.out _ (HBE.out.grown hg12 HBE.out.size (fun j hj => Nat.le_trans hw04 (HOC.out.lt j hj).1))) (bytey_app (bytTake HAB.out _) HBM.out) hln12 hnx12 hcx12 (by omega) hlz12 (row_nil ho12); have HB12 := hidMk (HBE.out.grown hg12 HBE.out.size (fun j hj => Nat.le_trans hw04 (HOC.out.lt j hj).1)); clear ho12 hg12 hf12 hlz12 hln12 hnx12 hcx12)
                  | (go_at_call 30; refine HSX.mono ?_; rintro e w13 ⟨rfl, hb13⟩))
                go_ret
                exact ⟨rfl, HB12.out.trans (hb13.mono HB12.out.size)⟩
              · by_cases hx2 : x < 0
                · have hx3 : ¬ (0 : Int) ≤ x := by omega
                  go_wp2_with (first
                    | (at_builtin; refine append_at _ rfl _ _ 39 rfl w4.heap.size 5 i0 (.int .u8 0) 1 Tryd.underlying39 hinf hz0 hz1 hz2 rfl _ _ _ rfl HOE.out .u8 _ _ _ zs rfl HNM.out HLM.out (HZM.out _ HBE.out) (by unfold maxLen; omega) (by omega) (by omega) ?_; intro v12 w12 ho12 hg12 hf12; rw [← List.map_append] at ho12; obtain ⟨p12, x12, rfl, hlz12, hln12, hnx12, hcx12⟩ := row_sh2 ho12; have HSX := scans_any p12 (A ++ zs) (nA + lm) x12 w12 (HTB.out _ (HBE.out.grown hg12 HBE.out.size (fun j hj => Nat.le_trans hw04 (HOE.out.lt j hj).1))) (bytey_app HAB.out HBM.out) hln12 hnx12 hcx12 (by omega) hlz12 (row_nil ho12); have HB12 := hidMk (HBE.out.grown hg12 HBE.out.size (fun j hj => Nat.le_trans hw04 (HOE.out.lt j hj).1)); clear ho12 hg12 hf12 hlz12 hln12 hnx12 hcx12)
                    | (go_at_call 30; refine HSX.mono ?_; rintro e w13 ⟨rfl, hb13⟩))
                  go_ret
                  exact ⟨rfl, HB12.out.trans (hb13.mono HB12.out.size)⟩
                · have hx3 : (0 : Int) ≤ x := by omega
                  have hx4 : ¬ x < (nA : Int) := by omega
                  go_wp2_with (first
                    | (at_builtin; refine append_at _ rfl _ _ 39 rfl w4.heap.size 5 i0 (.int .u8 0) 1 Tryd.underlying39 hinf hz0 hz1 hz2 rfl _ _ _ rfl HOE.out .u8 _ _ _ zs rfl HNM.out HLM.out (HZM.out _ HBE.out) (by unfold maxLen; omega) (by omega) (by omega) ?_; intro v12 w12 ho12 hg12 hf12; rw [← List.map_append] at ho12; obtain ⟨p12, x12, rfl, hlz12, hln12, hnx12, hcx12⟩ := row_sh2 ho12; have HSX := scans_any p12 (A ++ zs) (nA + lm) x12 w12 (HTB.out _ (HBE.out.grown hg12 HBE.out.size (fun j hj => Nat.le_trans hw04 (HOE.out.lt j hj).1))) (bytey_app HAB.out HBM.out) hln12 hnx12 hcx12 (by omega) hlz12 (row_nil ho12); have HB12 := hidMk (HBE.out.grown hg12 HBE.out.size (fun j hj => Nat.le_trans hw04 (HOE.out.lt j hj).1)); clear ho12 hg12 hf12 hlz12 hln12 hnx12 hcx12)
                    | (go_at_call 30; refine HSX.mono ?_; rintro e w13 ⟨rfl, hb13⟩))
                  go_ret
                  exact ⟨rfl, HB12.out.trans (hb13.mono HB12.out.size)⟩
end Go.Proofs.YtgmbpagbiakciafDoor

namespace Go.Proofs.YtgmbpagbiakciafDoor.recordFramesUpto
open Go.ChangeShapes Go.WideShapes Go.ChangeAt Go.RowKit
set_option linter.unusedVariables false

theorem gTab : Tryd.prog.globalNamed "lantern/record.kinds" = some 0 := by kernel_rfl
theorem gTabType : (Tryd.prog.globals[0]?).map (·.type) = some 118 := by kernel_rfl
theorem cellsTab : Tryd.prog.cellsOf 118 = 13 := by kernel_rfl
theorem cellsParts : Tryd.prog.cellsOf 98 = 1 := by kernel_rfl

/-- What the row's list gives: the table's cells hold its numbers. -/
theorem table {W : World} (h : laidMetH Tryd.prog Rows.recordFramesUptoRow.laid W) : Tab6 W := by
  have h1 : Lib.TabIs Tryd.prog W "lantern/record.kinds" .u16 kiT :=
    Lib.tabIs_of_head (rest := []) gTab gTabType Tryd.underlying118 Tryd.underlying98 cellsParts cellsTab h
  exact fun i hi => h1.cell gTab i hi

/-- A world for the witness: the table holds what its initialiser lays. -/
def laidWorld (P : Program) (os : Os) : World :=
  { World.holding P os ⟨#[], #[], []⟩ with heap := (World.holding P os ⟨#[], #[], []⟩).heap.modify 0 fun
      | .cells _ t frozen => .cells #[.int .u16 0, .int .u16 65, .int .u16 64, .int .u16 623, .int .u16 131, .int .u16 3, .int .u16 635, .int .u16 3, .int .u16 131, .int .u16 3, .int .u16 3, .int .u16 320, .int .u16 107] t frozen
      | o => o }
theorem laid_met (os : Os) : laidMet Tryd.prog Rows.recordFramesUptoRow.laid ((laidWorld Tryd.prog os).forCall (fun _ _ => 0) ⟨#[], #[.slice none 0 0, .int .i64 0, .slice none 0 0], []⟩).memory :=
  laidMet_of_run' 8 (by kernel_rfl) (by kernel_rfl)
theorem reads (os : Os) {H : Type} (enc : TypeId × Value → H) : ∃ places, DataW.whole enc Tryd.prog ((laidWorld Tryd.prog os).forCall (fun _ _ => 0) ⟨#[], #[.slice none 0 0, .int .i64 0, .slice none 0 0], []⟩).memory Tryd.f6.params.toList Rows.recordFramesSpec.vars false (#[.slice none 0 0, .int .i64 0, .slice none 0 0] : Array Value).toList 8 = some ([.nil, .lit (.int .i64 0), .nil], [], places) :=
  ⟨[], by kernel_rfl⟩

set_option maxRecDepth 100000 in
theorem lifted (os : Os) (started : os.Started) (H : Type) (enc : TypeId × Value → H) (F : Stop.Interp) :
    ReturnsInHanded {} Tryd.checked os 6 .any ((Rows.OpenSpec.upto Rows.recordFramesSpec).preRow enc Tryd.prog Tryd.f6 Rows.recordFramesUptoRow.domain false Rows.recordFramesUptoRow.laid) (((Rows.OpenSpec.upto Rows.recordFramesSpec).at F).post enc Tryd.prog Tryd.f6 false true false false) := by
  obtain ⟨places, hx⟩ := reads os enc
  refine returnsInHanded_of_row (C := Tryd.checked) (s := Rows.OpenSpec.upto Rows.recordFramesSpec) own started (by kernel_rfl) Tryd.func6
    (witness_row_at (enc := enc) (C := Tryd.checked) false (laidWorld Tryd.prog os) #[.slice none 0 0, .int .i64 0, .slice none 0 0] rfl (by kernel_rfl) (by kernel_rfl) (by kernel_rfl)
      (OpenSpec.preRow_of_cond 8 hx (by kernel_rfl) (fun k hk => by cases hk; kernel_rfl) (by kernel_rfl) (laid_met os))) ?_
  intro W base args ds gs before hval0 hW _ hk0 hsz0 hL _ _
  have hsz : (DataW.weightsEach Tryd.prog (Tryd.f6.params.toList ++ (Rows.OpenSpec.upto Rows.recordFramesSpec).bare.plain.varTypes Tryd.prog) (ds ++ gs)).all (· ≤ reachBytes) = true := hsz0
  have hval : ∀ (j : Nat) t v, Tryd.f6.params[j]? = some t → args[j]? = some v → Value.okWide Tryd.prog W .any base t v := hval0
  have hW' := hW
  obtain ⟨p, q, hA0, hV, rfl, hfz, hnd⟩ := hW
  have hA : DataW.TrodAll enc Tryd.prog W 0 (fun _ => true) true Tryd.f6.params.toList args.toList ds p := hA0
  rw [Tryd.params6] at hA hval hsz
  obtain ⟨v0, vs0, d0, ds0, p0, q0, hargs, rfl, rfl, h0, r0⟩ := trodAll_cons hA
  obtain ⟨v1, vs1, d1, ds1, p1, q1, rfl, rfl, rfl, h1, r1⟩ := trodAll_cons r0
  obtain ⟨v2, vs2, d2, ds2, p2, q2, rfl, rfl, rfl, h2, r2⟩ := trodAll_cons r1
  obtain ⟨rfl, rfl, rfl⟩ := trodAll_nil r2
  obtain rfl : args = #[v0, v1, v2] := by cases args; simp_all
  obtain ⟨rfl, rfl⟩ := trodVars_none hV
  have hk : Rows.uptoBulkAll [d0, d1, d2] ≤ 1048576 := by have h := of_decide_eq_true (hk0 _ rfl); simpa only [List.append_nil] using h
  simp only [Rows.uptoBulkAll] at hk
  have lt0 : ∀ x ∈ p0, x.block < W.heap.size := by obtain ⟨m, hm⟩ := h0; exact DataW.trod_lt m _ _ _ hm
  obtain ⟨a0, l0, len0, cap0, rfl, el0, en0, ec0, ri0, rb0, nn0, bk0, bd0⟩ := given_recs2 (hval 0 53 v0 rfl rfl) h0 (all_of_mem hsz (DataW.weights_mem_each (j := 0) rfl rfl))
  obtain ⟨n1, rfl, rfl, rfl, w1⟩ := open_int Tryd.underlying3 (hval 1 3 v1 rfl rfl) h1
  have bn1 := bounds_i64 w1
  have lt2 : ∀ x ∈ p2, x.block < W.heap.size := by obtain ⟨m, hm⟩ := h2; exact DataW.trod_lt m _ _ _ hm
  obtain ⟨a2, len2, cap2, rfl⟩ := okWide_slice Tryd.underlying39 (hval 2 39 v2 rfl rfl)
  obtain ⟨z2, el2, ri2, rb2, e2, nn2⟩ := given_ints Tryd.underlying39 Tryd.underlying5 (by kernel_rfl) h2
  have m2 := bulk_ints el2 e2
  clear hA0 hval0
  refine (frames_walk l0 a0 len0 cap0 n1 a2 z2 len2 cap2 W (table hL) el0 en0 (by omega) ri0 rb0 bd0 (by omega) (bytey_of rb2) el2 m2.1 (by omega) ri2 nn2).mono fun e W' ⟨he, bel⟩ => ?_
  subst he
  exact ⟨_, rfl, _, _, _, [], _, [], hW', trodAll_mk1 (shut_bool Tryd.underlying4 _), (trodAll_cons_mk (Below.trod laidOut (by kernel_rfl) (of_decide_eq_true (by kernel_rfl)) h0 bel lt0) (trodAll_cons_mk (shut_int Tryd.underlying3 w1) (trodAll_cons_mk (Below.trod laidOut (by kernel_rfl) (of_decide_eq_true (by kernel_rfl)) h2 bel lt2) trodAll_mk0))), rfl, bel.frame _, fun h => by cases h⟩

theorem plain (f : FuncId) (fn : Func) (hf : Tryd.pinned.checked.prog.funcNamed "lantern/lanternlaw06.RecordFrames" = some f) (hfn : Tryd.pinned.checked.prog.funcs[f]? = some fn) :
    false = Tryd.pinned.checked.prog.looks [] ∧ ∀ (j : Nat) t, fn.params[j]? = some t → Tryd.pinned.checked.prog.wantsStandIn t = false := by
  obtain rfl : f = 6 := Option.some.inj ((show Tryd.prog.funcNamed "lantern/lanternlaw06.RecordFrames" = some 6 by kernel_rfl).symm.trans hf) |>.symm
  obtain rfl : fn = Tryd.f6 := (Option.some.inj (Tryd.func6.symm.trans hfn)).symm
  refine ⟨by kernel_rfl, fun j t ht => ?_⟩
  rw [Tryd.params6] at ht
  have hm : t = 53 ∨ t = 3 ∨ t = 39 := by simpa using Array.mem_of_getElem? ht
  rcases hm with rfl | rfl | rfl
  · exact (show Tryd.prog.wantsStandIn 53 = false by kernel_rfl)
  · exact (show Tryd.prog.wantsStandIn 3 = false by kernel_rfl)
  · exact (show Tryd.prog.wantsStandIn 39 = false by kernel_rfl)

end Go.Proofs.YtgmbpagbiakciafDoor.recordFramesUpto

namespace Go.Proofs.YtgmbpagbiakciafDoor

theorem recordFrames_said : Rows.RecordFramesUptoSaid :=
  OpenClaim.holds_of_cond 6 Tryd.f6 rfl rfl rfl rfl rfl rfl rfl ⟨rfl, rfl, rfl, rfl, rfl⟩ rfl rfl rfl rfl rfl (by kernel_rfl) Tryd.func6 (by kernel_rfl)
    (of_decide_eq_true (by kernel_rfl)) (by unfold Func.isWrapper; first | (rw [if_pos (by decide +kernel)]; kernel_rfl) | (rw [if_neg (by decide +kernel)]; exact ⟨rfl, rfl⟩))
    (fun os started H enc _ F => by rw [OpenClaim.pre_eq_preRow]; exact recordFramesUpto.lifted os started H enc F)

theorem recordFrames_upto : Rows.RecordFramesUptoCardSaid :=
  Claim7.holds_tied_plain_at .later [] _ _ _ _ recordFrames_said (fun _ h => by cases h) (by kernel_rfl) (fun _ h => by cases h) recordFramesUpto_row_tie rfl ⟨rfl, rfl⟩ (by kernel_rfl) rfl recordFramesUpto.plain (by kernel_rfl)
#print axioms recordFrames_upto

end Go.Proofs.YtgmbpagbiakciafDoor
