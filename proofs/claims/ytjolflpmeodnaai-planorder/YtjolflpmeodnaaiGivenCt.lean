import Derived.Test.YtjolflpmeodnaaiRows
import Derived.Test.YtjolflpmeodnaaiPlCt
import Derived.ProofKit
import Derived.OpenShut
import Derived.ShutString
import Derived.ChangeOld
import Derived.SizedLaws
import Derived.Deep.Slices
namespace Go.Proofs.Ytjolflpmeodnaai
open Go.ChangeShapes Go.WideShapes Go.ChangeAt Go.RowKit
set_option linter.unusedVariables false

theorem own : ownKnob Try.prog.godebug = none := by kernel_rfl
theorem laidOut : laidOutB Try.prog = true := by kernel_rfl
theorem pl_bulk_one {H : Type} (d : DataW H) : 1 ≤ Rows.uptoBulk d := by
  cases d with
  | lit l => cases l <;> simp [Rows.uptoBulk]
  | _ => simp [Rows.uptoBulk]
theorem pl_bulk_length {H : Type} : ∀ l : List (DataW H), l.length ≤ Rows.uptoBulkAll l
  | [] => by simp [Rows.uptoBulkAll]
  | x :: r => by have := pl_bulk_one x; have := pl_bulk_length r; simp only [Rows.uptoBulkAll, List.length_cons]; omega

theorem plist_of {α : Type} {n : Nat} {p : Nat → α → Prop} (h : ∀ i, i < n → ∃ x, p i x) : ∃ l : List α, l.length = n ∧ ∀ (i : Nat) x, l[i]? = some x → p i x := by
  induction n with
  | zero => exact ⟨[], rfl, fun i x hx => by simp at hx⟩
  | succ n ih =>
    obtain ⟨l, hl, hp⟩ := ih (fun i hi => h i (by omega))
    obtain ⟨x, hx⟩ := h n (by omega)
    refine ⟨l ++ [x], by simp [hl], fun i y hy => ?_⟩
    rcases Nat.lt_or_ge i n with q | q
    · rw [List.getElem?_append_left (by omega)] at hy; exact hp i y hy
    · rw [List.getElem?_append_right (by omega)] at hy
      have : i - l.length = 0 := by
        rcases Nat.eq_zero_or_pos (i - l.length) with e | e
        · exact e
        · rw [List.getElem?_eq_none (by simp; omega)] at hy; cases hy
      rw [this] at hy
      simp at hy
      subst hy
      obtain rfl : i = n := by omega
      exact hx

variable {H : Type} {enc : TypeId × Value → H} {W : World}

theorem padd_none (g off j : Nat) : (⟨g, off, none⟩ : Addr).add j = ⟨g, off + j, none⟩ := by unfold Addr.add; split <;> simp_all
theorem pcells_int : Try.prog.cellsOf 3 = 1 := by kernel_rfl
theorem pcells_ct : Try.prog.cellsOf 33 = 4 := by kernel_rfl
theorem pbytes_ct : Try.prog.bytesOf 33 = 32 := by kernel_rfl
theorem pget_some {α : Type} {f : Option α} {xs : List α} {i n : Nat} (hl : xs.length = n) (hi : i < n) (h : f = xs[i]?) : ∃ y, f = some y ∧ xs[i]? = some y := by
  rw [List.getElem?_eq_getElem (by omega)] at h
  exact ⟨_, h, List.getElem?_eq_getElem (by omega)⟩

/-- Each number fits. -/
def Fit (x : Int) : Prop := -9223372036854775808 ≤ x ∧ x ≤ 9223372036854775807
theorem fit_of {x : Int} (h : (Lit.int .i64 x).wf = true) : Fit x := by
  have := bounds_i64 h
  exact this

set_option maxRecDepth 100000 in
theorem ct_of {fuel : Nat} {l : List Value} {d : DataW H} {p : List MemPlace} (hsz : l.length = 4) (hf : DataW.trod enc Try.prog W 0 (fun _ => true) true fuel 33 l = some (d, p)) :
    ∃ c : Ct, l = [.int .i64 c.p, .int .i64 c.f, .int .i64 c.t, .int .i64 c.r] ∧ Fit c.p ∧ Fit c.f ∧ Fit c.t ∧ Fit c.r := by
  match l, hsz with
  | [c0, c1, c2, c3], _ =>
    obtain ⟨xs, n, _, hx, _, hlen, hfd⟩ := DataW.trod_struct Try.underlying33 hf
    have hlen4 : xs.length = 4 := by simpa using hlen
    have q0 : DataW.trod enc Try.prog W 0 (fun _ => true) true n 3 (([c0, c1, c2, c3].drop 0).take (Try.prog.cellsOf 3)) = xs[0]? := hfd 0 _ rfl
    have q1 : DataW.trod enc Try.prog W 0 (fun _ => true) true n 3 (([c0, c1, c2, c3].drop 1).take (Try.prog.cellsOf 3)) = xs[1]? := hfd 1 _ rfl
    have q2 : DataW.trod enc Try.prog W 0 (fun _ => true) true n 3 (([c0, c1, c2, c3].drop 2).take (Try.prog.cellsOf 3)) = xs[2]? := hfd 2 _ rfl
    have q3 : DataW.trod enc Try.prog W 0 (fun _ => true) true n 3 (([c0, c1, c2, c3].drop 3).take (Try.prog.cellsOf 3)) = xs[3]? := hfd 3 _ rfl
    rw [pcells_int] at q0 q1 q2 q3
    obtain ⟨y0, e0, _⟩ := pget_some hlen4 (by omega) q0
    obtain ⟨y1, e1, _⟩ := pget_some hlen4 (by omega) q1
    obtain ⟨y2, e2, _⟩ := pget_some hlen4 (by omega) q2
    obtain ⟨y3, e3, _⟩ := pget_some hlen4 (by omega) q3
    obtain ⟨n0, r0, w0⟩ := DataW.trod_int Try.underlying3 e0
    obtain ⟨n1, r1, w1⟩ := DataW.trod_int Try.underlying3 e1
    obtain ⟨n2, r2, w2⟩ := DataW.trod_int Try.underlying3 e2
    obtain ⟨n3, r3, w3⟩ := DataW.trod_int Try.underlying3 e3
    simp at r0 r1 r2 r3
    subst r0 r1 r2 r3
    exact ⟨⟨n0, n1, n2, n3⟩, rfl, bounds_i64 w0.2, bounds_i64 w1.2, bounds_i64 w2.2, bounds_i64 w3.2⟩

set_option maxRecDepth 100000 in
/-- Contacts that came in. -/
theorem given_cts {v : Value} {d : DataW H} {p : List MemPlace} {base : Nat} (hok : Value.okWide Try.prog W .any base 22 v) (h : DataW.Trod enc Try.prog W 0 (fun _ => true) true 22 v d p) :
    ∃ a l n c, v = .slice a n c ∧ List.length l = n ∧ n ≤ c ∧ Cta W a l ∧ (∀ x ∈ l, Fit x.p ∧ Fit x.f ∧ Fit x.t ∧ Fit x.r) ∧ n ≤ 9223372036854775807 ∧ n ≤ Rows.uptoBulk d := by
  obtain ⟨a0, len0, cap0, rfl⟩ := okWide_slice Try.underlying22 hok
  obtain ⟨fuel, hf⟩ := h
  have hf' : DataW.trod enc Try.prog W 0 (fun _ => true) true fuel 22 [.slice a0 len0 cap0] = some (d, p) := hf
  clear hf hok
  rcases Go.Deep.open_slice Try.underlying22 hf' with ⟨hcs, _⟩ | ⟨a, len, cap, m, n, D, Pl, hcs, _, hl, hm, hmm, hx, hel⟩
  · simp at hcs
    obtain ⟨rfl, rfl, rfl⟩ := hcs
    exact ⟨none, [], 0, 0, rfl, rfl, Nat.le_refl _, .inl rfl, fun r hr => (by simp at hr), by omega, Nat.zero_le _⟩
  · simp at hcs
    obtain ⟨rfl, rfl, rfl⟩ := hcs
    simp only [if_true] at hmm
    subst hmm
    simp only [Prod.mk.injEq] at hx
    obtain ⟨xs, hxl, hxs⟩ := plist_of (n := len0) (p := fun i (x : Ct) => (Fit x.p ∧ Fit x.f ∧ Fit x.t ∧ Fit x.r) ∧ ∀ (j : Nat) u, [Value.int .i64 x.p, .int .i64 x.f, .int .i64 x.t, .int .i64 x.r][j]? = some u → W.cell? ((a.add (i * 4)).add j) = some u) (fun i hi => by
      obtain ⟨cs', h1, h2⟩ := hel i (by omega)
      rw [pcells_ct] at h1
      obtain ⟨_, hlen, hcell⟩ := World.cells?_some h1
      obtain ⟨c, rfl, q⟩ := ct_of hlen h2
      refine ⟨c, q, fun j u hj => ?_⟩
      have hj2 : j < 4 := (List.getElem?_eq_some_iff.mp hj).1
      rw [hcell j hj2]
      exact hj)
    subst hxl
    refine ⟨some a, xs, xs.length, m, rfl, rfl, hl, ?_, fun r hr => ?_, by unfold maxLen at hm; omega, ?_⟩
    · by_cases h0 : xs = []
      · exact .inl h0
      · right
        have h1 : 0 < xs.length := List.length_pos_iff.mpr h0
        have hx0 : xs[0]? = some xs[0] := List.getElem?_eq_getElem h1
        have q2 := (hxs 0 _ hx0).2 0 _ rfl
        obtain ⟨g, off, rfl⟩ : ∃ g off, a = ⟨g, off, none⟩ := by
          have q3 := World.cell?_spot q2
          obtain ⟨b, off, spot⟩ := a
          have hs : spot = none := by simpa [Addr.add] using q3
          subst hs
          exact ⟨b, off, rfl⟩
        refine ⟨g, off, rfl, fun i c hi => ?_⟩
        have q3 := (hxs i c hi).2
        have k0 := q3 0 _ rfl
        have k1 := q3 1 _ rfl
        have k2 := q3 2 _ rfl
        have k3 := q3 3 _ rfl
        rw [padd_none, padd_none] at k0 k1 k2 k3
        exact ⟨k0, k1, k2, k3⟩
    · obtain ⟨i, hi⟩ := List.getElem?_of_mem hr
      exact (hxs i r hi).1
    · rw [hx.1]
      have h1 := pl_bulk_length ((List.range xs.length).map D)
      simp only [List.length_map, List.length_range] at h1
      simp only [Rows.uptoBulk]
      omega

theorem pl_all_of_mem {ys : List Nat} {xs : List Nat} (h : xs.all (· ≤ reachBytes) = true) (hm : ∀ n ∈ ys, n ∈ xs) : ys.all (· ≤ reachBytes) = true := by
  rw [List.all_eq_true] at h ⊢
  exact fun n hn => h n (hm n hn)

set_option maxRecDepth 100000 in
/-- Contacts that came in, and the room behind them. -/
theorem given_cts2 {v : Value} {d : DataW H} {p : List MemPlace} {base : Nat} (hok : Value.okWide Try.prog W .any base 22 v) (h : DataW.Trod enc Try.prog W 0 (fun _ => true) true 22 v d p) (hw : (d.weights Try.prog 22).all (· ≤ reachBytes) = true) :
    ∃ a l n c, v = .slice a n c ∧ List.length l = n ∧ n ≤ c ∧ c * 32 ≤ 140737488351232 ∧ Cta W a l ∧ (a = none → n = 0 ∧ c = 0) := by
  obtain ⟨a, l, n, c, rfl, h1, h2, h3, _⟩ := given_cts hok h
  refine ⟨a, l, n, c, rfl, h1, h2, ?_, h3, ?_⟩ <;>
  · obtain ⟨fuel, hf⟩ := h
    have hf' : DataW.trod enc Try.prog W 0 (fun _ => true) true fuel 22 [.slice a n c] = some (d, p) := hf
    rcases Go.Deep.open_slice Try.underlying22 hf' with ⟨hcs, _⟩ | ⟨a', len, cap, m, n', D, Pl, hcs, _, hl, hm, hmm, hx, hel⟩
    · simp at hcs
      obtain ⟨rfl, rfl, rfl⟩ := hcs
      simp
    · simp at hcs
      obtain ⟨rfl, rfl, rfl⟩ := hcs
      simp only [if_true] at hmm
      subst hmm
      simp only [Prod.mk.injEq] at hx
      first
        | (intro h; cases h)
        | (have h1 := sized_slice (ts := [22]) (ds := [d]) (j := 0) (by simpa [DataW.weightsEach] using hw) rfl (by rw [hx.1]; rfl) Try.underlying22
           rw [pbytes_ct] at h1
           simp only [List.length_map, List.length_range, reachBytes] at h1
           have h4 : n + (m - n) = m := by omega
           rw [h4] at h1
           exact h1)

end Go.Proofs.Ytjolflpmeodnaai
