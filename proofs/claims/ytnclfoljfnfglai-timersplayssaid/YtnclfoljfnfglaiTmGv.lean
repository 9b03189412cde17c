import Derived.Test.YtnclfoljfnfglaiRows
import Derived.Test.YtnclfoljfnfglaiTmSm
import Derived.ProofKit
import Derived.OpenShut
import Derived.ShutString
import Derived.ChangeOld
import Derived.ChangeSlices
import Derived.SizedLaws
import Derived.Deep.Slices
namespace Go.Proofs.Ytnclfoljfnfglai
open Go.ChangeShapes Go.WideShapes Go.ChangeAt Go.RowKit
set_option linter.unusedVariables false

theorem own : ownKnob Try.prog.godebug = none := by kernel_rfl
theorem laidOut : laidOutB Try.prog = true := by kernel_rfl
theorem plist_of {α : Type} {n : Nat} {p : Nat → α → Prop} (h : ∀ i, i < n → ∃ x, p i x) : ∃ l : List α, l.length = n ∧ ∀ (i : Nat) x, l[i]? = some x → p i x := by
  induction n with
  | zero => exact ⟨[], rfl, fun i x hx => by simp at hx⟩
  | succ n ih =>
    obtain ⟨l, hl, hp⟩ := ih (fun i hi => h i (by omega))
    obtain ⟨x, hx⟩ := h n (by omega)
    refine ⟨l ++ [x], by simp [hl], fun i y hy => ?_⟩
    rcases Nat.lt_or_ge i n with q | q
    · rw [List.getElem?_append_left (by omega)] at hy; exact hp i y hy
    · rw [List.getElem?_append_right (by omega)] at hy
      have : i - l.length = 0 := by
        rcases Nat.eq_zero_or_pos (i - l.length) with e | e
        · exact e
        · rw [List.getElem?_eq_none (by simp; omega)] at hy; cases hy
      rw [this] at hy
      simp at hy
      subst hy
      obtain rfl : i = n := by omega
      exact hx

variable {H : Type} {enc : TypeId × Value → H} {W : World}

theorem padd_none (g off j : Nat) : (⟨g, off, none⟩ : Addr).add j = ⟨g, off + j, none⟩ := by unfold Addr.add; split <;> simp_all
theorem pcells_st : Try.prog.cellsOf 63 = 6 := by kernel_rfl
theorem pget_some {α : Type} {f : Option α} {xs : List α} {i n : Nat} (hl : xs.length = n) (hi : i < n) (h : f = xs[i]?) : ∃ y, f = some y ∧ xs[i]? = some y := by
  rw [List.getElem?_eq_getElem (by omega)] at h
  exact ⟨_, h, List.getElem?_eq_getElem (by omega)⟩

set_option maxRecDepth 100000 in
theorem ses_of {fuel : Nat} {c0 c1 : Value} {d : DataW H} {p : List MemPlace} (hf : DataW.trod enc Try.prog W 0 (fun _ => true) true fuel 49 [c0, c1] = some (d, p)) :
    ∃ a b : Int, c0 = .int .i64 a ∧ c1 = .int .i64 b ∧ kI a = true ∧ kI b = true := by
  obtain ⟨xs, n, _, hx, _, hlen, hfd⟩ := DataW.trod_struct Try.underlying49 hf
  have hlen2 : xs.length = 2 := by simpa using hlen
  have q0 : DataW.trod enc Try.prog W 0 (fun _ => true) true n 3 (([c0, c1].drop 0).take (Try.prog.cellsOf 3)) = xs[0]? := hfd 0 _ rfl
  have q1 : DataW.trod enc Try.prog W 0 (fun _ => true) true n 3 (([c0, c1].drop 1).take (Try.prog.cellsOf 3)) = xs[1]? := hfd 1 _ rfl
  rw [cells3] at q0 q1
  obtain ⟨y0, e0, _⟩ := pget_some hlen2 (by omega) q0
  obtain ⟨y1, e1, _⟩ := pget_some hlen2 (by omega) q1
  obtain ⟨n0, r0, w0⟩ := DataW.trod_int Try.underlying3 e0
  obtain ⟨n1, r1, w1⟩ := DataW.trod_int Try.underlying3 e1
  simp at r0 r1
  subst r0 r1
  exact ⟨n0, n1, rfl, rfl, w0.2, w1.2⟩
set_option maxRecDepth 100000 in
theorem keyt_of {fuel : Nat} {c0 c1 c2 c3 c4 : Value} {d : DataW H} {p : List MemPlace} (hf : DataW.trod enc Try.prog W 0 (fun _ => true) true fuel 51 [c0, c1, c2, c3, c4] = some (d, p)) :
    ∃ k : Kx, [c0, c1, c2, c3, c4] = kV k ∧ kW k := by
  obtain ⟨xs, n, _, hx, _, hlen, hfd⟩ := DataW.trod_struct Try.underlying51 hf
  have hlen4 : xs.length = 4 := by simpa using hlen
  have q0 : DataW.trod enc Try.prog W 0 (fun _ => true) true n 3 (([c0, c1, c2, c3, c4].drop 0).take (Try.prog.cellsOf 3)) = xs[0]? := hfd 0 _ rfl
  have q1 : DataW.trod enc Try.prog W 0 (fun _ => true) true n 49 (([c0, c1, c2, c3, c4].drop 1).take (Try.prog.cellsOf 49)) = xs[1]? := hfd 1 _ rfl
  have q2 : DataW.trod enc Try.prog W 0 (fun _ => true) true n 3 (([c0, c1, c2, c3, c4].drop 3).take (Try.prog.cellsOf 3)) = xs[2]? := hfd 2 _ rfl
  have q3 : DataW.trod enc Try.prog W 0 (fun _ => true) true n 3 (([c0, c1, c2, c3, c4].drop 4).take (Try.prog.cellsOf 3)) = xs[3]? := hfd 3 _ rfl
  rw [cells3] at q0 q2 q3
  rw [cells49] at q1
  obtain ⟨y0, e0, _⟩ := pget_some hlen4 (by omega) q0
  obtain ⟨⟨y1, z1⟩, e1, _⟩ := pget_some hlen4 (by omega) q1
  obtain ⟨y2, e2, _⟩ := pget_some hlen4 (by omega) q2
  obtain ⟨y3, e3, _⟩ := pget_some hlen4 (by omega) q3
  obtain ⟨n0, r0, w0⟩ := DataW.trod_int Try.underlying3 e0
  obtain ⟨n1, n2, rfl, rfl, w1, w2⟩ := ses_of e1
  obtain ⟨n3, r3, w3⟩ := DataW.trod_int Try.underlying3 e2
  obtain ⟨n4, r4, w4⟩ := DataW.trod_int Try.underlying3 e3
  simp at r0 r3 r4
  subst r0 r3 r4
  exact ⟨(n0, n1, n2, n3, n4), rfl, w0.2, w1, w2, w3.2, w4.2⟩
set_option maxRecDepth 100000 in
theorem st_of {fuel : Nat} {l : List Value} {d : DataW H} {p : List MemPlace} (hsz : l.length = 6) (hf : DataW.trod enc Try.prog W 0 (fun _ => true) true fuel 63 l = some (d, p)) :
    ∃ x : Kx × Int, l = kV x.1 ++ [.int .i64 x.2] ∧ kW x.1 ∧ kI x.2 = true := by
  match l, hsz with
  | [c0, c1, c2, c3, c4, c5], _ =>
    obtain ⟨xs, n, _, hx, _, hlen, hfd⟩ := DataW.trod_struct Try.underlying63 hf
    have hlen2 : xs.length = 2 := by simpa using hlen
    have q0 : DataW.trod enc Try.prog W 0 (fun _ => true) true n 51 (([c0, c1, c2, c3, c4, c5].drop 0).take (Try.prog.cellsOf 51)) = xs[0]? := hfd 0 _ rfl
    have q1 : DataW.trod enc Try.prog W 0 (fun _ => true) true n 3 (([c0, c1, c2, c3, c4, c5].drop 5).take (Try.prog.cellsOf 3)) = xs[1]? := hfd 1 _ rfl
    rw [cells51] at q0
    rw [cells3] at q1
    obtain ⟨⟨y0, z0⟩, e0, _⟩ := pget_some hlen2 (by omega) q0
    obtain ⟨y1, e1, _⟩ := pget_some hlen2 (by omega) q1
    obtain ⟨k, ek, hk⟩ := keyt_of e0
    obtain ⟨n1, r1, w1⟩ := DataW.trod_int Try.underlying3 e1
    simp at r1
    subst r1
    exact ⟨(k, n1), by rw [← ek]; rfl, hk, w1.2⟩

set_option maxRecDepth 100000 in
/-- What is to be started, as it came in. -/
theorem given_sts {v : Value} {d : DataW H} {p : List MemPlace} {base : Nat} (hok : Value.okWide Try.prog W .any base 56 v) (h : DataW.Trod enc Try.prog W 0 (fun _ => true) true 56 v d p) :
    ∃ a l n c, v = .slice a n c ∧ List.length l = n ∧ Sta W a l ∧ (∀ x ∈ l, kW x.1 ∧ kI x.2 = true) ∧ n ≤ 9223372036854775807 := by
  obtain ⟨a0, len0, cap0, rfl⟩ := okWide_slice Try.underlying56 hok
  obtain ⟨fuel, hf⟩ := h
  have hf' : DataW.trod enc Try.prog W 0 (fun _ => true) true fuel 56 [.slice a0 len0 cap0] = some (d, p) := hf
  clear hf hok
  rcases Go.Deep.open_slice Try.underlying56 hf' with ⟨hcs, _⟩ | ⟨a, len, cap, m, n, D, Pl, hcs, _, hl, hm, hmm, hx, hel⟩
  · simp at hcs
    obtain ⟨rfl, rfl, rfl⟩ := hcs
    exact ⟨none, [], 0, 0, rfl, rfl, .inl rfl, fun r hr => (by simp at hr), by omega⟩
  · simp at hcs
    obtain ⟨rfl, rfl, rfl⟩ := hcs
    simp only [if_true] at hmm
    subst hmm
    simp only [Prod.mk.injEq] at hx
    obtain ⟨xs, hxl, hxs⟩ := plist_of (n := len0) (p := fun i (x : Kx × Int) => (kW x.1 ∧ kI x.2 = true) ∧ ∀ (j : Nat) u, (kV x.1 ++ [Value.int .i64 x.2])[j]? = some u → W.cell? ((a.add (i * 6)).add j) = some u) (fun i hi => by
      obtain ⟨cs', h1, h2⟩ := hel i (by omega)
      rw [pcells_st] at h1
      obtain ⟨_, hlen, hcell⟩ := World.cells?_some h1
      obtain ⟨c, rfl, q⟩ := st_of hlen h2
      refine ⟨c, q, fun j u hj => ?_⟩
      have hj2 : j < 6 := by have := (List.getElem?_eq_some_iff.mp hj).1; simpa [kV] using this
      rw [hcell j hj2]
      exact hj)
    subst hxl
    refine ⟨some a, xs, xs.length, m, rfl, rfl, ?_, fun r hr => ?_, by unfold maxLen at hm; omega⟩
    · by_cases h0 : xs = []
      · exact .inl h0
      · right
        have h1 : 0 < xs.length := List.length_pos_iff.mpr h0
        have hx0 : xs[0]? = some xs[0] := List.getElem?_eq_getElem h1
        have q2 := (hxs 0 _ hx0).2 0 _ rfl
        obtain ⟨g, off, rfl⟩ : ∃ g off, a = ⟨g, off, none⟩ := by
          have q3 := World.cell?_spot q2
          obtain ⟨b, off, spot⟩ := a
          have hs : spot = none := by simpa [Addr.add] using q3
          subst hs
          exact ⟨b, off, rfl⟩
        refine ⟨g, off, rfl, fun i c hi => ?_⟩
        have q3 := (hxs i c hi).2
        have k0 := q3 0 _ rfl
        have k1 := q3 1 _ rfl
        have k2 := q3 2 _ rfl
        have k3 := q3 3 _ rfl
        have k4 := q3 4 _ rfl
        have k5 := q3 5 _ rfl
        rw [padd_none, padd_none] at k0 k1 k2 k3 k4 k5
        exact ⟨k0, k1, k2, k3, k4, k5⟩
    · obtain ⟨i, hi⟩ := List.getElem?_of_mem hr
      exact (hxs i r hi).1

theorem pl_all_of_mem {ys : List Nat} {xs : List Nat} (h : xs.all (· ≤ reachBytes) = true) (hm : ∀ n ∈ ys, n ∈ xs) : ys.all (· ≤ reachBytes) = true := by
  rw [List.all_eq_true] at h ⊢
  exact fun n hn => h n (hm n hn)

end Go.Proofs.Ytnclfoljfnfglai
