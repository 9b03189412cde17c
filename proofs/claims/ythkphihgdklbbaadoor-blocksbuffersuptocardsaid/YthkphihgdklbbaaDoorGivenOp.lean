import Derived.Test.YthkphihgdklbbaaDoorGivenC
import Derived.Test.YthkphihgdklbbaaDoorGiven
import Derived.Test.YthkphihgdklbbaaDoorBrSt1
import Derived.Deep.SlicePairs
import Derived.Deep.Slices
import Derived.Test.YthkphihgdklbbaaDoorBrRg
namespace Go.Proofs.YthkphihgdklbbaaDoor.QO
open Go.ChangeShapes Go.WideShapes Go.ChangeAt Go.RowKit
set_option linter.unusedVariables false

/-- A step: its kind, which buffer, a place, bytes, a span. -/
structure Ox where
  kd : Int
  k : Bool
  at' : Int
  zs : List Int
  f : Int
  t : Int
/-- A step that lies at a place, its bytes where they came from. -/
def Oat (W : World) (g o : Nat) (x : Ox) : Prop := ∃ ad nd cd, (∀ (j : Nat) u, (C.opC x.kd x.k x.at' ad nd cd x.f x.t)[j]? = some u → W.cell? ⟨g, o + j, none⟩ = some u) ∧ x.zs.length = nd ∧ nd ≤ 140737488351232 ∧ Bytey x.zs ∧ Lies .u8 W ad x.zs
def Ol (W : World) (a : Option Addr) (l : List Ox) : Prop := l = [] ∨ ∃ g off, a = some ⟨g, off, none⟩ ∧ ∀ (i : Nat) (x : Ox), l[i]? = some x → Oat W g (off + i * 6) x

theorem olist_of {α : Type} {n : Nat} {p : Nat → α → Prop} (h : ∀ i, i < n → ∃ x, p i x) : ∃ l : List α, l.length = n ∧ ∀ (i : Nat) x, l[i]? = some x → p i x := by
  induction n with
  | zero => exact ⟨[], rfl, fun i x hx => by simp at hx⟩
  | succ n ih =>
    obtain ⟨l, hl, hp⟩ := ih (fun i hi => h i (by omega))
    obtain ⟨x, hx⟩ := h n (by omega)
    refine ⟨l ++ [x], by simp [hl], fun i y hy => ?_⟩
    rcases Nat.lt_or_ge i n with q | q
    · rw [List.getElem?_append_left (by omega)] at hy; exact hp i y hy
    · rw [List.getElem?_append_right (by omega)] at hy
      have : i - l.length = 0 := by
        rcases Nat.eq_zero_or_pos (i - l.length) with e | e
        · exact e
        · rw [List.getElem?_eq_none (by simp; omega)] at hy; cases hy
      rw [this] at hy
      simp at hy
      subst hy
      obtain rfl : i = n := by omega
      exact hx
variable {H : Type} {enc : TypeId × Value → H} {W : World}
theorem oadd_none (g off j : Nat) : (⟨g, off, none⟩ : Addr).add j = ⟨g, off + j, none⟩ := by unfold Addr.add; split <;> simp_all
theorem cells_int : Tryd.prog.cellsOf 3 = 1 := by kernel_rfl
theorem cells_bool : Tryd.prog.cellsOf 4 = 1 := by kernel_rfl
theorem cells_byt : Tryd.prog.cellsOf 36 = 1 := by kernel_rfl
theorem cells_span : Tryd.prog.cellsOf 38 = 2 := by kernel_rfl
theorem cells_op : Tryd.prog.cellsOf 40 = 6 := by kernel_rfl
theorem bytes_op : Tryd.prog.bytesOf 40 = 64 := by kernel_rfl
theorem oget_of {α : Type} {f : Option α} {xs : List α} {i n : Nat} (hl : xs.length = n) (hi : i < n) (h : f = xs[i]?) : ∃ y, f = some y ∧ xs[i]? = some y := ⟨_, h.trans (List.getElem?_eq_getElem (by omega)), List.getElem?_eq_getElem (by omega)⟩
theorem oall {ys xs : List Nat} (h : xs.all (· ≤ reachBytes) = true) (hm : ∀ n ∈ ys, n ∈ xs) : ys.all (· ≤ reachBytes) = true := by
  rw [List.all_eq_true] at h ⊢
  exact fun n hn => h n (hm n hn)
theorem owAll_mem {P : Program} {e : TypeId} : ∀ {l : List (DataW H)} {d : DataW H}, d ∈ l → ∀ n ∈ d.weights P e, n ∈ DataW.weightsAll P e l
  | x :: l, d, hd, n, hn => by
    simp only [DataW.weightsAll, List.mem_append]
    rcases List.mem_cons.mp hd with rfl | h
    · exact .inl hn
    · exact .inr (owAll_mem h n hn)

set_option maxRecDepth 100000 in
theorem op_of {fuel : Nat} {l : List Value} {d : DataW H} {p : List MemPlace} (hsz : l.length = 6) (hf : DataW.trod enc Tryd.prog W 0 (fun _ => true) true fuel 40 l = some (d, p)) (hw : (d.weights Tryd.prog 40).all (· ≤ reachBytes) = true) :
    ∃ (x : Ox) (ad : Option Addr) (nd cd : Nat), l = (C.opC x.kd x.k x.at' ad nd cd x.f x.t).toList ∧ x.zs.length = nd ∧ nd ≤ 140737488351232 ∧ Bytey x.zs ∧ Lies .u8 W ad x.zs := by
  match l, hsz with
  | [c0, c1, c2, c3, c4, c5], _ =>
    obtain ⟨xs, n, _, hx, _, hlen, hfd⟩ := DataW.trod_struct Tryd.underlying40 hf
    have hl : xs.length = 5 := by simpa using hlen
    have q0 : DataW.trod enc Tryd.prog W 0 (fun _ => true) true n 3 (([c0, c1, c2, c3, c4, c5].drop 0).take (Tryd.prog.cellsOf 3)) = xs[0]? := hfd 0 _ rfl
    have q1 : DataW.trod enc Tryd.prog W 0 (fun _ => true) true n 4 (([c0, c1, c2, c3, c4, c5].drop 1).take (Tryd.prog.cellsOf 4)) = xs[1]? := hfd 1 _ rfl
    have q2 : DataW.trod enc Tryd.prog W 0 (fun _ => true) true n 3 (([c0, c1, c2, c3, c4, c5].drop 2).take (Tryd.prog.cellsOf 3)) = xs[2]? := hfd 2 _ rfl
    have q3 : DataW.trod enc Tryd.prog W 0 (fun _ => true) true n 36 (([c0, c1, c2, c3, c4, c5].drop 3).take (Tryd.prog.cellsOf 36)) = xs[3]? := hfd 3 _ rfl
    have q4 : DataW.trod enc Tryd.prog W 0 (fun _ => true) true n 38 (([c0, c1, c2, c3, c4, c5].drop 4).take (Tryd.prog.cellsOf 38)) = xs[4]? := hfd 4 _ rfl
    rw [cells_int] at q0 q2
    rw [cells_bool] at q1
    rw [cells_byt] at q3
    rw [cells_span] at q4
    have hd : d = .agg (xs.map (·.1)) := congrArg Prod.fst hx
    obtain ⟨y0, e0, _⟩ := oget_of hl (by omega) q0
    obtain ⟨y1, e1, _⟩ := oget_of hl (by omega) q1
    obtain ⟨y2, e2, _⟩ := oget_of hl (by omega) q2
    obtain ⟨y3, e3', hy3⟩ := oget_of hl (by omega) q3
    obtain ⟨y4, e4', _⟩ := oget_of hl (by omega) q4
    have e3 : DataW.trod enc Tryd.prog W 0 (fun _ => true) true n 36 [c3] = some y3 := e3'
    have e4 : DataW.trod enc Tryd.prog W 0 (fun _ => true) true n 38 [c4, c5] = some y4 := e4'
    have hwe : (DataW.weightsEach Tryd.prog [3, 4, 3, 36, 38] (xs.map (·.1))).all (· ≤ reachBytes) = true := by
      rw [hd] at hw
      simp only [DataW.weights, Tryd.underlying40] at hw
      exact hw
    have hw3 : (y3.1.weights Tryd.prog 36).all (· ≤ reachBytes) = true := oall hwe (DataW.weights_mem_each (j := 3) rfl (by rw [List.getElem?_map, hy3]; rfl))
    obtain ⟨n0, r0, _⟩ := DataW.trod_int Tryd.underlying3 e0
    obtain ⟨b1, r1, _⟩ := DataW.trod_bool Tryd.underlying4 e1
    obtain ⟨n2, r2, _⟩ := DataW.trod_int Tryd.underlying3 e2
    obtain ⟨z0, z1, k, _, _, s0, s1⟩ := trod_struct2 Tryd.underlying38 e4
    simp only [cells_int] at s0 s1
    obtain ⟨n4, r4, _⟩ := DataW.trod_int Tryd.underlying3 s0
    obtain ⟨n5, r5, _⟩ := DataW.trod_int Tryd.underlying3 s1
    simp at r0 r1 r2 r4 r5
    subst r0 r1 r2 r4 r5
    have hv : ∃ a len cap, c3 = .slice a len cap := by
      rcases open_ints Tryd.underlying36 Tryd.underlying5 (by kernel_rfl) e3 with ⟨hcs, _⟩ | ⟨x, l, c, zs, hcs, _⟩
      · simp at hcs; exact ⟨_, _, _, hcs⟩
      · simp at hcs; exact ⟨_, _, _, hcs⟩
    obtain ⟨a, len, cap, rfl⟩ := hv
    obtain ⟨zs, l, c, bb, e, nn⟩ := given_ints Tryd.underlying36 Tryd.underlying5 (by kernel_rfl) (d := y3.1) (p := y3.2) ⟨n, e3⟩
    have m := reach_bytes (ts := [36]) (ds := [y3.1]) (j := 0) (by simpa [DataW.weightsEach] using hw3) rfl rfl l e
    exact ⟨⟨n0, b1, n2, zs, n4, n5⟩, a, len, cap, rfl, l, by omega, bytey_of bb, c⟩

set_option maxRecDepth 100000 in
/-- A script, as it came in. -/
theorem given_ops {v : Value} {d : DataW H} {p : List MemPlace} {base : Nat} (hok : Value.okWide Tryd.prog W .any base 22 v) (h : DataW.Trod enc Tryd.prog W 0 (fun _ => true) true 22 v d p) (hw : (d.weights Tryd.prog 22).all (· ≤ reachBytes) = true) :
    ∃ a l n c, v = .slice a n c ∧ List.length l = n ∧ Ol W a l ∧ n ≤ Rows.uptoBulk d := by
  obtain ⟨a0, len0, cap0, rfl⟩ := okWide_slice Tryd.underlying22 hok
  obtain ⟨fuel, hf⟩ := h
  have hf' : DataW.trod enc Tryd.prog W 0 (fun _ => true) true fuel 22 [.slice a0 len0 cap0] = some (d, p) := hf
  clear hf hok
  rcases Go.Deep.open_slice Tryd.underlying22 hf' with ⟨hcs, _⟩ | ⟨a, len, cap, m, n, D, Pl, hcs, _, hl, hm, hmm, hx, hel⟩
  · simp at hcs
    obtain ⟨rfl, rfl, rfl⟩ := hcs
    exact ⟨none, [], 0, 0, rfl, rfl, .inl rfl, Nat.zero_le _⟩
  · simp at hcs
    obtain ⟨rfl, rfl, rfl⟩ := hcs
    simp only [if_true] at hmm
    subst hmm
    simp only [Prod.mk.injEq] at hx
    have hwm : ∀ i, i < len0 → ((D i).weights Tryd.prog 40).all (· ≤ reachBytes) = true := fun i hi => by
      refine oall hw (fun n hn => ?_)
      rw [hx.1]
      simp only [DataW.weights, Tryd.underlying22, List.mem_cons, List.mem_append]
      exact .inr (.inl (owAll_mem (List.mem_map.mpr ⟨i, List.mem_range.mpr hi, rfl⟩) n hn))
    obtain ⟨xs, hxl, hxs⟩ := olist_of (n := len0) (p := fun i (x : Ox) => ∃ ad nd cd, (∀ (j : Nat) u, (C.opC x.kd x.k x.at' ad nd cd x.f x.t)[j]? = some u → W.cell? ((a.add (i * 6)).add j) = some u) ∧ x.zs.length = nd ∧ nd ≤ 140737488351232 ∧ Bytey x.zs ∧ Lies .u8 W ad x.zs) (fun i hi => by
      obtain ⟨cs', h1, h2⟩ := hel i (by omega)
      rw [cells_op] at h1
      obtain ⟨_, hlen, hcell⟩ := World.cells?_some h1
      obtain ⟨x, ad, nd, cd, rfl, q⟩ := op_of hlen h2 (hwm i hi)
      refine ⟨x, ad, nd, cd, fun j u hj => ?_, q⟩
      have hj2 : j < 6 := (Array.getElem?_eq_some_iff.mp hj).1
      rw [hcell j hj2, Array.getElem?_toList]
      exact hj)
    subst hxl
    refine ⟨some a, xs, xs.length, m, rfl, rfl, ?_, ?_⟩
    · by_cases h0 : xs = []
      · exact .inl h0
      · right
        have h1 : 0 < xs.length := List.length_pos_iff.mpr h0
        have hx0 : xs[0]? = some xs[0] := List.getElem?_eq_getElem h1
        obtain ⟨ad, nd, cd, q1, _⟩ := hxs 0 _ hx0
        have q2 := q1 0 _ rfl
        obtain ⟨g, off, rfl⟩ : ∃ g off, a = ⟨g, off, none⟩ := by
          have q3 := World.cell?_spot q2
          obtain ⟨b, off, spot⟩ := a
          have hs : spot = none := by simpa [Addr.add] using q3
          subst hs
          exact ⟨b, off, rfl⟩
        refine ⟨g, off, rfl, fun i x hi => ?_⟩
        obtain ⟨ad, nd, cd, q3, q4⟩ := hxs i x hi
        refine ⟨ad, nd, cd, fun j u hj => ?_, q4⟩
        have := q3 j u hj
        rw [oadd_none, oadd_none] at this
        exact this
    · rw [hx.1]
      have h1 := bulk_length ((List.range xs.length).map D)
      simp only [List.length_map, List.length_range] at h1
      simp only [Rows.uptoBulk]
      omega

end Go.Proofs.YthkphihgdklbbaaDoor.QO

namespace Go.Proofs.YthkphihgdklbbaaDoor.C
open Go.RowKit Go.Shelf
set_option linter.unusedVariables false
set_option linter.unusedSimpArgs false

theorem step_any (base q n : Nat) (kd : Int) (k : Bool) (at' : Int) (ad : Option Addr) (nd cd : Nat) (f t : Int) (w : World) (h : Ws4 base w q n) (hnn : n ≤ 274877906944) (zs : List Int) (hnd : zs.length = nd) (hmx : nd ≤ 140737488355328) (hzb : Bytey zs) (hz : ∀ V, Below base w V → Lies .u8 V ad zs) (hlo : zs ≠ [] → ∀ b off, ad = some ⟨b, off, none⟩ → b < base) :
    Calls Tryd.prog 7 #[.pointer (some ⟨q, 0, none⟩), .agg (opC kd k at' ad nd cd f t)] w fun e w' => e = .returned (.bool true) ∧ Ws4 base w' q (n + 1) ∧ Below base w w' := by
  by_cases h1 : kd = 1
  · exact step_put base q n kd k at' ad nd cd f t w h h1 zs hnd hmx hzb hz hlo
  by_cases h2 : kd = 2
  · exact step_look base q n kd k at' ad nd cd f t w h h2 zs hnd hmx hzb hz hlo
  by_cases h3 : kd = 3
  · exact step_have base q n kd k at' ad nd cd f t w h h3 hnn
  by_cases h4 : kd = 4
  · exact step_held base q n kd k at' ad nd cd f t w h h4
  by_cases h5 : kd = 5
  · exact step_read base q n kd k at' ad nd cd f t w h h5 hnn
  by_cases h6 : kd = 6
  · exact step_drop base q n kd k at' ad nd cd f t w h h6
  by_cases h7 : kd = 7
  · exact step_new base q n kd k at' ad nd cd f t w h h7
  exact step_none base q n kd k at' ad nd cd f t w h ⟨h1, h2, h3, h4, h5, h6, h7⟩

/-- Two new pairs of buffers: the law's world at its beginning. -/
theorem ws4_start {base q : Nat} {w2 w3 w4 : World} {x1 y1 : Nat} (hb : base ≤ q) (hs : w2.heap.size = q + 1)
    (h1 : ∃ M, w3.heap[q]? = some (.cells (mkC false (.pointer none) (.pointer none) (.pointer none) (.pointer none) (.slice none 0 0) (.slice none 0 0) (.slice none 0 0) (.slice none 0 0) x1 y1) 33 (0, 0)) ∧ Bu w3 x1 (fun g => w2.heap.size ≤ g ∧ g < M) bf0 ∧ Rf w3 y1 (fun g => M ≤ g ∧ g < w3.heap.size) [] false ∧ w2.heap.size ≤ M ∧ Kf (fun g => g = q) w2 w3)
    (h2 : MkP4 q true (.pointer (some ⟨x1, 0, none⟩)) (.pointer none) (.pointer (some ⟨y1, 0, none⟩)) (.pointer none) (.slice none 0 0) (.slice none 0 0) (.slice none 0 0) (.slice none 0 0) w3 w4) :
    Ws4 base w4 q 0 ∧ Below base w2 w4 := by
  obtain ⟨M1, m1, m2, m3, m4, m5⟩ := h1
  obtain ⟨x2, y2, M2, n1, n2, n3, n4, n5⟩ := h2
  have s3 := m5.size
  have s4 := n5.size
  obtain ⟨o, ho⟩ : ∃ o : Nat → Nat, o = fun g => if g < q then 0 else if g = q then 1 else if g < M1 then 10 else if g < w3.heap.size then 12 else if g < M2 then 11 else 13 := ⟨_, rfl⟩
  have hM1 : M1 ≤ w3.heap.size ∨ w3.heap.size < M1 := by omega
  have o0 : ∀ g, g < q → o g = 0 := fun g hg => by rw [ho]; exact if_pos hg
  have o1 : o q = 1 := by rw [ho]; show (if _ then _ else _) = _; rw [if_neg (by omega), if_pos rfl]
  have o10 : ∀ g, w2.heap.size ≤ g → g < M1 → o g = 10 := fun g p1 p2 => by rw [ho]; show (if _ then _ else _) = _; rw [if_neg (by omega), if_neg (by omega), if_pos p2]
  have o12 : ∀ g, M1 ≤ g → g < w3.heap.size → o g = 12 := fun g p1 p2 => by rw [ho]; show (if _ then _ else _) = _; rw [if_neg (by omega), if_neg (by omega), if_neg (by omega), if_pos p2]
  have keepB : Bu w4 x1 (fun g => o g = 10) bf0 := by
    have h := m2.cut
    refine (h.same (fun k e hl => n5.same k hl (fun e2 => ?_))).mono (fun g hg => o10 g hg.1.1 hg.1.2)
    have h7 : w2.heap.size ≤ k := e.1.1
    have h6 : k = q := e2
    omega
  have keepR : Rf w4 y1 (fun g => o g = 12) [] false := by
    have h := m3.cut
    refine (h.same (fun k e hl => n5.same k hl (fun e2 => ?_))).mono (fun g hg => o12 g hg.1.1 hg.1.2)
    have h7 : M1 ≤ k := e.1.1
    have h6 : k = q := e2
    omega
  have hM : M1 ≤ w3.heap.size := by
    rcases hM1 with h | h
    · exact h
    · exfalso
      have h8 : M1 ≤ y1 ∧ y1 < w3.heap.size := m3.self
      omega
  have o11 : ∀ g, w3.heap.size ≤ g → g < M2 → o g = 11 := fun g p1 p2 => by rw [ho]; show (if _ then _ else _) = _; rw [if_neg (by omega), if_neg (by omega), if_neg (by omega), if_neg (by omega), if_pos p2]
  have o13 : ∀ g, w3.heap.size ≤ g → M2 ≤ g → o g = 13 := fun g p1 p2 => by rw [ho]; show (if _ then _ else _) = _; rw [if_neg (by omega), if_neg (by omega), if_neg (by omega), if_neg (by omega), if_neg (by omega)]
  refine ⟨⟨o, fun k => if k = true then x2 else x1, fun k => if k = true then y2 else y1, fun _ => bf0, fun _ => [], .slice none 0 0, .slice none 0 0, .slice none 0 0, .slice none 0 0, [], [], [], [], fun _ => [], fun _ => [], ⟨⟨?_, o1⟩, ⟨fun k => ?_, fun k => ?_, fun k => relB0⟩, ⟨World.ownsRow_nil _ _ _ _, fun g hg => (by cases hg), World.ownsRow_nil _ _ _ _, fun g hg => (by cases hg), World.ownsRow_nil _ _ _ _, fun g hg => (by cases hg), World.ownsRow_nil _ _ _ _, fun g hg => (by cases hg), fun j v hv => (by simp at hv), fun j v g hv => (by simp at hv), fun j v hv => (by simp at hv), fun j v hv => (by simp at hv), fun j v g hv => (by simp at hv), fun j v hv => (by simp at hv), fun j v g hv => (by simp at hv)⟩⟩, rfl, rfl, Nat.zero_le _, Nat.zero_le _, fun j => Nat.zero_le _, fun j => Nat.zero_le _, fun g hg => o0 g (by omega), by omega⟩, (m5.bel (by omega) (fun k (e : k = q) => by omega)).trans (n5.bel (by omega) (fun k (e : k = q) => by omega))⟩
  · rw [n1]; rfl
  · cases k
    · exact keepB
    · exact n2.mono (fun g hg => o11 g hg.1 hg.2)
  · cases k
    · exact keepR
    · exact n3.mono (fun g hg => o13 g (by omega) hg.1)

/-- A step of the script lies there still, and its bytes. -/
theorem oat_later {W V : World} {g o : Nat} {x : QO.Ox} (h : QO.Oat W g o x) (hb : Below W.heap.size W V) :
    ∃ ad nd cd, ((V.cell? ⟨g, o + 0, none⟩ = some (.int .i64 x.kd) ∧ V.cell? ⟨g, o + 1, none⟩ = some (.bool x.k) ∧ V.cell? ⟨g, o + 2, none⟩ = some (.int .i64 x.at') ∧ V.cell? ⟨g, o + 3, none⟩ = some (.slice ad nd cd) ∧ V.cell? ⟨g, o + 4, none⟩ = some (.int .i64 x.f) ∧ V.cell? ⟨g, o + 5, none⟩ = some (.int .i64 x.t)) ∧
      x.zs.length = nd ∧ nd ≤ 140737488355328 ∧ Bytey x.zs ∧ (∀ U, Below W.heap.size V U → Lies .u8 U ad x.zs) ∧ (x.zs ≠ [] → ∀ b off, ad = some ⟨b, off, none⟩ → b < W.heap.size)) := by
  obtain ⟨ad, nd, cd, h1, h2, h3, h4, h5⟩ := h
  have hc : ∀ (j : Nat) u, (opC x.kd x.k x.at' ad nd cd x.f x.t)[j]? = some u → V.cell? ⟨g, o + j, none⟩ = some u := fun j u hj => by
    have h := h1 j u hj
    have hlt : g < W.heap.size := World.block_lt_of_cell? W ⟨g, o + j, none⟩ h
    exact (World.cell?_of_block (a := ⟨g, o + j, none⟩) (hb.block g hlt)).trans h
  have hlt : x.zs ≠ [] → ∀ b off, ad = some ⟨b, off, none⟩ → b < W.heap.size := fun h0 b off e => by
    rcases h5 with h | ⟨b', off', e', hh⟩
    · exact absurd h h0
    · rw [e] at e'
      cases e'
      have := hh 0 (List.length_pos_iff.mpr h0)
      exact World.block_lt_of_cell? W _ this
  refine ⟨ad, nd, cd, ⟨hc 0 _ rfl, hc 1 _ rfl, hc 2 _ rfl, hc 3 _ rfl, hc 4 _ rfl, hc 5 _ rfl⟩, h2, by omega, h4, fun U hU => ?_, hlt⟩
  rcases h5 with h | ⟨b', off', e', hh⟩
  · exact .inl h
  · by_cases h0 : x.zs = []
    · exact .inl h0
    · refine .inr ⟨b', off', e', fun i hi => ?_⟩
      have hb' := hlt h0 b' off' e'
      refine (World.cell?_of_block ?_).trans (hh i hi)
      exact (hU.block b' hb').trans (hb.block b' hb')

end Go.Proofs.YthkphihgdklbbaaDoor.C
