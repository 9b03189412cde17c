import Derived.Test.YthkphihgdklbbaaDoorSpn
import Derived.WalkSmall
import Derived.Test.YthkphihgdklbbaaDoorJoi
namespace Go.Proofs.YthkphihgdklbbaaDoor.C
open Go.RowKit

def eqB (l m : List Sp) : Bool := decide (l = m)

theorem eq_step {l m : List Sp} (k : Nat) {p q : Sp} (hp : l[k]? = some p) (hq : m[k]? = some q) : (l.drop k = m.drop k) ↔ (p = q ∧ l.drop (k + 1) = m.drop (k + 1)) := by
  rw [drop_get l k p hp, drop_get m k q hq]; simp

end Go.Proofs.YthkphihgdklbbaaDoor.C

namespace Go.Proofs.YthkphihgdklbbaaDoor.C
open Go.RowKit

/-- A value that holds a list of spans. -/
structure Ls (w : World) (v : Value) (l : List Sp) : Prop where
  shape : ∃ a c, v = .slice a l.length c ∧ Spa w a l ∧ l.length ≤ c ∧ c ≤ 9223372036854775807
  small : l.length ≤ 9223372036854775807
theorem Ls.below {w w' : World} {v : Value} {l : List Sp} (h : Ls w v l) (hb : Below w.heap.size w w') : Ls w' v l := by
  obtain ⟨a, c, hv, hs, h1, h2⟩ := h.shape
  exact ⟨⟨a, c, hv, hs.below hb, h1, h2⟩, h.small⟩
theorem SOwn.ls {w : World} {base : Nat} {v : Value} {l : List Sp} (h : SOwn w base v l) (hm : l.length ≤ 9223372036854775807) : Ls w v l := by
  obtain ⟨a, c, rfl⟩ := h.shape
  refine ⟨⟨a, c, rfl, h.spa, ?_⟩, hm⟩
  rcases h.2 with ⟨hv, hn⟩ | ⟨g, cap, cur, hv, _, _, h1, h2, _⟩
  · simp only [Value.slice.injEq] at hv; obtain ⟨_, _, rfl⟩ := hv; omega
  · simp only [Value.slice.injEq] at hv; obtain ⟨_, _, rfl⟩ := hv; unfold maxLen at h2; omega
theorem Ls.nil (w : World) : Ls w (.slice none 0 0) [] := ⟨⟨none, 0, rfl, .inl rfl, by simp, by omega⟩, by simp⟩
theorem SOwn.nil (w : World) (base : Nat) : SOwn w base (.slice none 0 0) [] := World.ownsRow_nil _ _ _ _

theorem right_ls {v : Value} {l : List Sp} {w : World} (h : Ls w v l) : Calls Tryd.prog 60 #[v] w fun e w' => e = .returned (.bool (setB l)) ∧ Below w.heap.size w w' := by
  obtain ⟨a, c, rfl, hs, _, _⟩ := h.shape; exact right_any a c l w hs h.small
theorem size_ls {v : Value} {l : List Sp} {w : World} (h : Ls w v l) : Calls Tryd.prog 48 #[v] w fun e w' => e = .returned (.int .i64 (szB l)) ∧ Below w.heap.size w w' := by
  obtain ⟨a, c, rfl, hs, _, _⟩ := h.shape; exact size_any a c l w hs h.small
/-- What Union answers. -/
def UR (l m u : List Sp) (er : Int) : Prop := (¬ (IsSet l ∧ IsSet m) ∧ er = 30 ∧ u = []) ∨ (IsSet l ∧ IsSet m ∧ ∃ U, Uni l m U ∧ ((U.length ≤ 2000 ∧ er = 0 ∧ u = U) ∨ (2000 < U.length ∧ er = 3 ∧ u = [])))
theorem UR.uniq {l m u u' : List Sp} {er er' : Int} (h : UR l m u er) (h' : UR l m u' er') : u = u' ∧ er = er' := by
  rcases h with ⟨h1, h2, h3⟩ | ⟨h1, h2, U, h3, h4⟩
  · rcases h' with ⟨k1, k2, k3⟩ | ⟨k1, k2, _⟩
    · exact ⟨by rw [h3, k3], by omega⟩
    · exact absurd ⟨k1, k2⟩ h1
  · rcases h' with ⟨k1, k2, k3⟩ | ⟨k1, k2, U', k3, k4⟩
    · exact absurd ⟨h1, h2⟩ k1
    · obtain rfl := h3.uniq k3
      rcases h4 with ⟨a, b, c⟩ | ⟨a, b, c⟩ <;> rcases k4 with ⟨d, e, f⟩ | ⟨d, e, f⟩
      · exact ⟨by rw [c, f], by omega⟩
      · omega
      · omega
      · exact ⟨by rw [c, f], by omega⟩
theorem UR.swap {l m u : List Sp} {er : Int} (h : UR l m u er) : UR m l u er := by
  rcases h with ⟨h1, h2⟩ | ⟨h1, h2, U, h3, h4⟩
  · exact .inl ⟨fun h => h1 ⟨h.2, h.1⟩, h2⟩
  · exact .inr ⟨h2, h1, U, h3.swap, h4⟩
theorem UR.len {l m u : List Sp} {er : Int} (h : UR l m u er) : u.length ≤ 2000 := by
  rcases h with ⟨_, _, rfl⟩ | ⟨_, _, U, _, ⟨h, _, rfl⟩ | ⟨_, _, rfl⟩⟩
  · simp
  · exact h
  · simp
theorem UR.errs {l m u : List Sp} {er : Int} (h : UR l m u er) : er = 0 ∨ er = 3 ∨ er = 30 := by
  rcases h with ⟨_, h, _⟩ | ⟨_, _, U, _, ⟨_, h, _⟩ | ⟨_, h, _⟩⟩ <;> omega
theorem UR.ok {l m u : List Sp} {er : Int} (h : UR l m u er) (he : er = 0) : IsSet l ∧ IsSet m ∧ Uni l m u ∧ IsSet u := by
  rcases h with ⟨_, h, _⟩ | ⟨h1, h2, U, h3, ⟨h4, _, rfl⟩ | ⟨_, h, _⟩⟩
  · omega
  · exact ⟨h1, h2, h3, h4, h3.rt⟩
  · omega

def UnionPost (l m : List Sp) (w : World) (e : Ending) (w' : World) : Prop := ∃ v u er, e = .returned (.tuple #[v, .int .i64 er]) ∧ SOwn w' w.heap.size v u ∧ UR l m u er ∧ Below w.heap.size w w'

set_option maxHeartbeats 2000000 in
theorem union_any {v v' : Value} {l m : List Sp} {w : World} (h : Ls w v l) (h' : Ls w v' m) : Calls Tryd.prog 71 #[v, v'] w (UnionPost l m w) := by
  obtain ⟨a, c, rfl, hs, hc⟩ := h.shape
  obtain ⟨a', c', rfl, hs', hc'⟩ := h'.shape
  have HL : Hid (Ls w (.slice a l.length c) l) := h
  have HL' : Hid (Ls w (.slice a' m.length c') m) := h'
  have H1 : Hid (Spa w a l) := hs
  have H2 : Hid (Spa w a' m) := hs'
  have hR := right_ls h
  have HI : Hid (setB l = true ↔ IsSet l) := setB_iff
  have HI' : Hid (setB m = true ↔ IsSet m) := setB_iff
  have hR' : Hid (∀ W, Below w.heap.size w W → Calls Tryd.prog 60 #[.slice a' m.length c'] W fun e w' => e = .returned (.bool (setB m)) ∧ Below W.heap.size W w') := fun W hW => right_ls (h'.below hW)
  clear h h' hs hs'
  generalize setB l = V at *
  generalize setB m = V' at *
  go_enter Tryd.func71, Tryd.ntmps71
  go_wp2_with fail
  refine hR.mono ?_
  rintro e w1 ⟨rfl, hb1⟩
  clear hR
  have HB1 : Hid (Below w.heap.size w w1) := hb1
  clear hb1
  cases V with
  | false =>
    have HN : Hid (¬ IsSet l) := fun h => by have := HI.out.mpr h; cases this
    clear HI
    go_wp2
    go_ret2
    exact ⟨_, [], 30, rfl, SOwn.nil _ _, .inl ⟨fun h => HN.out h.1, rfl, rfl⟩, HB1.out⟩
  | true =>
    have HQ : Hid (IsSet l) := HI.out.mp rfl
    clear HI
    go_wp2_with fail
    refine (hR'.out w1 HB1.out).mono ?_
    rintro e w2 ⟨rfl, hb2⟩
    clear hR'
    have HB2 : Hid (Below w.heap.size w w2) := HB1.out.trans (hb2.mono HB1.out.size)
    clear hb2 HB1
    cases V' with
    | false =>
      have HN : Hid (¬ IsSet m) := fun h => by have := HI'.out.mpr h; cases this
      clear HI'
      go_wp2
      go_ret2
      exact ⟨_, [], 30, rfl, SOwn.nil _ _, .inl ⟨fun h => HN.out h.2, rfl, rfl⟩, HB2.out⟩
    | true =>
      have HQ' : Hid (IsSet m) := HI'.out.mp rfl
      clear HI'
      go_wp2_with fail
      refine (merge_any a a' c c' l m w2 (H1.out.below HB2.out) (H2.out.below HB2.out) HQ.out.2 HQ'.out.2 (by have := HQ.out.1; have := HQ'.out.1; omega) hc hc').mono ?_
      rintro e w3 ⟨v3, U, rfl, hs3, hu3, hb3⟩
      obtain ⟨a3, c3, rfl⟩ := hs3.shape
      have hlen : U.length ≤ 1048576 := by have := hu3.len; have := HQ.out.1; have := HQ'.out.1; omega
      have HB3 : Hid (Below w.heap.size w w3) := HB2.out.trans (hb3.mono HB2.out.size)
      have HS3 : Hid (SOwn w3 w.heap.size (.slice a3 U.length c3) U) := hs3.base HB2.out.size
      have HU3 : Hid (Uni l m U) := hu3
      have hbd := bounded_any a3 U.length c3 w3 hlen
      clear hs3 hu3 hb3 HB2
      by_cases hle : U.length ≤ 2000
      · rw [if_pos hle] at hbd
        go_wp2_with fail
        refine hbd.mono ?_
        rintro e w4 ⟨rfl, rfl⟩
        go_wp2
        go_ret2
        exact ⟨_, U, 0, rfl, HS3.out, .inr ⟨HQ.out, HQ'.out, U, HU3.out, .inl ⟨hle, rfl, rfl⟩⟩, HB3.out⟩
      · rw [if_neg hle] at hbd
        go_wp2_with fail
        refine hbd.mono ?_
        rintro e w4 ⟨rfl, rfl⟩
        go_wp2
        go_ret2
        exact ⟨_, [], 3, rfl, SOwn.nil _ _, .inr ⟨HQ.out, HQ'.out, U, HU3.out, .inr ⟨by omega, rfl, rfl⟩⟩, HB3.out⟩

/-- What Add answers. -/
def AR (l : List Sp) (s : Sp) (u : List Sp) (n er : Int) : Prop := UR l [s] u er ∧ ((er = 0 ∧ n = siz u - siz l) ∨ (er ≠ 0 ∧ n = 0))
theorem AR.uniq {l u u' : List Sp} {s : Sp} {n n' er er' : Int} (h : AR l s u n er) (h' : AR l s u' n' er') : u = u' ∧ n = n' ∧ er = er' := by
  obtain ⟨rfl, rfl⟩ := h.1.uniq h'.1
  rcases h.2 with ⟨a, b⟩ | ⟨a, b⟩ <;> rcases h'.2 with ⟨c, d⟩ | ⟨c, d⟩
  · exact ⟨rfl, by omega, rfl⟩
  · exact absurd a c
  · exact absurd c a
  · exact ⟨rfl, by omega, rfl⟩
theorem szB_set {l : List Sp} (h : IsSet l) : szB l = siz l := by unfold szB; rw [if_pos (setB_iff.mpr h)]

def AddPost (l : List Sp) (s : Sp) (w : World) (e : Ending) (w' : World) : Prop := ∃ v u n er, e = .returned (.tuple #[v, .int .i64 n, .int .i64 er]) ∧ SOwn w' w.heap.size v u ∧ AR l s u n er ∧ Below w.heap.size w w'

theorem ls_box (w : World) (f t : Int) (g : Nat) (hg : g = w.heap.size) : Ls (w.alloc (.cells #[.int .i64 f, .int .i64 t] 38)) (.slice (some ⟨g, 0, none⟩) 1 1) [(f, t)] := by
  subst hg
  refine ⟨⟨_, 1, rfl, .inr ⟨w.heap.size, 0, rfl, fun i p hp => ?_⟩, by simp, by omega⟩, by simp⟩
  cases i with
  | zero => simp at hp; subst hp; exact ⟨by simp, by simp⟩
  | succ i => simp at hp

set_option maxHeartbeats 2000000 in
theorem add_any {v : Value} {l : List Sp} {w : World} (f t : Int) (h : Ls w v l) : Calls Tryd.prog 64 #[v, .agg #[.int .i64 f, .int .i64 t]] w (AddPost l (f, t) w) := by
  have HL : Hid (Ls w v l) := h
  obtain ⟨a, c, rfl, _⟩ := h.shape
  have hb0 : Below w.heap.size w ((w.alloc (.cells #[.int .i64 f, .int .i64 t] 38)).alloc (.cells #[.int .i64 f, .int .i64 t] 38)) := ((Below.refl _ _).alloc (Nat.le_refl _) _).alloc (by simp) _
  have hU := union_any (h.below hb0) (ls_box (w.alloc (.cells #[.int .i64 f, .int .i64 t] 38)) f t (w.heap.size + 1) (by simp))
  have HB0 : Hid (Below w.heap.size w ((w.alloc (.cells #[.int .i64 f, .int .i64 t] 38)).alloc (.cells #[.int .i64 f, .int .i64 t] 38))) := hb0
  clear h hb0
  go_enter Tryd.func64, Tryd.ntmps64
  go_wp2_with fail
  refine hU.mono ?_
  rintro e w1 ⟨v1, u, er, rfl, hs1, hur, hb1⟩
  obtain ⟨a1, c1, rfl⟩ := hs1.shape
  have HB1 : Hid (Below w.heap.size w w1) := HB0.out.trans (hb1.mono HB0.out.size)
  have HS1 : Hid (SOwn w1 w.heap.size (.slice a1 u.length c1) u) := hs1.base HB0.out.size
  have HU : Hid (UR l [(f, t)] u er) := hur
  clear hU hb1 hs1 hur HB0
  have her := HU.out.errs
  by_cases he : er = 0
  · subst he
    obtain ⟨g1, g2, g3, g4⟩ := HU.out.ok rfl
    have hz := size_ls (HS1.out.ls (by have := g4.1; omega))
    rw [szB_set g4] at hz
    have q1 := siz_pos g4.2
    have q2 := siz_most g4.2 (by omega)
    have q3 := siz_pos g1.2
    have q4 := siz_most g1.2 (by omega)
    have HZ' : Hid (∀ W, Below w.heap.size w W → Calls Tryd.prog 48 #[.slice a l.length c] W fun e w' => e = .returned (.int .i64 (siz l)) ∧ Below W.heap.size W w') := fun W hW => by
      have := size_ls (HL.out.below hW); rw [szB_set g1] at this; exact this
    clear g1 g2 g3 g4 her
    have HN : Hid (∀ n, n = siz u - siz l → AR l (f, t) u n 0) := fun n hn => ⟨HU.out, .inl ⟨rfl, hn⟩⟩
    generalize siz u = x at *
    generalize siz l = y at *
    go_wp2_with fail
    refine hz.mono ?_
    rintro e w2 ⟨rfl, hb2⟩
    have HB2 : Hid (Below w.heap.size w w2) := HB1.out.trans (hb2.mono HB1.out.size)
    have HS2 : Hid (SOwn w2 w.heap.size (.slice a1 u.length c1) u) := HS1.out.below hb2
    clear hz hb2 HB1 HS1
    go_wp2_with fail
    refine (HZ'.out w2 HB2.out).mono ?_
    rintro e w3 ⟨rfl, hb3⟩
    have HB3 : Hid (Below w.heap.size w w3) := HB2.out.trans (hb3.mono HB2.out.size)
    have HS3 : Hid (SOwn w3 w.heap.size (.slice a1 u.length c1) u) := HS2.out.below hb3
    clear HZ' hb3 HB2 HS2
    go_wp2
    go_ret3
    exact ⟨_, u, _, 0, rfl, HS3.out, HN.out _ rfl, HB3.out⟩
  · go_wp2
    go_ret3
    have hu0 : u = [] := by
      rcases HU.out with ⟨_, _, h⟩ | ⟨_, _, U, _, ⟨_, h, _⟩ | ⟨_, _, h⟩⟩
      · exact h
      · exact absurd h he
      · exact h
    subst hu0
    exact ⟨_, [], 0, er, rfl, SOwn.nil _ _, ⟨HU.out, .inr ⟨he, rfl⟩⟩, HB1.out⟩

end Go.Proofs.YthkphihgdklbbaaDoor.C

namespace Go.Proofs.YthkphihgdklbbaaDoor.C
open Go.RowKit

/-- Where the next span may begin. -/
def lsx (l : List Sp) (k : Nat) : Int := match k with
  | 0 => 0
  | k + 1 => (l.getD k (0, 0)).2 + 1

end Go.Proofs.YthkphihgdklbbaaDoor.C
