import Derived.Test.YtcfodcioeefbeaaDoorSpn
import Derived.WalkSmall
import Derived.Test.YtcfodcioeefbeaaDoorJoi
namespace Go.Proofs.YtcfodcioeefbeaaDoor.C
open Go.RowKit

def eqB (l m : List Sp) : Bool := decide (l = m)

theorem eq_step {l m : List Sp} (k : Nat) {p q : Sp} (hp : l[k]? = some p) (hq : m[k]? = some q) : (l.drop k = m.drop k) ↔ (p = q ∧ l.drop (k + 1) = m.drop (k + 1)) := by
  rw [drop_get l k p hp, drop_get m k q hq]; simp

end Go.Proofs.YtcfodcioeefbeaaDoor.C

namespace Go.Proofs.YtcfodcioeefbeaaDoor.C
open Go.RowKit

/-- A value that holds a list of spans. -/
structure Ls (w : World) (v : Value) (l : List Sp) : Prop where
  shape : ∃ a c, v = .slice a l.length c ∧ Spa w a l ∧ l.length ≤ c ∧ c ≤ 9223372036854775807
  small : l.length ≤ 9223372036854775807
theorem Ls.below {w w' : World} {v : Value} {l : List Sp} (h : Ls w v l) (hb : Below w.heap.size w w') : Ls w' v l := by
  obtain ⟨a, c, hv, hs, h1, h2⟩ := h.shape
  exact ⟨⟨a, c, hv, hs.below hb, h1, h2⟩, h.small⟩
theorem SOwn.ls {w : World} {base : Nat} {v : Value} {l : List Sp} (h : SOwn w base v l) (hm : l.length ≤ 9223372036854775807) : Ls w v l := by
  obtain ⟨a, c, rfl⟩ := h.shape
  refine ⟨⟨a, c, rfl, h.spa, ?_⟩, hm⟩
  rcases h.2 with ⟨hv, hn⟩ | ⟨g, cap, cur, hv, _, _, h1, h2, _⟩
  · simp only [Value.slice.injEq] at hv; obtain ⟨_, _, rfl⟩ := hv; omega
  · simp only [Value.slice.injEq] at hv; obtain ⟨_, _, rfl⟩ := hv; unfold maxLen at h2; omega
theorem Ls.nil (w : World) : Ls w (.slice none 0 0) [] := ⟨⟨none, 0, rfl, .inl rfl, by simp, by omega⟩, by simp⟩
theorem SOwn.nil (w : World) (base : Nat) : SOwn w base (.slice none 0 0) [] := World.ownsRow_nil _ _ _ _

/-- What Union answers. -/
def UR (l m u : List Sp) (er : Int) : Prop := (¬ (IsSet l ∧ IsSet m) ∧ er = 30 ∧ u = []) ∨ (IsSet l ∧ IsSet m ∧ ∃ U, Uni l m U ∧ ((U.length ≤ 2000 ∧ er = 0 ∧ u = U) ∨ (2000 < U.length ∧ er = 3 ∧ u = [])))
theorem UR.uniq {l m u u' : List Sp} {er er' : Int} (h : UR l m u er) (h' : UR l m u' er') : u = u' ∧ er = er' := by
  rcases h with ⟨h1, h2, h3⟩ | ⟨h1, h2, U, h3, h4⟩
  · rcases h' with ⟨k1, k2, k3⟩ | ⟨k1, k2, _⟩
    · exact ⟨by rw [h3, k3], by omega⟩
    · exact absurd ⟨k1, k2⟩ h1
  · rcases h' with ⟨k1, k2, k3⟩ | ⟨k1, k2, U', k3, k4⟩
    · exact absurd ⟨h1, h2⟩ k1
    · obtain rfl := h3.uniq k3
      rcases h4 with ⟨a, b, c⟩ | ⟨a, b, c⟩ <;> rcases k4 with ⟨d, e, f⟩ | ⟨d, e, f⟩
      · exact ⟨by rw [c, f], by omega⟩
      · omega
      · omega
      · exact ⟨by rw [c, f], by omega⟩
theorem UR.swap {l m u : List Sp} {er : Int} (h : UR l m u er) : UR m l u er := by
  rcases h with ⟨h1, h2⟩ | ⟨h1, h2, U, h3, h4⟩
  · exact .inl ⟨fun h => h1 ⟨h.2, h.1⟩, h2⟩
  · exact .inr ⟨h2, h1, U, h3.swap, h4⟩
theorem UR.len {l m u : List Sp} {er : Int} (h : UR l m u er) : u.length ≤ 2000 := by
  rcases h with ⟨_, _, rfl⟩ | ⟨_, _, U, _, ⟨h, _, rfl⟩ | ⟨_, _, rfl⟩⟩
  · simp
  · exact h
  · simp
theorem UR.errs {l m u : List Sp} {er : Int} (h : UR l m u er) : er = 0 ∨ er = 3 ∨ er = 30 := by
  rcases h with ⟨_, h, _⟩ | ⟨_, _, U, _, ⟨_, h, _⟩ | ⟨_, h, _⟩⟩ <;> omega
theorem UR.ok {l m u : List Sp} {er : Int} (h : UR l m u er) (he : er = 0) : IsSet l ∧ IsSet m ∧ Uni l m u ∧ IsSet u := by
  rcases h with ⟨_, h, _⟩ | ⟨h1, h2, U, h3, ⟨h4, _, rfl⟩ | ⟨_, h, _⟩⟩
  · omega
  · exact ⟨h1, h2, h3, h4, h3.rt⟩
  · omega

def UnionPost (l m : List Sp) (w : World) (e : Ending) (w' : World) : Prop := ∃ v u er, e = .returned (.tuple #[v, .int .i64 er]) ∧ SOwn w' w.heap.size v u ∧ UR l m u er ∧ Below w.heap.size w w'

/-- What Add answers. -/
def AR (l : List Sp) (s : Sp) (u : List Sp) (n er : Int) : Prop := UR l [s] u er ∧ ((er = 0 ∧ n = siz u - siz l) ∨ (er ≠ 0 ∧ n = 0))
theorem AR.uniq {l u u' : List Sp} {s : Sp} {n n' er er' : Int} (h : AR l s u n er) (h' : AR l s u' n' er') : u = u' ∧ n = n' ∧ er = er' := by
  obtain ⟨rfl, rfl⟩ := h.1.uniq h'.1
  rcases h.2 with ⟨a, b⟩ | ⟨a, b⟩ <;> rcases h'.2 with ⟨c, d⟩ | ⟨c, d⟩
  · exact ⟨rfl, by omega, rfl⟩
  · exact absurd a c
  · exact absurd c a
  · exact ⟨rfl, by omega, rfl⟩
theorem szB_set {l : List Sp} (h : IsSet l) : szB l = siz l := by unfold szB; rw [if_pos (setB_iff.mpr h)]

def AddPost (l : List Sp) (s : Sp) (w : World) (e : Ending) (w' : World) : Prop := ∃ v u n er, e = .returned (.tuple #[v, .int .i64 n, .int .i64 er]) ∧ SOwn w' w.heap.size v u ∧ AR l s u n er ∧ Below w.heap.size w w'

theorem ls_box (w : World) (f t : Int) (g : Nat) (hg : g = w.heap.size) : Ls (w.alloc (.cells #[.int .i64 f, .int .i64 t] 113)) (.slice (some ⟨g, 0, none⟩) 1 1) [(f, t)] := by
  subst hg
  refine ⟨⟨_, 1, rfl, .inr ⟨w.heap.size, 0, rfl, fun i p hp => ?_⟩, by simp, by omega⟩, by simp⟩
  cases i with
  | zero => simp at hp; subst hp; exact ⟨by simp, by simp⟩
  | succ i => simp at hp

end Go.Proofs.YtcfodcioeefbeaaDoor.C

namespace Go.Proofs.YtcfodcioeefbeaaDoor.C
open Go.RowKit

/-- Where the next span may begin. -/
def lsx (l : List Sp) (k : Nat) : Int := match k with
  | 0 => 0
  | k + 1 => (l.getD k (0, 0)).2 + 1

end Go.Proofs.YtcfodcioeefbeaaDoor.C
