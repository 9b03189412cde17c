import Derived.Test.YtlagadpfnkidjacKee
import Derived.Test.YtlagadpfnkidjacRpt
import Derived.Lib.SliceRun
namespace Go.Proofs.Ytlagadpfnkidjac
open Go.RowKit

/-- Lists of so many each, the last one perhaps of fewer. -/
def DR (m : Nat) : List (List Sp) → Prop
  | [] => True
  | x :: r => 1 ≤ x.length ∧ x.length ≤ m ∧ (r ≠ [] → x.length = m) ∧ DR m r
theorem DR.uniq {m : Nat} : ∀ {a b : List (List Sp)}, DR m a → DR m b → a.flatten = b.flatten → a = b
  | [], [], _, _, _ => rfl
  | [], y :: s, _, h, e => by
    have e' := congrArg List.length e
    rw [List.flatten_cons, List.length_append, List.flatten_nil, List.length_nil] at e'
    have := h.1
    omega
  | x :: r, [], h, _, e => by
    have e' := congrArg List.length e
    rw [List.flatten_cons, List.length_append, List.flatten_nil, List.length_nil] at e'
    have := h.1
    omega
  | x :: r, y :: s, h, h', e => by
    have hxy : x.length = y.length := by
      by_cases hr : r = []
      · by_cases hs : s = []
        · subst hr hs; have := congrArg List.length e; simpa using this
        · have q1 := h'.2.2.1 hs
          have q2 := h.2.1
          have q3 : 1 ≤ s.flatten.length := by
            cases s with
            | nil => exact absurd rfl hs
            | cons z s => have := h'.2.2.2.1; simp; omega
          have := congrArg List.length e
          subst hr
          simp at this q3
          omega
      · have q1 := h.2.2.1 hr
        by_cases hs : s = []
        · have q2 := h'.2.1
          have q3 : 1 ≤ r.flatten.length := by
            cases r with
            | nil => exact absurd rfl hr
            | cons z r => have := h.2.2.2.1; simp; omega
          have := congrArg List.length e
          subst hs
          simp at this q3
          omega
        · rw [q1, h'.2.2.1 hs]
    simp only [List.flatten_cons] at e
    obtain ⟨rfl, e2⟩ := List.append_inj e hxy
    rw [DR.uniq h.2.2.2 h'.2.2.2 e2]
theorem DR.snoc {m : Nat} : ∀ {a : List (List Sp)} {x : List Sp}, DR m a → (∀ y ∈ a, y.length = m) → 1 ≤ x.length → x.length ≤ m → DR m (a ++ [x])
  | [], x, _, _, h1, h2 => ⟨h1, h2, fun h => absurd rfl h, trivial⟩
  | y :: a, x, h, hy, h1, h2 => ⟨h.1, h.2.1, fun _ => hy y (by simp), DR.snoc h.2.2.2 (fun z hz => hy z (by simp [hz])) h1 h2⟩

/-- A row of lists, each in a block of its own. -/
structure Dl (W : World) (base : Nat) (lv : Value) (cs : List Rw) : Prop where
  row : W.ownsRow base 22 1 lv cs.length (cs.map (·.1))
  cl : Cl W base (fun g => lv.ownBlock = some g) cs
theorem Dl.nil (W : World) (base : Nat) : Dl W base (.slice none 0 0) [] := ⟨World.ownsRow_nil _ _ _ _, ⟨(fun j x hx => by simp at hx), (fun j k x y _ hx => by simp at hx), fun j x hx => by simp at hx⟩⟩
theorem Dl.below {W W' : World} {base : Nat} {lv : Value} {cs : List Rw} (h : Dl W base lv cs) (hb : Below W.heap.size W W') : Dl W' base lv cs := by
  refine ⟨⟨h.row.1, ?_⟩, ⟨fun j x hx => (h.cl.own j x hx).below hb, h.cl.apt, h.cl.off⟩⟩
  rcases h.row.2 with q | ⟨g, cap, cur, hv, h1, h2, h3⟩
  · exact .inl q
  · exact .inr ⟨g, cap, cur, hv, h1, (hb.block g (h.row.lt g (by rw [hv]; rfl)).2).trans h2, h3⟩

set_option maxHeartbeats 4000000 in
/-- A copy of a list. -/
theorem clone_some (g off c : Nat) (l : List Sp) (w : World) (h : Spa w (some ⟨g, off, none⟩) l) (hp : 0 < l.length) (hm : l.length ≤ 1048576) :
    Calls Try.prog 37 #[.slice (some ⟨g, off, none⟩) l.length c] w fun e w' => ∃ v, e = .returned v ∧ SOwn w' w.heap.size v l ∧ Below w.heap.size w w' := by
  obtain ⟨i0, hi, hz0, hz1, hz2⟩ := info_parts Try.info_span
  have HSr : Hid (∀ W, Below w.heap.size w W → ∀ k u, (l.flatMap spc)[k]? = some u → W.cell? ((⟨g, off, none⟩ : Addr).add k) = some u) := fun W hW => spa_src2 (h.below hW)
  have q22 : ∀ (w : World) (a : Option Addr) (n c n' c' : Nat), (binOp .eql 22 (.slice a n c) (.slice none n' c')).run Try.prog w = .ok (.bool a.isNone) w := fun w a n c n' c' => Lib.run_eql_slice_nil w _ _ a n c n' c' Try.underlying22
  clear h
  go_enter Try.func37, Try.ntmps37
  have HO : Hid ((w.alloc (.cells #[] 24)).ownsRow w.heap.size 24 2 (.slice (some ⟨w.heap.size, 0, none⟩) 0 0) 0 []) := ⟨rfl, .inr ⟨w.heap.size, 0, #[], rfl, Nat.le_refl _, heap_alloc_new' _ _, Nat.le_refl _, by unfold maxLen; omega, rfl, rfl⟩⟩
  have HB0 : Hid (Below w.heap.size w (w.alloc (.cells #[] 24))) := (Below.refl _ _).alloc (Nat.le_refl _) _
  go_wp2_with (at_builtin; refine wpList_append_own_at _ rfl _ _ 22 rfl w.heap.size 24 i0 (.agg #[.int .i64 0, .int .i64 0]) 2 16 Try.underlying22 hi hz0 hz1 hz2 rfl (by decide) _ _ _ rfl HO.out ⟨g, off, none⟩ l.length c (l.flatMap spc) rfl (by rw [spc_len]) (HSr.out _ HB0.out) ?c2 ?c3 ?c4 ?c5 ?_)
  case c2 => intro v hv; obtain ⟨p, _, hp⟩ := List.mem_flatMap.mp hv; simp [spc] at hp; rcases hp with rfl | rfl <;> rfl
  case c3 => unfold maxLen; omega
  case c4 => omega
  case c5 => simp
  intro vo w9 hown9 hgrow9 _ _
  have HS9 : Hid (SOwn w9 w.heap.size vo l) := by unfold Hid SOwn; simpa using hown9
  have HB9 : Hid (Below w.heap.size w w9) := HB0.out.grown hgrow9 (by simp) (fun k e => by simp [Value.ownBlock] at e; omega)
  obtain ⟨a9, c9, hvo⟩ := HS9.out.shape
  subst hvo
  clear hown9 hgrow9 HO HB0
  go_wp2
  go_ret
  exact ⟨_, rfl, HS9.out, HB9.out⟩

end Go.Proofs.Ytlagadpfnkidjac
