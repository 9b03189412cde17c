import Derived.Test.YtjolflpmeodnaahPlSy
import Derived.Laws.AppendOwnNone
import Derived.Deep.Onto
namespace Go.Proofs.Ytjolflpmeodnaah
set_option linter.unusedVariables false
open Go.RowKit

/-- The marks behind. -/
def mks : List Ct := [⟨-77, 0, 0, 0⟩, ⟨-78, 0, 0, 0⟩]
theorem mks_cells : mks.flatMap ctL = [.int .i64 (-77), .int .i64 0, .int .i64 0, .int .i64 0, .int .i64 (-78), .int .i64 0, .int .i64 0, .int .i64 0] := rfl
theorem eight_new (w : World) (a b c d e f g h : Value) (t : TypeId) : ∀ j u, [a, b, c, d, e, f, g, h][j]? = some u → (w.alloc (.cells #[a, b, c, d, e, f, g, h] t)).cell? ((⟨w.heap.size, 0, none⟩ : Addr).add j) = some u := by
  intro j u hj
  match j, hj with
  | 0, hj => simp at hj; subst hj; simp [Addr.add]
  | 1, hj => simp at hj; subst hj; simp [Addr.add]
  | 2, hj => simp at hj; subst hj; simp [Addr.add]
  | 3, hj => simp at hj; subst hj; simp [Addr.add]
  | 4, hj => simp at hj; subst hj; simp [Addr.add]
  | 5, hj => simp at hj; subst hj; simp [Addr.add]
  | 6, hj => simp at hj; subst hj; simp [Addr.add]
  | 7, hj => simp at hj; subst hj; simp [Addr.add]

/-- What the append of the marks leaves. -/
theorem lent_end {w w1 w2 : World} {l : List Ct} {n : Nat} {v : Value} {ob : Obj} {v0 : Value} (hln : l.length = n) (hb : Below w.heap.size w w1) (h0 : w1.ownsRow w.heap.size 28 4 v0 n (l.flatMap ctL))
    (hown : w2.ownsRow w.heap.size 28 4 v (n + 2) (l.flatMap ctL ++ mks.flatMap ctL)) (hgrow : (w1.alloc ob).grownBy w2 v0.ownBlock) : COwn w2 w.heap.size v (l ++ mks) ∧ Below w.heap.size w w2 := by
  refine ⟨?_, (hb.alloc hb.size _).grown hgrow (by have := hb.size; simp; omega) (fun r hr => (World.ownsRow.lt h0 r hr).1)⟩
  unfold COwn
  rw [List.flatMap_append, List.length_append, hln]
  exact hown

set_option maxHeartbeats 2000000 in
theorem lent9_any (a : Option Addr) (c n : Nat) (l : List Ct) (hln : l.length = n) (w : World) (h : Cta w a l) (hc : n ≤ c) (hc2 : c * 32 ≤ 140737488351232) (hnil : a = none → n = 0 ∧ c = 0) :
    Calls Try.prog 5 #[.slice a n c] w fun e w' => ∃ v, e = .returned v ∧ COwn w' w.heap.size v (l ++ mks) ∧ Below w.heap.size w w' := by
  obtain ⟨i0, hi, hz0, hz1, hz2⟩ := pinfo_parts Try.pinfo_ct
  have HLn : Hid (l.length = n) := hln
  have HM : Hid (mks.flatMap ctL = [.int .i64 (-77), .int .i64 0, .int .i64 0, .int .i64 0, .int .i64 (-78), .int .i64 0, .int .i64 0, .int .i64 0]) := rfl
  clear hln
  cases a with
  | none =>
    obtain ⟨hn0, hc0⟩ := hnil rfl
    subst hn0
    subst hc0
    have hl : l = [] := List.eq_nil_of_length_eq_zero HLn.out
    subst hl
    go_enter Try.func5, Try.ntmps5
    go_wp2_with (first
      | (at_builtin; refine wpList_append_own_none _ rfl _ _ 22 rfl w.heap.size 28 i0 4 Try.underlying22 hi (.slice none 0 0) 0 [] rfl (World.ownsRow_nil _ _ _ _) rfl ?_)
      | (at_builtin; refine wpList_append_own_at _ rfl _ _ 22 rfl w.heap.size 28 i0 (.agg #[.int .i64 0, .int .i64 0, .int .i64 0, .int .i64 0]) 4 32 Try.underlying22 hi hz0 hz1 hz2 rfl (by decide) (.slice none 0 0) 0 [] rfl (World.ownsRow_nil _ _ _ _) ⟨w.heap.size, 0, none⟩ 2 2 [.int .i64 (-77), .int .i64 0, .int .i64 0, .int .i64 0, .int .i64 (-78), .int .i64 0, .int .i64 0, .int .i64 0] rfl rfl (eight_new _ _ _ _ _ _ _ _ _ _) (by simp [Value.oneCell']) (by unfold maxLen; omega) (by omega) (by simp) ?_))
    intro v5 w5 hown5 hgrow5 hif hat5
    clear hif
    have HE : Hid (COwn w5 w.heap.size v5 ([] ++ mks) ∧ Below w.heap.size w w5) := lent_end (l := []) (n := 0) rfl (Below.refl _ _) (World.ownsRow_nil _ _ _ _) (by simpa [HM.out] using hown5) hgrow5
    clear hown5 hgrow5 hat5
    go_wp2
    go_ret
    exact ⟨v5, rfl, HE.out.1, HE.out.2⟩
  | some ad =>
    have had : l = [] ∨ ∃ g off, ad = ⟨g, off, none⟩ := by
      rcases h with h0 | ⟨g, off, h1, _⟩
      · exact .inl h0
      · cases h1; exact .inr ⟨g, off, rfl⟩
    have HNw : Hid (∀ (j : Nat) u, (l.flatMap ctL)[j]? = some u → w.cell? (ad.add j) = some u) := by
      rcases h with h0 | ⟨g, off, h1, h2⟩
      · rw [h0]; intro j u hj; simp at hj
      · cases h1; exact cta_news h2
    have HLc : Hid ((l.flatMap ctL).length = n * 4) := by show _ = _; rw [ctl_len, HLn.out]
    clear h had hnil
    go_enter Try.func5, Try.ntmps5
    go_wp2_with (at_builtin; refine wpList_append_own_at _ rfl _ _ 22 rfl w.heap.size 28 i0 (.agg #[.int .i64 0, .int .i64 0, .int .i64 0, .int .i64 0]) 4 32 Try.underlying22 hi hz0 hz1 hz2 rfl (by decide) (.slice none 0 0) 0 [] rfl (World.ownsRow_nil _ _ _ _) ad n c (l.flatMap ctL) rfl HLc.out HNw.out (ctl_one _) (by unfold maxLen; omega) (by omega) (Nat.le_refl _) ?_)
    intro v4 w4 hown4 hgrow4 hif hat4
    clear hif
    have HO4 : Hid (w4.ownsRow w.heap.size 28 4 v4 n (l.flatMap ctL)) := by show World.ownsRow _ _ _ _ _ _ _; simpa using hown4
    have HB4 : Hid (Below w.heap.size w w4) := (Below.refl _ _).grown hgrow4 (Nat.le_refl _) (fun r hr => by cases hr)
    have hb4 := HB4.out.size
    clear hown4 hgrow4 hat4 HNw
    go_wp2_with (at_builtin; refine wpList_append_own_at _ rfl _ _ 22 rfl w.heap.size 28 i0 (.agg #[.int .i64 0, .int .i64 0, .int .i64 0, .int .i64 0]) 4 32 Try.underlying22 hi hz0 hz1 hz2 rfl (by decide) v4 n (l.flatMap ctL) rfl (World.ownsRow.alloc HO4.out _) ⟨w4.heap.size, 0, none⟩ 2 2 [.int .i64 (-77), .int .i64 0, .int .i64 0, .int .i64 0, .int .i64 (-78), .int .i64 0, .int .i64 0, .int .i64 0] rfl rfl (eight_new _ _ _ _ _ _ _ _ _ _) (by simp [Value.oneCell']) (by unfold maxLen; omega) (by omega) (by simp; omega) ?_)
    intro v5 w5 hown5 hgrow5 hif hat5
    clear hif
    have HE : Hid (COwn w5 w.heap.size v5 (l ++ mks) ∧ Below w.heap.size w w5) := lent_end HLn.out HB4.out HO4.out (by rw [HM.out]; exact hown5) hgrow5
    clear hown5 hgrow5 hat5
    go_wp2
    go_ret
    exact ⟨v5, rfl, HE.out.1, HE.out.2⟩

end Go.Proofs.Ytjolflpmeodnaah
