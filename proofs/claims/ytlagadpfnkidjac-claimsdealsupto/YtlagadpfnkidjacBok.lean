import Derived.Test.YtlagadpfnkidjacLnt
namespace Go.Proofs.Ytlagadpfnkidjac
open Go.RowKit

/-- The marks of a list. -/
def mrk (i m : Nat) : List Sp := (List.range m).map fun (k : Nat) => ((-100 - (i : Int), (k : Int)) : Sp)
theorem mrk_len (i m : Nat) : (mrk i m).length = m := by simp [mrk]
theorem mrk_at {i m k : Nat} (h : k < m) : (mrk i m)[k]? = some (-100 - (i : Int), (k : Int)) := by simp [mrk, h]
theorem mrk_succ (i m : Nat) : mrk i (m + 1) = mrk i m ++ [(-100 - (i : Int), (m : Int))] := by simp [mrk, List.range_succ]
theorem mrk_take {i m k : Nat} (h : k ≤ m) : (mrk i m).take k = mrk i k := by
  apply List.ext_getElem?
  intro j
  rw [List.getElem?_take]
  by_cases hj : j < k
  · rw [if_pos hj, mrk_at (by omega), mrk_at hj]
  · rw [if_neg hj, List.getElem?_eq_none (by rw [mrk_len]; omega)]

/-- All blocks but some lie as they lay. -/
structure Kp (T : Nat → Prop) (W W' : World) : Prop where
  os : W'.os = W.os
  tape : W'.tape = W.tape
  output : W'.output = W.output
  size : W.heap.size ≤ W'.heap.size
  block : ∀ k, k < W.heap.size → ¬ T k → W'.heap[k]? = W.heap[k]?
theorem Kp.refl (T : Nat → Prop) (W : World) : Kp T W W := ⟨rfl, rfl, rfl, Nat.le_refl _, fun _ _ _ => rfl⟩
theorem Kp.grown {T : Nat → Prop} {A B C : World} {row : Option Nat} (h : Kp T A B) (hg : B.grownBy C row) (hr : ∀ k, row = some k → T k ∨ A.heap.size ≤ k) : Kp T A C :=
  ⟨hg.os.trans h.os, hg.tape.trans h.tape, hg.output.trans h.output, Nat.le_trans h.size hg.size, fun k hk ht => (hg.block k (Nat.lt_of_lt_of_le hk h.size) (fun e => by rcases hr k e.symm with q | q; exact ht q; omega)).trans (h.block k hk ht)⟩
theorem Kp.mono {T T' : Nat → Prop} {A B : World} (h : Kp T A B) (ht : ∀ k, T k → T' k) : Kp T' A B := ⟨h.os, h.tape, h.output, h.size, fun k hk hn => h.block k hk (fun q => hn (ht k q))⟩
theorem Kp.trans {T : Nat → Prop} {A B C : World} (h : Kp T A B) (h' : Kp T B C) : Kp T A C := ⟨h'.os.trans h.os, h'.tape.trans h.tape, h'.output.trans h.output, Nat.le_trans h.size h'.size, fun k hk hn => (h'.block k (Nat.lt_of_lt_of_le hk h.size) hn).trans (h.block k hk hn)⟩
theorem Kp.below {T : Nat → Prop} {A B : World} {lo : Nat} (h : Kp T A B) (ht : ∀ k, T k → lo ≤ k) (hl : lo ≤ A.heap.size) : Below lo A B := ⟨h.os, h.tape, h.output, h.size, fun k hk => h.block k (by omega) (fun q => by have := ht k q; omega)⟩
theorem SOwn.kp {T : Nat → Prop} {A B : World} {base : Nat} {v : Value} {l : List Sp} (h : SOwn A base v l) (hk : Kp T A B) (hn : ∀ g, v.ownBlock = some g → ¬ T g) : SOwn B base v l := by
  refine ⟨h.1, ?_⟩
  rcases h.2 with q | ⟨g, cap, cur, hv, h1, h2, h3⟩
  · exact .inl q
  · exact .inr ⟨g, cap, cur, hv, h1, (hk.block g (h.lt g (by rw [hv]; rfl)).2 (hn g (by rw [hv]; rfl))).trans h2, h3⟩

abbrev Rw := Value × List Sp

/-- Lists of spans that were kept: each in a block of its own. -/
structure Cl (W : World) (lo : Nat) (off : Nat → Prop) (cs : List Rw) : Prop where
  own : ∀ (j : Nat) x, cs[j]? = some x → SOwn W lo x.1 x.2
  apt : ∀ (j k : Nat) x y, j ≠ k → cs[j]? = some x → cs[k]? = some y → ∀ g, x.1.ownBlock = some g → y.1.ownBlock ≠ some g
  off : ∀ (j : Nat) x, cs[j]? = some x → ∀ g, x.1.ownBlock = some g → ¬ off g

/-- The blocks of the rows. -/
def inC (cs : List Rw) (g : Nat) : Prop := ∃ (j : Nat) (x : Rw), cs[j]? = some x ∧ x.1.ownBlock = some g

theorem Cl.set {W W' : World} {lo i : Nat} {off : Nat → Prop} {cs : List Rw} {x x' : Rw} (h : Cl W lo off cs) (hx : cs[i]? = some x) (hg : W.grownBy W' x.1.ownBlock) (hs : SOwn W' lo x'.1 x'.2) (hb : x'.1.ownBlock = x.1.ownBlock ∨ (∀ g, x'.1.ownBlock = some g → W.heap.size ≤ g ∧ ¬ off g)) : Cl W' lo off (cs.set i x') := by
  have hil : i < cs.length := (List.getElem?_eq_some_iff.mp hx).1
  have get : ∀ (j : Nat) y, (cs.set i x')[j]? = some y → (j = i ∧ y = x') ∨ (j ≠ i ∧ cs[j]? = some y) := fun j y hy => by
    by_cases hj : j = i
    · subst hj
      rw [List.getElem?_set_self hil] at hy
      exact .inl ⟨rfl, by simpa using hy.symm⟩
    · rw [List.getElem?_set_ne (fun e => hj e.symm)] at hy
      exact .inr ⟨hj, hy⟩
  have new : ∀ (j : Nat) y, j ≠ i → cs[j]? = some y → ∀ g, x'.1.ownBlock = some g → y.1.ownBlock ≠ some g := fun j y hj hy g hg' => by
    rcases hb with e | e
    · exact h.apt i j x y (fun q => hj q.symm) hx hy g (by rw [← e]; exact hg')
    · intro q
      have := ((h.own j y hy).lt g q).2
      have := (e g hg').1
      omega
  refine ⟨fun j y hy => ?_, fun j k y z hjk hy hz g hgy => ?_, fun j y hy g hgy => ?_⟩
  · rcases get j y hy with ⟨_, rfl⟩ | ⟨hj, hy⟩
    · exact hs
    · refine World.ownsRow.kept (h.own j y hy) hg ?_
      cases hv : y.1.ownBlock with
      | none => left; rfl
      | some g => right; intro e; exact h.apt j i y x hj hy hx g hv e.symm
  · rcases get j y hy with ⟨e1, e2⟩ | ⟨hj, hy'⟩
    · rcases get k z hz with ⟨e3, _⟩ | ⟨hk, hz'⟩
      · exact absurd (e1.trans e3.symm) hjk
      · subst e2; exact new k z hk hz' g hgy
    · rcases get k z hz with ⟨_, e4⟩ | ⟨hk, hz'⟩
      · subst e4; intro e; exact new j y hj hy' g e hgy
      · exact h.apt j k y z hjk hy' hz' g hgy
  · rcases get j y hy with ⟨_, rfl⟩ | ⟨_, hy⟩
    · rcases hb with e | e
      · exact h.off i x hx g (by rw [← e]; exact hgy)
      · exact (e g hgy).2
    · exact h.off j y hy g hgy
theorem Cl.other {W W' : World} {lo : Nat} {off : Nat → Prop} {cs : List Rw} {row : Option Nat} (h : Cl W lo off cs) (hg : W.grownBy W' row) (hr : ∀ g, row = some g → off g ∨ W.heap.size ≤ g) : Cl W' lo off cs := by
  refine ⟨fun j y hy => World.ownsRow.kept (h.own j y hy) hg ?_, h.apt, h.off⟩
  cases hv : y.1.ownBlock with
  | none => left; rfl
  | some g =>
    right; intro e
    rcases hr g e.symm with q | q
    · exact h.off j y hy g hv q
    · have := ((h.own j y hy).lt g hv).2; omega
theorem Cl.mono {W : World} {lo : Nat} {off off' : Nat → Prop} {cs : List Rw} (h : Cl W lo off cs) (ho : ∀ (j : Nat) (x : Rw), cs[j]? = some x → ∀ g, x.1.ownBlock = some g → ¬ off' g) : Cl W lo off' cs := ⟨h.own, h.apt, ho⟩

end Go.Proofs.Ytlagadpfnkidjac
