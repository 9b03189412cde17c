import Derived.Test.YtjolflpmeodnaagDoorRcRd2
namespace Go.Proofs.YtjolflpmeodnaagDoor
open Go.RowKit
set_option linter.unusedVariables false
set_option linter.unusedSimpArgs false

/-- A record of these numbers, without lists. -/
def mkR (k : Int) (l : List Int) : Rc := ⟨k, l.getD 0 0, l.getD 1 0, l.getD 2 0, l.getD 3 0, l.getD 4 0, l.getD 5 0, l.getD 6 0, l.getD 7 0, [], []⟩
set_option maxRecDepth 100000 in
set_option maxHeartbeats 2000000 in
theorem numrec_any (k : Int) (n0 n1 n2 n3 n4 n5 n6 n7 : Int) (w : World) :
    Calls Tryd.prog 58 #[.agg #[.int .i64 n0, .int .i64 n1, .int .i64 n2, .int .i64 n3, .int .i64 n4, .int .i64 n5, .int .i64 n6, .int .i64 n7], .int .i64 k] w fun e w' => e = .returned (.agg (rcC ⟨k, n0, n1, n2, n3, n4, n5, n6, n7, [], []⟩ (.slice none 0 0) (.slice none 0 0))) ∧ Below w.heap.size w w' := by
  go_enter Tryd.func58, Tryd.ntmps58
  go_wp2
  refine bodyPost_ret (v := .agg (rcC ⟨k, n0, n1, n2, n3, n4, n5, n6, n7, [], []⟩ (.slice none 0 0) (.slice none 0 0))) (by simp [results, Tryd.results58, go_sem, rcC]) rfl ?_
  exact ⟨rfl, ((Below.refl _ _).alloc (Nat.le_refl _) _).alloc (by simp) _⟩

set_option maxRecDepth 100000 in
set_option maxHeartbeats 2000000 in
theorem clone_any (g off k c : Nat) (zs : List Int) (w : World) (hl : zs.length = k) (hk : k ≤ 131072) (hc : ∀ i, i < k → w.cell? ⟨g, off + i, none⟩ = some (.int .u8 (zs.getD i 0))) :
    Calls Tryd.prog 60 #[.slice (some ⟨g, off, none⟩) k c] w fun e w' => ∃ v, e = .returned v ∧ w'.ownsRow w.heap.size 5 1 v k (zs.map (Value.int .u8)) ∧ Below w.heap.size w w' := by
  obtain ⟨i0, hi, hz0, hz1, hz2⟩ := info_parts Tryd.info_u8
  have HL : Hid (∀ W, Below w.heap.size w W → Lies .u8 W (some ⟨g, off, none⟩) zs) := fun W hW => (show Lies .u8 w (some ⟨g, off, none⟩) zs from .inr ⟨g, off, rfl, by rw [hl]; exact hc⟩).below hW
  clear hc
  have hsn : ∀ W : World, (binOp BinOp.eql 25 (Value.slice (some ⟨g, off, none⟩) k c) (Value.slice none 0 0)).run Tryd.prog W = .ok (.bool false) W := fun W => rfl
  go_enter Tryd.func60, Tryd.ntmps60
  go_wp2_with (at_builtin; refine append_any _ rfl _ _ 25 rfl w.heap.size 5 i0 (.int .u8 0) 1 Tryd.underlying25 hi hz0 hz1 hz2 rfl _ 0 [] rfl (World.ownsRow_lit w #[] 0 (Nat.le_refl _) (by unfold maxLen; omega) rfl) .u8 _ _ _ zs rfl (by intro h; cases h) hl (HL.out _ ((Below.refl _ _).alloc (Nat.le_refl _) _)) (by unfold maxLen; omega) (by omega) (by simp) ?_; intro v1 w1 ho1 hg1)
  go_ret
  refine ⟨_, rfl, ?_, own_grown ((Below.refl _ _).alloc (Nat.le_refl _) _) hg1 (World.ownsRow_lit (e := 5) (size := 1) w #[] 0 (Nat.le_refl _) (by unfold maxLen; omega) rfl) (by simp)⟩
  have := ho1
  rw [Nat.zero_add, List.nil_append] at this
  exact this

/-- The numbers of a kind are read. -/
def nmP (f : Int) : Nat → List Int → Option (List Int × List Int)
  | 0, zs => some ([], zs)
  | k + 1, zs => match nmP f k zs with
    | none => none
    | some (l, t) => if hasB f k then (match numP t with
      | none => none
      | some (n, t1) => some (l ++ [n], t1)) else some (l ++ [0], t)
theorem nmP_by {f : Int} : ∀ {k : Nat} {zs t : List Int} {l : List Int}, Bytey zs → nmP f k zs = some (l, t) → l.length = k ∧ Bytey t ∧ t.length ≤ zs.length
  | 0, zs, t, l, hb, h => by
    simp only [nmP, Option.some.injEq, Prod.mk.injEq] at h
    obtain ⟨rfl, rfl⟩ := h
    exact ⟨rfl, hb, Nat.le_refl _⟩
  | k + 1, zs, t, l, hb, h => by
    simp only [nmP] at h
    split at h
    · cases h
    · rename_i l' t' h1
      obtain ⟨q1, q2, q3⟩ := nmP_by hb h1
      split at h
      · split at h
        · cases h
        · rename_i n t1 h2
          simp only [Option.some.injEq, Prod.mk.injEq] at h
          obtain ⟨rfl, rfl⟩ := h
          obtain ⟨q4, q5⟩ := numP_by q2 h2
          exact ⟨by simp [q1], q4, by omega⟩
      · simp only [Option.some.injEq, Prod.mk.injEq] at h
        obtain ⟨rfl, rfl⟩ := h
        exact ⟨by simp [q1], q2, q3⟩
theorem nmP_no {f : Int} {k : Nat} {zs : List Int} (h : nmP f k zs = none) : ∀ j, nmP f (k + j) zs = none
  | 0 => h
  | j + 1 => by
    have := nmP_no h j
    show (match nmP f (k + j) zs with | none => none | some (l, t) => _) = none
    rw [this]
/-- A record is read. -/
def recP : List Int → Option (Rc × List Int)
  | [] => none
  | k :: t => match nmP (kf k) 8 t with
    | none => none
    | some (l, t1) =>
      if hasB (kf k) 8 then (match spsP t1 with
        | none => none
        | some (s, t2) => some ({ mkR k l with spans := s }, t2))
      else if hasB (kf k) 9 then (match numP t1 with
        | none => none
        | some (n, t2) => if n ≤ t2.length then some ({ mkR k l with data := t2.take n.toNat }, t2.drop n.toNat) else none)
      else some (mkR k l, t1)

theorem grow_new {w W : World} {rb g' i : Nat} (h : w.grownBy W (some rb)) (hg : w.heap.size ≤ g') (v : Value) : w.grownBy (W.setCell ⟨g', i, none⟩ v) (some rb) := by
  have h1 := grown_set W g' i v
  refine ⟨h1.os.trans h.os, h1.tape.trans h.tape, h1.output.trans h.output, Nat.le_trans h.size h1.size, fun k hk hne => ?_⟩
  have := h.size
  exact (h1.block k (by omega) (by simp; omega)).trans (h.block k hk hne)
theorem grow_below {w W W' : World} {rb B : Nat} (h : w.grownBy W (some rb)) (hb : Below B W W') (hB : w.heap.size ≤ B) : w.grownBy W' (some rb) :=
  ⟨hb.os.trans h.os, hb.tape.trans h.tape, hb.output.trans h.output, Nat.le_trans h.size hb.size, fun k hk hne => (hb.block k (by omega)).trans (h.block k hk hne)⟩
theorem Tab6.grown {w w' : World} {rb : Nat} (h : Tab6 w) (hg : w.grownBy w' (some rb)) (hr : 0 < rb) : Tab6 w' := fun i hi => by
  have h1 := h i hi
  exact hg.cell h1 (by simp; omega)
theorem RdS.below {w w' : World} {rb g : Nat} {zs : List Int} (h : RdS w rb g zs) (hb : Below w.heap.size w w') : RdS w' rb g zs :=
  h.keep (row := none) ⟨hb.os, hb.tape, hb.output, hb.size, fun k hk _ => hb.block k hk⟩ (by simp) (by simp)

/-- What 'record' answers. -/
def RecPost (q : Option (Rc × List Int)) (w : World) (rb g : Nat) (e : Ending) (w' : World) : Prop :=
  (match q with
    | some (r, t) => ∃ sv dv, e = .returned (.agg (rcC r sv dv)) ∧ C.SOwn w' w.heap.size sv r.spans ∧ w'.ownsRow w.heap.size 5 1 dv r.data.length (r.data.map (Value.int .u8)) ∧ (∀ j, sv.ownBlock = some j → dv.ownBlock ≠ some j) ∧ RdS w' rb g t
    | none => e = .panicked pcV) ∧ w.grownBy w' (some rb)
end Go.Proofs.YtjolflpmeodnaagDoor
