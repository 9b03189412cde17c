import Derived.Test.YtllhbhogfffedaaGreatDoorRcBkM
import Derived.Test.YtllhbhogfffedaaGreatDoorJkOk
import Derived.Maps.AppendAt
import Derived.Test.YtllhbhogfffedaaGreatDoorRcRf8
namespace Go.Proofs.YtllhbhogfffedaaGreatDoor
open Go.RowKit
set_option linter.unusedVariables false
set_option linter.unusedSimpArgs false

theorem fs_frame {r : Rc} (h : mayB6 r = true) (hd : Bytey r.data) (t : List Int) : fsR (frB r ++ t) = (r, ((frB r).length : Int)) := by
  have h1 := prB_len h
  have h2 := crs_lt (prB_bytey h hd)
  have h3 := frB_len r
  have e0 : frB r ++ t = wd4 ((prB r).length : Nat) ++ (wd4 ((crs (prB r) : Nat) : Int) ++ (prB r ++ t)) := by unfold frB; simp only [List.append_assoc]
  have e1 : vl4 (frB r ++ t) = ((prB r).length : Nat) := by rw [e0]; exact vl4_wd4 _ _ (by omega)
  have e2 : (frB r ++ t).drop 4 = wd4 ((crs (prB r) : Nat) : Int) ++ (prB r ++ t) := by rw [e0]; rfl
  have e3 : (frB r ++ t).drop 8 = prB r ++ t := by rw [e0]; rfl
  unfold fsR
  rw [if_neg (by rw [List.length_append]; omega), e1, e2, e3, vl4_wd4 _ _ (by omega), if_neg (by rw [List.length_append]; omega), Int.toNat_natCast, List.take_left, read_back h, if_neg (by simp), h3]
  simp
theorem vl4_take {zs : List Int} {k : Nat} (hk : 4 ≤ k) : vl4 (zs.take k) = vl4 zs := by
  unfold vl4
  simp only [List.getD_eq_getElem?_getD]
  rw [List.getElem?_take_of_lt (by omega), List.getElem?_take_of_lt (by omega), List.getElem?_take_of_lt (by omega), List.getElem?_take_of_lt (by omega)]
theorem fs_short {r : Rc} (h : mayB6 r = true) {k : Nat} (hk : k < (frB r).length) : (fsR ((frB r).take k)).2 = 0 := by
  have h1 := prB_len h
  have h3 := frB_len r
  unfold fsR
  by_cases h8 : k < 8
  · rw [if_pos (by rw [List.length_take]; omega)]
  · rw [if_neg (by rw [List.length_take]; omega), if_pos]
    right
    rw [vl4_take (by omega)]
    have e1 : vl4 (frB r) = ((prB r).length : Nat) := by unfold frB; exact vl4_wd4 _ _ (by omega)
    rw [e1, List.length_take]
    omega
theorem fs_nil : (fsR []).2 = 0 := by unfold fsR; rfl
theorem scd_frames : ∀ (n : Nat) (l : List Rc) (t : List Int), l.length = n → (∀ r ∈ l, mayB6 r = true ∧ Bytey r.data) → Bytey (l.flatMap frB ++ t) → Scd (l.flatMap frB ++ t) l (l.flatMap frB).length
  | 0, l, t, hl, h, hb => by
    obtain rfl := List.eq_nil_of_length_eq_zero hl
    exact Scd.start _
  | n + 1, l, t, hl, h, hb => by
    have hne : l ≠ [] := by intro e; rw [e] at hl; simp at hl
    obtain ⟨l', r, rfl⟩ : ∃ l' r, l = l' ++ [r] := ⟨l.dropLast, l.getLast hne, (List.dropLast_concat_getLast hne).symm⟩
    have hr := h r (by simp)
    have e : (l' ++ [r]).flatMap frB ++ t = l'.flatMap frB ++ (frB r ++ t) := by simp [List.append_assoc]
    rw [e] at hb ⊢
    have h1 := scd_frames n l' (frB r ++ t) (by simpa using hl) (fun q hq => h q (by simp [hq])) hb
    have h2 := fs_frame hr.1 hr.2 t
    have h3 := frB_len r
    have hdr : (l'.flatMap frB ++ (frB r ++ t)).drop (l'.flatMap frB).length = frB r ++ t := List.drop_left
    have h4 := h1.step hb (by rw [hdr, h2]; simp only; omega)
    rw [hdr, h2] at h4
    simp only [Int.toNat_natCast] at h4
    rw [show ((l' ++ [r]).flatMap frB).length = (l'.flatMap frB).length + (frB r).length by simp]
    exact h4
theorem fr_bytey {l : List Rc} (h : ∀ r ∈ l, mayB6 r = true ∧ Bytey r.data) : Bytey (l.flatMap frB) := by
  refine bytey_flat (fun r hr => ?_)
  obtain ⟨h1, h2⟩ := h r hr
  have h3 := prB_len h1
  have hpb := prB_bytey h1 h2
  have h4 := crs_lt hpb
  have hw : ∀ n : Int, 0 ≤ n ∧ n < 4294967296 → Bytey (wd4 n) := fun n hn z hz => by
    simp only [wd4, List.mem_cons, List.not_mem_nil, or_false] at hz
    rcases hz with rfl | rfl | rfl | rfl <;> omega
  unfold frB
  exact bytey_app (hw _ (by omega)) (bytey_app (hw _ (by omega)) hpb)
theorem scR_all {l : List Rc} (h : ∀ r ∈ l, mayB6 r = true ∧ Bytey r.data) : scR (l.flatMap frB) = (l, (l.flatMap frB).length) := by
  have h1 := scd_frames l.length l [] rfl h (by rw [List.append_nil]; exact fr_bytey h)
  rw [List.append_nil] at h1
  exact h1.fin (by rw [List.drop_length]; exact fs_nil)
theorem fr_split (l : List Rc) {k : Nat} (hk : k < l.length) : l = l.take k ++ l[k] :: l.drop (k + 1) := by
  rw [← List.drop_eq_getElem_cons hk, List.take_append_drop]
theorem fr_take (l : List Rc) {k : Nat} (hk : k < l.length) : (l.take (k + 1)).flatMap frB = (l.take k).flatMap frB ++ frB l[k] := by
  rw [List.take_succ_eq_append_getElem hk, List.flatMap_append]
  simp
/-- Of frames that are cut, those that stand whole. -/
theorem scR_cut {l : List Rc} (h : ∀ r ∈ l, mayB6 r = true ∧ Bytey r.data) {k c : Nat} (hk : k < l.length) (h1 : ((l.take k).flatMap frB).length ≤ c) (h2 : c < ((l.take (k + 1)).flatMap frB).length) :
    scR ((l.flatMap frB).take c) = (l.take k, ((l.take k).flatMap frB).length) := by
  have hm : l[k] ∈ l := List.getElem_mem hk
  have ht : ∀ r ∈ l.take k, mayB6 r = true ∧ Bytey r.data := fun r hr => h r (List.mem_of_mem_take hr)
  rw [fr_take l hk, List.length_append] at h2
  have e : (l.flatMap frB).take c = (l.take k).flatMap frB ++ (frB l[k]).take (c - ((l.take k).flatMap frB).length) := by
    have e1 : l.flatMap frB = (l.take k).flatMap frB ++ (frB l[k] ++ (l.drop (k + 1)).flatMap frB) := by
      have := congrArg (List.flatMap frB) (fr_split l hk)
      rw [List.flatMap_append, List.flatMap_cons] at this
      exact this
    rw [e1, List.take_append, List.take_of_length_le h1, List.take_append_of_le_length (by omega)]
  rw [e]
  have hbt : Bytey (frB l[k]) := by
    have := fr_bytey (l := [l[k]]) (fun r hr => by simp at hr; rw [hr]; exact h _ hm)
    simpa using this
  have h3 := scd_frames _ (l.take k) ((frB l[k]).take (c - ((l.take k).flatMap frB).length)) rfl ht (bytey_app (fr_bytey ht) (bytTake hbt _))
  exact h3.fin (by rw [List.drop_left]; exact fs_short (h _ hm).1 (by omega))
end Go.Proofs.YtllhbhogfffedaaGreatDoor

namespace Go.Proofs.YtllhbhogfffedaaGreatDoor
open Go.RowKit
set_option linter.unusedVariables false
set_option linter.unusedSimpArgs false

theorem scn_len : ∀ (k : Nat) (zs : List Int), Bytey zs → (scn k zs).2 ≤ zs.length
  | 0, zs, _ => Nat.zero_le _
  | k + 1, zs, hb => by
    by_cases h0 : (fsR zs).2 = 0
    · rw [scn_none h0]; exact Nat.zero_le _
    · have h1 := fsR_bd hb
      have h2 := scn_len k (zs.drop (fsR zs).2.toNat) (bytDrop hb _)
      rw [List.length_drop] at h2
      simp only [scn, if_neg h0]
      omega
theorem scR_len {zs : List Int} (hb : Bytey zs) : (scR zs).2 ≤ zs.length := scn_len _ _ hb
end Go.Proofs.YtllhbhogfffedaaGreatDoor

namespace Go.Proofs.YtllhbhogfffedaaGreatDoor
open Go.RowKit
set_option linter.unusedVariables false

/-- The lists of a record that was lent, with their marks. -/
structure Lnd (w : World) (base gd gs ns nd : Nat) (l : List (Int × Int)) (zs : List Int) : Prop where
  dat : Blk .u8 w gd 5 (mkD zs)
  spn : C.SOwn w base (.slice (some ⟨gs, 0, none⟩) (ns + 2) (ns + 2)) (mkS l)
  ndl : zs.length = nd
  nsl : l.length = ns
  ne : gd ≠ gs
  lo : base ≤ gd
  sd : nd ≤ 140737488351232
  ss : ns * 16 ≤ 140737488351232
end Go.Proofs.YtllhbhogfffedaaGreatDoor

namespace Go.Proofs.YtllhbhogfffedaaGreatDoor
open Go.RowKit
set_option linter.unusedVariables false

/-- What alone two blocks may have changed in. -/
structure Oth (gd gs : Nat) (w w' : World) : Prop where
  os : w'.os = w.os
  tape : w'.tape = w.tape
  output : w'.output = w.output
  size : w.heap.size ≤ w'.heap.size
  block : ∀ g, g < w.heap.size → g ≠ gd → g ≠ gs → w'.heap[g]? = w.heap[g]?
end Go.Proofs.YtllhbhogfffedaaGreatDoor

namespace Go.Proofs.YtllhbhogfffedaaGreatDoor
open Go.RowKit
set_option linter.unusedVariables false

/-- A row of bytes of the call's own. -/
def DOwn (w : World) (base : Nat) (v : Value) (zs : List Int) : Prop := w.ownsRow base 5 1 v zs.length (zs.map (Value.int .u8))
/-- What alone two rows may have changed in. -/
structure OthV (a b : Option Nat) (w w' : World) : Prop where
  os : w'.os = w.os
  tape : w'.tape = w.tape
  output : w'.output = w.output
  size : w.heap.size ≤ w'.heap.size
  block : ∀ g, g < w.heap.size → some g ≠ a → some g ≠ b → w'.heap[g]? = w.heap[g]?
end Go.Proofs.YtllhbhogfffedaaGreatDoor

namespace Go.Proofs.YtllhbhogfffedaaGreatDoor
open Go.RowKit
set_option linter.unusedVariables false

/-- A row of the call's own: its elements' type and size, its slice, how many, its cells. -/
structure Rwo where
  e : TypeId
  sz : Nat
  v : Value
  n : Nat
  xs : List Value
/-- Rows of the call's own, each in a block that is no other's. -/
structure Fam (S : Nat → Prop) (H : Nat) (w : World) (base N : Nat) (F : Nat → Rwo) : Prop where
  own : ∀ p, p < N → w.ownsRow base (F p).e (F p).sz (F p).v (F p).n (F p).xs
  sep : ∀ p q k, p < N → q < N → (F p).v.ownBlock = some k → (F q).v.ownBlock = some k → p = q
  new : ∀ p k, p < N → (F p).v.ownBlock = some k → S k ∨ H ≤ k
/-- What alone the blocks of S may have changed in. -/
structure Kps (S : Nat → Prop) (w w' : World) : Prop where
  os : w'.os = w.os
  tape : w'.tape = w.tape
  output : w'.output = w.output
  size : w.heap.size ≤ w'.heap.size
  block : ∀ g, g < w.heap.size → ¬ S g → w'.heap[g]? = w.heap[g]?
def upF (F : Nat → Rwo) (p : Nat) (x : Rwo) : Nat → Rwo := fun q => if q = p then x else F q
theorem Fam.keep {S : Nat → Prop} {H : Nat} {w w' : World} {base N : Nat} {F : Nat → Rwo} (h : Fam S H w base N F) (hb : Below w.heap.size w w') : Fam S H w' base N F :=
  ⟨fun p hp => own_below6 (h.own p hp) hb, h.sep, h.new⟩
/-- A record in memory of its own. -/
structure Ro where
  r : Rc
  sa : Option Addr
  da : Option Addr
  sc : Nat
  dc : Nat
abbrev Ro.sv (o : Ro) : Value := .slice o.sa o.r.spans.length o.sc
abbrev Ro.dv (o : Ro) : Value := .slice o.da o.r.data.length o.dc
def dRow (v : Value) (zs : List Int) : Rwo := ⟨5, 1, v, zs.length, zs.map (Value.int .u8)⟩
def sRow (v : Value) (l : List (Int × Int)) : Rwo := ⟨128, 2, v, l.length, l.flatMap C.spc⟩
/-- What is written over a record's lists. -/
def yM (i : Nat) : Int := IntKind.u8.wrap (i : Int)
def zM (i : Nat) : Int := IntKind.i64.wrap (-1 - (i : Int))

/-- Some of the records are written over. -/
structure Spd (S : Nat → Prop) (w0 w : World) (base R : Nat) (X : Rwo) (os : Nat → Ro) (n : Nat) (F : Nat → Rwo) : Prop where
  fam : Fam S w0.heap.size w base (3 + 2 * R) F
  f0 : F 0 = ⟨35, 1, .slice none 0 0, 0, []⟩
  f1 : F 1 = ⟨79, 1, .slice none 0 0, 0, []⟩
  f2 : F 2 = X
  done : ∀ i, i < n → F (3 + 2 * i) = dRow (os i).dv (List.replicate (os i).r.data.length (yM i)) ∧ F (4 + 2 * i) = sRow (os i).sv (List.replicate (os i).r.spans.length (zM i, 0))
  left : ∀ i, n ≤ i → i < R → F (3 + 2 * i) = dRow (os i).dv (os i).r.data ∧ F (4 + 2 * i) = sRow (os i).sv (os i).r.spans
  blw : Kps S w0 w
/-- Some of the records' lists have grown, and lie in two rows. -/
structure Grd (S : Nat → Prop) (w0 w : World) (base R : Nat) (X : Rwo) (os : Nat → Ro) (n : Nat) (vd vs : Value) (dl sl : List Value) (F : Nat → Rwo) : Prop where
  fam : Fam S w0.heap.size w base (3 + 2 * R) F
  f0 : F 0 = ⟨35, 1, vd, n, dl⟩
  f1 : F 1 = ⟨79, 1, vs, n, sl⟩
  f2 : F 2 = X
  done : ∀ i, i < n → ∃ d s, dl[i]? = some d ∧ sl[i]? = some s ∧ F (3 + 2 * i) = dRow d (List.replicate ((os i).r.data.length + 9) (yM i)) ∧ F (4 + 2 * i) = sRow s (List.replicate ((os i).r.spans.length + 9) (zM i, 0))
  left : ∀ i, n ≤ i → i < R → F (3 + 2 * i) = dRow (os i).dv (List.replicate (os i).r.data.length (yM i)) ∧ F (4 + 2 * i) = sRow (os i).sv (List.replicate (os i).r.spans.length (zM i, 0))
  blw : Kps S w0 w
/-- One record's lists are growing. -/
structure Gri (S : Nat → Prop) (w0 w : World) (base R : Nat) (X : Rwo) (os : Nat → Ro) (n k : Nat) (vd vs d s : Value) (dl sl : List Value) (F : Nat → Rwo) : Prop where
  fam : Fam S w0.heap.size w base (3 + 2 * R) F
  f0 : F 0 = ⟨35, 1, vd, n, dl⟩
  f1 : F 1 = ⟨79, 1, vs, n, sl⟩
  f2 : F 2 = X
  done : ∀ i, i < n → ∃ d s, dl[i]? = some d ∧ sl[i]? = some s ∧ F (3 + 2 * i) = dRow d (List.replicate ((os i).r.data.length + 9) (yM i)) ∧ F (4 + 2 * i) = sRow s (List.replicate ((os i).r.spans.length + 9) (zM i, 0))
  here : F (3 + 2 * n) = dRow d (List.replicate ((os n).r.data.length + k) (yM n)) ∧ F (4 + 2 * n) = sRow s (List.replicate ((os n).r.spans.length + k) (zM n, 0))
  left : ∀ i, n < i → i < R → F (3 + 2 * i) = dRow (os i).dv (List.replicate (os i).r.data.length (yM i)) ∧ F (4 + 2 * i) = sRow (os i).sv (List.replicate (os i).r.spans.length (zM i, 0))
  blw : Kps S w0 w
end Go.Proofs.YtllhbhogfffedaaGreatDoor

namespace Go.Proofs.YtllhbhogfffedaaGreatDoor
open Go.RowKit
set_option linter.unusedVariables false

end Go.Proofs.YtllhbhogfffedaaGreatDoor

namespace Go.Proofs.YtllhbhogfffedaaGreatDoor
open Go.RowKit
set_option linter.unusedVariables false
set_option linter.unusedSimpArgs false

theorem row_sh2 {w : World} {base n : Nat} {v : Value} {xs : List Int} (h : w.ownsRow base 5 1 v n (xs.map (Value.int .u8))) : ∃ a cap, v = .slice a n cap ∧ Lies .u8 w a xs ∧ xs.length = n ∧ n ≤ cap ∧ cap ≤ 9223372036854775807 := by
  have hs : ∃ a cap, v = .slice a n cap ∧ n ≤ cap ∧ cap ≤ 9223372036854775807 := by
    obtain ⟨_, ⟨rfl, rfl⟩ | ⟨g, cap, cur, rfl, _, _, h1, h2, _⟩⟩ := h
    · exact ⟨_, _, rfl, Nat.le_refl _, by omega⟩
    · exact ⟨_, _, rfl, h1, by unfold maxLen at h2; omega⟩
  obtain ⟨a, cap, rfl, h1, h2⟩ := hs
  exact ⟨a, cap, rfl, (own_lies h).1, (own_lies h).2, h1, h2⟩
/-- A record in memory of its own lies there as any. -/
theorem own_rin {w : World} {base : Nat} {r : Rc} {sa da : Option Addr} {sc dc : Nat} (hs : C.SOwn w base (.slice sa r.spans.length sc) r.spans) (hd : w.ownsRow base 5 1 (.slice da r.data.length dc) r.data.length (r.data.map (Value.int .u8))) (hb : r.data.length ≤ 140737488355328) : RIn w r sa da r.spans.length r.data.length sc dc := by
  have hl : r.spans.length ≤ 9223372036854775807 := by
    obtain ⟨_, ⟨_, h0⟩ | ⟨_, cap, cur, hv, _, _, h1, h2, _⟩⟩ := hs
    · omega
    · unfold maxLen at h2; omega
  refine ⟨rfl, rfl, hb, hs.ls hl, (own_lies hd).1, fun e => ?_⟩
  subst e
  obtain ⟨_, ⟨h, h0⟩ | ⟨g, cap, cur, h, _⟩⟩ := hd
  · simp only [Value.slice.injEq] at h; exact ⟨h.2.1, h.2.2⟩
  · cases h
end Go.Proofs.YtllhbhogfffedaaGreatDoor

namespace Go.Proofs.YtllhbhogfffedaaGreatDoor
open Go.RowKit

/-- An append to a row of bytes that is owned: the row's block, or a new one. -/
theorem append_at {P : Program} (w : World) {ops : Array Oper} {rest : List Oper} {o : Oper} {a : Act} {Q : Exit → Act → World → Prop} (hgd : o.guard = none) (s x : Operand) (t : TypeId)
    (ho : o.op = .call { callee := .builtin .append, args := #[s, x], argTypes := #[t, t] })
    (base : Nat) (e : TypeId) (i : TypeInfo) (z : Value) (bytes : Nat) (ht : P.underlying t = some (.slice e)) (hi : P.info? e = some i) (hz : i.zero = some z)
    (hsize : i.size = 1) (hby : i.bytes = bytes) (hzs : z.cells.size = 1)
    (v : Value) (n : Nat) (xs : List Value) (hs : a.eval s = v) (hown : w.ownsRow base e 1 v n xs)
    (k : IntKind) (ao : Option Addr) (m c : Nat) (zs : List Int) (hx : a.eval x = .slice ao m c) (hnil : ao = none → m = 0 ∧ c = 0) (hl : zs.length = m) (hz' : Lies k w ao zs)
    (h63 : n + m ≤ maxLen) (hbytes : (n + m) * bytes ≤ 140737488355328) (hbase : base ≤ w.heap.size)
    (h : ∀ v' w', w'.ownsRow base e 1 v' (n + m) (xs ++ zs.map (Value.int k)) → w.grownBy w' v.ownBlock → (∀ j, v'.ownBlock = some j → v.ownBlock = some j ∨ w.heap.size ≤ j) → wpList P ops Q rest (a.put o.dst v') w') : wpList P ops Q (o :: rest) a w := by
  cases ao with
  | none =>
    obtain ⟨rfl, rfl⟩ := hnil rfl
    obtain rfl : zs = [] := List.eq_nil_of_length_eq_zero hl
    refine wpList_append_own_none hgd s x t ho base e i 1 ht hi v n xs hs hown hx ?_
    exact h v w (by simpa using hown) (World.grownBy.refl _ _) (fun j hj => .inl hj)
  | some ad =>
    refine wpList_append_own_at w hgd s x t ho base e i z 1 bytes ht hi hz hsize hby hzs (by decide) v n xs hs hown ad m c (zs.map (Value.int k)) hx (by simpa using hl) ?_ (by intro u hu; simp at hu; obtain ⟨y, _, rfl⟩ := hu; rfl) h63 hbytes hbase (fun v' w' h1 h2 _ h4 => h v' w' h1 h2 (fun j hj => ?_))
    · intro j u hj
      have hjl : j < zs.length := by
        rcases Nat.lt_or_ge j zs.length with q | q
        · exact q
        · rw [List.getElem?_eq_none (by simpa using q)] at hj; cases hj
      rcases hz' with rfl | ⟨b, off, hb, hc⟩
      · simp at hjl
      · simp only [Option.some.injEq] at hb
        subst hb
        rw [List.getElem?_map, List.getElem?_eq_getElem hjl] at hj
        simp only [Option.map_some, Option.some.injEq] at hj
        rw [show (⟨b, off, none⟩ : Addr).add j = ⟨b, off + j, none⟩ from by unfold Addr.add; split <;> simp_all, hc j hjl, ← hj]
        simp [List.getD_eq_getElem?_getD, List.getElem?_eq_getElem hjl]
    · rcases h4 with h4 | h4
      · left; rw [← h4]; exact hj
      · right; rw [h4] at hj; simp at hj; omega

/-- v became v', in place or in new memory; else nothing that was turned. -/
structure Grew (w w' : World) (v v' : Value) : Prop where
  grown : w.grownBy w' v.ownBlock
  stays : ∀ j, v'.ownBlock = some j → v.ownBlock = some j ∨ w.heap.size ≤ j

end Go.Proofs.YtllhbhogfffedaaGreatDoor

namespace Go.Proofs.YtllhbhogfffedaaGreatDoor
open Go.RowKit
set_option linter.unusedVariables false

/-- A record that was read: its lists lie from lo on, below hi; itself it lies in block b. -/
structure RAt (w : World) (lo hi b : Nat) (r : Rc) (sa da : Option Addr) (sc dc : Nat) : Prop where
  spn : C.SOwn w lo (.slice sa r.spans.length sc) r.spans
  dat : w.ownsRow lo 5 1 (.slice da r.data.length dc) r.data.length (r.data.map (Value.int .u8))
  ne : ∀ j, (Value.slice sa r.spans.length sc).ownBlock = some j → (Value.slice da r.data.length dc).ownBlock ≠ some j
  shi : ∀ k, (Value.slice sa r.spans.length sc).ownBlock = some k → k < hi
  dhi : ∀ k, (Value.slice da r.data.length dc).ownBlock = some k → k < hi
  box : w.heap[b]? = some (rcO r (.slice sa r.spans.length sc) (.slice da r.data.length dc))
theorem own_same {w w' : World} {base size n : Nat} {e : TypeId} {v : Value} {xs : List Value} (h : w.ownsRow base e size v n xs) (hg : ∀ k, v.ownBlock = some k → w'.heap[k]? = w.heap[k]?) : w'.ownsRow base e size v n xs := by
  obtain ⟨hl, h | ⟨g, cap, cur, rfl, hb, hh, r⟩⟩ := h
  · exact ⟨hl, .inl h⟩
  · exact ⟨hl, .inr ⟨g, cap, cur, rfl, hb, (hg g rfl).trans hh, r⟩⟩
theorem own_lower {w : World} {base base' size n : Nat} {e : TypeId} {v : Value} {xs : List Value} (h : w.ownsRow base e size v n xs) (hb : base' ≤ base) : w.ownsRow base' e size v n xs := by
  obtain ⟨hl, h | ⟨g, cap, cur, rfl, hb', r⟩⟩ := h
  · exact ⟨hl, .inl h⟩
  · exact ⟨hl, .inr ⟨g, cap, cur, rfl, Nat.le_trans hb hb', r⟩⟩
/-- The two records that Owned is asked of. -/
def twoO (r s : Ro) (i : Nat) : Ro := if i = 0 then r else s
def twoF (vl : Value) (cs : List Value) (r s : Ro) (p : Nat) : Rwo :=
  if p = 0 then ⟨35, 1, .slice none 0 0, 0, []⟩ else if p = 1 then ⟨79, 1, .slice none 0 0, 0, []⟩ else if p = 2 then ⟨81, 11, vl, 2, cs⟩ else if p = 3 then dRow r.dv r.r.data else if p = 4 then sRow r.sv r.r.spans else if p = 5 then dRow s.dv s.r.data else sRow s.sv s.r.spans
end Go.Proofs.YtllhbhogfffedaaGreatDoor

namespace Go.Proofs.YtllhbhogfffedaaGreatDoor
open Go.RowKit
set_option linter.unusedVariables false
set_option linter.unusedSimpArgs false

abbrev o0 : Ro := ⟨rz0, none, none, 0, 0⟩
def oAt (os : List Ro) (i : Nat) : Ro := os.getD i o0
def rlC (os : List Ro) : List Value := os.flatMap fun o => (rcC o.r o.sv o.dv).toList
/-- The rows of a list of records: the list's own, and two of each record. -/
def rlF (v : Value) (os : List Ro) (p : Nat) : Rwo :=
  if p = 0 then ⟨35, 1, .slice none 0 0, 0, []⟩ else if p = 1 then ⟨79, 1, .slice none 0 0, 0, []⟩ else if p = 2 then ⟨81, 11, v, os.length, rlC os⟩
  else if (p - 3) % 2 = 0 then dRow (oAt os ((p - 3) / 2)).dv (oAt os ((p - 3) / 2)).r.data else sRow (oAt os ((p - 3) / 2)).sv (oAt os ((p - 3) / 2)).r.spans
theorem rlF_2 (v : Value) (os : List Ro) : rlF v os 2 = ⟨81, 11, v, os.length, rlC os⟩ := rfl
theorem rlF_d (v : Value) (os : List Ro) (i : Nat) : rlF v os (3 + 2 * i) = dRow (oAt os i).dv (oAt os i).r.data := by
  unfold rlF
  rw [if_neg (by omega), if_neg (by omega), if_neg (by omega), if_pos (by omega), show (3 + 2 * i - 3) / 2 = i by omega]
theorem rlF_s (v : Value) (os : List Ro) (i : Nat) : rlF v os (4 + 2 * i) = sRow (oAt os i).sv (oAt os i).r.spans := by
  unfold rlF
  rw [if_neg (by omega), if_neg (by omega), if_neg (by omega), if_neg (by omega), show (4 + 2 * i - 3) / 2 = i by omega]
theorem oAt_old {os : List Ro} {i : Nat} (o : Ro) (h : i < os.length) : oAt (os ++ [o]) i = oAt os i := by
  unfold oAt
  rw [List.getD_eq_getElem?_getD, List.getD_eq_getElem?_getD, List.getElem?_append_left h]
theorem oAt_new (os : List Ro) (o : Ro) : oAt (os ++ [o]) os.length = o := by
  unfold oAt
  rw [List.getD_eq_getElem?_getD, List.getElem?_append_right (Nat.le_refl _), Nat.sub_self]
  rfl
theorem rlF_old {v v' : Value} {os : List Ro} (o : Ro) {p : Nat} (h : p < 3 + 2 * os.length) (h2 : p ≠ 2) : rlF v' (os ++ [o]) p = rlF v os p := by
  by_cases h3 : p < 3
  · have : p = 0 ∨ p = 1 := by omega
    rcases this with rfl | rfl <;> rfl
  · have e0 : ¬ p = 0 := by omega
    have e1 : ¬ p = 1 := by omega
    simp only [rlF, if_neg e0, if_neg e1, if_neg h2, oAt_old o (show (p - 3) / 2 < os.length by omega)]
theorem rlC_push (os : List Ro) (o : Ro) : rlC (os ++ [o]) = rlC os ++ (rcC o.r o.sv o.dv).toList := by
  unfold rlC
  simp
/-- A list of records in memory of its own, between two places. -/
structure Rl (w : World) (lo : Nat) (v : Value) (os : List Ro) : Prop where
  fam : Fam (fun _ => True) 0 w lo (3 + 2 * os.length) (rlF v os)
  sml : ∀ i, i < os.length → (oAt os i).r.data.length ≤ 65536 ∧ (oAt os i).r.spans.length ≤ 500
theorem Rl.start (w : World) (lo : Nat) : Rl w lo (.slice none 0 0) [] := by
  refine ⟨⟨fun p hp => ?_, fun p q k hp hq h1 h2 => ?_, fun p k hp hk => .inl trivial⟩, fun i hi => by simp at hi⟩
  · have : p = 0 ∨ p = 1 ∨ p = 2 := by simp at hp; omega
    rcases this with rfl | rfl | rfl <;> exact World.ownsRow_nil _ _ _ _
  · have : p = 0 ∨ p = 1 ∨ p = 2 := by simp at hp; omega
    rcases this with rfl | rfl | rfl <;> cases h1
theorem Rl.keep {w w' : World} {lo : Nat} {v : Value} {os : List Ro} (h : Rl w lo v os) (hb : Below w.heap.size w w') : Rl w' lo v os := ⟨h.fam.keep hb, h.sml⟩
theorem Rl.lt {w : World} {lo : Nat} {v : Value} {os : List Ro} (h : Rl w lo v os) {p k : Nat} (hp : p < 3 + 2 * os.length) (hk : (rlF v os p).v.ownBlock = some k) : lo ≤ k ∧ k < w.heap.size := (h.fam.own p hp).lt k hk
theorem Rl.row {w : World} {lo : Nat} {v : Value} {os : List Ro} (h : Rl w lo v os) : w.ownsRow lo 81 11 v os.length (rlC os) := h.fam.own 2 (by omega)
/-- One record more: its lists lie in blocks that are new, and the list grows. -/
theorem Rl.push {w w1 w2 : World} {lo : Nat} {v v' : Value} {os : List Ro} (h : Rl w lo v os) (hlo : lo ≤ w.heap.size) (hb : Below w.heap.size w w1) (o : Ro)
    (hs : C.SOwn w1 w.heap.size o.sv o.r.spans) (hd : w1.ownsRow w.heap.size 5 1 o.dv o.r.data.length (o.r.data.map (Value.int .u8))) (hne : ∀ j, o.sv.ownBlock = some j → o.dv.ownBlock ≠ some j)
    (hsm : o.r.data.length ≤ 65536 ∧ o.r.spans.length ≤ 500)
    (hg : w1.grownBy w2 v.ownBlock) (hr : w2.ownsRow lo 81 11 v' (os.length + 1) (rlC os ++ (rcC o.r o.sv o.dv).toList)) (hf : ∀ j, v'.ownBlock = some j → v.ownBlock = some j ∨ w1.heap.size ≤ j) : Rl w2 lo v' (os ++ [o]) := by
  have hvlt : ∀ k, v.ownBlock = some k → k < w.heap.size := fun k hk => (h.lt (p := 2) (by omega) hk).2
  have hs2 : C.SOwn w2 w.heap.size o.sv o.r.spans := own_keep6 hs hg (fun k hk e => by have := hvlt k e; have := (World.ownsRow.lt hs k hk).1; omega)
  have hd2 : w2.ownsRow w.heap.size 5 1 o.dv o.r.data.length (o.r.data.map (Value.int .u8)) := own_keep6 hd hg (fun k hk e => by have := hvlt k e; have := (hd.lt k hk).1; omega)
  have hz := hb.size
  -- where the block of each row lies
  have hpl : ∀ p k, p < 3 + 2 * (os ++ [o]).length → (rlF v' (os ++ [o]) p).v.ownBlock = some k → (p = 2 ∧ v'.ownBlock = some k) ∨ (p ≠ 2 ∧ p < 3 + 2 * os.length ∧ (rlF v os p).v.ownBlock = some k ∧ k < w.heap.size) ∨ (p = 3 + 2 * os.length ∧ o.dv.ownBlock = some k ∧ w.heap.size ≤ k ∧ k < w1.heap.size) ∨ (p = 4 + 2 * os.length ∧ o.sv.ownBlock = some k ∧ w.heap.size ≤ k ∧ k < w1.heap.size) := by
    intro p k hp hk
    simp only [List.length_append, List.length_cons, List.length_nil] at hp
    by_cases e2 : p = 2
    · subst e2; exact .inl ⟨rfl, hk⟩
    · by_cases e : p < 3 + 2 * os.length
      · rw [rlF_old o e e2 (v := v)] at hk
        exact .inr (.inl ⟨e2, e, hk, (h.lt e hk).2⟩)
      · by_cases e3 : p = 3 + 2 * os.length
        · subst e3
          rw [rlF_d, oAt_new] at hk
          exact .inr (.inr (.inl ⟨rfl, hk, hd.lt k hk⟩))
        · obtain rfl : p = 4 + 2 * os.length := by omega
          rw [rlF_s, oAt_new] at hk
          exact .inr (.inr (.inr ⟨rfl, hk, World.ownsRow.lt hs k hk⟩))
  refine ⟨⟨fun p hp => ?_, fun p q k hp hq h1 h2 => ?_, fun p k hp hk => .inl trivial⟩, fun i hi => ?_⟩
  · simp only [List.length_append, List.length_cons, List.length_nil] at hp
    by_cases e2 : p = 2
    · subst e2
      rw [rlF_2, rlC_push]
      simpa using hr
    · by_cases e : p < 3 + 2 * os.length
      · rw [rlF_old o e e2 (v := v)]
        exact own_keep6 (own_below6 (h.fam.own p e) hb) hg (fun k hk e3 => e2 (h.fam.sep p 2 k e (by omega) hk e3))
      · by_cases e3 : p = 3 + 2 * os.length
        · subst e3
          rw [rlF_d, oAt_new]
          exact own_lower hd2 hlo
        · obtain rfl : p = 4 + 2 * os.length := by omega
          rw [rlF_s, oAt_new]
          exact own_lower hs2 hlo
  · rcases hpl p k hp h1 with ⟨rfl, a⟩ | ⟨a2, a1, a, a3⟩ | ⟨rfl, a, a1, a2⟩ | ⟨rfl, a, a1, a2⟩ <;> rcases hpl q k hq h2 with ⟨rfl, b⟩ | ⟨b2, b1, b, b3⟩ | ⟨rfl, b, b1, b2⟩ | ⟨rfl, b, b1, b2⟩
    · rfl
    · rcases hf k a with c | c
      · exact absurd (h.fam.sep 2 q k (by omega) b1 c b).symm b2
      · omega
    · rcases hf k a with c | c
      · have := hvlt k c; omega
      · omega
    · rcases hf k a with c | c
      · have := hvlt k c; omega
      · omega
    · rcases hf k b with c | c
      · exact absurd (h.fam.sep p 2 k a1 (by omega) a c) a2
      · omega
    · exact h.fam.sep p q k a1 b1 a b
    · omega
    · omega
    · rcases hf k b with c | c
      · have := hvlt k c; omega
      · omega
    · omega
    · rfl
    · exact absurd a (hne k b)
    · rcases hf k b with c | c
      · have := hvlt k c; omega
      · omega
    · omega
    · exact absurd b (hne k a)
    · rfl
  · simp only [List.length_append, List.length_cons, List.length_nil] at hi
    by_cases e : i < os.length
    · rw [oAt_old o e]; exact h.sml i e
    · obtain rfl : i = os.length := by omega
      rw [oAt_new]; exact hsm
theorem oAt_get {os : List Ro} {i : Nat} (h : i < os.length) : oAt os i = os[i] := by
  unfold oAt
  rw [List.getD_eq_getElem?_getD, List.getElem?_eq_getElem h]; rfl
theorem rlC_at : ∀ {os : List Ro} {i : Nat}, i < os.length → ∀ j u, (rcC (oAt os i).r (oAt os i).sv (oAt os i).dv)[j]? = some u → (rlC os)[i * 11 + j]? = some u
  | [], i, hi, j, u, hj => by simp at hi
  | o :: os, 0, hi, j, u, hj => by
    have hj2 : j < 11 := (Array.getElem?_eq_some_iff.mp hj).1
    unfold rlC
    rw [List.flatMap_cons, List.getElem?_append_left (by simp; omega)]
    simpa [oAt] using hj
  | o :: os, i + 1, hi, j, u, hj => by
    have ih := rlC_at (os := os) (i := i) (by simpa using hi) j u (by simpa [oAt] using hj)
    unfold rlC at ih ⊢
    rw [List.flatMap_cons, List.getElem?_append_right (by simp; omega), ← ih]
    congr 1
    simp
    omega
theorem Rl.rlin {w : World} {lo : Nat} {v : Value} {os : List Ro} (h : Rl w lo v os) : ∃ a c, v = .slice a os.length c ∧ RLin w a (os.map Ro.r) := by
  obtain ⟨a, c, rfl⟩ := own_sl h.row
  refine ⟨a, c, rfl, ?_⟩
  by_cases h0 : os = []
  · subst h0; exact .inl rfl
  · have hl : 0 < os.length := List.length_pos_iff.mpr h0
    obtain ⟨g, cap, hv⟩ := C.own_some h.row hl
    simp only [Value.slice.injEq] at hv
    obtain ⟨rfl, _, rfl⟩ := hv
    refine .inr ⟨g, 0, rfl, fun i r hr => ?_⟩
    have hi : i < os.length := by
      rcases Nat.lt_or_ge i os.length with q | q
      · exact q
      · rw [List.getElem?_eq_none (by simpa using q)] at hr; cases hr
    have hrr : r = (oAt os i).r := by
      rw [List.getElem?_map, List.getElem?_eq_getElem hi] at hr
      simp at hr
      rw [oAt_get hi, hr]
    subst hrr
    have hd := h.fam.own (3 + 2 * i) (by omega)
    have hs := h.fam.own (4 + 2 * i) (by omega)
    rw [rlF_d] at hd
    rw [rlF_s] at hs
    have hsm := h.sml i hi
    refine ⟨(oAt os i).sa, (oAt os i).da, (oAt os i).sc, (oAt os i).dc, fun j u hj => ?_, own_rin hs hd (by omega)⟩
    have hj2 : j < 11 := (Array.getElem?_eq_some_iff.mp hj).1
    rw [Nat.zero_add, h.row.cellAt _ (by omega)]
    exact rlC_at hi j u hj
theorem Rl.same {w w' : World} {lo : Nat} {v : Value} {os : List Ro} (h : Rl w lo v os) (hg : ∀ p k, p < 3 + 2 * os.length → (rlF v os p).v.ownBlock = some k → w'.heap[k]? = w.heap[k]?) : Rl w' lo v os :=
  ⟨⟨fun p hp => own_same (h.fam.own p hp) (fun k hk => hg p k hp hk), h.fam.sep, h.fam.new⟩, h.sml⟩
end Go.Proofs.YtllhbhogfffedaaGreatDoor
