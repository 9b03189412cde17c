import Derived.Test.YtllhbhogfffedaaGreatDoorRead
import Derived.Maps.AppendAt
import Derived.Laws.AppendOwnNone
import Derived.Laws.OwnMore
import Derived.Deep.RegionHeld3
import Derived.OrdersHeld
import Derived.BigQuiet
namespace Go.Proofs.YtllhbhogfffedaaGreatDoor.K
open Go.RowKit
set_option linter.unusedVariables false
set_option linter.unusedSimpArgs false

/-! ## A disk, any: its files as a list; where they lie -/
def calmD (Q : Exit → Act → World → Prop) : Exit → Act → World → Prop
  | .panic _, _, _ => False
  | e, a, w => Q e a w
theorem calmD_le {Q : Exit → Act → World → Prop} {e : Exit} {a : Act} {w : World} (h : calmD Q e a w) : Q e a w := by
  cases e <;> first | exact h | exact h.elim

/-- A file: its name, its bytes, how many are safe. -/
structure Fl where
  nm : ByteArray
  bs : List Int
  sf : Int
structure Dk where
  fs : List Fl
  room : Int
  arm : Bool
  acts : Int
  dn : Bool
  dw : Bool
def isN (s : ByteArray) (f : Fl) : Bool := f.nm.toList == s.toList
def fnd (fs : List Fl) (s : ByteArray) : Option Nat := fs.findIdx? (isN s)
def fI (fs : List Fl) (s : ByteArray) : Int := match fnd fs s with | some i => (i : Int) | none => -1
def usd : List Fl → Nat
  | [] => 0
  | f :: r => f.bs.length + usd r
theorem usd_append (a b : List Fl) : usd (a ++ b) = usd a + usd b := by
  induction a with
  | nil => simp [usd]
  | cons f r ih => simp only [List.cons_append, usd, ih]; omega
/-- What may be: B bounds how many files and bytes there are. -/
structure Fl.Ok (f : Fl) : Prop where
  byt : Bytey f.bs
  lo : 0 ≤ f.sf
  hi : f.sf ≤ f.bs.length
structure Dk.Ok (D : Dk) (B : Nat) : Prop where
  fs : ∀ f ∈ D.fs, f.Ok
  len : D.fs.length ≤ B
  used : usd D.fs ≤ B
  room : 0 ≤ D.room ∧ D.room ≤ 9223372036854775807
  acts : 0 ≤ D.acts ∧ D.acts ≤ 9223372036854775807
theorem usd_get : ∀ {fs : List Fl} {i : Nat} {f : Fl}, fs[i]? = some f → f.bs.length ≤ usd fs
  | g :: r, 0, f, h => by simp at h; subst h; simp only [usd]; omega
  | g :: r, i + 1, f, h => by
    have := usd_get (fs := r) (i := i) (f := f) (by simpa using h)
    simp only [usd]; omega
theorem usd_take_succ : ∀ {fs : List Fl} {i : Nat} {f : Fl}, fs[i]? = some f → usd (fs.take (i + 1)) = usd (fs.take i) + f.bs.length
  | g :: r, 0, f, h => by simp at h; subst h; simp [usd]
  | g :: r, i + 1, f, h => by
    have := usd_take_succ (fs := r) (i := i) (f := f) (by simpa using h)
    simp only [List.take_succ_cons, usd, this]; omega
theorem usd_take_le : ∀ (fs : List Fl) (i : Nat), usd (fs.take i) ≤ usd fs
  | [], i => by simp [usd]
  | f :: r, 0 => by simp [usd]
  | f :: r, i + 1 => by
    have := usd_take_le r i
    simp only [List.take_succ_cons, usd]; omega
theorem fnd_some {fs : List Fl} {s : ByteArray} {i : Nat} {f : Fl} (h1 : ∀ j g, j < i → fs[j]? = some g → isN s g = false) (h2 : fs[i]? = some f) (h3 : isN s f = true) : fnd fs s = some i := by
  unfold fnd
  rw [List.findIdx?_eq_some_iff_getElem]
  have hl := (List.getElem?_eq_some_iff.mp h2)
  refine ⟨hl.1, by rw [hl.2]; exact h3, fun j hj => ?_⟩
  have := h1 j _ hj (List.getElem?_eq_getElem (Nat.lt_trans hj hl.1))
  simp [this]
theorem fnd_none {fs : List Fl} {s : ByteArray} (h1 : ∀ j g, j < fs.length → fs[j]? = some g → isN s g = false) : fnd fs s = none := by
  unfold fnd
  rw [List.findIdx?_eq_none_iff]
  intro x hx
  obtain ⟨i, hi⟩ := List.getElem?_of_mem hx
  exact h1 i x (List.getElem?_eq_some_iff.mp hi).1 hi
theorem fnd_lt {fs : List Fl} {s : ByteArray} {i : Nat} (h : fnd fs s = some i) : i < fs.length := by
  unfold fnd at h
  rw [List.findIdx?_eq_some_iff_getElem] at h
  exact h.1
theorem fI_some {fs : List Fl} {s : ByteArray} {i : Nat} (h : fnd fs s = some i) : fI fs s = (i : Int) := by unfold fI; rw [h]
theorem fI_none {fs : List Fl} {s : ByteArray} (h : fnd fs s = none) : fI fs s = -1 := by unfold fI; rw [h]

/-! ## Where it lies -/
abbrev Fv := Fl × Value
def fcell (p : Fv) : List Value := [.string p.1.nm, p.2, .int .i64 p.1.sf]
theorem fcell_len : ∀ (L : List Fv), (L.flatMap fcell).length = L.length * 3
  | [] => rfl
  | p :: r => by simp only [List.flatMap_cons, List.length_append, fcell_len r, fcell, List.length_cons, List.length_nil]; omega
theorem fcell_get : ∀ {L : List Fv} {i : Nat} {p : Fv}, L[i]? = some p → (L.flatMap fcell)[i * 3]? = some (.string p.1.nm) ∧ (L.flatMap fcell)[i * 3 + 1]? = some p.2 ∧ (L.flatMap fcell)[i * 3 + 2]? = some (.int .i64 p.1.sf)
  | q :: r, 0, p, h => by simp at h; subst h; simp [fcell]
  | q :: r, i + 1, p, h => by
    have ih := fcell_get (L := r) (i := i) (p := p) (by simpa using h)
    rw [List.flatMap_cons]
    have e0 : (i + 1) * 3 = (i * 3) + 3 := by omega
    have e1 : (i + 1) * 3 + 1 = (i * 3 + 1) + 3 := by omega
    have e2 : (i + 1) * 3 + 2 = (i * 3 + 2) + 3 := by omega
    rw [e2, e1, e0]
    refine ⟨?_, ?_, ?_⟩
    · rw [List.getElem?_append_right (by simp [fcell])]; simpa [fcell] using ih.1
    · rw [List.getElem?_append_right (by simp [fcell])]; simpa [fcell] using ih.2.1
    · rw [List.getElem?_append_right (by simp [fcell])]; simpa [fcell] using ih.2.2
/-- Rows of a call's own: shapes. -/
theorem d_shape {w : World} {base n sz : Nat} {e : TypeId} {v : Value} {xs : List Value} (h : w.ownsRow base e sz v n xs) : ∃ a cap, v = .slice a n cap := by
  obtain ⟨_, ⟨rfl, rfl⟩ | ⟨g, cap, cur, rfl, _⟩⟩ := h
  · exact ⟨none, 0, rfl⟩
  · exact ⟨_, cap, rfl⟩
theorem d_some {w : World} {base n sz : Nat} {e : TypeId} {v : Value} {xs : List Value} (h : w.ownsRow base e sz v n xs) (hn : 0 < n) : ∃ g cap, v = .slice (some ⟨g, 0, none⟩) n cap := by
  obtain ⟨_, ⟨rfl, rfl⟩ | ⟨g, cap, cur, rfl, _⟩⟩ := h
  · omega
  · exact ⟨g, cap, rfl⟩
theorem d_lt {w : World} {base n sz : Nat} {e : TypeId} {v : Value} {xs : List Value} (h : w.ownsRow base e sz v n xs) : ∀ g, v.ownBlock = some g → base ≤ g ∧ g < w.heap.size := World.ownsRow.lt h
theorem d_blk {w w' : World} {base n sz : Nat} {e : TypeId} {v : Value} {xs : List Value} (h : w.ownsRow base e sz v n xs) (hb : ∀ g, v.ownBlock = some g → w'.heap[g]? = w.heap[g]?) : w'.ownsRow base e sz v n xs := by
  obtain ⟨h1, h2⟩ := h
  refine ⟨h1, ?_⟩
  rcases h2 with h2 | ⟨g, cap, cur, rfl, hg, hh, r⟩
  · exact .inl h2
  · exact .inr ⟨g, cap, cur, rfl, hg, (hb g rfl).trans hh, r⟩
/-- Rows of two types lie in two blocks. -/
theorem d_apart {w : World} {b1 b2 n m s1 s2 : Nat} {e1 e2 : TypeId} {v u : Value} {xs ys : List Value} (h : w.ownsRow b1 e1 s1 v n xs) (h' : w.ownsRow b2 e2 s2 u m ys) (hne : e1 ≠ e2) {g : Nat} (hg : v.ownBlock = some g) : u.ownBlock ≠ some g := by
  intro hg'
  obtain ⟨_, ⟨rfl, _⟩ | ⟨g1, c1, cur1, rfl, _, k1, _⟩⟩ := h
  · cases hg
  · obtain ⟨_, ⟨rfl, _⟩ | ⟨g2, c2, cur2, rfl, _, k2, _⟩⟩ := h'
    · cases hg'
    · cases hg
      cases hg'
      rw [k1] at k2
      simp only [Option.some.injEq, Obj.cells.injEq] at k2
      exact hne k2.2.1
theorem d_box {w : World} {b1 n s1 x : Nat} {e1 t : TypeId} {v : Value} {xs : List Value} {cs : Array Value} {fr : Nat × Nat} (h : w.ownsRow b1 e1 s1 v n xs) (hx : w.heap[x]? = some (.cells cs t fr)) (hne : e1 ≠ t) : v.ownBlock ≠ some x := by
  intro hg
  obtain ⟨_, ⟨rfl, _⟩ | ⟨g1, c1, cur1, rfl, _, k1, _⟩⟩ := h
  · cases hg
  · cases hg
    rw [hx] at k1
    simp only [Option.some.injEq, Obj.cells.injEq] at k1
    exact hne k1.2.1.symm

def bxD (vf : Value) (D : Dk) : Array Value := #[vf, .int .i64 D.room, .bool D.arm, .int .i64 D.acts, .bool D.dn, .bool D.dw]
/-- A disk in memory: the box, the row of files, each file's bytes; F: whose blocks these are. -/
structure Dc (w : World) (x : Nat) (F : Nat → Prop) (D : Dk) (vf : Value) (L : List Fv) : Prop where
  map : L.map (·.1) = D.fs
  box : w.heap[x]? = some (.cells (bxD vf D) 85 (0, 0))
  row : w.ownsRow 0 75 3 vf L.length (L.flatMap fcell)
  byt : ∀ (i : Nat) p, L[i]? = some p → w.ownsRow 0 5 1 p.2 p.1.bs.length (p.1.bs.map (Value.int .u8))
  dis : ∀ (i j : Nat) p q g, L[i]? = some p → L[j]? = some q → p.2.ownBlock = some g → q.2.ownBlock = some g → i = j
  fx : F x
  fr : ∀ g, vf.ownBlock = some g → F g
  fb : ∀ (i : Nat) p g, L[i]? = some p → p.2.ownBlock = some g → F g
def Dm (w : World) (x : Nat) (F : Nat → Prop) (D : Dk) : Prop := ∃ vf L, Dc w x F D vf L
section
variable {w w' : World} {x : Nat} {F G : Nat → Prop} {D : Dk} {vf : Value} {L : List Fv}
theorem Dc.xlt (h : Dc w x F D vf L) : x < w.heap.size := (Array.getElem?_eq_some_iff.1 h.box).1
theorem Dc.len (h : Dc w x F D vf L) : D.fs.length = L.length := by rw [← h.map]; simp
theorem Dc.file (h : Dc w x F D vf L) {i : Nat} {p : Fv} (hp : L[i]? = some p) : D.fs[i]? = some p.1 := by rw [← h.map, List.getElem?_map, hp]; rfl
theorem Dc.same (h : Dc w x F D vf L) (hs : ∀ k, F k → k < w.heap.size → w'.heap[k]? = w.heap[k]?) : Dc w' x F D vf L :=
  ⟨h.map, (hs x h.fx h.xlt).trans h.box, d_blk h.row (fun g hg => hs g (h.fr g hg) (d_lt h.row g hg).2), fun i p hp => d_blk (h.byt i p hp) (fun g hg => hs g (h.fb i p g hp hg) (d_lt (h.byt i p hp) g hg).2), h.dis, h.fx, h.fr, h.fb⟩
theorem Dc.mono (h : Dc w x F D vf L) (hf : ∀ k, F k → k < w.heap.size → G k) : Dc w x G D vf L :=
  ⟨h.map, h.box, h.row, h.byt, h.dis, hf x h.fx h.xlt, fun g hg => hf g (h.fr g hg) (d_lt h.row g hg).2, fun i p g hp hg => hf g (h.fb i p g hp hg) (d_lt (h.byt i p hp) g hg).2⟩
theorem Dm.same (h : Dm w x F D) (hs : ∀ k, F k → k < w.heap.size → w'.heap[k]? = w.heap[k]?) : Dm w' x F D := by
  obtain ⟨vf, L, h⟩ := h; exact ⟨vf, L, h.same hs⟩
theorem Dm.mono (h : Dm w x F D) (hf : ∀ k, F k → k < w.heap.size → G k) : Dm w x G D := by
  obtain ⟨vf, L, h⟩ := h; exact ⟨vf, L, h.mono hf⟩
theorem Dm.below (h : Dm w x F D) (hb : Below w.heap.size w w') : Dm w' x F D := h.same (fun k _ hk => hb.block k hk)
theorem Dc.c (h : Dc w x F D vf L) (j : Nat) : w.cell? ⟨x, j, none⟩ = (bxD vf D)[j]? := cell_of_row _ _ j _ _ _ h.box
theorem Dc.z (h : Dc w x F D vf L) (j : Nat) : w.frozen? ⟨x, j, none⟩ = false := frozen_of_row _ _ j _ _ h.box
/-- A file's three cells. -/
theorem Dc.at (h : Dc w x F D vf L) {i : Nat} {p : Fv} (hp : L[i]? = some p) : ∃ g cap, vf = .slice (some ⟨g, 0, none⟩) L.length cap ∧ F g ∧ g < w.heap.size ∧ w.cell? ⟨g, i * 3, none⟩ = some (.string p.1.nm) ∧ w.cell? ⟨g, i * 3 + 1, none⟩ = some p.2 ∧ w.cell? ⟨g, i * 3 + 2, none⟩ = some (.int .i64 p.1.sf) ∧ ∀ j, w.frozen? ⟨g, j, none⟩ = false := by
  have hi := (List.getElem?_eq_some_iff.mp hp).1
  obtain ⟨g, cap, hv⟩ := d_some h.row (by omega)
  obtain ⟨k0, k1, k2⟩ := fcell_get hp
  subst hv
  exact ⟨g, cap, rfl, h.fr g rfl, (d_lt h.row g rfl).2, (World.ownsRow.cellAt h.row _ (by omega)).trans k0, (World.ownsRow.cellAt h.row _ (by omega)).trans k1, (World.ownsRow.cellAt h.row _ (by omega)).trans k2, fun j => World.ownsRow.frozenAt h.row _⟩
end

/-- What alone may have changed. -/
structure Kd (F : Nat → Prop) (w w' : World) : Prop where
  os : w'.os = w.os
  tape : w'.tape = w.tape
  output : w'.output = w.output
  size : w.heap.size ≤ w'.heap.size
  same : ∀ k, k < w.heap.size → ¬ F k → w'.heap[k]? = w.heap[k]?
theorem Kd.refl (F : Nat → Prop) (w : World) : Kd F w w := ⟨rfl, rfl, rfl, Nat.le_refl _, fun _ _ _ => rfl⟩
theorem Kd.trans {F : Nat → Prop} {a b c : World} (h : Kd F a b) (h' : Kd F b c) : Kd F a c :=
  ⟨h'.os.trans h.os, h'.tape.trans h.tape, h'.output.trans h.output, Nat.le_trans h.size h'.size, fun k hk hn => (h'.same k (Nat.lt_of_lt_of_le hk h.size) hn).trans (h.same k hk hn)⟩
theorem Kd.below {F : Nat → Prop} {a b : World} (h : Below a.heap.size a b) : Kd F a b := ⟨h.os, h.tape, h.output, h.size, fun k hk _ => h.block k hk⟩
theorem Kd.grown {F : Nat → Prop} {a b : World} {row : Option Nat} (h : a.grownBy b row) (hr : ∀ g, row = some g → F g) : Kd F a b := ⟨h.os, h.tape, h.output, h.size, fun k hk hn => h.block k hk (fun e => hn (hr k e.symm))⟩
theorem Kd.set {F : Nat → Prop} {a : World} {g i : Nat} {v : Value} (hg : F g) : Kd F a (a.setCell ⟨g, i, none⟩ v) := ⟨rfl, rfl, rfl, by simp [World.setCell], fun k hk hn => heap_setCell_other a ⟨g, i, none⟩ k v (fun e => hn (by rw [show k = g from e]; exact hg))⟩
theorem Kd.drew {F : Nat → Prop} {a b : World} (h : Kd F a b) : Kd F a b.drew := ⟨h.os, h.tape, h.output, h.size, h.same⟩
theorem Kd.mono {F G : Nat → Prop} {a b : World} (h : Kd F a b) (hf : ∀ k, k < a.heap.size → F k → G k) : Kd G a b := ⟨h.os, h.tape, h.output, h.size, fun k hk hn => h.same k hk (fun e => hn (hf k hk e))⟩
theorem Kd.cell {F : Nat → Prop} {a b : World} (h : Kd F a b) {g i : Nat} {v : Value} (hc : a.cell? ⟨g, i, none⟩ = some v) (hg : ¬ F g) : b.cell? ⟨g, i, none⟩ = some v :=
  (World.cell?_of_block (a := ⟨g, i, none⟩) (h.same g (World.block_lt_of_cell? a ⟨g, i, none⟩ hc) hg)).trans hc

def LpF (Z : World) (n : Nat) (L : List Fv) (s : ByteArray) (v : Value) (wr : World) : Prop := ∃ i : Nat, v = .int .i64 i ∧ i ≤ n ∧ (∀ j p, j < i → L[j]? = some p → isN s p.1 = false) ∧ wr = Z
theorem lpF {Z : World} {n i : Nat} {L : List Fv} {s : ByteArray} {v : Value} (hv : v = .int .i64 i) (hi : i ≤ n) (h : ∀ j p, j < i → L[j]? = some p → isN s p.1 = false) : LpF Z n L s v Z := ⟨i, hv, hi, h, rfl⟩
def LpU (Z : World) (n : Nat) (fs : List Fl) (v3 v : Value) (wr : World) : Prop := ∃ (i : Nat) (u : Int), v3 = .int .i64 u ∧ v = .int .i64 i ∧ i ≤ n ∧ u = (usd (fs.take i) : Nat) ∧ wr = Z
theorem lpU {Z : World} {n i : Nat} {u : Int} {fs : List Fl} {v3 v : Value} (h3 : v3 = .int .i64 u) (hv : v = .int .i64 i) (hi : i ≤ n) (h : u = (usd (fs.take i) : Nat)) : LpU Z n fs v3 v Z := ⟨i, u, h3, hv, hi, h, rfl⟩
set_option maxHeartbeats 2000000 in
theorem find_any (w : World) (x : Nat) (F : Nat → Prop) (D : Dk) (s : ByteArray) (B : Nat) (h : Dm w x F D) (hk : D.Ok B) (hB : B ≤ 1099511627776) : Calls Tryz.prog 59 #[.pointer (some ⟨x, 0, none⟩), .string s] w fun e w' => e = .returned (.int .i64 (fI D.fs s)) ∧ w' = w := by
  obtain ⟨vf, L, h⟩ := h
  have HD : Hid (Dc w x F D vf L) := h
  obtain ⟨af, cf, hv⟩ := d_shape h.row
  obtain ⟨n, hn⟩ : ∃ n, L.length = n := ⟨_, rfl⟩
  have hnb : n ≤ 1099511627776 := by have := hk.len; have := h.len; omega
  rw [hn] at hv
  subst hv
  have HN : Hid (L.length = n) := hn
  have c0 : w.cell? ⟨x, 0, none⟩ = some (.slice af n cf) := h.c 0
  clear h hn hk
  go_enter Tryz.func59, Tryz.ntmps59
  obtain ⟨Z, hZ⟩ : ∃ Z, w = Z := ⟨_, rfl⟩
  rw [hZ] at HD c0 ⊢
  go_wp2
  go_loopw [11] (fun v wr => LpF Z n L s v wr) (fun v _ => n - (intOf v).toNat)
  case atStart => exact lpF (i := 0) rfl (by omega) (fun j p hj => by omega)
  case round =>
    obtain ⟨i, rfl, hi, hJ, hwr⟩ := hrel
    have HJ : Hid (∀ j p, j < i → L[j]? = some p → isN s p.1 = false) := hJ
    clear hJ
    rw [hwr]
    clear hwr
    by_cases hin : i = n
    · subst hin
      have hz : ¬ (i : Int) < (i : Int) := by omega
      have HR : Hid (fI D.fs s = -1) := fI_none (fnd_none (fun j g hj hg => by
        rw [← HD.out.map, List.getElem?_map] at hg
        obtain ⟨p, hp⟩ : ∃ p, L[j]? = some p := ⟨_, List.getElem?_eq_getElem (by rw [HD.out.len] at hj; exact hj)⟩
        rw [hp] at hg
        simp at hg
        subst hg
        exact HJ.out j p (by rw [HD.out.len, HN.out] at hj; exact hj) hp))
      go_wp2
      go_ret
      exact ⟨by rw [HR.out]; rfl, rfl⟩
    · have hz : (i : Int) < (n : Int) := by omega
      have hwi : IntKind.i64.wrap ((i : Int) + 1) = (i : Int) + 1 := by rw [IntKind.wrap_i64]; omega
      obtain ⟨p, hp⟩ : ∃ p, L[i]? = some p := ⟨_, List.getElem?_eq_getElem (by rw [HN.out]; omega)⟩
      obtain ⟨g, cap, hv, _, _, k0, _⟩ := HD.out.at hp
      obtain ⟨rfl, hmm, rfl⟩ : af = some ⟨g, 0, none⟩ ∧ n = L.length ∧ cf = cap := by simpa using hv
      clear hv hmm
      by_cases he : (p.1.nm.toList == s.toList) = true
      · have HR : Hid (fI D.fs s = (i : Int)) := fI_some (fnd_some (fun j f hj hf => by
          rw [← HD.out.map, List.getElem?_map] at hf
          cases hq : L[j]? with
          | none => rw [hq] at hf; cases hf
          | some r => rw [hq] at hf; simp at hf; subst hf; exact HJ.out j r hj hq) (HD.out.file hp) he)
        clear hp
        go_wp2
        go_ret
        exact ⟨by rw [HR.out]; rfl, rfl⟩
      · have he' : (p.1.nm.toList == s.toList) = false := by simpa using he
        have HJ2 : Hid (∀ j q, j < i + 1 → L[j]? = some q → isN s q.1 = false) := fun j q hj hq => by
          by_cases e : j = i
          · subst e; rw [hp] at hq; cases hq; exact he'
          · exact HJ.out j q (by omega) hq
        clear hp he
        go_wp2
        exact ⟨lpF (i := i + 1) (by simp) (by omega) HJ2.out, by simp [intOf]; omega⟩

set_option maxHeartbeats 2000000 in
theorem used_any (w : World) (x : Nat) (F : Nat → Prop) (D : Dk) (B : Nat) (h : Dm w x F D) (hk : D.Ok B) (hB : B ≤ 1099511627776) : Calls Tryz.prog 56 #[.pointer (some ⟨x, 0, none⟩)] w fun e w' => e = .returned (.int .i64 (usd D.fs)) ∧ w' = w := by
  obtain ⟨vf, L, h⟩ := h
  have HD : Hid (Dc w x F D vf L) := h
  obtain ⟨af, cf, hv⟩ := d_shape h.row
  obtain ⟨n, hn⟩ : ∃ n, L.length = n := ⟨_, rfl⟩
  have hnb : n ≤ 1099511627776 := by have := hk.len; have := h.len; omega
  have HU : Hid (usd D.fs ≤ 1099511627776) := by show _ ≤ _; have := hk.used; omega
  rw [hn] at hv
  subst hv
  have HN : Hid (L.length = n) := hn
  have c0 : w.cell? ⟨x, 0, none⟩ = some (.slice af n cf) := h.c 0
  clear h hn hk
  go_enter Tryz.func56, Tryz.ntmps56
  obtain ⟨Z, hZ⟩ : ∃ Z, w = Z := ⟨_, rfl⟩
  rw [hZ] at HD c0 ⊢
  go_wp2
  go_loopw [3, 10] (fun v3 v wr => LpU Z n D.fs v3 v wr) (fun _ v _ => n - (intOf v).toNat)
  case atStart => exact lpU (i := 0) (u := 0) rfl rfl (by omega) (by simp [usd])
  case round =>
    obtain ⟨i, u, rfl, rfl, hi, hJ, hwr⟩ := hrel
    have HJ : Hid (u = (usd (D.fs.take i) : Nat)) := hJ
    clear hJ
    rw [hwr]
    clear hwr
    by_cases hin : i = n
    · subst hin
      have hz : ¬ (i : Int) < (i : Int) := by omega
      have HR : Hid (u = (usd D.fs : Nat)) := by show _ = _; rw [HJ.out, ← HN.out, ← HD.out.len, List.take_length]
      go_wp2
      go_ret
      exact ⟨by rw [HR.out]; rfl, rfl⟩
    · have hz : (i : Int) < (n : Int) := by omega
      have hwi : IntKind.i64.wrap ((i : Int) + 1) = (i : Int) + 1 := by rw [IntKind.wrap_i64]; omega
      obtain ⟨p, hp⟩ : ∃ p, L[i]? = some p := ⟨_, List.getElem?_eq_getElem (by rw [HN.out]; omega)⟩
      obtain ⟨g, cap, hv, _, _, _, k1, _⟩ := HD.out.at hp
      obtain ⟨rfl, hmm, rfl⟩ : af = some ⟨g, 0, none⟩ ∧ n = L.length ∧ cf = cap := by simpa using hv
      obtain ⟨ab, cb, hb⟩ := d_shape (HD.out.byt i p hp)
      rw [hb] at k1
      have h2 := usd_take_succ (HD.out.file hp)
      have h3 := usd_take_le D.fs (i + 1)
      obtain ⟨m, hm⟩ : ∃ m, p.1.bs.length = m := ⟨_, rfl⟩
      rw [hm] at k1 h2
      have HJ2 : Hid (u + (m : Int) = (usd (D.fs.take (i + 1)) : Nat)) := by show _ = _; rw [h2, HJ.out]; simp
      have hwu : IntKind.i64.wrap (u + (m : Int)) = u + (m : Int) := by have := HU.out; have := HJ.out; rw [IntKind.wrap_i64]; omega
      clear hp hv hmm hb h2 h3 hm
      go_wp2
      exact ⟨lpU (i := i + 1) (u := u + (m : Int)) rfl (by simp) (by omega) HJ2.out, by simp [intOf]; omega⟩

end Go.Proofs.YtllhbhogfffedaaGreatDoor.K
