import Derived.Test.YtllhbhogfffedaaGreatDoorDkHand
import Derived.Test.YtllhbhogfffedaaGreatDoorJoi
import Derived.RangeFuncNested
import Derived.RangeFuncBound
import Derived.RangeFuncCalls
import Derived.RangeFuncLeaves
import Derived.Shelf.Abstract
import Derived.Shelf.RegionOpen
import Derived.OwnWalkIn
import Derived.TacticsInMore
import Derived.LoopNIn
import Derived.LoopIn
import Derived.Sort.QuietIn
import Derived.Laws.CopyOwn
import Derived.Test.YtllhbhogfffedaaGreatDoorRcFrm
import Derived.Deep.CutRange
namespace Go.Proofs.YtllhbhogfffedaaGreatDoor.K
open Go.RowKit
set_option linter.unusedVariables false
set_option linter.unusedSimpArgs false

/-! ## What an act leaves may be -/
theorem mem_set {α : Type} {l : List α} {i : Nat} {x y : α} (h : y ∈ l.set i x) : y ∈ l ∨ y = x := List.mem_or_eq_of_mem_set h
theorem usd_set : ∀ {fs : List Fl} {i : Nat} {f g : Fl}, fs[i]? = some f → usd (fs.set i g) + f.bs.length = usd fs + g.bs.length
  | a :: r, 0, f, g, h => by simp at h; subst h; simp only [List.set_cons_zero, usd]; omega
  | a :: r, i + 1, f, g, h => by
    have := usd_set (fs := r) (i := i) (f := f) (g := g) (by simpa using h)
    simp only [List.set_cons_succ, usd]; omega
structure FsOk (l : List Fl) (B : Nat) : Prop where
  fs : ∀ f ∈ l, f.Ok
  len : l.length ≤ B
  used : usd l ≤ B
theorem Dk.Ok.files {D : Dk} {B : Nat} (h : D.Ok B) : FsOk D.fs B := ⟨h.fs, h.len, h.used⟩
theorem FsOk.up {fs : List Fl} {B C : Nat} (h : FsOk fs B) (hb : B ≤ C) : FsOk fs C := ⟨h.fs, Nat.le_trans h.len hb, Nat.le_trans h.used hb⟩
theorem Dk.Ok.up {D : Dk} {B C : Nat} (h : D.Ok B) (hb : B ≤ C) : D.Ok C := ⟨h.fs, Nat.le_trans h.len hb, Nat.le_trans h.used hb, h.room, h.acts⟩
theorem ok_act {D : Dk} {B C : Nat} {fs : List Fl} (h : D.Ok B) (hf : FsOk fs C) (hb : B ≤ C) : (actD D fs).Ok C := by
  have h' := h.up hb
  unfold actD
  split
  · refine ⟨?_, ?_, ?_, h.room, h.acts⟩ <;> simp only <;> split
    · exact hf.fs
    · exact h'.fs
    · exact hf.len
    · exact h'.len
    · exact hf.used
    · exact h'.used
  · rename_i hb
    refine ⟨hf.fs, hf.len, hf.used, h.room, ?_⟩
    have := h.acts
    simp only
    split
    · rename_i ha
      have h0 : ¬ D.acts = 0 := fun e => hb (by unfold actB; rw [ha, e]; rfl)
      omega
    · omega
theorem fsok_set {fs : List Fl} {B i : Nat} {f g : Fl} (h : FsOk fs B) (hf : fs[i]? = some f) (hg : g.Ok) (hl : g.bs.length ≤ f.bs.length) : FsOk (fs.set i g) B := by
  refine ⟨fun y hy => ?_, by rw [List.length_set]; exact h.len, ?_⟩
  · rcases mem_set hy with h1 | rfl
    · exact h.fs y h1
    · exact hg
  · have := usd_set (g := g) hf
    have := h.used
    omega
theorem fsok_setF {fs : List Fl} {B i : Nat} {g : Fl → Fl} (h : FsOk fs B) (hg : ∀ f, f.Ok → (g f).Ok ∧ (g f).bs.length ≤ f.bs.length) : FsOk (setF fs i g) B := by
  unfold setF
  cases hf : fs[i]? with
  | none => exact h
  | some f =>
    obtain ⟨h1, h2⟩ := hg f (h.fs f (List.mem_of_getElem? hf))
    exact fsok_set h hf h1 h2
theorem usd_erase : ∀ (fs : List Fl) (i : Nat), usd (fs.eraseIdx i) ≤ usd fs
  | [], i => by simp [usd]
  | f :: r, 0 => by simp [usd]
  | f :: r, i + 1 => by
    have := usd_erase r i
    simp only [List.eraseIdx_cons_succ, usd]; omega
theorem fsok_erase {fs : List Fl} {B i : Nat} (h : FsOk fs B) : FsOk (fs.eraseIdx i) B :=
  ⟨fun f hf => h.fs f (List.mem_of_mem_eraseIdx hf), Nat.le_trans (List.length_eraseIdx_le _ _) h.len, Nat.le_trans (usd_erase _ _) h.used⟩
theorem fsok_syn {fs : List Fl} {B i : Nat} (h : FsOk fs B) : FsOk (synF fs i) B :=
  fsok_setF h (fun f hf => ⟨⟨hf.byt, by show (0 : Int) ≤ (f.bs.length : Int); omega, Int.le_refl _⟩, Nat.le_refl _⟩)
theorem fsok_nam {fs : List Fl} {B i : Nat} {s : ByteArray} (h : FsOk fs B) : FsOk (namF fs i s) B :=
  fsok_setF h (fun f hf => ⟨⟨hf.byt, hf.lo, hf.hi⟩, Nat.le_refl _⟩)
theorem fsok_ren {fs : List Fl} {B i : Nat} {s : ByteArray} (h : FsOk fs B) : FsOk (renF fs i s) B := by
  unfold renF
  split
  · split
    · exact fsok_nam h
    · exact fsok_erase (fsok_nam h)
  · exact fsok_nam h
theorem bytey_take {zs : List Int} (h : Bytey zs) (k : Nat) : Bytey (zs.take k) := fun z hz => h z (List.mem_of_mem_take hz)
theorem bytey_app {a b : List Int} (h : Bytey a) (h' : Bytey b) : Bytey (a ++ b) := fun z hz => (List.mem_append.mp hz).elim (h z) (h' z)
theorem fsok_cut {fs : List Fl} {B i : Nat} {N : Int} (h : FsOk fs B) : FsOk (cutF fs i N) B :=
  fsok_setF h (fun f hf => by
    have hk : cutN f N ≤ f.bs.length := by unfold cutN; omega
    refine ⟨⟨bytey_take hf.byt _, by show (0 : Int) ≤ (cutN f N : Int); omega, ?_⟩, ?_⟩
    · show ((cutN f N : Nat) : Int) ≤ ((f.bs.take (cutN f N)).length : Int)
      rw [List.length_take]; omega
    · show (f.bs.take (cutN f N)).length ≤ _
      rw [List.length_take]; omega)
theorem fsok_add {fs : List Fl} {B C : Nat} {s : ByteArray} {zs : List Int} (h : FsOk fs B) (hz : Bytey zs) (hl : zs.length ≤ C) (hc : 1 ≤ C) : FsOk (addF fs s zs) (B + C) := by
  unfold addF
  split
  · split
    · rename_i i _ f hf
      have h0 := h.fs f (List.mem_of_getElem? hf)
      refine ⟨fun y hy => ?_, by rw [List.length_set]; have := h.len; omega, ?_⟩
      · rcases mem_set hy with h1 | rfl
        · exact h.fs y h1
        · exact ⟨bytey_app h0.byt hz, h0.lo, by have := h0.hi; simp only [List.length_append]; omega⟩
      · have := usd_set (g := ⟨f.nm, f.bs ++ zs, f.sf⟩) hf
        simp only [List.length_append] at this
        have := h.used
        omega
    · exact h.up (by omega)
  · refine ⟨fun y hy => ?_, by rw [List.length_append]; have := h.len; simp; omega, ?_⟩
    · rcases List.mem_append.mp hy with h1 | h1
      · exact h.fs y h1
      · simp at h1; subst h1; exact ⟨hz, Int.le_refl _, by show (0 : Int) ≤ (zs.length : Int); omega⟩
    · rw [usd_append]
      have := h.used
      simp only [usd]; omega
theorem ok_file {D : Dk} {B : Nat} {s : ByteArray} {g : Nat → List Fl} (h : D.Ok B) (hg : ∀ i, FsOk (g i) B) : (fileD D s g).1.Ok B := by
  unfold fileD
  split
  · exact h
  · split
    · exact h
    · exact ok_act h (hg _) (Nat.le_refl _)
theorem ok_app {D : Dk} {B C : Nat} {s : ByteArray} {zs : List Int} (h : D.Ok B) (hz : Bytey zs) (hl : zs.length ≤ C) (hc : 1 ≤ C) : (appD D s zs).1.Ok (B + C) := by
  unfold appD
  split
  · exact h.up (by omega)
  · split
    · exact h.up (by omega)
    · exact ok_act h (fsok_add h.files hz hl hc) (by omega)
theorem usd_map_le {g : Fl → Fl} : ∀ (fs : List Fl), (∀ f ∈ fs, (g f).bs.length ≤ f.bs.length) → usd (fs.map g) ≤ usd fs
  | [], _ => by simp [usd]
  | f :: r, h => by
    have h1 := usd_map_le r (fun y hy => h y (List.mem_cons_of_mem _ hy))
    have h2 := h f (List.mem_cons_self ..)
    simp only [List.map_cons, usd]; omega
theorem ok_cr {D : Dk} {B : Nat} {keep : Int} (h : D.Ok B) : (crD D keep).Ok B := by
  have hM : 0 ≤ nn0 keep := by unfold nn0; split <;> omega
  have hq : ∀ f : Fl, f.Ok → 0 ≤ crQ f (nn0 keep) ∧ f.sf + crQ f (nn0 keep) ≤ f.bs.length := fun f hf => by
    have := hf.lo; have := hf.hi
    unfold crQ
    split <;> omega
  refine ⟨fun y hy => ?_, by show (D.fs.map _).length ≤ B; rw [List.length_map]; exact h.len, ?_, h.room, h.acts⟩
  · obtain ⟨f, hf, rfl⟩ := List.mem_map.mp (show y ∈ D.fs.map (cr1 keep) from hy)
    have h0 := h.fs f hf
    have h1 := hq f h0
    have := h0.lo
    refine ⟨bytey_take h0.byt _, by show (0 : Int) ≤ f.sf + crQ f (nn0 keep); omega, ?_⟩
    show f.sf + crQ f (nn0 keep) ≤ ((f.bs.take (f.sf + crQ f (nn0 keep)).toNat).length : Int)
    rw [List.length_take]
    omega
  · exact Nat.le_trans (usd_map_le _ (fun f _ => by show (f.bs.take _).length ≤ _; rw [List.length_take]; omega)) h.used
theorem ok_arm {D : Dk} {B : Nat} {N : Int} {dn : Bool} (h : D.Ok B) (hN : N ≤ 9223372036854775807) : (armD D N dn).Ok B :=
  ⟨h.fs, h.len, h.used, h.room, by show 0 ≤ nn0 N ∧ nn0 N ≤ _; unfold nn0; split <;> omega⟩
theorem ok_dk0 {M : Int} (h : 0 ≤ M ∧ M ≤ 9223372036854775807) : (dk0 M).Ok 0 := ⟨fun f hf => absurd hf (by simp [dk0]), Nat.le_refl _, Nat.le_refl _, h, ⟨Int.le_refl _, by show (0 : Int) ≤ 9223372036854775807; omega⟩⟩
end Go.Proofs.YtllhbhogfffedaaGreatDoor.K

namespace Go.Proofs.YtllhbhogfffedaaGreatDoor.C
open Go.RowKit Go.Shelf
attribute [local go_sem] Oper.semAt_some

/-- What lies below n₀, and block b, lie as they lay. -/
structure Kps (n₀ b : Nat) (W W' : World) : Prop where
  low : Below n₀ W W'
  blk : W'.heap[b]? = W.heap[b]?
/-- Spans that lie below n₀. -/
def Spl (n₀ : Nat) (W : World) (a : Option Addr) (l : List Sp) : Prop := Spa W a l ∧ (l ≠ [] → ∀ x, a = some x → x.block < n₀)
abbrev Pz := Sp × Bool

end Go.Proofs.YtllhbhogfffedaaGreatDoor.C

namespace Go.Proofs.YtllhbhogfffedaaGreatDoor.C
open Go.RowKit Go.Shelf
attribute [local go_sem] Oper.semAt_some

/-- What gather's loop keeps: the box of the set (S), that of had (Hb), that of the span (Sb); the row lies from N on. -/
structure GI (S Hb Sb N : Nat) (w : World) (f t : Int) (had : Bool) (pre : List Pz) (W : World) : Prop where
  row : ∃ v, Boxed W S 79 v ∧ SOwn W N v (pick had pre)
  hb : Boxed W Hb 4 (.bool had)
  sb : W.heap[Sb]? = some (.cells #[.int .i64 f, .int .i64 t] 128 (0, 0))
  low : Below w.heap.size w W
  big : N ≤ W.heap.size

/-- What is told of a list that may be too long. -/
def BR (U u : List Sp) (er : Int) : Prop := (U.length ≤ 2000 ∧ er = 0 ∧ u = U) ∨ (2000 < U.length ∧ er = 3 ∧ u = [])
def GPost (U : List Sp) (w : World) (e : Ending) (w' : World) : Prop := ∃ v u er, e = .returned (.tuple #[v, .int .i64 er]) ∧ SOwn w' w.heap.size v u ∧ BR U u er ∧ Below w.heap.size w w'

end Go.Proofs.YtllhbhogfffedaaGreatDoor.C

namespace Go.Proofs.YtllhbhogfffedaaGreatDoor.C
open Go.RowKit

/-- What Gaps (had: false) and Within (had: true) answer. -/
def GR (had : Bool) (l : List Sp) (s : Sp) (u : List Sp) (er : Int) : Prop := (¬ (IsSet l ∧ Asked s) ∧ er = 30 ∧ u = []) ∨ (IsSet l ∧ Asked s ∧ BR (pick had (pc s.2 s.1 l)) u er)
def GRPost (had : Bool) (l : List Sp) (s : Sp) (w : World) (e : Ending) (w' : World) : Prop := ∃ v u er, e = .returned (.tuple #[v, .int .i64 er]) ∧ SOwn w' w.heap.size v u ∧ GR had l s u er ∧ Below w.heap.size w w'

/-- Covers. -/
def cvB (l : List Sp) (s : Sp) : Bool := setB l && (askB s && decide (gps l s = []))
end Go.Proofs.YtllhbhogfffedaaGreatDoor.C

namespace Go.Proofs.YtllhbhogfffedaaGreatDoor.C
open Go.RowKit

def mkd (l : List Sp) : List Sp := l ++ [(-77, -77), (-77, -77)]
theorem set_set' (L : List Sp) (k : Nat) (x y : Sp) : (L.set k x).set k y = L.set k y := by rw [List.set_set]

/-- Another set of as many spans. -/
def spd (n : Nat) : List Sp := (List.range n).map fun (i : Nat) => ((4 * (i : Int) + 1, 4 * (i : Int) + 3) : Sp)
end Go.Proofs.YtllhbhogfffedaaGreatDoor.C

namespace Go.Proofs.YtllhbhogfffedaaGreatDoor.C
open Go.RowKit

end Go.Proofs.YtllhbhogfffedaaGreatDoor.C

namespace Go.Proofs.YtllhbhogfffedaaGreatDoor
open Go.RowKit
set_option linter.unusedVariables false

abbrev mkD (zs : List Int) : List Int := zs ++ [177, 178]
abbrev mkS (l : List (Int × Int)) : List (Int × Int) := l ++ [(-77, 0), (-78, 0)]
theorem rc_frozen {W : World} {g : Nat} {r : Rc} {sv dv : Value} (h : W.heap[g]? = some (rcO r sv dv)) (k : Nat) : W.frozen? ⟨g, k, none⟩ = false := by simp [World.frozen?, h]
abbrev rz0 : Rc := ⟨0, 0, 0, 0, 0, 0, 0, 0, 0, [], []⟩
abbrev lw (w : World) (r : Rc) (sv dv : Value) : World := (w.alloc (rcO r sv dv)).alloc (rcO rz0 (.slice none 0 0) (.slice none 0 0))
/-- A record is written over another one. -/
def rS (W : World) (g : Nat) (r : Rc) (sv dv : Value) : World := (((((((((((W.setCell ⟨g, 0, none⟩ (.int .i64 r.kind)).setCell ⟨g, 1, none⟩ (.int .i64 r.org)).setCell ⟨g, 2, none⟩ (.int .i64 r.num)).setCell ⟨g, 3, none⟩ (.int .i64 r.peer)).setCell ⟨g, 4, none⟩ (.int .i64 r.srv)).setCell ⟨g, 5, none⟩ (.int .i64 r.off)).setCell ⟨g, 6, none⟩ (.int .i64 r.red)).setCell ⟨g, 7, none⟩ (.int .i64 r.size)).setCell ⟨g, 8, none⟩ (.int .i64 r.how)).setCell ⟨g, 9, none⟩ sv).setCell ⟨g, 10, none⟩ dv)
theorem rS_heap (W : World) (g : Nat) (r q : Rc) (sv dv a b : Value) (h : W.heap[g]? = some (rcO q a b)) : (rS W g r sv dv).heap[g]? = some (rcO r sv dv) := by
  unfold rS
  simp [World.setCell, Array.getElem?_modify, h]
theorem rS_grown (W : World) (g : Nat) (r : Rc) (sv dv : Value) : W.grownBy (rS W g r sv dv) (some g) := by
  unfold rS
  iterate 10 refine C.grown_trans ?_ (grown_set _ _ _ _)
  exact grown_set _ _ _ _
theorem own_keep6 {w w' : World} {base size n : Nat} {e : TypeId} {v : Value} {xs : List Value} {row : Option Nat} (h : w.ownsRow base e size v n xs) (hg : w.grownBy w' row) (hr : ∀ k, v.ownBlock = some k → row ≠ some k) : w'.ownsRow base e size v n xs := by
  have hlt := h.lt
  obtain ⟨hl, h | ⟨g, cap, cur, rfl, hb, hh, r⟩⟩ := h
  · exact ⟨hl, .inl h⟩
  · refine ⟨hl, .inr ⟨g, cap, cur, rfl, hb, ?_, r⟩⟩
    rw [hg.block g (hlt g rfl).2 (fun e => hr g rfl e.symm)]; exact hh
end Go.Proofs.YtllhbhogfffedaaGreatDoor

namespace Go.Proofs.YtllhbhogfffedaaGreatDoor
open Go.RowKit
set_option linter.unusedVariables false
set_option linter.unusedSimpArgs false

/-- What a record that can't be read panics with. -/
abbrev pcV : List PanicEntry := [{ v := .iface 55 (.int .i64 61), recovered := false }]
theorem must_ok (w : World) : Calls Tryz.prog 117 #[.bool true] w fun e w' => (∃ v, e = .returned v) ∧ w = w' := by
  go_enter Tryz.func117, Tryz.ntmps117
  go_wp2
  go_end0
  exact ⟨⟨_, rfl⟩, rfl⟩
theorem must_no (w : World) : Calls Tryz.prog 117 #[.bool false] w fun e w' => e = .panicked pcV ∧ w = w' := by
  go_enter Tryz.func117, Tryz.ntmps117
  go_wp2
  exact ⟨rfl, rfl, rfl⟩

/-- A reader: what is left to it lies in block g. -/
structure RdS (W : World) (rb g : Nat) (zs : List Int) : Prop where
  ex : ∃ off n c, W.heap[rb]? = some (.cells #[.slice (some ⟨g, off, none⟩) n c] 194) ∧ zs.length = n ∧ n ≤ c ∧ (n ≤ 140737488355328 ∧ c ≤ 9223372036854775807) ∧ ∀ i, i < zs.length → W.cell? ⟨g, off + i, none⟩ = some (.int .u8 (zs.getD i 0))
  ne : g ≠ rb

set_option maxRecDepth 100000 in
set_option maxHeartbeats 1000000 in
theorem take_ok (rb g : Nat) (zs : List Int) (k : Nat) (w : World) (h : RdS w rb g zs) (hk : k ≤ zs.length) :
    Calls Tryz.prog 126 #[.pointer (some ⟨rb, 0, none⟩), .int .i64 k] w fun e w' => (∃ off c, e = .returned (.slice (some ⟨g, off, none⟩) k c) ∧ k ≤ c ∧ ∀ i, i < k → w'.cell? ⟨g, off + i, none⟩ = some (.int .u8 (zs.getD i 0))) ∧ RdS w' rb g (zs.drop k) ∧ w.grownBy w' (some rb) := by
  obtain ⟨off, n, c, hh, hn, hnc, hc, hcell⟩ := h.ex
  have hne := h.ne
  have HC : Hid (∀ i, i < zs.length → w.cell? ⟨g, off + i, none⟩ = some (.int .u8 (zs.getD i 0))) := hcell
  have HH : Hid (w.heap[rb]? = some (.cells #[.slice (some ⟨g, off, none⟩) n c] 194)) := hh
  have c0 : w.cell? ⟨rb, 0, none⟩ = some (.slice (some ⟨g, off, none⟩) n c) := cell_of_row _ _ 0 _ _ _ hh
  have f0 : w.frozen? ⟨rb, 0, none⟩ = false := by simp [World.frozen?, hh]
  subst hn
  have hk' : (k : Int) ≤ (zs.length : Int) := by omega
  clear hcell hh h
  by_cases hck : c = k
  · have HS : Hid ((w.setCell ⟨rb, 0, none⟩ (.slice (some ⟨g, off, none⟩) (zs.length - k) (c - k))).heap[rb]? = some (.cells #[.slice (some ⟨g, off, none⟩) (zs.length - k) (c - k)] 194)) := by unfold Hid; simp [World.setCell, Array.getElem?_modify, HH.out]
    have HG : Hid (w.grownBy (w.setCell ⟨rb, 0, none⟩ (.slice (some ⟨g, off, none⟩) (zs.length - k) (c - k))) (some rb)) := grown_set _ _ _ _
    subst hck
    have hzz : zs.length = c := by omega
    go_enter Tryz.func126, Tryz.ntmps126
    go_wp2_with (go_at_call 117; refine (must_ok _).mono ?_; rintro e w1 ⟨⟨v1, rfl⟩, rfl⟩)
    go_ret
    have hgg : ∀ i, (w.setCell ⟨rb, 0, none⟩ (.slice (some ⟨g, off, none⟩) (zs.length - c) (c - c))).cell? ⟨g, i, none⟩ = w.cell? ⟨g, i, none⟩ := fun i => World.cell?_setCell_other _ _ _ _ (by simp [hne])
    refine ⟨⟨off, c, rfl, Nat.le_refl _, fun i hi => ?_⟩, ⟨⟨off, zs.length - c, c - c, ?_, by simp, by omega, by omega, fun i hi => ?_⟩, hne⟩, ?_⟩
    · have h2 := HC.out i (by omega)
      first | exact (hgg _).trans h2 | (simp only [Nat.sub_self, hzz] at *; exact (hgg _).trans h2)
    · first | exact HS.out | (have := HS.out; simp only [Nat.sub_self, hzz] at *; exact this)
    · simp [hzz] at hi
    · first | exact HG.out | (have := HG.out; simp only [Nat.sub_self, hzz] at *; exact this)
  · have HS : Hid ((w.setCell ⟨rb, 0, none⟩ (.slice (some ⟨g, off + k, none⟩) (zs.length - k) (c - k))).heap[rb]? = some (.cells #[.slice (some ⟨g, off + k, none⟩) (zs.length - k) (c - k)] 194)) := by unfold Hid; simp [World.setCell, Array.getElem?_modify, HH.out]
    have HG : Hid (w.grownBy (w.setCell ⟨rb, 0, none⟩ (.slice (some ⟨g, off + k, none⟩) (zs.length - k) (c - k))) (some rb)) := grown_set _ _ _ _
    go_enter Tryz.func126, Tryz.ntmps126
    go_wp2_with (go_at_call 117; refine (must_ok _).mono ?_; rintro e w1 ⟨⟨v1, rfl⟩, rfl⟩)
    go_ret
    have hgg : ∀ i, (w.setCell ⟨rb, 0, none⟩ (.slice (some ⟨g, off + k, none⟩) (zs.length - k) (c - k))).cell? ⟨g, i, none⟩ = w.cell? ⟨g, i, none⟩ := fun i => World.cell?_setCell_other _ _ _ _ (by simp [hne])
    refine ⟨⟨off, c, rfl, by omega, fun i hi => (hgg _).trans (HC.out i (by omega))⟩, ⟨⟨off + k, zs.length - k, c - k, HS.out, by simp, by omega, by omega, fun i hi => ?_⟩, hne⟩, HG.out⟩
    have h1 : i < zs.length - k := by simpa using hi
    rw [hgg, Nat.add_assoc, HC.out (k + i) (by omega), List.getD_eq_getElem?_getD, List.getD_eq_getElem?_getD, List.getElem?_drop]

set_option maxRecDepth 100000 in
set_option maxHeartbeats 1000000 in
theorem take_no (rb g : Nat) (zs : List Int) (k : Int) (w : World) (h : RdS w rb g zs) (hk : ¬ k ≤ zs.length) :
    Calls Tryz.prog 126 #[.pointer (some ⟨rb, 0, none⟩), .int .i64 k] w fun e w' => e = .panicked pcV ∧ w = w' := by
  obtain ⟨off, n, c, hh, hn, hnc, hc, hcell⟩ := h.ex
  have c0 : w.cell? ⟨rb, 0, none⟩ = some (.slice (some ⟨g, off, none⟩) n c) := cell_of_row _ _ 0 _ _ _ hh
  subst hn
  clear hcell hh h
  go_enter Tryz.func126, Tryz.ntmps126
  go_wp2_with (go_at_call 117; refine (must_no _).mono ?_; rintro e w1 ⟨rfl, rfl⟩)
  exact ⟨rfl, rfl, rfl⟩

/-- A number is read. -/
def numP (zs : List Int) : Option (Int × List Int) := if (rd zs).2.2 = 0 ∧ (rd zs).1 ≤ 4611686018427387903 then some ((rd zs).1, zs.drop (rd zs).2.1.toNat) else none
theorem numP_inv {zs t : List Int} {n : Int} (hb : Bytey zs) (h : numP zs = some (n, t)) : (rd zs).2.2 = 0 ∧ (rd zs).1 = n ∧ (rd zs).2.1 = (sz n : Int) ∧ zs = enc n ++ t ∧ t = zs.drop (sz n) ∧ sz n ≤ zs.length ∧ 0 ≤ n ∧ n ≤ 4611686018427387903 := by
  unfold numP at h
  split at h
  · rename_i hc
    simp only [Option.some.injEq, Prod.mk.injEq] at h
    obtain ⟨rfl, rfl⟩ := h
    rcases rd_inv zs hb with ⟨h1, h2, h3, h4, h5, h6⟩ | ⟨h1, _⟩
    · have ht : (rd zs).2.1.toNat = sz (rd zs).1 := by rw [h2]; simp
      rw [ht]
      exact ⟨h1, rfl, h2, by rw [← h4, List.take_append_drop], rfl, h3, h5, hc.2⟩
    · exact absurd hc.1 h1
  · cases h
theorem numP_enc {n : Int} (t : List Int) (h0 : 0 ≤ n) (h1 : n ≤ 4611686018427387903) : numP (enc n ++ t) = some (n, t) := by
  have h := rd_enc n h0 (by omega) t
  unfold numP
  rw [h]
  simp only [true_and, if_pos h1]
  have hl := enc_length n h0 (by omega)
  rw [Int.toNat_natCast, ← hl, List.drop_left]
set_option maxRecDepth 100000 in
set_option maxHeartbeats 1000000 in
theorem num_ok (rb g : Nat) (zs t : List Int) (n : Int) (w : World) (h : RdS w rb g zs) (hb : Bytey zs) (hn : numP zs = some (n, t)) :
    Calls Tryz.prog 127 #[.pointer (some ⟨rb, 0, none⟩)] w fun e w' => e = .returned (.int .i64 n) ∧ RdS w' rb g t ∧ w.grownBy w' (some rb) := by
  obtain ⟨h1, h2, h3, h4, h5, h6, h7, h8⟩ := numP_inv hb hn
  have HT := take_ok rb g zs (sz n) w h h6
  obtain ⟨off, m, c, hh, hm, hnc, hc, hcell⟩ := h.ex
  have HR := read_any (some ⟨g, off, none⟩) zs m c w hb hm (by omega) (.inr ⟨g, off, rfl, hcell⟩)
  rw [h1, h2, h3] at HR
  rw [← h5] at HT
  have c0 : w.cell? ⟨rb, 0, none⟩ = some (.slice (some ⟨g, off, none⟩) m c) := cell_of_row _ _ 0 _ _ _ hh
  have HHT : Hid (Calls Tryz.prog 126 #[.pointer (some ⟨rb, 0, none⟩), .int .i64 (sz n)] w fun e w' => (∃ off c, e = .returned (.slice (some ⟨g, off, none⟩) (sz n) c) ∧ (sz n) ≤ c ∧ ∀ i, i < sz n → w'.cell? ⟨g, off + i, none⟩ = some (.int .u8 (zs.getD i 0))) ∧ RdS w' rb g t ∧ w.grownBy w' (some rb)) := HT
  have HHR : Hid (Calls Tryz.prog 136 #[.slice (some ⟨g, off, none⟩) m c] w fun e w' => e = .returned (.tuple #[.int .u64 n, .int .i64 (sz n), .int .i64 0]) ∧ w = w') := HR
  have hw : IntKind.i64.wrap n = n := by rw [IntKind.wrap_i64]; omega
  clear hh hcell h HT HR h1 h2 h3 h4 h5 h6 hn hb
  go_enter Tryz.func127, Tryz.ntmps127
  go_wp2_with (first | (go_at_call 136; refine HHR.out.mono ?_; rintro e w1 ⟨rfl, rfl⟩) | (go_at_call 117; refine (must_ok _).mono ?_; rintro e w1 ⟨⟨v1, rfl⟩, rfl⟩) | (go_at_call 126; refine HHT.out.mono ?_; rintro e w2 ⟨⟨off2, c2, rfl, _, _⟩, hr2, hg2⟩))
  go_ret
  exact ⟨rfl, hr2, hg2⟩

set_option maxRecDepth 100000 in
set_option maxHeartbeats 1000000 in
theorem num_no (rb g : Nat) (zs : List Int) (w : World) (h : RdS w rb g zs) (hb : Bytey zs) (hn : numP zs = none) :
    Calls Tryz.prog 127 #[.pointer (some ⟨rb, 0, none⟩)] w fun e w' => e = .panicked pcV ∧ w = w' := by
  obtain ⟨off, m, c, hh, hm, hnc, hc, hcell⟩ := h.ex
  have HR := read_any (some ⟨g, off, none⟩) zs m c w hb hm (by omega) (.inr ⟨g, off, rfl, hcell⟩)
  have c0 : w.cell? ⟨rb, 0, none⟩ = some (.slice (some ⟨g, off, none⟩) m c) := cell_of_row _ _ 0 _ _ _ hh
  have hcs : ¬ ((rd zs).2.2 = 0 ∧ (rd zs).1 ≤ 4611686018427387903) := fun h => by unfold numP at hn; rw [if_pos h] at hn; cases hn
  generalize rd zs = q at *
  obtain ⟨q1, q2, q3⟩ := q
  simp only at hcs HR
  have HHR : Hid (Calls Tryz.prog 136 #[.slice (some ⟨g, off, none⟩) m c] w fun e w' => e = .returned (.tuple #[.int .u64 q1, .int .i64 q2, .int .i64 q3]) ∧ w = w') := HR
  clear hh hcell h HR hn hb
  by_cases h0 : q3 = 0
  · subst h0
    have h1 : decide (q1 ≤ 4611686018427387903) = false := decide_eq_false (fun h => hcs ⟨rfl, h⟩)
    clear hcs
    go_enter Tryz.func127, Tryz.ntmps127
    go_wp2_with (first | (go_at_call 136; refine HHR.out.mono ?_; rintro e w1 ⟨rfl, rfl⟩) | (go_at_call 117; refine (must_no _).mono ?_; rintro e w1 ⟨rfl, rfl⟩))
    exact ⟨rfl, rfl, rfl⟩
  · clear hcs
    go_enter Tryz.func127, Tryz.ntmps127
    go_wp2_with (first | (go_at_call 136; refine HHR.out.mono ?_; rintro e w1 ⟨rfl, rfl⟩) | (go_at_call 117; refine (must_no _).mono ?_; rintro e w1 ⟨rfl, rfl⟩))
    exact ⟨rfl, rfl, rfl⟩
end Go.Proofs.YtllhbhogfffedaaGreatDoor
