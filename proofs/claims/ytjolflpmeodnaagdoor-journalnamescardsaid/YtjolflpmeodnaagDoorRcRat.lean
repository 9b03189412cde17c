import Derived.Test.YtjolflpmeodnaagDoorRcOwe
import Derived.Test.YtjolflpmeodnaagDoorRcBkO
import Derived.Test.YtjolflpmeodnaagDoorRcApp
namespace Go.Proofs.YtjolflpmeodnaagDoor
open Go.RowKit
set_option linter.unusedVariables false

theorem rd_small {zs : List Int} (hb : Bytey zs) : (rdR zs).1.data.length ≤ 65536 ∧ (rdR zs).1.spans.length ≤ 500 := by
  unfold rdR
  split
  · exact ⟨by decide, by decide⟩
  · split
    · rename_i r h
      obtain ⟨_, hm⟩ := read_inv hb h
      obtain ⟨_, _, h1, h2⟩ := may_parts hm
      obtain ⟨h3, h4⟩ := may_lists hm
      constructor
      · cases h9 : hasB (kf r.kind) 9 with
        | true => exact h2 h9
        | false => simp only [h4 h9]; exact Nat.zero_le _
      · cases h8 : hasB (kf r.kind) 8 with
        | true => exact (h1 h8).1
        | false => simp only [h3 h8]; exact Nat.zero_le _
    · exact ⟨by decide, by decide⟩

/-- A record that was read: its lists lie from lo on, below hi; itself it lies in block b. -/
structure RAt (w : World) (lo hi b : Nat) (r : Rc) (sa da : Option Addr) (sc dc : Nat) : Prop where
  spn : C.SOwn w lo (.slice sa r.spans.length sc) r.spans
  dat : w.ownsRow lo 5 1 (.slice da r.data.length dc) r.data.length (r.data.map (Value.int .u8))
  ne : ∀ j, (Value.slice sa r.spans.length sc).ownBlock = some j → (Value.slice da r.data.length dc).ownBlock ≠ some j
  shi : ∀ k, (Value.slice sa r.spans.length sc).ownBlock = some k → k < hi
  dhi : ∀ k, (Value.slice da r.data.length dc).ownBlock = some k → k < hi
  box : w.heap[b]? = some (rcO r (.slice sa r.spans.length sc) (.slice da r.data.length dc))
theorem own_same {w w' : World} {base size n : Nat} {e : TypeId} {v : Value} {xs : List Value} (h : w.ownsRow base e size v n xs) (hg : ∀ k, v.ownBlock = some k → w'.heap[k]? = w.heap[k]?) : w'.ownsRow base e size v n xs := by
  obtain ⟨hl, h | ⟨g, cap, cur, rfl, hb, hh, r⟩⟩ := h
  · exact ⟨hl, .inl h⟩
  · exact ⟨hl, .inr ⟨g, cap, cur, rfl, hb, (hg g rfl).trans hh, r⟩⟩
theorem own_lower {w : World} {base base' size n : Nat} {e : TypeId} {v : Value} {xs : List Value} (h : w.ownsRow base e size v n xs) (hb : base' ≤ base) : w.ownsRow base' e size v n xs := by
  obtain ⟨hl, h | ⟨g, cap, cur, rfl, hb', r⟩⟩ := h
  · exact ⟨hl, .inl h⟩
  · exact ⟨hl, .inr ⟨g, cap, cur, rfl, Nat.le_trans hb hb', r⟩⟩
theorem RAt.same {w w' : World} {lo hi b : Nat} {r : Rc} {sa da : Option Addr} {sc dc : Nat} (h : RAt w lo hi b r sa da sc dc) (hg : ∀ g, (lo ≤ g ∧ g < hi) ∨ g = b → g < w.heap.size → w'.heap[g]? = w.heap[g]?) : RAt w' lo hi b r sa da sc dc :=
  ⟨own_same h.spn (fun k hk => hg k (.inl ⟨(World.ownsRow.lt h.spn k hk).1, h.shi k hk⟩) (World.ownsRow.lt h.spn k hk).2), own_same h.dat (fun k hk => hg k (.inl ⟨(h.dat.lt k hk).1, h.dhi k hk⟩) (h.dat.lt k hk).2), h.ne, h.shi, h.dhi, (hg b (.inr rfl) (Array.getElem?_eq_some_iff.mp h.box).1).trans h.box⟩
theorem RAt.below {w w' : World} {lo hi b : Nat} {r : Rc} {sa da : Option Addr} {sc dc : Nat} (h : RAt w lo hi b r sa da sc dc) (hb : Below w.heap.size w w') : RAt w' lo hi b r sa da sc dc := h.same (fun g _ hg => hb.block g hg)
theorem RAt.rin {w : World} {lo hi b : Nat} {r : Rc} {sa da : Option Addr} {sc dc : Nat} (h : RAt w lo hi b r sa da sc dc) (hb : r.data.length ≤ 65536) : RIn w r sa da r.spans.length r.data.length sc dc := own_rin h.spn h.dat (by omega)
theorem rat_read {P : Rc × Int} {w w' : World} {sa da : Option Addr} {sc dc : Nat} (h1 : C.SOwn w' w.heap.size (.slice sa P.1.spans.length sc) P.1.spans) (h2 : w'.ownsRow w.heap.size 5 1 (.slice da P.1.data.length dc) P.1.data.length (P.1.data.map (Value.int .u8))) (h3 : ∀ j, (Value.slice sa P.1.spans.length sc).ownBlock = some j → (Value.slice da P.1.data.length dc).ownBlock ≠ some j) :
    RAt (w'.alloc (rcO P.1 (.slice sa P.1.spans.length sc) (.slice da P.1.data.length dc))) w.heap.size w'.heap.size w'.heap.size P.1 sa da sc dc :=
  ⟨World.ownsRow.alloc h1 _, h2.alloc _, h3, fun k hk => (World.ownsRow.lt h1 k hk).2, fun k hk => (h2.lt k hk).2, heap_new6 w' _⟩

/-- The bytes and the two marks behind them. -/
theorem marks_lies {w : World} {base g n c : Nat} {zs : List Int} (h : w.ownsRow base 5 1 (.slice (some ⟨g, 0, none⟩) (n + 2) c) (n + 2) ((zs ++ [177, 178]).map (Value.int .u8))) (hl : zs.length = n) : Lies .u8 w (some ⟨g, 0, none⟩) zs ∧ w.cell? ⟨g, n, none⟩ = some (.int .u8 177) ∧ w.cell? ⟨g, n + 1, none⟩ = some (.int .u8 178) := by
  refine ⟨.inr ⟨g, 0, rfl, fun i hi => ?_⟩, ?_, ?_⟩
  · rw [Nat.zero_add, h.cellAt i (by omega), List.getElem?_map, List.getElem?_append_left hi, List.getD_eq_getElem?_getD, List.getElem?_eq_getElem hi]; rfl
  · rw [h.cellAt n (by omega), List.getElem?_map, List.getElem?_append_right (by omega), hl, Nat.sub_self]; rfl
  · rw [h.cellAt (n + 1) (by omega), List.getElem?_map, List.getElem?_append_right (by omega), hl, show n + 1 - n = 1 by omega]; rfl
theorem marks_set {w : World} {base g n c k : Nat} {zs : List Int} {y : Int} (h : w.ownsRow base 5 1 (.slice (some ⟨g, 0, none⟩) (n + 2) c) (n + 2) ((zs ++ [177, 178]).map (Value.int .u8))) (hk : k < zs.length) : (w.setCell ⟨g, k, none⟩ (.int .u8 y)).ownsRow base 5 1 (.slice (some ⟨g, 0, none⟩) (n + 2) c) (n + 2) ((zs.set k y ++ [177, 178]).map (Value.int .u8)) := by
  have h1 := (h.stored k (.int .u8 y)).1
  rw [← List.map_set, List.set_append_left _ _ hk] at h1
  exact h1

/-- The two records that Owned is asked of. -/
def twoO (r s : Ro) (i : Nat) : Ro := if i = 0 then r else s
def twoF (vl : Value) (cs : List Value) (r s : Ro) (p : Nat) : Rwo :=
  if p = 0 then ⟨25, 1, .slice none 0 0, 0, []⟩ else if p = 1 then ⟨24, 1, .slice none 0 0, 0, []⟩ else if p = 2 then ⟨27, 11, vl, 2, cs⟩ else if p = 3 then dRow r.dv r.r.data else if p = 4 then sRow r.sv r.r.spans else if p = 5 then dRow s.dv s.r.data else sRow s.sv s.r.spans
theorem two_fam {w : World} {base gl l1 h1 b1 l2 h2 b2 : Nat} {r s : Rc} {sa da sb db : Option Addr} {sc dc tc ec : Nat} {cs : List Value} (hr : RAt w l1 h1 b1 r sa da sc dc) (hs : RAt w l2 h2 b2 s sb db tc ec)
    (hl : w.ownsRow gl 27 11 (.slice (some ⟨gl, 0, none⟩) 2 2) 2 cs) (q1 : base ≤ l1) (q2 : h1 ≤ l2) (q3 : h2 ≤ gl) (q4 : l1 ≤ h1) (q5 : l2 ≤ h2) :
    Spd (fun g => (l1 ≤ g ∧ g < h1) ∨ (l2 ≤ g ∧ g < h2) ∨ g = gl) w w base 2 ⟨27, 11, .slice (some ⟨gl, 0, none⟩) 2 2, 2, cs⟩ (twoO ⟨r, sa, da, sc, dc⟩ ⟨s, sb, db, tc, ec⟩) 0 (twoF (.slice (some ⟨gl, 0, none⟩) 2 2) cs ⟨r, sa, da, sc, dc⟩ ⟨s, sb, db, tc, ec⟩) := by
  have hpl : ∀ p k, p < 7 → (twoF (.slice (some ⟨gl, 0, none⟩) 2 2) cs ⟨r, sa, da, sc, dc⟩ ⟨s, sb, db, tc, ec⟩ p).v.ownBlock = some k → (p = 2 ∧ k = gl) ∨ (p = 3 ∧ l1 ≤ k ∧ k < h1 ∧ (Value.slice da r.data.length dc).ownBlock = some k) ∨ (p = 4 ∧ l1 ≤ k ∧ k < h1 ∧ (Value.slice sa r.spans.length sc).ownBlock = some k) ∨ (p = 5 ∧ l2 ≤ k ∧ k < h2 ∧ (Value.slice db s.data.length ec).ownBlock = some k) ∨ (p = 6 ∧ l2 ≤ k ∧ k < h2 ∧ (Value.slice sb s.spans.length tc).ownBlock = some k) := by
    intro p k hp hk
    have : p = 0 ∨ p = 1 ∨ p = 2 ∨ p = 3 ∨ p = 4 ∨ p = 5 ∨ p = 6 := by omega
    rcases this with rfl | rfl | rfl | rfl | rfl | rfl | rfl
    · cases hk
    · cases hk
    · left; refine ⟨rfl, ?_⟩; have : some gl = some k := hk; simp at this; exact this.symm
    · right; left; exact ⟨rfl, (hr.dat.lt k hk).1, hr.dhi k hk, hk⟩
    · right; right; left; exact ⟨rfl, (World.ownsRow.lt hr.spn k hk).1, hr.shi k hk, hk⟩
    · right; right; right; left; exact ⟨rfl, (hs.dat.lt k hk).1, hs.dhi k hk, hk⟩
    · right; right; right; right; exact ⟨rfl, (World.ownsRow.lt hs.spn k hk).1, hs.shi k hk, hk⟩
  refine ⟨⟨fun p hp => ?_, fun p q k hp hq a b => ?_, fun p k hp hk => ?_⟩, rfl, rfl, rfl, fun i hi => by omega, fun i _ hi => ?_, Kps.refl _ _⟩
  · have : p = 0 ∨ p = 1 ∨ p = 2 ∨ p = 3 ∨ p = 4 ∨ p = 5 ∨ p = 6 := by omega
    rcases this with rfl | rfl | rfl | rfl | rfl | rfl | rfl
    · exact World.ownsRow_nil _ _ _ _
    · exact World.ownsRow_nil _ _ _ _
    · exact own_lower hl (by omega)
    · exact own_lower hr.dat q1
    · exact own_lower hr.spn q1
    · exact own_lower hs.dat (by omega)
    · exact own_lower hs.spn (by omega)
  · rcases hpl p k hp a with ⟨rfl, _⟩ | ⟨rfl, _, _, e⟩ | ⟨rfl, _, _, e⟩ | ⟨rfl, _, _, e⟩ | ⟨rfl, _, _, e⟩ <;> rcases hpl q k hq b with ⟨rfl, _⟩ | ⟨rfl, _, _, e'⟩ | ⟨rfl, _, _, e'⟩ | ⟨rfl, _, _, e'⟩ | ⟨rfl, _, _, e'⟩ <;> first | rfl | omega | exact absurd e (hr.ne k e') | exact absurd e' (hr.ne k e) | exact absurd e (hs.ne k e') | exact absurd e' (hs.ne k e)
  · rcases hpl p k hp hk with ⟨_, h⟩ | ⟨_, h, h', _⟩ | ⟨_, h, h', _⟩ | ⟨_, h, h', _⟩ | ⟨_, h, h', _⟩
    · exact .inl (.inr (.inr h))
    · exact .inl (.inl ⟨h, h'⟩)
    · exact .inl (.inl ⟨h, h'⟩)
    · exact .inl (.inr (.inl ⟨h, h'⟩))
    · exact .inl (.inr (.inl ⟨h, h'⟩))
  · have : i = 0 ∨ i = 1 := by omega
    rcases this with rfl | rfl <;> exact ⟨rfl, rfl⟩
end Go.Proofs.YtjolflpmeodnaagDoor
