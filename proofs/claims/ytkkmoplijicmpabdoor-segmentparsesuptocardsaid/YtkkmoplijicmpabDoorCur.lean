import Derived.Test.YtkkmoplijicmpabDoorOwns
import Derived.Test.YtkkmoplijicmpabDoorRead
import Derived.Test.YtkkmoplijicmpabDoorSegMath
import Derived.Deep.QuietTactic
import Derived.BigQuiet
import Derived.Maps.AppendAt
import Derived.Deep.RegionWith
import Derived.Deep.CutRange
namespace Go.Proofs.YtkkmoplijicmpabDoor
open Go.RowKit

/-- The reader in block b: its cursor over the bytes, and its other cells. -/
def Cur (w : World) (b : Nat) (a : Option Addr) (len cap : Nat) (st : St) (tl : List Value) : Prop :=
  w.heap[b]? = some (.cells (.slice a len cap :: .int .i64 (st.2 : Int) :: .int .i64 st.1 :: tl).toArray 77 (0, 0))

theorem Cur.c0 {w : World} {b len cap : Nat} {a : Option Addr} {st : St} {tl : List Value} (h : Cur w b a len cap st tl) : w.cell? ⟨b, 0, none⟩ = some (.slice a len cap) := by
  unfold Cur at h; simp [World.cell?, h]
theorem Cur.c1 {w : World} {b len cap : Nat} {a : Option Addr} {st : St} {tl : List Value} (h : Cur w b a len cap st tl) : w.cell? ⟨b, 1, none⟩ = some (.int .i64 st.2) := by
  unfold Cur at h; simp [World.cell?, h]
theorem Cur.c2 {w : World} {b len cap : Nat} {a : Option Addr} {st : St} {tl : List Value} (h : Cur w b a len cap st tl) : w.cell? ⟨b, 2, none⟩ = some (.int .i64 st.1) := by
  unfold Cur at h; simp [World.cell?, h]
theorem Cur.fz {w : World} {b len cap : Nat} {a : Option Addr} {st : St} {tl : List Value} (h : Cur w b a len cap st tl) (i : Nat) : w.frozen? ⟨b, i, none⟩ = false := by
  unfold Cur at h; simp [World.frozen?, h]
theorem Cur.lt {w : World} {b len cap : Nat} {a : Option Addr} {st : St} {tl : List Value} (h : Cur w b a len cap st tl) : b < w.heap.size := by
  rcases Nat.lt_or_ge b w.heap.size with hg | hg
  · exact hg
  · unfold Cur at h; rw [Array.getElem?_eq_none hg] at h; cases h
theorem Cur.set1 {w : World} {b len cap : Nat} {a : Option Addr} {st : St} {tl : List Value} (h : Cur w b a len cap st tl) (p : Nat) (x : Int) (hx : x = p) : Cur (w.setCell ⟨b, 1, none⟩ (.int .i64 x)) b a len cap (st.1, p) tl := by
  subst hx
  unfold Cur at h ⊢
  simp only [World.setCell, Array.getElem?_modify, h, if_true, Option.map_some]
  simp
theorem Cur.set2 {w : World} {b len cap : Nat} {a : Option Addr} {st : St} {tl : List Value} (h : Cur w b a len cap st tl) (f : Int) : Cur (w.setCell ⟨b, 2, none⟩ (.int .i64 f)) b a len cap (f, st.2) tl := by
  unfold Cur at h ⊢
  simp only [World.setCell, Array.getElem?_modify, h, if_true, Option.map_some]
  simp
theorem Cur.of_eq {w w' : World} {b len cap : Nat} {a : Option Addr} {st : St} {tl : List Value} (h : Cur w b a len cap st tl) (e : w'.heap[b]? = w.heap[b]?) : Cur w' b a len cap st tl := e.trans h

/-- The bytes that are read lie there, in another block than the reader's. -/
structure Src (w : World) (b : Nat) (a : Option Addr) (len cap : Nat) (zs : List Int) : Prop where
  bytes : Bytey zs
  length : zs.length = len
  small : len ≤ 8192
  room : len ≤ cap
  most : cap ≤ 9223372036854775807
  lies : Lies .u8 w a zs
  nil : a = none → len = 0 ∧ cap = 0
  apart : zs ≠ [] → ∀ x, a = some x → x.block < b

theorem lies_grown {k : IntKind} {w w' : World} {a : Option Addr} {zs : List Int} {row : Option Nat} (h : Lies k w a zs) (hg : w.grownBy w' row) (hr : zs ≠ [] → ∀ x, a = some x → some x.block ≠ row) : Lies k w' a zs := by
  by_cases hz : zs = []
  · exact .inl hz
  · rcases h with rfl | ⟨g, off, rfl, h⟩
    · exact .inl rfl
    · exact .inr ⟨g, off, rfl, fun i hi => hg.cell (h i hi) (hr hz ⟨g, off, none⟩ rfl)⟩

theorem Src.grown {w w' : World} {b len cap : Nat} {a : Option Addr} {zs : List Int} (h : Src w b a len cap zs) (hg : w.grownBy w' (some b)) : Src w' b a len cap zs :=
  ⟨h.bytes, h.length, h.small, h.room, h.most, lies_grown h.lies hg (fun hz x hx e => by have := h.apart hz x hx; simp at e; omega), h.nil, h.apart⟩

theorem grown_drewN (w : World) (n : Nat) (row : Option Nat) : w.grownBy (w.drewN n) row := ⟨rfl, rfl, rfl, Nat.le_refl _, fun _ _ _ => rfl⟩

set_option maxHeartbeats 400000 in
theorem failed_any (b len cap : Nat) (a : Option Addr) (st : St) (tl : List Value) (w : World) (hc : Cur w b a len cap st tl) :
    Calls Tryd.prog 44 #[.pointer (some ⟨b, 0, none⟩)] w fun e w' => e = .returned (.bool (st.1 != 0)) ∧ w = w' := by
  have c2 := hc.c2
  clear hc
  go_enter Tryd.func44, Tryd.ntmps44
  go_wp2
  go_ret
  exact ⟨rfl, rfl⟩

set_option maxHeartbeats 400000 in
theorem fail_any (b len cap : Nat) (a : Option Addr) (st : St) (tl : List Value) (x : Int) (w : World) (hc : Cur w b a len cap st tl) :
    Calls Tryd.prog 43 #[.pointer (some ⟨b, 0, none⟩), .int .i64 x] w fun e w' => e = .returned (.tuple #[]) ∧ Cur w' b a len cap (if st.1 = 0 then x else st.1, st.2) tl ∧ w.grownBy w' (some b) ∧ w'.heap.size = w.heap.size := by
  have HC : Hid (Cur w b a len cap st tl) := hc
  have c2 := hc.c2
  have z2 := hc.fz 2
  clear hc
  obtain ⟨f, p⟩ := st
  by_cases hf : f = 0
  · subst hf
    go_enter Tryd.func43, Tryd.ntmps43
    go_wp2_with (go_at_call 44; refine (failed_any _ _ _ _ _ _ _ HC.out).mono ?_; rintro e w' ⟨rfl, rfl⟩)
    go_end0
    exact ⟨rfl, HC.out.set2 x, grown_set _ _ _ _, by simp [World.setCell]⟩
  · have hb : (f != 0) = true := by simp [hf]
    have HF : Hid (f ≠ 0) := hf
    clear hf
    go_enter Tryd.func43, Tryd.ntmps43
    go_wp2_with (go_at_call 44; refine (failed_any _ _ _ _ _ _ _ HC.out).mono ?_; rintro e w' ⟨rfl, rfl⟩)
    go_end0
    refine ⟨rfl, ?_, World.grownBy.refl _ _, rfl⟩
    exact HC.out

/-- What is left to read. -/
def left (zs : List Int) (st : St) : List Int := if st.1 = 0 then zs.drop st.2 else []

theorem add_block (x : Addr) (p : Nat) : (x.add p).block = x.block := by unfold Addr.add; split <;> rfl
theorem lies_add {k : IntKind} {w : World} {x : Addr} {zs : List Int} (h : Lies k w (some x) zs) (p : Nat) : Lies k w (some (x.add p)) (zs.drop p) := by
  rcases h with rfl | ⟨g, off, hx, h⟩
  · exact .inl (by simp)
  · simp only [Option.some.injEq] at hx
    subst hx
    rw [show (⟨g, off, none⟩ : Addr).add p = ⟨g, off + p, none⟩ from by unfold Addr.add; split <;> simp_all]
    exact lies_drop h p

/-- What 'rest' answers. -/
def RestPost (zs : List Int) (st : St) (b : Nat) (w : World) (e : Ending) (w' : World) : Prop :=
  ∃ a' c n, e = .returned (.slice a' (left zs st).length c) ∧ w' = w.drewN n ∧ Lies .u8 w a' (left zs st) ∧ (a' = none → (left zs st).length = 0 ∧ c = 0) ∧ (left zs st).length ≤ c ∧ c ≤ 9223372036854775807 ∧ (left zs st ≠ [] → ∀ x, a' = some x → x.block < b)

set_option maxHeartbeats 400000 in
theorem rest_any (b len cap : Nat) (a : Option Addr) (st : St) (tl : List Value) (zs : List Int) (w : World) (hc : Cur w b a len cap st tl) (hs : Src w b a len cap zs) (hp : st.2 ≤ len) :
    Calls Tryd.prog 42 #[.pointer (some ⟨b, 0, none⟩)] w (RestPost zs st b w) := by
  have HC : Hid (Cur w b a len cap st tl) := hc
  have HS : Hid (Src w b a len cap zs) := hs
  have c0 := hc.c0
  have c1 := hc.c1
  have hsm := hs.small
  have hro := hs.room
  have hmo := hs.most
  clear hc hs
  obtain ⟨f, p⟩ := st
  by_cases hf : f = 0
  · subst hf
    have hl : Hid ((left zs (0, p)).length = len - p) := by unfold Hid; simp [left, HS.out.length]
    cases a with
    | none =>
      have hn := HS.out.nil rfl
      obtain ⟨rfl, rfl⟩ := hn
      obtain rfl : p = 0 := by simp at hp; omega
      go_enter Tryd.func42, Tryd.ntmps42
      go_wp2_with (go_at_call 44; refine (failed_any _ _ _ _ _ _ _ HC.out).mono ?_; rintro e w' ⟨rfl, rfl⟩)
      go_quiet (fail)
      go_wp2
      go_ret
      have hz : left zs (0, 0) = [] := List.eq_nil_of_length_eq_zero hl.out
      refine ⟨none, 0, _, by rw [hz]; rfl, rfl, by rw [hz]; exact .inl rfl, fun _ => ⟨by rw [hz]; rfl, rfl⟩, by rw [hz]; simp, by omega, fun _ x hx => by cases hx⟩
    | some x =>
      have hp' : (p : Int) ≤ (len : Int) := by simp at hp; omega
      have hcp : Int.toNat (p : Int) = p := by omega
      go_enter Tryd.func42, Tryd.ntmps42
      go_wp2_with (go_at_call 44; refine (failed_any _ _ _ _ _ _ _ HC.out).mono ?_; rintro e w' ⟨rfl, rfl⟩)
      go_quiet (fail)
      go_wp2
      all_goals go_ret
      · have hz : left zs (0, p) = [] := List.eq_nil_of_length_eq_zero (by rw [hl.out]; omega)
        have hlp : len - p = 0 := by omega
        refine ⟨some x, 0, nq, ?_, rfl, by rw [hz]; exact .inl rfl, (fun h => by cases h), by rw [hz]; simp, by omega, fun h => absurd hz h⟩
        rw [hz]
        show Ending.returned (Value.slice (some x) (len - p) 0) = _
        rw [hlp]; rfl
      · refine ⟨some (x.add p), cap - p, nq, ?_, rfl, ?_, (fun h => by cases h), by rw [hl.out]; omega, by omega, fun hne y hy => ?_⟩
        · rw [hl.out]; rfl
        · exact lies_add HS.out.lies p
        · simp only [Option.some.injEq] at hy
          rw [← hy, add_block]
          refine HS.out.apart (fun h => hne ?_) x rfl
          rw [h]; simp [left]
  · have hb : (f != 0) = true := by simp [hf]
    have hl : Hid (left zs (f, p) = []) := by unfold Hid; simp [left, hf]
    clear hf
    go_enter Tryd.func42, Tryd.ntmps42
    go_wp2_with (go_at_call 44; refine (failed_any _ _ _ _ _ _ _ HC.out).mono ?_; rintro e w' ⟨rfl, rfl⟩)
    go_ret
    exact ⟨none, 0, 0, by rw [hl.out]; rfl, rfl, by rw [hl.out]; exact .inl rfl, fun _ => ⟨by rw [hl.out]; rfl, rfl⟩, by rw [hl.out]; simp, by omega, fun _ x hx => by cases hx⟩

/-- A cursor's step: the value, the state behind it, nothing else but the reader's block turned. -/
structure Ran {α : Type} (p : Pr α) (w w' : World) (b : Nat) (a : Option Addr) (len cap : Nat) (zs : List Int) (st : St) (tl : List Value) (v : α) (st' : St) : Prop where
  cur : Cur w' b a len cap st' tl
  grown : w.grownBy w' (some b)
  step : Step zs p st v st'
  place : st'.2 ≤ len
  errs : 0 ≤ st'.1 ∧ st'.1 ≤ 100
  kept : st.1 ≠ 0 → st' = st

theorem rd_nil : rd [] = (0, 0, 10) := rfl

def OctPost (b : Nat) (a : Option Addr) (len cap : Nat) (zs : List Int) (st : St) (tl : List Value) (w : World) (e : Ending) (w' : World) : Prop :=
  ∃ v st', e = .returned (.int .i64 v) ∧ Ran oct w w' b a len cap zs st tl v st' ∧ 0 ≤ v ∧ v ≤ 255 ∧ (st'.1 ≠ 0 → v = 0)

theorem cur_drewN {w : World} {b len cap : Nat} {a : Option Addr} {st : St} {tl : List Value} (h : Cur w b a len cap st tl) (n : Nat) : Cur (w.drewN n) b a len cap st tl := h
theorem getD_drop (zs : List Int) (p : Nat) : (zs.drop p).getD 0 0 = zs.getD p 0 := by simp [List.getD_eq_getElem?_getD]

set_option maxHeartbeats 400000 in
theorem octet_any (b len cap : Nat) (a : Option Addr) (st : St) (tl : List Value) (zs : List Int) (w : World) (hc : Cur w b a len cap st tl) (hs : Src w b a len cap zs) (hp : st.2 ≤ len) (he : 0 ≤ st.1 ∧ st.1 ≤ 100) :
    Calls Tryd.prog 73 #[.pointer (some ⟨b, 0, none⟩)] w (OctPost b a len cap zs st tl w) := by
  have HC : Hid (Cur w b a len cap st tl) := hc
  have HS : Hid (Src w b a len cap zs) := hs
  have HE : Hid (0 ≤ st.1 ∧ st.1 ≤ 100) := he
  have c1 := hc.c1
  have z1 := hc.fz 1
  have hsm := hs.small
  clear hc hs he
  go_enter Tryd.func73, Tryd.ntmps73
  go_wp2_with fail
  refine (rest_any b len cap a st tl zs _ HC.out HS.out hp).mono ?_
  rintro e w' ⟨a', c, n, rfl, rfl, hlies, hnil, hlc, hcm, hap⟩
  by_cases h0 : (left zs st).length = 0
  · have HL : Hid (left zs st = []) := List.eq_nil_of_length_eq_zero h0
    rw [h0]
    clear hlies hnil hlc hcm hap h0
    go_wp2_with fail
    refine (fail_any b len cap a st tl _ _ (cur_drewN HC.out n)).mono ?_
    rintro e w' ⟨rfl, hcur, hg, _⟩
    go_wp2
    go_ret
    refine ⟨0, _, rfl, ⟨hcur, grown_trans (grown_drewN _ _ _) hg, ?_, hp, ?_, ?_⟩, by omega, by omega, fun _ => rfl⟩
    · by_cases hf : st.1 = 0
      · rw [if_pos hf]
        refine Step.fault _ _ _ hf (by omega) ?_
        have := HL.out
        rw [left, if_pos hf] at this
        rw [this]; rfl
      · rw [if_neg hf]; exact Step.bad _ hf
    · have := HE.out; simp only; split <;> omega
    · intro hf; rw [if_neg hf]
  · have hf : st.1 = 0 := by
      rcases Decidable.em (st.1 = 0) with h | h
      · exact h
      · simp [left, h] at h0
    have HL : Hid (left zs st = zs.drop st.2) := by unfold Hid left; rw [if_pos hf]
    have hlt : st.2 < zs.length := by
      have := HL.out; rw [this] at h0; simp at h0; omega
    have hb : 0 ≤ zs.getD st.2 0 ∧ zs.getD st.2 0 ≤ 255 := by
      rw [List.getD_eq_getElem?_getD, List.getElem?_eq_getElem hlt]; exact HS.out.bytes _ (List.getElem_mem hlt)
    have hpos : (0 : Int) < ((left zs st).length : Int) := by omega
    have hne : (((left zs st).length : Int) == 0) = false := beq_eq_false_iff_ne.mpr (by omega)
    obtain ⟨g, off, rfl, hcell⟩ : ∃ g off, a' = some ⟨g, off, none⟩ ∧ w.cell? ⟨g, off, none⟩ = some (.int .u8 (zs.getD st.2 0)) := by
      rcases hlies with h | ⟨g, off, rfl, h⟩
      · rw [h] at h0; exact absurd rfl h0
      · have h1 := h 0 (by omega)
        rw [HL.out, getD_drop] at h1
        exact ⟨g, off, rfl, h1⟩
    have hgb : g < b := hap (fun h => h0 (by rw [h]; rfl)) _ rfl
    have hcell2 : ((w.drewN n).setCell ⟨b, 1, none⟩ (.int .i64 (st.2 + 1))).cell? ⟨g, off, none⟩ = some (.int .u8 (zs.getD st.2 0)) := by
      rw [World.cell?_of_block (w := w.drewN n) (Below.heap_setCell _ _ _ _ (by simp; omega))]; exact hcell
    have hp1 : (st.2 : Int) ≤ 8192 := by omega
    have HP : Hid (st.2 + 1 ≤ len) := by have h9 : zs.length = len := HS.out.length; show st.2 + 1 ≤ len; omega
    have HZ : Hid (oct (zs.drop st.2) = .ok (zs.getD st.2 0) (zs.drop (st.2 + 1))) := by unfold Hid; rw [drop_cons zs st.2 hlt]; rfl
    clear hlies hnil hap
    generalize zs.getD st.2 0 = z at *
    go_wp2
    go_ret
    refine ⟨z, (0, st.2 + 1), rfl, ⟨?_, grown_trans (grown_drewN _ _ _) (grown_set _ _ _ _), ?_, HP.out, by omega, fun h => absurd hf h⟩, hb.1, hb.2, fun h => absurd rfl h⟩
    · have := (cur_drewN HC.out n).set1 (st.2 + 1) (st.2 + 1) (by omega)
      rw [hf] at this; exact this
    · exact Step.good _ _ hf HZ.out

def NumPost (b : Nat) (a : Option Addr) (len cap : Nat) (zs : List Int) (st : St) (tl : List Value) (lo hi : Int) (w : World) (e : Ending) (w' : World) : Prop :=
  ∃ v st', e = .returned (.int .i64 v) ∧ Ran (numb lo hi) w w' b a len cap zs st tl v st' ∧ 0 ≤ v ∧ v ≤ 4611686018427387903 ∧ (v = 0 ∨ lo ≤ v ∧ v ≤ hi) ∧ (st'.1 ≠ 0 → v = 0)

def btw (n lo hi : Int) : Bool := decide (lo ≤ n ∧ n ≤ hi)
set_option maxHeartbeats 400000 in
theorem between_any (n lo hi : Int) (w : World) :
    Calls Tryd.prog 56 #[.int .i64 n, .int .i64 lo, .int .i64 hi] w fun e w' => e = .returned (.bool (btw n lo hi)) ∧ w = w' := by
  have HB : Hid (btw n lo hi = decide (lo ≤ n ∧ n ≤ hi)) := rfl
  generalize btw n lo hi = q at *
  by_cases h1 : lo ≤ n
  · by_cases h2 : n ≤ hi
    · go_enter Tryd.func56, Tryd.ntmps56
      go_wp2
      go_ret
      refine ⟨?_, rfl⟩
      rw [HB.out]; simp [h1, h2]
    · go_enter Tryd.func56, Tryd.ntmps56
      go_wp2
      go_ret
      refine ⟨?_, rfl⟩
      rw [HB.out]; simp [h1, h2]
  · go_enter Tryd.func56, Tryd.ntmps56
    go_wp2
    go_ret
    refine ⟨?_, rfl⟩
    rw [HB.out]; simp; omega

theorem lies_drewN {k : IntKind} {w : World} {a : Option Addr} {zs : List Int} (h : Lies k w a zs) (n : Nat) : Lies k (w.drewN n) a zs := h

/-- What stands at the place is read: the four ways. -/
theorem numb_left {zs : List Int} {st : St} {lo hi : Int} (hf : st.1 = 0) (t : Int × Int × Int) (ht : rd (left zs st) = t) : numb lo hi (zs.drop st.2) = if t.2.2 = 10 then .bad 20 else if t.2.2 ≠ 0 ∨ 4611686018427387903 < t.1 then .bad 22
  else if lo ≤ t.1 ∧ t.1 ≤ hi then .ok t.1 ((zs.drop st.2).drop t.2.1.toNat) else .bad 23 := by
  have : left zs st = zs.drop st.2 := by unfold left; rw [if_pos hf]
  rw [this] at ht
  subst ht; rfl

theorem ran_fault {α : Type} {p : Pr α} {w w' : World} {b len cap : Nat} {a : Option Addr} {zs : List Int} {st : St} {tl : List Value} (v : α) {x : Int} (hx : 0 < x ∧ x ≤ 100) (he : 0 ≤ st.1 ∧ st.1 ≤ 100) (hp : st.2 ≤ len)
    (hbad : st.1 = 0 → p (zs.drop st.2) = .bad x) (hcur : Cur w' b a len cap (if st.1 = 0 then x else st.1, st.2) tl) (hg : w.grownBy w' (some b)) :
    Ran p w w' b a len cap zs st tl v (if st.1 = 0 then x else st.1, st.2) := by
  refine ⟨hcur, hg, ?_, hp, ?_, ?_⟩
  · by_cases hf : st.1 = 0
    · rw [if_pos hf]; exact Step.fault _ _ _ hf (by omega) (hbad hf)
    · rw [if_neg hf]; exact Step.bad _ hf
  · simp only; split <;> omega
  · intro hf; rw [if_neg hf]

set_option maxHeartbeats 1000000 in
theorem number_any (b len cap : Nat) (a : Option Addr) (st : St) (tl : List Value) (zs : List Int) (lo hi : Int) (w : World) (hc : Cur w b a len cap st tl) (hs : Src w b a len cap zs) (hp : st.2 ≤ len) (he : 0 ≤ st.1 ∧ st.1 ≤ 100) :
    Calls Tryd.prog 72 #[.pointer (some ⟨b, 0, none⟩), .int .i64 lo, .int .i64 hi] w (NumPost b a len cap zs st tl lo hi w) := by
  have HC : Hid (Cur w b a len cap st tl) := hc
  have HS : Hid (Src w b a len cap zs) := hs
  have HE : Hid (0 ≤ st.1 ∧ st.1 ≤ 100) := he
  have c1 := hc.c1
  have z1 := hc.fz 1
  have hsm := hs.small
  clear hc hs he
  go_enter Tryd.func72, Tryd.ntmps72
  go_wp2_with fail
  refine (rest_any b len cap a st tl zs _ HC.out HS.out hp).mono ?_
  rintro e w' ⟨a', c, n, rfl, rfl, hlies, hnil, hlc, hcm, hap⟩
  have hby : Bytey (left zs st) := by
    intro z hz
    unfold left at hz
    split at hz
    · exact HS.out.bytes z (List.mem_of_mem_drop hz)
    · cases hz
  have hll : (left zs st).length ≤ 8192 := by
    have h9 : zs.length = len := HS.out.length
    unfold left; split <;> simp; omega
  go_wp2_with fail
  refine (read_any _ (left zs st) _ _ _ hby rfl (by omega) (lies_drewN hlies n)).mono ?_
  rintro e w' ⟨rfl, rfl⟩
  have hinv := rd_inv (left zs st) hby
  have HN : Hid (∀ h : st.1 = 0, _) := fun hf => numb_left (lo := lo) (hi := hi) hf _ (rfl : rd (left zs st) = rd (left zs st))
  have HF : Hid (st.1 ≠ 0 → (rd (left zs st)).2.2 = 10) := fun hf => by unfold left; rw [if_neg hf]; rfl
  have HK : Hid (st.1 = 0 → (left zs st).length = len - st.2) := fun hf => by
    have h9 : zs.length = len := HS.out.length
    unfold left; rw [if_pos hf]; simp [h9]
  generalize left zs st = L at *
  clear hlies hnil hlc hcm hap hby
  generalize rd L = T at *
  obtain ⟨nn, kk, ee⟩ := T
  rcases hinv with ⟨r0, r1, r2, _, r3, r4⟩ | ⟨r0, r1, r2, r3, r4⟩
  · have HF2 : Hid (st.1 = 0) := by
      have h := HF.out
      rcases Decidable.em (st.1 = 0) with h' | h'
      · exact h'
      · have := h h'; simp only at this r0; omega
    have HN2 := HN.out HF2.out
    have HK2 : Hid (L.length = len - st.2) := HK.out HF2.out
    simp only at r0 r1 r2 r3 r4 HN2
    subst r0 r1
    have HS2 := sz_bounds nn r3 r4
    clear HN HF HK
    by_cases hmx : 4611686018427387903 < nn
    · rw [if_neg (by omega), if_pos (.inr hmx)] at HN2
      have HN3 : Hid (numb lo hi (zs.drop st.2) = .bad 22) := HN2
      clear HN2 HS2
      go_wp2_with fail
      refine (fail_any b len cap a st tl _ _ (cur_drewN HC.out n)).mono ?_
      rintro e w' ⟨rfl, hcur, hg, _⟩
      go_wp2
      go_ret
      exact ⟨0, _, rfl, ran_fault 0 (by omega) HE.out hp (fun _ => HN3.out) hcur (grown_trans (grown_drewN _ _ _) hg), by omega, by omega, .inl rfl, fun _ => rfl⟩
    · rw [if_neg (by omega), if_neg (by omega)] at HN2
      have HS3 : Hid (1 ≤ sz nn ∧ sz nn ≤ 10) := ⟨HS2.1, HS2.2.1⟩
      clear HS2
      have hmx' : nn ≤ 4611686018427387903 := by omega
      have hw : ∀ x : Int, x = nn → x = nn := fun _ h => h
      by_cases hbt : lo ≤ nn ∧ nn ≤ hi
      · rw [if_pos hbt] at HN2
        have hbb : btw nn lo hi = true := by simp [btw, hbt]
        have HN3 : Hid (numb lo hi (zs.drop st.2) = .ok nn (zs.drop (st.2 + sz nn))) := by
          unfold Hid; rw [HN2]; simp
        have HBT : Hid (lo ≤ nn ∧ nn ≤ hi) := hbt
        have hk1 : (sz nn : Int) ≤ 10 := by have := HS3.out; omega
        have hk2 : (st.2 : Int) ≤ 8192 := by omega
        clear HN2 hmx hbt hw
        go_wp2_with fail
        refine (between_any _ _ _ _).mono ?_
        rintro e w' ⟨rfl, rfl⟩
        rw [hbb]
        clear hbb
        go_wp2
        go_ret
        refine ⟨nn, (0, st.2 + sz nn), rfl, ⟨?_, grown_trans (grown_drewN _ _ _) (grown_set _ _ _ _), ?_, ?_, by omega, fun h => absurd HF2.out h⟩, r3, hmx', .inr HBT.out, fun h => absurd rfl h⟩
        · have := (cur_drewN HC.out n).set1 (st.2 + sz nn) (st.2 + (sz nn : Int)) (by omega)
          rw [HF2.out] at this; exact this
        · exact Step.good _ _ HF2.out HN3.out
        · have := HK2.out; simp only; omega
      · rw [if_neg hbt] at HN2
        have hbb : btw nn lo hi = false := by simp [btw]; omega
        have HN3 : Hid (numb lo hi (zs.drop st.2) = .bad 23) := HN2
        clear HN2 hmx hbt hw
        go_wp2_with fail
        refine (between_any _ _ _ _).mono ?_
        rintro e w' ⟨rfl, rfl⟩
        rw [hbb]
        clear hbb
        go_wp2_with fail
        refine (fail_any b len cap a st tl _ _ (cur_drewN HC.out n)).mono ?_
        rintro e w' ⟨rfl, hcur, hg, _⟩
        go_wp2
        go_ret
        exact ⟨0, _, rfl, ran_fault 0 (by omega) HE.out hp (fun _ => HN3.out) hcur (grown_trans (grown_drewN _ _ _) hg), by omega, by omega, .inl rfl, fun _ => rfl⟩
  · simp only at r0 r1 r2 r3 r4
    subst r1 r2
    by_cases h10 : ee = 10
    · subst h10
      have HN3 : Hid (st.1 = 0 → numb lo hi (zs.drop st.2) = .bad 20) := fun h => by have := HN.out h; simpa using this
      clear HN HF HK
      go_wp2_with fail
      refine (fail_any b len cap a st tl _ _ (cur_drewN HC.out n)).mono ?_
      rintro e w' ⟨rfl, hcur, hg, _⟩
      go_wp2
      go_ret
      exact ⟨0, _, rfl, ran_fault 0 (by omega) HE.out hp HN3.out hcur (grown_trans (grown_drewN _ _ _) hg), by omega, by omega, .inl rfl, fun _ => rfl⟩
    · have HN3 : Hid (st.1 = 0 → numb lo hi (zs.drop st.2) = .bad 22) := fun h => by have := HN.out h; simpa [h10, r0] using this
      have b1 : (ee == 10) = false := beq_eq_false_iff_ne.mpr h10
      have b2 : (ee != 0) = true := by simp [r0]
      clear HN HF HK h10 r0
      go_wp2_with fail
      refine (fail_any b len cap a st tl _ _ (cur_drewN HC.out n)).mono ?_
      rintro e w' ⟨rfl, hcur, hg, _⟩
      go_wp2
      go_ret
      exact ⟨0, _, rfl, ran_fault 0 (by omega) HE.out hp HN3.out hcur (grown_trans (grown_drewN _ _ _) hg), by omega, by omega, .inl rfl, fun _ => rfl⟩

end Go.Proofs.YtkkmoplijicmpabDoor

namespace Go.Proofs.YtkkmoplijicmpabDoor
open Go.RowKit

/-- The reader stands in block b, over the bytes zs, in the state st; its other cells are tl. -/
structure At (w : World) (b : Nat) (a : Option Addr) (len cap : Nat) (zs : List Int) (st : St) (tl : List Value) : Prop where
  cur : Cur w b a len cap st tl
  src : Src w b a len cap zs
  place : st.2 ≤ len
  errs : 0 ≤ st.1 ∧ st.1 ≤ 100

theorem At.cell {w : World} {b len cap : Nat} {a : Option Addr} {zs : List Int} {st : St} {tl : List Value} (h : At w b a len cap zs st tl) (j : Nat) {u : Value} (hu : tl[j]? = some u) : w.cell? ⟨b, j + 3, none⟩ = some u := by
  have h1 := h.cur
  unfold Cur at h1
  simp [World.cell?, h1, hu]
theorem At.fz {w : World} {b len cap : Nat} {a : Option Addr} {zs : List Int} {st : St} {tl : List Value} (h : At w b a len cap zs st tl) (i : Nat) : w.frozen? ⟨b, i, none⟩ = false := h.cur.fz i
theorem At.put {w : World} {b len cap : Nat} {a : Option Addr} {zs : List Int} {st : St} {tl : List Value} (h : At w b a len cap zs st tl) (j : Nat) (u : Value) (i : Nat) (hi : i = j + 3) : At (w.setCell ⟨b, i, none⟩ u) b a len cap zs st (tl.set j u) := by
  subst hi
  refine ⟨?_, h.src.grown (grown_set _ _ _ _), h.place, h.errs⟩
  have h1 := h.cur
  unfold Cur at h1 ⊢
  simp only [World.setCell, Array.getElem?_modify, h1, if_true, Option.map_some]
  simp
theorem At.lt {w : World} {b len cap : Nat} {a : Option Addr} {zs : List Int} {st : St} {tl : List Value} (h : At w b a len cap zs st tl) : b < w.heap.size := h.cur.lt
theorem lies_keep {k : IntKind} {w w' : World} {a : Option Addr} {zs : List Int} {B : Nat} (h : Lies k w a zs) (hb : Below B w w') (hr : zs ≠ [] → ∀ x, a = some x → x.block < B) : Lies k w' a zs := by
  by_cases hz : zs = []
  · exact .inl hz
  · rcases h with rfl | ⟨g, off, rfl, h⟩
    · exact .inl rfl
    · exact .inr ⟨g, off, rfl, fun i hi => (hb.cell (p := ⟨g, off + i, none⟩) (hr hz ⟨g, off, none⟩ rfl)).trans (h i hi)⟩
theorem At.keep {w w' : World} {b len cap : Nat} {a : Option Addr} {zs : List Int} {st : St} {tl : List Value} (h : At w b a len cap zs st tl) (hb : Below (b + 1) w w') : At w' b a len cap zs st tl :=
  ⟨h.cur.of_eq (hb.block b (by omega)), ⟨h.src.bytes, h.src.length, h.src.small, h.src.room, h.src.most, lies_keep h.src.lies hb (fun hz x hx => by have := h.src.apart hz x hx; omega), h.src.nil, h.src.apart⟩, h.place, h.errs⟩
theorem At.other {w w' : World} {b len cap : Nat} {a : Option Addr} {zs : List Int} {st : St} {tl : List Value} (h : At w b a len cap zs st tl) (hb : Below w.heap.size w w') : At w' b a len cap zs st tl := h.keep (hb.mono h.lt)

theorem At.ran {α : Type} {p : Pr α} {w w' : World} {b len cap : Nat} {a : Option Addr} {zs : List Int} {st st' : St} {tl : List Value} {v : α} (h : At w b a len cap zs st tl) (hr : Ran p w w' b a len cap zs st tl v st') : At w' b a len cap zs st' tl :=
  ⟨hr.cur, h.src.grown hr.grown, hr.place, hr.errs⟩

/-- What a step of the cursor comes to. -/
def OctAt (b : Nat) (a : Option Addr) (len cap : Nat) (zs : List Int) (st : St) (tl : List Value) (w : World) (e : Ending) (w' : World) : Prop :=
  ∃ v st', e = .returned (.int .i64 v) ∧ At w' b a len cap zs st' tl ∧ w.grownBy w' (some b) ∧ Step zs oct st v st' ∧ 0 ≤ v ∧ v ≤ 255
theorem octet_at {b len cap : Nat} {a : Option Addr} {zs : List Int} {st : St} {tl : List Value} {w : World} (h : At w b a len cap zs st tl) :
    Calls Tryd.prog 73 #[.pointer (some ⟨b, 0, none⟩)] w (OctAt b a len cap zs st tl w) := by
  refine (octet_any b len cap a st tl zs w h.cur h.src h.place h.errs).mono ?_
  rintro e w' ⟨v, st', rfl, hr, h1, h2, _⟩
  exact ⟨v, st', rfl, h.ran hr, hr.grown, hr.step, h1, h2⟩
def NumAt (b : Nat) (a : Option Addr) (len cap : Nat) (zs : List Int) (st : St) (tl : List Value) (lo hi : Int) (w : World) (e : Ending) (w' : World) : Prop :=
  ∃ v st', e = .returned (.int .i64 v) ∧ At w' b a len cap zs st' tl ∧ w.grownBy w' (some b) ∧ Step zs (numb lo hi) st v st' ∧ 0 ≤ v ∧ v ≤ 4611686018427387903 ∧ (v = 0 ∨ lo ≤ v ∧ v ≤ hi)
theorem number_at {b len cap : Nat} {a : Option Addr} {zs : List Int} {st : St} {tl : List Value} {w : World} (lo hi : Int) (h : At w b a len cap zs st tl) :
    Calls Tryd.prog 72 #[.pointer (some ⟨b, 0, none⟩), .int .i64 lo, .int .i64 hi] w (NumAt b a len cap zs st tl lo hi w) := by
  refine (number_any b len cap a st tl zs lo hi w h.cur h.src h.place h.errs).mono ?_
  rintro e w' ⟨v, st', rfl, hr, h1, h2, h3, _⟩
  exact ⟨v, st', rfl, h.ran hr, hr.grown, hr.step, h1, h2, h3⟩

theorem heap_alloc_new' (w : World) (o : Obj) : (w.alloc o).heap[w.heap.size]? = some o := by
  have : (w.alloc o).heap = w.heap.push o := rfl
  rw [this]; simp

def ClonePost (zs : List Int) (w : World) (e : Ending) (w' : World) : Prop :=
  ∃ a c, e = .returned (.slice a zs.length c) ∧ w'.ownsRow w.heap.size 5 1 (.slice a zs.length c) zs.length (zs.map (Value.int .u8)) ∧ Below w.heap.size w w'

set_option maxRecDepth 100000 in
set_option maxHeartbeats 400000 in
theorem clone_any (a : Option Addr) (zs : List Int) (cap : Nat) (w : World) (hm : zs.length ≤ 70000) (hl : Lies .u8 w a zs) (hn : a = none → zs.length = 0 ∧ cap = 0) :
    Calls Tryd.prog 86 #[.slice a zs.length cap] w (ClonePost zs w) := by
  have hq : ∀ (w : World) (a : Option Addr) (l c : Nat), (binOp .eql 25 (.slice a l c) (.slice none 0 0)).run Tryd.prog w = .ok (.bool a.isNone) w := fun w a l c => Lib.run_eql_slice_nil w 25 5 a l c 0 0 Tryd.underlying25
  cases a with
  | none =>
    obtain ⟨h0, rfl⟩ := hn rfl
    obtain rfl : zs = [] := List.eq_nil_of_length_eq_zero h0
    go_enter Tryd.func86, Tryd.ntmps86
    go_wp2
    go_ret
    exact ⟨none, 0, rfl, World.ownsRow_nil _ _ _ _, Below.refl _ _⟩
  | some x =>
    obtain ⟨i0, hi, hz0, hz1, hz2⟩ := info_parts Tryd.info_u8
    have HL : Hid (Lies .u8 w (some x) zs) := hl
    clear hl hn
    have hown : (w.alloc (.cells #[] 5 (0, 0))).ownsRow w.heap.size 5 1 (.slice (some ⟨w.heap.size, 0, none⟩) 0 0) 0 [] := by
      refine ⟨rfl, .inr ⟨w.heap.size, 0, #[], rfl, Nat.le_refl _, ?_, by omega, by unfold maxLen; omega, rfl, rfl⟩⟩
      exact heap_alloc_new' _ _
    go_enter Tryd.func86, Tryd.ntmps86
    go_wp2_with (at_builtin; refine append_any _ rfl _ _ 25 rfl w.heap.size 5 i0 (.int .u8 0) 1 Tryd.underlying25 hi hz0 hz1 hz2 rfl _ _ _ rfl hown .u8 (some x) zs.length cap zs rfl (fun h => by cases h) rfl (HL.out.below ((Below.refl _ _).alloc (Nat.le_refl _) _)) (by unfold maxLen; omega) (by omega) (by simp) ?_)
    intro v' w1 hown1 hgrow
    have hb : Below w.heap.size w w1 := own_grown ((Below.refl _ _).alloc (Nat.le_refl _) _) hgrow hown (by simp)
    have HO : Hid (w1.ownsRow w.heap.size 5 1 v' zs.length (zs.map (Value.int .u8))) := hown1
    clear hown1 hgrow hown
    obtain ⟨av, cv, rfl⟩ := own_shape HO.out
    go_wp2
    go_ret
    exact ⟨av, cv, rfl, HO.out, hb⟩

/-- What 'row' answers: new memory, with the bytes that it read. -/
def RowAt (b : Nat) (a : Option Addr) (len cap : Nat) (zs : List Int) (st : St) (tl : List Value) (n : Int) (w : World) (e : Ending) (w' : World) : Prop :=
  ∃ a' c d st', e = .returned (.slice a' d.length c) ∧ w'.ownsRow w.heap.size 5 1 (.slice a' d.length c) d.length (d.map (Value.int .u8)) ∧ d.length ≤ 70000 ∧ Bytey d ∧ At w' b a len cap zs st' tl ∧ w.grownBy w' (some b) ∧ Step zs (rowp n) st d st'

theorem below_grown {w w' : World} {b : Nat} (h : Below w.heap.size w w') : w.grownBy w' (some b) := ⟨h.os, h.tape, h.output, h.size, fun k hk _ => h.block k hk⟩

theorem take_lies {k : IntKind} {w : World} {a : Option Addr} {zs : List Int} (h : Lies k w a zs) (m : Nat) : Lies k w a (zs.take m) := by
  rcases h with rfl | ⟨g, off, rfl, h⟩
  · exact .inl (by simp)
  · refine .inr ⟨g, off, rfl, fun i hi => ?_⟩
    have hi' : i < m ∧ i < zs.length := by simp at hi; omega
    rw [h i hi'.2]
    simp [List.getD_eq_getElem?_getD, hi'.1]

set_option maxHeartbeats 1000000 in
theorem row_at {b len cap : Nat} {a : Option Addr} {zs : List Int} {st : St} {tl : List Value} {w : World} (n : Int) (hn0 : 0 ≤ n) (hn1 : n ≤ 65536) (h : At w b a len cap zs st tl) :
    Calls Tryd.prog 82 #[.pointer (some ⟨b, 0, none⟩), .int .i64 n] w (RowAt b a len cap zs st tl n w) := by
  have HC : Hid (At w b a len cap zs st tl) := h
  have c1 := h.cur.c1
  have z1 := h.cur.fz 1
  have hsm := h.src.small
  have hp := h.place
  clear h
  obtain ⟨m, rfl⟩ : ∃ m : Nat, n = m := ⟨n.toNat, by omega⟩
  go_enter Tryd.func82, Tryd.ntmps82
  go_wp2_with fail
  refine (rest_any b len cap a st tl zs _ HC.out.cur HC.out.src hp).mono ?_
  rintro e w' ⟨a', c, k, rfl, rfl, hlies, hnil, hlc, hcm, hap⟩
  by_cases h0 : (left zs st).length < m
  · have h0' : ((left zs st).length : Int) < (m : Int) := by omega
    have HL : Hid (st.1 = 0 → rowp m (zs.drop st.2) = .bad 20) := fun hf => by
      have : left zs st = zs.drop st.2 := by unfold left; rw [if_pos hf]
      unfold rowp; rw [← this, if_pos h0']
    clear hlies hnil hlc hcm hap h0
    go_wp2_with fail
    refine (fail_any b len cap a st tl _ _ (cur_drewN HC.out.cur k)).mono ?_
    rintro e w' ⟨rfl, hcur, hg, _⟩
    go_wp2
    go_ret
    have hr := ran_fault (w := w) (zs := zs) ([] : List Int) (by omega) HC.out.errs hp HL.out hcur (grown_trans (grown_drewN _ _ _) hg)
    exact ⟨none, 0, [], _, rfl, World.ownsRow_nil _ _ _ _, by simp, (fun z hz => by cases hz), HC.out.ran hr, hr.grown, hr.step⟩
  · have h0' : ¬ ((left zs st).length : Int) < (m : Int) := by omega
    have hmc : (m : Int) ≤ (c : Int) := by omega
    have hm2 : (m : Int) ≤ 9223372036854775807 := by omega
    have hk2 : (st.2 : Int) ≤ 8192 := by omega
    have hml : (left zs st).length ≤ 8192 := by
      have h9 : zs.length = len := HC.out.src.length
      unfold left; split <;> simp; omega
    have hby : Bytey ((left zs st).take m) := by
      intro z hz
      have hz := List.mem_of_mem_take hz
      unfold left at hz
      split at hz
      · exact HC.out.src.bytes z (List.mem_of_mem_drop hz)
      · cases hz
    have HBY : Hid (Bytey ((left zs st).take m)) := hby
    have HLen : Hid (((left zs st).take m).length = m) := by unfold Hid; simp; omega
    have HNL : Hid (a' = none → ((left zs st).take m).length = 0 ∧ c = 0) := fun hx => by
      have := hnil hx; have := HLen.out; constructor <;> omega
    have HLI : Hid (Lies .u8 w a' ((left zs st).take m)) := take_lies hlies m
    have hcur2 := (cur_drewN HC.out.cur k).set1 (st.2 + m) (st.2 + (m : Int)) (by omega)
    have hg2 : w.grownBy ((w.drewN k).setCell ⟨b, 1, none⟩ (.int .i64 (st.2 + (m : Int)))) (some b) := grown_trans (grown_drewN _ _ _) (grown_set _ _ _ _)
    have HR : Hid (Ran (rowp m) w ((w.drewN k).setCell ⟨b, 1, none⟩ (.int .i64 (st.2 + (m : Int)))) b a len cap zs st tl ((left zs st).take m) (st.1, st.2 + m)) := by
      have hpl : st.1 ≠ 0 → m = 0 := fun hf => by
        have : left zs st = [] := by unfold left; rw [if_neg hf]
        rw [this] at h0; simp at h0; omega
      have hple : st.2 + m ≤ len := by
        by_cases hf : st.1 = 0
        · have : left zs st = zs.drop st.2 := by unfold left; rw [if_pos hf]
          have h9 : zs.length = len := HC.out.src.length
          rw [this] at h0; simp at h0; omega
        · have := hpl hf; omega
      refine ⟨hcur2, hg2, ?_, hple, HC.out.errs, fun hf => by rw [hpl hf]; rfl⟩
      by_cases hf : st.1 = 0
      · have : left zs st = zs.drop st.2 := by unfold left; rw [if_pos hf]
        rw [hf]
        refine Step.good _ _ hf ?_
        rw [this] at h0 h0' ⊢
        unfold rowp
        rw [if_neg h0']; simp
      · rw [hpl hf]; exact Step.bad _ hf
    clear hcur2 hg2 hnil hlc hby
    have HAP : Hid ((left zs st).take m ≠ [] → ∀ x, a' = some x → x.block < b) := fun hz => hap (fun h => hz (by rw [h]; simp))
    clear hap hlies
    have hle := HLen.out
    generalize (left zs st).take m = d at *
    subst hle
    clear HLen
    cases a' with
    | none =>
      have hz := HNL.out rfl
      obtain rfl : d = [] := List.eq_nil_of_length_eq_zero hz.1
      obtain ⟨_, rfl⟩ := hz
      clear HLI HNL HAP
      go_wp2_with fail
      refine (clone_any none [] 0 _ (by simp) (.inl rfl) (fun _ => ⟨rfl, rfl⟩)).mono ?_
      rintro e w2 ⟨a2, c2, rfl, hown, hb2⟩
      have HO : Hid (w2.ownsRow w.heap.size 5 1 (.slice a2 0 c2) 0 []) := by
        have h := hown
        rw [show ((w.drewN k).setCell ⟨b, 1, none⟩ (.int .i64 (st.2 : Int))).heap.size = w.heap.size from by simp [World.setCell]] at h
        exact h
      have HB2 : Hid (Below ((w.drewN k).setCell ⟨b, 1, none⟩ (.int .i64 (st.2 : Int))).heap.size ((w.drewN k).setCell ⟨b, 1, none⟩ (.int .i64 (st.2 : Int))) w2) := hb2
      clear hown hb2
      go_wp2
      go_ret
      have hat := HC.out.ran HR.out
      simp only [List.length_nil, Int.natCast_zero, Int.add_zero] at hat
      refine ⟨a2, c2, [], _, rfl, HO.out, by simp, HBY.out, hat.other HB2.out, ?_, HR.out.step⟩
      have hg := HR.out.grown
      simp only [List.length_nil, Int.natCast_zero, Int.add_zero] at hg
      exact grown_trans hg (below_grown HB2.out)
    | some x =>
      have hxl : Lies .u8 ((w.drewN k).setCell ⟨b, 1, none⟩ (.int .i64 (st.2 + (d.length : Int)))) (some x) d := lies_grown HLI.out HR.out.grown (fun hz y hy hb' => by have := HAP.out hz y hy; simp at hb'; omega)
      have HX : Hid (Lies .u8 ((w.drewN k).setCell ⟨b, 1, none⟩ (.int .i64 (st.2 + (d.length : Int)))) (some x) d) := hxl
      clear HLI HNL HAP hxl
      go_wp2_with fail
      refine (clone_any (some x) d c _ (by omega) HX.out (fun h => by cases h)).mono ?_
      rintro e w2 ⟨a2, c2, rfl, hown, hb2⟩
      have HO : Hid (w2.ownsRow w.heap.size 5 1 (.slice a2 d.length c2) d.length (d.map (Value.int .u8))) := by
        have h := hown
        rw [show ((w.drewN k).setCell ⟨b, 1, none⟩ (.int .i64 (st.2 + (d.length : Int)))).heap.size = w.heap.size from by simp [World.setCell]] at h
        exact h
      clear hown
      go_wp2
      go_ret
      have hat := HC.out.ran HR.out
      exact ⟨a2, c2, d, _, rfl, HO.out, by omega, HBY.out, hat.other hb2, grown_trans HR.out.grown (below_grown hb2), HR.out.step⟩

end Go.Proofs.YtkkmoplijicmpabDoor

namespace Go.Proofs.YtkkmoplijicmpabDoor
open Go.RowKit

theorem own_keep {w w' : World} {base size n : Nat} {e : TypeId} {v : Value} {xs : List Value} {row : Option Nat} (h : w.ownsRow base e size v n xs) (hg : w.grownBy w' row) (hr : ∀ k, v.ownBlock = some k → row ≠ some k) : w'.ownsRow base e size v n xs := by
  have hlt := h.lt
  obtain ⟨hl, h | ⟨g, cap, cur, rfl, hb, hh, r⟩⟩ := h
  · exact ⟨hl, .inl h⟩
  · refine ⟨hl, .inr ⟨g, cap, cur, rfl, hb, ?_, r⟩⟩
    rw [hg.block g (hlt g rfl).2 (fun e => hr g rfl e.symm)]; exact hh

theorem own_base {w : World} {base base' size n : Nat} {e : TypeId} {v : Value} {xs : List Value} (h : w.ownsRow base e size v n xs) (hb : base' ≤ base) : w.ownsRow base' e size v n xs :=
  ⟨h.1, h.2.imp id fun ⟨g, cap, cur, h1, h2, h3⟩ => ⟨g, cap, cur, h1, Nat.le_trans hb h2, h3⟩⟩

/-- An extension as it lies: its tag, where its bytes are, with what room, and these. -/
structure Xr where
  tag : Int
  adr : Option Addr
  cap : Nat
  data : List Int

def Xr.val (x : Xr) : Value := .slice x.adr x.data.length x.cap
def Xr.cells (x : Xr) : List Value := [.int .i64 x.tag, x.val]
def Xr.ex (x : Xr) : Ex := ⟨x.tag, x.data⟩

structure Xr.Own (x : Xr) (w : World) (base : Nat) : Prop where
  row : w.ownsRow base 5 1 x.val x.data.length (x.data.map (Value.int .u8))
  bytes : Bytey x.data
  small : x.data.length ≤ 70000
  tag : 0 ≤ x.tag ∧ x.tag ≤ 255

/-- A list of extensions in memory of its own. -/
structure XOwn (w : World) (base : Nat) (v : Value) (xs : List Xr) : Prop where
  row : w.ownsRow base 81 2 v xs.length (xs.flatMap Xr.cells)
  data : ∀ x ∈ xs, x.Own w base
  apart : ∀ x ∈ xs, ∀ k, x.val.ownBlock = some k → v.ownBlock ≠ some k
  nodup : (xs.filterMap fun x => x.val.ownBlock).Nodup

theorem XOwn.nil (w : World) (base : Nat) : XOwn w base (.slice none 0 0) [] :=
  ⟨World.ownsRow_nil _ _ _ _, (fun _ h => by cases h), (fun _ h => by cases h), List.nodup_nil⟩

theorem XOwn.keep {w w' : World} {base : Nat} {v : Value} {xs : List Xr} {row : Option Nat} (h : XOwn w base v xs) (hg : w.grownBy w' row) (hr : ∀ k, row = some k → k < base) : XOwn w' base v xs :=
  ⟨own_keep h.row hg (fun k hk e => by have := hr k e; have := (h.row.lt k hk).1; omega),
   fun x hx => ⟨own_keep (h.data x hx).row hg (fun k hk e => by have := hr k e; have := ((h.data x hx).row.lt k hk).1; omega), (h.data x hx).bytes, (h.data x hx).small, (h.data x hx).tag⟩, h.apart, h.nodup⟩

/-- One more extension behind the others. -/
theorem XOwn.snoc {w w' : World} {base : Nat} {v v' : Value} {xs : List Xr} {x : Xr} (h : XOwn w base v xs) (hx : x.Own w base) (hne : ∀ k, x.val.ownBlock = some k → v.ownBlock ≠ some k) (hnew : ∀ y ∈ xs, ∀ k, x.val.ownBlock = some k → y.val.ownBlock ≠ some k)
    (hrow : w'.ownsRow base 81 2 v' (xs ++ [x]).length ((xs ++ [x]).flatMap Xr.cells)) (hg : w.grownBy w' v.ownBlock) (hat : v'.ownBlock = v.ownBlock ∨ v'.ownBlock = some w.heap.size) : XOwn w' base v' (xs ++ [x]) := by
  have hall : ∀ y ∈ xs ++ [x], y.Own w base ∧ ∀ k, y.val.ownBlock = some k → v.ownBlock ≠ some k := by
    intro y hy
    rcases List.mem_append.mp hy with hy | hy
    · exact ⟨h.data y hy, h.apart y hy⟩
    · simp at hy; subst hy; exact ⟨hx, hne⟩
  refine ⟨hrow, fun y hy => ?_, fun y hy k hk => ?_, ?_⟩
  · obtain ⟨h1, h2⟩ := hall y hy
    exact ⟨own_keep h1.row hg (fun k hk e => h2 k hk e), h1.bytes, h1.small, h1.tag⟩
  · obtain ⟨h1, h2⟩ := hall y hy
    rcases hat with e | e
    · rw [e]; exact h2 k hk
    · rw [e]; intro e'; simp at e'; have := (h1.row.lt k hk).2; omega
  · rw [List.filterMap_append]
    rw [List.nodup_append]
    refine ⟨h.nodup, ?_, ?_⟩
    · simp only [List.filterMap_cons, List.filterMap_nil]; split <;> simp
    · intro a ha c hc hac
      subst hac
      simp only [List.filterMap_cons, List.filterMap_nil] at hc
      split at hc
      · cases hc
      · rename_i k hk
        simp at hc; subst hc
        obtain ⟨y, hy, hy2⟩ := List.mem_filterMap.mp ha
        exact hnew y hy _ hk hy2

/-- The extension that is being read, in a block of its own. -/
def XB (w : World) (g : Nat) (t : Int) (v : Value) : Prop := w.heap[g]? = some (.cells #[.int .i64 t, v] 81 (0, 0))
theorem XB.c0 {w : World} {g : Nat} {t : Int} {v : Value} (h : XB w g t v) : w.cell? ⟨g, 0, none⟩ = some (.int .i64 t) := by unfold XB at h; simp [World.cell?, h]
theorem XB.c1 {w : World} {g : Nat} {t : Int} {v : Value} (h : XB w g t v) : w.cell? ⟨g, 1, none⟩ = some v := by unfold XB at h; simp [World.cell?, h]
theorem XB.fz {w : World} {g : Nat} {t : Int} {v : Value} (h : XB w g t v) (i : Nat) : w.frozen? ⟨g, i, none⟩ = false := by unfold XB at h; simp [World.frozen?, h]
theorem XB.set0 {w : World} {g : Nat} {t : Int} {v : Value} (h : XB w g t v) (t' : Int) : XB (w.setCell ⟨g, 0, none⟩ (.int .i64 t')) g t' v := by
  unfold XB at h ⊢
  simp only [World.setCell, Array.getElem?_modify, h, if_true, Option.map_some]
  simp
theorem XB.set1 {w : World} {g : Nat} {t : Int} {v : Value} (h : XB w g t v) (v' : Value) : XB (w.setCell ⟨g, 1, none⟩ v') g t v' := by
  unfold XB at h ⊢
  simp only [World.setCell, Array.getElem?_modify, h, if_true, Option.map_some]
  simp
theorem XB.lt {w : World} {g : Nat} {t : Int} {v : Value} (h : XB w g t v) : g < w.heap.size := by
  rcases Nat.lt_or_ge g w.heap.size with hg | hg
  · exact hg
  · unfold XB at h; rw [Array.getElem?_eq_none hg] at h; cases h
theorem XB.grown {w w' : World} {g : Nat} {t : Int} {v : Value} {row : Option Nat} (h : XB w g t v) (hg : w.grownBy w' row) (hne : row ≠ some g) : XB w' g t v := (hg.block g h.lt (fun e => hne e.symm)).trans h

theorem grown_undrew {w w' : World} {row : Option Nat} (h : w.drew.grownBy w' row) : w.grownBy w' row := ⟨h.os, h.tape, h.output, h.size, h.block⟩

theorem grown_step {w W W' : World} {row row' : Option Nat} (h : w.grownBy W row) (hg : W.grownBy W' row') (hr : ∀ k, row' = some k → w.heap.size ≤ k) : w.grownBy W' row :=
  ⟨hg.os.trans h.os, hg.tape.trans h.tape, hg.output.trans h.output, Nat.le_trans h.size hg.size, fun k hk hne => (hg.block k (Nat.lt_of_lt_of_le hk h.size) (fun e => by have := hr k e.symm; omega)).trans (h.block k hk hne)⟩
theorem grown_alloc (w : World) (o : Obj) (row : Option Nat) : w.grownBy (w.alloc o) row :=
  ⟨rfl, rfl, rfl, by simp, fun k hk _ => Below.heap_alloc w o k hk⟩
theorem cell_two_new (w : World) (x y : Value) (t : TypeId) : ∀ j u, [x, y][j]? = some u → (w.alloc (.cells #[x, y] t)).cell? ((⟨w.heap.size, 0, none⟩ : Addr).add j) = some u := by
  intro j u hj
  match j, hj with
  | 0, hj => simp at hj; subst hj; simp [Addr.add]
  | 1, hj => simp at hj; subst hj; simp [Addr.add]

theorem Tryd.info_ext : (Tryd.prog.info? 81).map (fun i => (i.zero, i.size, i.bytes)) = some (some (.agg #[.int .i64 0, .slice none 0 0]), 2, 32) := by kernel_rfl

def ExtsAt (b : Nat) (a : Option Addr) (len cap : Nat) (zs : List Int) (st : St) (tl : List Value) (n : Nat) (w : World) (e : Ending) (w' : World) : Prop :=
  ∃ a' c xs st', e = .returned (.slice a' n c) ∧ xs.length = n ∧ XOwn w' w.heap.size (.slice a' n c) xs ∧ At w' b a len cap zs st' tl ∧ w.grownBy w' (some b) ∧ Step zs (extsp n []) st (xs.map Xr.ex) st'

theorem extsp_step (zs : List Int) (n k : Nat) (hk : k < n) (acc : List Ex) {st st1 st2 st3 st0 : St} {t m : Int} {d : List Int} (h : ∀ (β : Type) (K : List Ex → Pr β), fin ((extsp n []).bind K) zs st0 = fin ((extsp (n - k) acc).bind K) zs st)
    (h1 : Step zs oct st t st1) (h2 : Step zs (numb 0 200) st1 m st2) (h3 : Step zs (rowp m) st2 d st3) : ∀ (β : Type) (K : List Ex → Pr β), fin ((extsp n []).bind K) zs st0 = fin ((extsp (n - (k + 1)) (acc ++ [⟨t, d⟩])).bind K) zs st3 := by
  intro β K
  rw [h, show n - k = (n - (k + 1)) + 1 from by omega, extsp, Pr.bind_assoc, h1, Pr.bind_assoc, h2, Pr.bind_assoc, h3]

set_option maxHeartbeats 2000000 in
theorem exts_at {b len cap : Nat} {a : Option Addr} {zs : List Int} {st : St} {tl : List Value} {w : World} (n : Nat) (hn : n ≤ 15) (h : At w b a len cap zs st tl) :
    Calls Tryd.prog 74 #[.pointer (some ⟨b, 0, none⟩), .int .i64 n] w (ExtsAt b a len cap zs st tl n w) := by
  obtain ⟨i0, hi, hz0, hz1, hz2⟩ := info_parts Tryd.info_ext
  have HA : Hid (At w b a len cap zs st tl) := h
  have hbw := h.lt
  clear h
  go_enter Tryd.func74, Tryd.ntmps74
  go_wp2_with fail
  go_loopw [5, 8] (fun l i wr => ∃ (k : Nat) (xs : List Xr) (st' : St), k ≤ n ∧ i = .int .i64 k ∧ xs.length = k ∧ XOwn wr w.heap.size l xs ∧ At wr b a len cap zs st' tl ∧ w.grownBy wr (some b) ∧ (∀ (β : Type) (K : List Ex → Pr β), fin ((extsp n []).bind K) zs st = fin ((extsp (n - k) (xs.map Xr.ex)).bind K) zs st')) (fun _ i _ => n - (intOf i).toNat)
  case atStart => exact ⟨0, [], st, by omega, rfl, rfl, XOwn.nil _ _, HA.out, World.grownBy.refl _ _, fun _ _ => rfl⟩
  case round =>
    obtain ⟨k, xs, st', hk, rfl, hxl, hxo, hat, hgr, hfin⟩ := hrel
    have HX : Hid (XOwn wr w.heap.size _ xs) := hxo
    have HT : Hid (At wr b a len cap zs st' tl) := hat
    have HG : Hid (w.grownBy wr (some b)) := hgr
    have HF : Hid (∀ (β : Type) (K : List Ex → Pr β), fin ((extsp n []).bind K) zs st = fin ((extsp (n - k) (xs.map Xr.ex)).bind K) zs st') := hfin
    have HXL : Hid (xs.length = k) := hxl
    have hsz := hgr.size
    clear hxo hat hgr hfin hxl
    by_cases hlt : k < n
    · have hlt' : (k : Int) < (n : Int) := by omega
      have hbg : b < wr.heap.size := by omega
      have hat0 := HT.out.other ((Below.refl _ _).alloc (Nat.le_refl _) (.cells #[.int .i64 0, .slice none 0 0] 81))
      have hxb0 : XB (wr.alloc (.cells #[.int .i64 0, .slice none 0 0] 81)) wr.heap.size 0 (.slice none 0 0) := heap_alloc_new' _ _
      have HT0 : Hid (At (wr.alloc (.cells #[.int .i64 0, .slice none 0 0] 81)) b a len cap zs st' tl) := hat0
      have HX0 : Hid (XB (wr.alloc (.cells #[.int .i64 0, .slice none 0 0] 81)) wr.heap.size 0 (.slice none 0 0)) := hxb0
      clear hat0 hxb0
      go_wp2_with fail
      refine (octet_at HT0.out).mono ?_
      rintro e w1 ⟨t, st1, rfl, hat1, hg1, hs1, ht0, ht1⟩
      have hxb1 := HX0.out.grown hg1 (by simp; omega)
      have x0 := hxb1.c0
      have z0 := hxb1.fz 0
      have HX1 : Hid (XB (w1.setCell ⟨wr.heap.size, 0, none⟩ (.int .i64 t)) wr.heap.size t (.slice none 0 0)) := hxb1.set0 t
      have HT1 : Hid (At (w1.setCell ⟨wr.heap.size, 0, none⟩ (.int .i64 t)).drew b a len cap zs st1 tl) := hat1.keep (((Below.refl _ _).setCell (by simp; omega) _).drew)
      have HS1 : Hid (Step zs oct st' t st1) := hs1
      have HG1 : Hid ((wr.alloc (.cells #[.int .i64 0, .slice none 0 0] 81)).grownBy w1 (some b)) := hg1
      clear hat1 hg1 hs1 hxb1
      go_wp2_with fail
      go_region_with (first
        | (go_at_call 72
           refine (number_at 0 200 HT1.out).mono ?_
           rintro e w2 ⟨m, st2, rfl, hat2, hg2, hs2, hm0, hm1, hm2⟩
           have HM : 0 ≤ m ∧ m ≤ 200 := by omega
           have HT2 : Hid (At w2 b a len cap zs st2 tl) := hat2
           have HX2 : Hid (XB w2 wr.heap.size t (.slice none 0 0)) := HX1.out.grown (grown_undrew hg2) (by simp; omega)
           have HS2 : Hid (Step zs (numb 0 200) st1 m st2) := hs2
           have HG2 : Hid ((w1.setCell ⟨wr.heap.size, 0, none⟩ (.int .i64 t)).grownBy w2 (some b)) := grown_undrew hg2
           clear hat2 hg2 hs2 hm0 hm1 hm2)
        | (go_at_call 82
           refine (row_at m (by omega) (by omega) HT2.out).mono ?_
           rintro e w3 ⟨ad, cd, d, st3, rfl, hown3, hd3, hby3, hat3, hg3, hs3⟩
           have hxb3 := HX2.out.grown hg3 (by simp; omega)
           have x1 := hxb3.c1
           have z1 := hxb3.fz 1
           have HX3 : Hid (XB (w3.setCell ⟨wr.heap.size, 1, none⟩ (.slice ad d.length cd)) wr.heap.size t (.slice ad d.length cd)) := hxb3.set1 _
           have HT3 : Hid (At w3 b a len cap zs st3 tl) := hat3
           have HS3 : Hid (Step zs (rowp m) st2 d st3) := hs3
           have HG3 : Hid (w2.grownBy w3 (some b)) := hg3
           have HO3 : Hid (w3.ownsRow w2.heap.size 5 1 (.slice ad d.length cd) d.length (d.map (Value.int .u8)) ∧ d.length ≤ 70000 ∧ Bytey d) := ⟨hown3, hd3, hby3⟩
           clear hxb3 hat3 hs3 hg3 hown3 hd3 hby3))
      have hg01 : wr.grownBy w1 (some b) := grown_trans (grown_alloc _ _ _) HG1.out
      have hg02 : wr.grownBy w2 (some b) := grown_trans (grown_step hg01 (grown_set _ _ _ _) (by simp)) HG2.out
      have hg03 : wr.grownBy w3 (some b) := grown_trans hg02 HG3.out
      have hg04 : wr.grownBy (w3.setCell ⟨wr.heap.size, 1, none⟩ (.slice ad d.length cd)) (some b) := grown_step hg03 (grown_set _ _ _ _) (by simp)
      have hsz2 : wr.heap.size < w2.heap.size := HX2.out.lt
      have hxo4 := HX.out.keep hg04 (by simp; omega)
      have hxnew : (Xr.mk t ad cd d).Own (w3.setCell ⟨wr.heap.size, 1, none⟩ (.slice ad d.length cd)) w.heap.size :=
        ⟨own_base (own_keep HO3.out.1 (grown_set _ _ _ _) (fun k hk e => by have := (HO3.out.1.lt k hk).1; simp at e; omega)) (by omega), HO3.out.2.2, HO3.out.2.1, ht0, ht1⟩
      have hxne : ∀ k, (Xr.mk t ad cd d).val.ownBlock = some k → w2.heap.size ≤ k := fun k hk => (HO3.out.1.lt k hk).1
      have hat4 : At (w3.setCell ⟨wr.heap.size, 1, none⟩ (.slice ad d.length cd)) b a len cap zs st3 tl := HT3.out.keep ((Below.refl _ _).setCell (by simp; omega) _)
      have HF2 : Hid (∀ (β : Type) (K : List Ex → Pr β), fin ((extsp n []).bind K) zs st = fin ((extsp (n - (k + 1)) (xs.map Xr.ex ++ [⟨t, d⟩])).bind K) zs st3) := extsp_step zs n k hlt _ HF.out HS1.out HS2.out HS3.out
      have hc0 := HX3.out.c0
      have hc1 := HX3.out.c1
      have hnb : ∀ y ∈ xs, ∀ k, y.val.ownBlock = some k → k < wr.heap.size := fun y hy k hk => ((HX.out.data y hy).row.lt k hk).2
      have hnv : ∀ k, u5.ownBlock = some k → w.heap.size ≤ k ∧ k < wr.heap.size := fun k hk => HX.out.row.lt k hk
      have HGW : Hid (w.grownBy (w3.setCell ⟨wr.heap.size, 1, none⟩ (.slice ad d.length cd)) (some b)) := grown_trans HG.out hg04
      have hsz4 : w.heap.size ≤ (w3.setCell ⟨wr.heap.size, 1, none⟩ (.slice ad d.length cd)).heap.size := HGW.out.size
      have HX4 : Hid (XOwn (w3.setCell ⟨wr.heap.size, 1, none⟩ (.slice ad d.length cd)) w.heap.size u5 xs) := hxo4
      have HN4 : Hid ((Xr.mk t ad cd d).Own (w3.setCell ⟨wr.heap.size, 1, none⟩ (.slice ad d.length cd)) w.heap.size) := hxnew
      have HT4 : Hid (At (w3.setCell ⟨wr.heap.size, 1, none⟩ (.slice ad d.length cd)) b a len cap zs st3 tl) := hat4
      have HNE : Hid ((∀ k, (Xr.mk t ad cd d).val.ownBlock = some k → w2.heap.size ≤ k) ∧ (∀ y ∈ xs, ∀ k, y.val.ownBlock = some k → k < wr.heap.size) ∧ (∀ k, u5.ownBlock = some k → w.heap.size ≤ k ∧ k < wr.heap.size) ∧ wr.heap.size < w2.heap.size) := ⟨hxne, hnb, hnv, hsz2⟩
      have hx3 : (w3.setCell ⟨wr.heap.size, 1, none⟩ (.slice ad d.length cd)).heap[wr.heap.size]? = some (.cells #[.int .i64 t, .slice ad d.length cd] 81 (0, 0)) := HX3.out
      have hkl := HXL.out
      clear hg01 hg02 hg03 hg04 hxo4 hxnew hxne hat4 hnb hnv HX HT HG HF HT0 HX0 HX1 HT1 HS1 HG1 HT2 HX2 HS2 HG2 HX3 HT3 HS3 HG3 HO3 HM x0 x1 z0 z1
      generalize hW4 : w3.setCell ⟨wr.heap.size, 1, none⟩ (.slice ad d.length cd) = W4 at *
      clear hW4
      go_wp2_with (at_builtin; refine wpList_append_own_at _ rfl _ _ 24 rfl w.heap.size 81 i0 (.agg #[.int .i64 0, .slice none 0 0]) 2 32 Tryd.underlying24 hi hz0 hz1 hz2 rfl (by decide) _ _ _ rfl (HX4.out.row.alloc _) ⟨W4.heap.size, 0, none⟩ 1 1 [.int .i64 t, .slice ad d.length cd] rfl rfl ?c1 ?c2 ?c3 ?c4 ?c5 ?_)
      case c1 => exact cell_two_new _ _ _ _
      case c2 => intro u hu; simp at hu; rcases hu with rfl | rfl <;> rfl
      case c3 => unfold maxLen; omega
      case c4 => omega
      case c5 => simp; omega
      intro v' w5 hown5 hgrow5 _ hat5
      obtain ⟨hne1, hne2, hne3, hne4⟩ := HNE.out
      have HX5 : Hid (XOwn w5 w.heap.size v' (xs ++ [⟨t, ad, cd, d⟩])) := by
        refine XOwn.snoc (HX4.out.keep (grown_alloc _ (.cells #[.int .i64 t, .slice ad d.length cd] 81) none) (by simp)) ⟨HN4.out.row.alloc _, HN4.out.bytes, HN4.out.small, HN4.out.tag⟩ ?_ ?_ ?_ hgrow5 (by simpa using hat5)
        · intro k hk e
          have := hne1 k hk; have := hne3 k e; omega
        · intro y hy k hk e
          have := hne1 k hk; have := hne2 y hy k e; omega
        · rw [List.length_append, List.flatMap_append, HXL.out]
          exact hown5
      have HT5 : Hid (At w5 b a len cap zs st3 tl) := HT4.out.keep (((Below.refl _ _).alloc (by omega) _).grown hgrow5 (by simp; omega) (fun k hk => by have := hne3 k hk; omega))
      have HG5 : Hid (w.grownBy w5 (some b)) := grown_step (grown_trans HGW.out (grown_alloc _ _ _)) hgrow5 (fun k hk => (hne3 k hk).1)
      clear hne1 hne2 hne3 hne4 HNE hown5 hgrow5 hat5 hx3 hc0 hc1 HX4 HN4 HT4 HGW
      go_wp2
      go_roundw
      case rel =>
        refine ⟨k + 1, xs ++ [⟨t, ad, cd, d⟩], st3, by omega, by go_num, by simp; omega, HX5.out, HT5.out, HG5.out, ?_⟩
        intro β K
        rw [List.map_append]
        exact HF2.out β K
      case measure => simp [intOf]; omega
    · have hkn : k = n := by omega
      subst hkn
      obtain ⟨av, cv, hv⟩ := own_shape HX.out.row
      have hxl := HXL.out
      rw [hxl] at hv
      subst hv
      go_wp2
      go_ret
      refine ⟨av, cv, xs, st', rfl, hxl, HX.out, HT.out, HG.out, fun β K => ?_⟩
      have := HF.out β K
      rw [Nat.sub_self] at this; exact this

end Go.Proofs.YtkkmoplijicmpabDoor

namespace Go.Proofs.YtkkmoplijicmpabDoor
open Go.RowKit

def tabl : List Int := [3, 7, 7, 7, 3, 0, 0, 3, 9, 17, 0, 0, 33, 1, 33, 1]
/-- The table of the types lies in its variable. -/
def Tab (w : World) : Prop := ∀ i : Nat, i < 16 → w.cell? ⟨0, i, none⟩ = some (.int .u8 (tabl.getD i 0))

theorem Tab.grown {w w' : World} {row : Option Nat} (h : Tab w) (hg : w.grownBy w' row) (hr : row ≠ some 0) : Tab w' := fun i hi => hg.cell (h i hi) (fun e => hr e.symm)
theorem Tab.below {w w' : World} {B : Nat} (h : Tab w) (hb : Below B w w') (hB : 0 < B) : Tab w' := fun i hi => (hb.cell (p := ⟨0, i, none⟩) hB).trans (h i hi)

theorem shp_cases (t : Int) : shp t = 0 ∨ shp t = 1 ∨ shp t = 3 ∨ shp t = 7 ∨ shp t = 9 ∨ shp t = 17 ∨ shp t = 33 := by
  unfold shp
  split
  · simp
  · rename_i h
    have : t.toNat < 16 := by omega
    generalize t.toNat = k at this
    have h : k = 0 ∨ k = 1 ∨ k = 2 ∨ k = 3 ∨ k = 4 ∨ k = 5 ∨ k = 6 ∨ k = 7 ∨ k = 8 ∨ k = 9 ∨ k = 10 ∨ k = 11 ∨ k = 12 ∨ k = 13 ∨ k = 14 ∨ k = 15 := by omega
    rcases h with rfl | rfl | rfl | rfl | rfl | rfl | rfl | rfl | rfl | rfl | rfl | rfl | rfl | rfl | rfl | rfl <;> simp

set_option maxHeartbeats 400000 in
theorem shapeOf_any (t : Int) (w : World) (h : Tab w) :
    Calls Tryd.prog 27 #[.int .i64 t] w fun e w' => e = .returned (.int .u8 (shp t)) ∧ w = w' := by
  by_cases h0 : t < 0
  · have hs : Hid (shp t = 0) := by unfold Hid shp; rw [if_pos (by omega)]
    generalize shp t = q at *
    go_enter Tryd.func27, Tryd.ntmps27
    go_wp2
    go_ret
    exact ⟨by rw [hs.out]; rfl, rfl⟩
  · by_cases h1 : 16 ≤ t
    · have hs : Hid (shp t = 0) := by unfold Hid shp; rw [if_pos (by omega)]
      generalize shp t = q at *
      have h0' : decide (t < 0) = false := by simpa using h0
      go_enter Tryd.func27, Tryd.ntmps27
      go_wp2
      go_ret
      exact ⟨by rw [hs.out]; rfl, rfl⟩
    · have hs : Hid (shp t = tabl.getD t.toNat 0) := by unfold Hid shp; rw [if_neg (by omega)]; rfl
      generalize shp t = q at *
      have hc := h t.toNat (by omega)
      obtain ⟨k, rfl⟩ : ∃ k : Nat, t = k := ⟨t.toNat, by omega⟩
      rw [Int.toNat_natCast] at hc hs
      generalize tabl.getD k 0 = z at *
      have h2 : (k : Int) < 16 := by omega
      have h3 : 0 ≤ (k : Int) := by omega
      clear h h0 h1
      go_enter Tryd.func27, Tryd.ntmps27
      go_wp2
      go_ret
      exact ⟨by rw [hs.out]; rfl, rfl⟩

def anyB (p s : Int) : Bool := bits .and .u8 p s != 0
set_option maxHeartbeats 400000 in
theorem any_any (p s : Int) (w : World) :
    Calls Tryd.prog 28 #[.int .u8 p, .int .u8 s] w fun e w' => e = .returned (.bool (anyB p s)) ∧ w = w' := by
  go_enter Tryd.func28, Tryd.ntmps28
  go_wp2
  go_ret
  exact ⟨rfl, rfl⟩

def one (q : Bool) : Int := if q then 1 else 0
set_option maxHeartbeats 400000 in
theorem oneIf_any (q : Bool) (w : World) :
    Calls Tryd.prog 79 #[.bool q] w fun e w' => e = .returned (.int .i64 (one q)) ∧ w = w' := by
  cases q
  · go_enter Tryd.func79, Tryd.ntmps79
    go_wp2
    go_ret
    exact ⟨rfl, rfl⟩
  · go_enter Tryd.func79, Tryd.ntmps79
    go_wp2
    go_ret
    exact ⟨rfl, rfl⟩
set_option maxHeartbeats 400000 in
theorem leastCheck_any (p : Int) (w : World) :
    Calls Tryd.prog 59 #[.int .u8 p] w fun e w' => e = .returned (.int .i64 (one (anyB p 4))) ∧ w = w' := by
  go_enter Tryd.func59, Tryd.ntmps59
  go_wp2_with (first | (go_at_call 28; refine (any_any _ _ _).mono ?_; rintro e w' ⟨rfl, rfl⟩) | (go_at_call 79; refine (oneIf_any _ _).mono ?_; rintro e w' ⟨rfl, rfl⟩))
  go_ret
  exact ⟨rfl, rfl⟩
set_option maxHeartbeats 400000 in
theorem leastReport_any (p : Int) (w : World) :
    Calls Tryd.prog 60 #[.int .u8 p] w fun e w' => e = .returned (.int .i64 (one (anyB p 24))) ∧ w = w' := by
  go_enter Tryd.func60, Tryd.ntmps60
  go_wp2_with (first | (go_at_call 28; refine (any_any _ _ _).mono ?_; rintro e w' ⟨rfl, rfl⟩) | (go_at_call 79; refine (oneIf_any _ _).mono ?_; rintro e w' ⟨rfl, rfl⟩))
  go_ret
  exact ⟨rfl, rfl⟩

theorem fail_at {b len cap : Nat} {a : Option Addr} {zs : List Int} {st : St} {tl : List Value} {w : World} (x : Int) (hx : 0 < x ∧ x ≤ 100) (h : At w b a len cap zs st tl) :
    Calls Tryd.prog 43 #[.pointer (some ⟨b, 0, none⟩), .int .i64 x] w fun e w' => e = .returned (.tuple #[]) ∧ At w' b a len cap zs (if st.1 = 0 then x else st.1, st.2) tl ∧ w.grownBy w' (some b) := by
  refine (fail_any b len cap a st tl x w h.cur).mono ?_
  rintro e w' ⟨rfl, hc, hg, _⟩
  refine ⟨rfl, ⟨hc, h.src.grown hg, h.place, ?_⟩, hg⟩
  have := h.errs; simp only; split <;> omega

theorem step_fail {α : Type} {zs : List Int} {p : Pr α} {st : St} (v : α) (x : Int) (hx : x ≠ 0) (hp : st.1 = 0 → p (zs.drop st.2) = .bad x) : Step zs p st v (if st.1 = 0 then x else st.1, st.2) := by
  by_cases hf : st.1 = 0
  · rw [if_pos hf]; exact Step.fault _ _ _ hf hx (hp hf)
  · rw [if_neg hf]; exact Step.bad _ hf

theorem anyB_odd (t : Int) : anyB (shp t) 1 = decide (shp t % 2 = 1) := by
  rcases shp_cases t with h | h | h | h | h | h | h <;> rw [h] <;> decide

def KindAt (b : Nat) (a : Option Addr) (len cap : Nat) (zs : List Int) (st : St) (r : List Value) (w : World) (e : Ending) (w' : World) : Prop :=
  ∃ t st', e = .returned (.tuple #[]) ∧ At w' b a len cap zs st' (.int .u8 (shp t) :: .int .i64 t :: r) ∧ w.grownBy w' (some b) ∧ Step zs kindp st t st' ∧ 0 ≤ t ∧ t ≤ 255

set_option maxHeartbeats 1000000 in
theorem kind_at {b len cap : Nat} {a : Option Addr} {zs : List Int} {st : St} {r : List Value} {w : World} (h0 t0 : Int) (h : At w b a len cap zs st (.int .u8 h0 :: .int .i64 t0 :: r)) (hT : Tab w) (hb : 0 < b) :
    Calls Tryd.prog 71 #[.pointer (some ⟨b, 0, none⟩)] w (KindAt b a len cap zs st r w) := by
  have HA : Hid (At w b a len cap zs st (.int .u8 h0 :: .int .i64 t0 :: r)) := h
  have HT : Hid (Tab w) := hT
  clear h hT
  go_enter Tryd.func71, Tryd.ntmps71
  go_wp2_with fail
  refine (octet_at HA.out).mono ?_
  rintro e w1 ⟨t, st1, rfl, hat1, hg1, hs1, ht0, ht1⟩
  have c4 := hat1.cell 1 rfl
  have z4 := hat1.fz 4
  have HA1 := hat1.put 1 (.int .i64 t) 4 rfl
  have d4 := HA1.cell 1 rfl
  have HB1 : Hid (At (w1.setCell ⟨b, 4, none⟩ (.int .i64 t)) b a len cap zs st1 (.int .u8 h0 :: .int .i64 t :: r)) := HA1
  have HT1 : Hid (Tab (w1.setCell ⟨b, 4, none⟩ (.int .i64 t))) := (HT.out.grown hg1 (by simp; omega)).grown (grown_set _ _ _ _) (by simp; omega)
  have HG1 : Hid (w.grownBy (w1.setCell ⟨b, 4, none⟩ (.int .i64 t)) (some b)) := grown_trans hg1 (grown_set _ _ _ _)
  have HS1 : Hid (Step zs oct st t st1) := hs1
  clear hat1 hg1 hs1 HA1
  go_wp2_with fail
  refine (shapeOf_any t _ HT1.out).mono ?_
  rintro e w2 ⟨rfl, rfl⟩
  have c3 := HB1.out.cell 0 rfl
  have z3 := HB1.out.fz 3
  have HA2 := HB1.out.put 0 (.int .u8 (shp t)) 3 rfl
  have d3 := HA2.cell 0 rfl
  have HB2 : Hid (At ((w1.setCell ⟨b, 4, none⟩ (.int .i64 t)).setCell ⟨b, 3, none⟩ (.int .u8 (shp t))) b a len cap zs st1 (.int .u8 (shp t) :: .int .i64 t :: r)) := HA2
  have HG2 : Hid (w.grownBy ((w1.setCell ⟨b, 4, none⟩ (.int .i64 t)).setCell ⟨b, 3, none⟩ (.int .u8 (shp t))) (some b)) := grown_trans HG1.out (grown_set _ _ _ _)
  have hodd := anyB_odd t
  clear HA2 HB1 HG1 HT1
  go_wp2_with fail
  refine (any_any _ _ _).mono ?_
  rintro e w3 ⟨rfl, rfl⟩
  by_cases hk : shp t % 2 = 1
  · have hk' : anyB (shp t) 1 = true := by rw [hodd]; simp [hk]
    rw [hk']
    clear hodd hk'
    go_wp2
    go_end0
    exact ⟨t, st1, rfl, HB2.out, HG2.out, HS1.out.bind (by simp only [if_pos hk]; exact Step.ret t), ht0, ht1⟩
  · have hk' : anyB (shp t) 1 = false := by rw [hodd]; simp [hk]
    rw [hk']
    clear hodd hk'
    go_wp2_with fail
    refine (fail_at 21 (by omega) HB2.out).mono ?_
    rintro e w4 ⟨rfl, hat4, hg4⟩
    go_wp2
    go_end0
    exact ⟨t, _, rfl, hat4, grown_trans HG2.out hg4, HS1.out.bind (by simp only [if_neg hk]; exact step_fail t 21 (by omega) (fun _ => rfl)), ht0, ht1⟩

end Go.Proofs.YtkkmoplijicmpabDoor
