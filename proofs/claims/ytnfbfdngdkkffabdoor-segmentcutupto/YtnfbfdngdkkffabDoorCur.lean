import Derived.Test.YtnfbfdngdkkffabDoorOwns
import Derived.Test.YtnfbfdngdkkffabDoorAppend
import Derived.Test.YtnfbfdngdkkffabDoorSegMath
import Derived.Deep.QuietTactic
import Derived.BigQuiet
namespace Go.Proofs.YtnfbfdngdkkffabDoor
open Go.RowKit

/-- The reader in block b: its cursor over the bytes, and its other cells. -/
def Cur (w : World) (b : Nat) (a : Option Addr) (len cap : Nat) (st : St) (tl : List Value) : Prop :=
  w.heap[b]? = some (.cells (.slice a len cap :: .int .i64 (st.2 : Int) :: .int .i64 st.1 :: tl).toArray 77 (0, 0))

theorem Cur.c0 {w : World} {b len cap : Nat} {a : Option Addr} {st : St} {tl : List Value} (h : Cur w b a len cap st tl) : w.cell? ⟨b, 0, none⟩ = some (.slice a len cap) := by
  unfold Cur at h; simp [World.cell?, h]
theorem Cur.c1 {w : World} {b len cap : Nat} {a : Option Addr} {st : St} {tl : List Value} (h : Cur w b a len cap st tl) : w.cell? ⟨b, 1, none⟩ = some (.int .i64 st.2) := by
  unfold Cur at h; simp [World.cell?, h]
theorem Cur.c2 {w : World} {b len cap : Nat} {a : Option Addr} {st : St} {tl : List Value} (h : Cur w b a len cap st tl) : w.cell? ⟨b, 2, none⟩ = some (.int .i64 st.1) := by
  unfold Cur at h; simp [World.cell?, h]
theorem Cur.fz {w : World} {b len cap : Nat} {a : Option Addr} {st : St} {tl : List Value} (h : Cur w b a len cap st tl) (i : Nat) : w.frozen? ⟨b, i, none⟩ = false := by
  unfold Cur at h; simp [World.frozen?, h]
theorem Cur.lt {w : World} {b len cap : Nat} {a : Option Addr} {st : St} {tl : List Value} (h : Cur w b a len cap st tl) : b < w.heap.size := by
  rcases Nat.lt_or_ge b w.heap.size with hg | hg
  · exact hg
  · unfold Cur at h; rw [Array.getElem?_eq_none hg] at h; cases h
theorem Cur.set1 {w : World} {b len cap : Nat} {a : Option Addr} {st : St} {tl : List Value} (h : Cur w b a len cap st tl) (p : Nat) (x : Int) (hx : x = p) : Cur (w.setCell ⟨b, 1, none⟩ (.int .i64 x)) b a len cap (st.1, p) tl := by
  subst hx
  unfold Cur at h ⊢
  simp only [World.setCell, Array.getElem?_modify, h, if_true, Option.map_some]
  simp
theorem Cur.set2 {w : World} {b len cap : Nat} {a : Option Addr} {st : St} {tl : List Value} (h : Cur w b a len cap st tl) (f : Int) : Cur (w.setCell ⟨b, 2, none⟩ (.int .i64 f)) b a len cap (f, st.2) tl := by
  unfold Cur at h ⊢
  simp only [World.setCell, Array.getElem?_modify, h, if_true, Option.map_some]
  simp
theorem Cur.of_eq {w w' : World} {b len cap : Nat} {a : Option Addr} {st : St} {tl : List Value} (h : Cur w b a len cap st tl) (e : w'.heap[b]? = w.heap[b]?) : Cur w' b a len cap st tl := e.trans h

/-- The bytes that are read lie there, in another block than the reader's. -/
structure Src (w : World) (b : Nat) (a : Option Addr) (len cap : Nat) (zs : List Int) : Prop where
  bytes : Bytey zs
  length : zs.length = len
  small : len ≤ 8192
  room : len ≤ cap
  most : cap ≤ 9223372036854775807
  lies : Lies .u8 w a zs
  nil : a = none → len = 0 ∧ cap = 0
  apart : zs ≠ [] → ∀ x, a = some x → x.block < b

theorem lies_grown {k : IntKind} {w w' : World} {a : Option Addr} {zs : List Int} {row : Option Nat} (h : Lies k w a zs) (hg : w.grownBy w' row) (hr : zs ≠ [] → ∀ x, a = some x → some x.block ≠ row) : Lies k w' a zs := by
  by_cases hz : zs = []
  · exact .inl hz
  · rcases h with rfl | ⟨g, off, rfl, h⟩
    · exact .inl rfl
    · exact .inr ⟨g, off, rfl, fun i hi => hg.cell (h i hi) (hr hz ⟨g, off, none⟩ rfl)⟩

theorem Src.grown {w w' : World} {b len cap : Nat} {a : Option Addr} {zs : List Int} (h : Src w b a len cap zs) (hg : w.grownBy w' (some b)) : Src w' b a len cap zs :=
  ⟨h.bytes, h.length, h.small, h.room, h.most, lies_grown h.lies hg (fun hz x hx e => by have := h.apart hz x hx; simp at e; omega), h.nil, h.apart⟩

theorem grown_drewN (w : World) (n : Nat) (row : Option Nat) : w.grownBy (w.drewN n) row := ⟨rfl, rfl, rfl, Nat.le_refl _, fun _ _ _ => rfl⟩

set_option maxHeartbeats 400000 in
theorem failed_any (b len cap : Nat) (a : Option Addr) (st : St) (tl : List Value) (w : World) (hc : Cur w b a len cap st tl) :
    Calls Tryd.prog 44 #[.pointer (some ⟨b, 0, none⟩)] w fun e w' => e = .returned (.bool (st.1 != 0)) ∧ w = w' := by
  have c2 := hc.c2
  clear hc
  go_enter Tryd.func44, Tryd.ntmps44
  go_wp2
  go_ret
  exact ⟨rfl, rfl⟩

set_option maxHeartbeats 400000 in
theorem fail_any (b len cap : Nat) (a : Option Addr) (st : St) (tl : List Value) (x : Int) (w : World) (hc : Cur w b a len cap st tl) :
    Calls Tryd.prog 43 #[.pointer (some ⟨b, 0, none⟩), .int .i64 x] w fun e w' => e = .returned (.tuple #[]) ∧ Cur w' b a len cap (if st.1 = 0 then x else st.1, st.2) tl ∧ w.grownBy w' (some b) ∧ w'.heap.size = w.heap.size := by
  have HC : Hid (Cur w b a len cap st tl) := hc
  have c2 := hc.c2
  have z2 := hc.fz 2
  clear hc
  obtain ⟨f, p⟩ := st
  by_cases hf : f = 0
  · subst hf
    go_enter Tryd.func43, Tryd.ntmps43
    go_wp2_with (go_at_call 44; refine (failed_any _ _ _ _ _ _ _ HC.out).mono ?_; rintro e w' ⟨rfl, rfl⟩)
    go_end0
    exact ⟨rfl, HC.out.set2 x, grown_set _ _ _ _, by simp [World.setCell]⟩
  · have hb : (f != 0) = true := by simp [hf]
    have HF : Hid (f ≠ 0) := hf
    clear hf
    go_enter Tryd.func43, Tryd.ntmps43
    go_wp2_with (go_at_call 44; refine (failed_any _ _ _ _ _ _ _ HC.out).mono ?_; rintro e w' ⟨rfl, rfl⟩)
    go_end0
    refine ⟨rfl, ?_, World.grownBy.refl _ _, rfl⟩
    exact HC.out

/-- What is left to read. -/
def left (zs : List Int) (st : St) : List Int := if st.1 = 0 then zs.drop st.2 else []

theorem add_block (x : Addr) (p : Nat) : (x.add p).block = x.block := by unfold Addr.add; split <;> rfl
theorem lies_add {k : IntKind} {w : World} {x : Addr} {zs : List Int} (h : Lies k w (some x) zs) (p : Nat) : Lies k w (some (x.add p)) (zs.drop p) := by
  rcases h with rfl | ⟨g, off, hx, h⟩
  · exact .inl (by simp)
  · simp only [Option.some.injEq] at hx
    subst hx
    rw [show (⟨g, off, none⟩ : Addr).add p = ⟨g, off + p, none⟩ from by unfold Addr.add; split <;> simp_all]
    exact lies_drop h p

/-- What 'rest' answers. -/
def RestPost (zs : List Int) (st : St) (b : Nat) (w : World) (e : Ending) (w' : World) : Prop :=
  ∃ a' c n, e = .returned (.slice a' (left zs st).length c) ∧ w' = w.drewN n ∧ Lies .u8 w a' (left zs st) ∧ (a' = none → (left zs st).length = 0 ∧ c = 0) ∧ (left zs st).length ≤ c ∧ c ≤ 9223372036854775807 ∧ (left zs st ≠ [] → ∀ x, a' = some x → x.block < b)

set_option maxHeartbeats 400000 in
theorem rest_any (b len cap : Nat) (a : Option Addr) (st : St) (tl : List Value) (zs : List Int) (w : World) (hc : Cur w b a len cap st tl) (hs : Src w b a len cap zs) (hp : st.2 ≤ len) :
    Calls Tryd.prog 42 #[.pointer (some ⟨b, 0, none⟩)] w (RestPost zs st b w) := by
  have HC : Hid (Cur w b a len cap st tl) := hc
  have HS : Hid (Src w b a len cap zs) := hs
  have c0 := hc.c0
  have c1 := hc.c1
  have hsm := hs.small
  have hro := hs.room
  have hmo := hs.most
  clear hc hs
  obtain ⟨f, p⟩ := st
  by_cases hf : f = 0
  · subst hf
    have hl : Hid ((left zs (0, p)).length = len - p) := by unfold Hid; simp [left, HS.out.length]
    cases a with
    | none =>
      have hn := HS.out.nil rfl
      obtain ⟨rfl, rfl⟩ := hn
      obtain rfl : p = 0 := by simp at hp; omega
      go_enter Tryd.func42, Tryd.ntmps42
      go_wp2_with (go_at_call 44; refine (failed_any _ _ _ _ _ _ _ HC.out).mono ?_; rintro e w' ⟨rfl, rfl⟩)
      go_quiet (fail)
      go_wp2
      go_ret
      have hz : left zs (0, 0) = [] := List.eq_nil_of_length_eq_zero hl.out
      refine ⟨none, 0, _, by rw [hz]; rfl, rfl, by rw [hz]; exact .inl rfl, fun _ => ⟨by rw [hz]; rfl, rfl⟩, by rw [hz]; simp, by omega, fun _ x hx => by cases hx⟩
    | some x =>
      have hp' : (p : Int) ≤ (len : Int) := by simp at hp; omega
      have hcp : Int.toNat (p : Int) = p := by omega
      go_enter Tryd.func42, Tryd.ntmps42
      go_wp2_with (go_at_call 44; refine (failed_any _ _ _ _ _ _ _ HC.out).mono ?_; rintro e w' ⟨rfl, rfl⟩)
      go_quiet (fail)
      go_wp2
      all_goals go_ret
      · have hz : left zs (0, p) = [] := List.eq_nil_of_length_eq_zero (by rw [hl.out]; omega)
        have hlp : len - p = 0 := by omega
        refine ⟨some x, 0, nq, ?_, rfl, by rw [hz]; exact .inl rfl, (fun h => by cases h), by rw [hz]; simp, by omega, fun h => absurd hz h⟩
        rw [hz]
        show Ending.returned (Value.slice (some x) (len - p) 0) = _
        rw [hlp]; rfl
      · refine ⟨some (x.add p), cap - p, nq, ?_, rfl, ?_, (fun h => by cases h), by rw [hl.out]; omega, by omega, fun hne y hy => ?_⟩
        · rw [hl.out]; rfl
        · exact lies_add HS.out.lies p
        · simp only [Option.some.injEq] at hy
          rw [← hy, add_block]
          refine HS.out.apart (fun h => hne ?_) x rfl
          rw [h]; simp [left]
  · have hb : (f != 0) = true := by simp [hf]
    have hl : Hid (left zs (f, p) = []) := by unfold Hid; simp [left, hf]
    clear hf
    go_enter Tryd.func42, Tryd.ntmps42
    go_wp2_with (go_at_call 44; refine (failed_any _ _ _ _ _ _ _ HC.out).mono ?_; rintro e w' ⟨rfl, rfl⟩)
    go_ret
    exact ⟨none, 0, 0, by rw [hl.out]; rfl, rfl, by rw [hl.out]; exact .inl rfl, fun _ => ⟨by rw [hl.out]; rfl, rfl⟩, by rw [hl.out]; simp, by omega, fun _ x hx => by cases hx⟩

/-- A cursor's step: the value, the state behind it, nothing else but the reader's block turned. -/
structure Ran {α : Type} (p : Pr α) (w w' : World) (b : Nat) (a : Option Addr) (len cap : Nat) (zs : List Int) (st : St) (tl : List Value) (v : α) (st' : St) : Prop where
  cur : Cur w' b a len cap st' tl
  grown : w.grownBy w' (some b)
  step : Step zs p st v st'
  place : st'.2 ≤ len
  errs : 0 ≤ st'.1 ∧ st'.1 ≤ 100
  kept : st.1 ≠ 0 → st' = st

theorem rd_nil : rd [] = (0, 0, 10) := rfl

def OctPost (b : Nat) (a : Option Addr) (len cap : Nat) (zs : List Int) (st : St) (tl : List Value) (w : World) (e : Ending) (w' : World) : Prop :=
  ∃ v st', e = .returned (.int .i64 v) ∧ Ran oct w w' b a len cap zs st tl v st' ∧ 0 ≤ v ∧ v ≤ 255 ∧ (st'.1 ≠ 0 → v = 0)

theorem cur_drewN {w : World} {b len cap : Nat} {a : Option Addr} {st : St} {tl : List Value} (h : Cur w b a len cap st tl) (n : Nat) : Cur (w.drewN n) b a len cap st tl := h
theorem getD_drop (zs : List Int) (p : Nat) : (zs.drop p).getD 0 0 = zs.getD p 0 := by simp [List.getD_eq_getElem?_getD]

set_option maxHeartbeats 400000 in
theorem octet_any (b len cap : Nat) (a : Option Addr) (st : St) (tl : List Value) (zs : List Int) (w : World) (hc : Cur w b a len cap st tl) (hs : Src w b a len cap zs) (hp : st.2 ≤ len) (he : 0 ≤ st.1 ∧ st.1 ≤ 100) :
    Calls Tryd.prog 73 #[.pointer (some ⟨b, 0, none⟩)] w (OctPost b a len cap zs st tl w) := by
  have HC : Hid (Cur w b a len cap st tl) := hc
  have HS : Hid (Src w b a len cap zs) := hs
  have HE : Hid (0 ≤ st.1 ∧ st.1 ≤ 100) := he
  have c1 := hc.c1
  have z1 := hc.fz 1
  have hsm := hs.small
  clear hc hs he
  go_enter Tryd.func73, Tryd.ntmps73
  go_wp2_with fail
  refine (rest_any b len cap a st tl zs _ HC.out HS.out hp).mono ?_
  rintro e w' ⟨a', c, n, rfl, rfl, hlies, hnil, hlc, hcm, hap⟩
  by_cases h0 : (left zs st).length = 0
  · have HL : Hid (left zs st = []) := List.eq_nil_of_length_eq_zero h0
    rw [h0]
    clear hlies hnil hlc hcm hap h0
    go_wp2_with fail
    refine (fail_any b len cap a st tl _ _ (cur_drewN HC.out n)).mono ?_
    rintro e w' ⟨rfl, hcur, hg, _⟩
    go_wp2
    go_ret
    refine ⟨0, _, rfl, ⟨hcur, grown_trans (grown_drewN _ _ _) hg, ?_, hp, ?_, ?_⟩, by omega, by omega, fun _ => rfl⟩
    · by_cases hf : st.1 = 0
      · rw [if_pos hf]
        refine Step.fault _ _ _ hf (by omega) ?_
        have := HL.out
        rw [left, if_pos hf] at this
        rw [this]; rfl
      · rw [if_neg hf]; exact Step.bad _ hf
    · have := HE.out; simp only; split <;> omega
    · intro hf; rw [if_neg hf]
  · have hf : st.1 = 0 := by
      rcases Decidable.em (st.1 = 0) with h | h
      · exact h
      · simp [left, h] at h0
    have HL : Hid (left zs st = zs.drop st.2) := by unfold Hid left; rw [if_pos hf]
    have hlt : st.2 < zs.length := by
      have := HL.out; rw [this] at h0; simp at h0; omega
    have hb : 0 ≤ zs.getD st.2 0 ∧ zs.getD st.2 0 ≤ 255 := by
      rw [List.getD_eq_getElem?_getD, List.getElem?_eq_getElem hlt]; exact HS.out.bytes _ (List.getElem_mem hlt)
    have hpos : (0 : Int) < ((left zs st).length : Int) := by omega
    have hne : (((left zs st).length : Int) == 0) = false := beq_eq_false_iff_ne.mpr (by omega)
    obtain ⟨g, off, rfl, hcell⟩ : ∃ g off, a' = some ⟨g, off, none⟩ ∧ w.cell? ⟨g, off, none⟩ = some (.int .u8 (zs.getD st.2 0)) := by
      rcases hlies with h | ⟨g, off, rfl, h⟩
      · rw [h] at h0; exact absurd rfl h0
      · have h1 := h 0 (by omega)
        rw [HL.out, getD_drop] at h1
        exact ⟨g, off, rfl, h1⟩
    have hgb : g < b := hap (fun h => h0 (by rw [h]; rfl)) _ rfl
    have hcell2 : ((w.drewN n).setCell ⟨b, 1, none⟩ (.int .i64 (st.2 + 1))).cell? ⟨g, off, none⟩ = some (.int .u8 (zs.getD st.2 0)) := by
      rw [World.cell?_of_block (w := w.drewN n) (Below.heap_setCell _ _ _ _ (by simp; omega))]; exact hcell
    have hp1 : (st.2 : Int) ≤ 8192 := by omega
    have HP : Hid (st.2 + 1 ≤ len) := by have h9 : zs.length = len := HS.out.length; show st.2 + 1 ≤ len; omega
    have HZ : Hid (oct (zs.drop st.2) = .ok (zs.getD st.2 0) (zs.drop (st.2 + 1))) := by unfold Hid; rw [drop_cons zs st.2 hlt]; rfl
    clear hlies hnil hap
    generalize zs.getD st.2 0 = z at *
    go_wp2
    go_ret
    refine ⟨z, (0, st.2 + 1), rfl, ⟨?_, grown_trans (grown_drewN _ _ _) (grown_set _ _ _ _), ?_, HP.out, by omega, fun h => absurd hf h⟩, hb.1, hb.2, fun h => absurd rfl h⟩
    · have := (cur_drewN HC.out n).set1 (st.2 + 1) (st.2 + 1) (by omega)
      rw [hf] at this; exact this
    · exact Step.good _ _ hf HZ.out

def NumPost (b : Nat) (a : Option Addr) (len cap : Nat) (zs : List Int) (st : St) (tl : List Value) (lo hi : Int) (w : World) (e : Ending) (w' : World) : Prop :=
  ∃ v st', e = .returned (.int .i64 v) ∧ Ran (numb lo hi) w w' b a len cap zs st tl v st' ∧ 0 ≤ v ∧ v ≤ 4611686018427387903 ∧ (v = 0 ∨ lo ≤ v ∧ v ≤ hi) ∧ (st'.1 ≠ 0 → v = 0)

def btw (n lo hi : Int) : Bool := decide (lo ≤ n ∧ n ≤ hi)
set_option maxHeartbeats 400000 in
theorem between_any (n lo hi : Int) (w : World) :
    Calls Tryd.prog 56 #[.int .i64 n, .int .i64 lo, .int .i64 hi] w fun e w' => e = .returned (.bool (btw n lo hi)) ∧ w = w' := by
  have HB : Hid (btw n lo hi = decide (lo ≤ n ∧ n ≤ hi)) := rfl
  generalize btw n lo hi = q at *
  by_cases h1 : lo ≤ n
  · by_cases h2 : n ≤ hi
    · go_enter Tryd.func56, Tryd.ntmps56
      go_wp2
      go_ret
      refine ⟨?_, rfl⟩
      rw [HB.out]; simp [h1, h2]
    · go_enter Tryd.func56, Tryd.ntmps56
      go_wp2
      go_ret
      refine ⟨?_, rfl⟩
      rw [HB.out]; simp [h1, h2]
  · go_enter Tryd.func56, Tryd.ntmps56
    go_wp2
    go_ret
    refine ⟨?_, rfl⟩
    rw [HB.out]; simp; omega

theorem lies_drewN {k : IntKind} {w : World} {a : Option Addr} {zs : List Int} (h : Lies k w a zs) (n : Nat) : Lies k (w.drewN n) a zs := h

/-- What stands at the place is read: the four ways. -/
theorem numb_left {zs : List Int} {st : St} {lo hi : Int} (hf : st.1 = 0) (t : Int × Int × Int) (ht : rd (left zs st) = t) : numb lo hi (zs.drop st.2) = if t.2.2 = 10 then .bad 20 else if t.2.2 ≠ 0 ∨ 4611686018427387903 < t.1 then .bad 22
  else if lo ≤ t.1 ∧ t.1 ≤ hi then .ok t.1 ((zs.drop st.2).drop t.2.1.toNat) else .bad 23 := by
  have : left zs st = zs.drop st.2 := by unfold left; rw [if_pos hf]
  rw [this] at ht
  subst ht; rfl

theorem ran_fault {α : Type} {p : Pr α} {w w' : World} {b len cap : Nat} {a : Option Addr} {zs : List Int} {st : St} {tl : List Value} (v : α) {x : Int} (hx : 0 < x ∧ x ≤ 100) (he : 0 ≤ st.1 ∧ st.1 ≤ 100) (hp : st.2 ≤ len)
    (hbad : st.1 = 0 → p (zs.drop st.2) = .bad x) (hcur : Cur w' b a len cap (if st.1 = 0 then x else st.1, st.2) tl) (hg : w.grownBy w' (some b)) :
    Ran p w w' b a len cap zs st tl v (if st.1 = 0 then x else st.1, st.2) := by
  refine ⟨hcur, hg, ?_, hp, ?_, ?_⟩
  · by_cases hf : st.1 = 0
    · rw [if_pos hf]; exact Step.fault _ _ _ hf (by omega) (hbad hf)
    · rw [if_neg hf]; exact Step.bad _ hf
  · simp only; split <;> omega
  · intro hf; rw [if_neg hf]

set_option maxHeartbeats 1000000 in
theorem number_any (b len cap : Nat) (a : Option Addr) (st : St) (tl : List Value) (zs : List Int) (lo hi : Int) (w : World) (hc : Cur w b a len cap st tl) (hs : Src w b a len cap zs) (hp : st.2 ≤ len) (he : 0 ≤ st.1 ∧ st.1 ≤ 100) :
    Calls Tryd.prog 72 #[.pointer (some ⟨b, 0, none⟩), .int .i64 lo, .int .i64 hi] w (NumPost b a len cap zs st tl lo hi w) := by
  have HC : Hid (Cur w b a len cap st tl) := hc
  have HS : Hid (Src w b a len cap zs) := hs
  have HE : Hid (0 ≤ st.1 ∧ st.1 ≤ 100) := he
  have c1 := hc.c1
  have z1 := hc.fz 1
  have hsm := hs.small
  clear hc hs he
  go_enter Tryd.func72, Tryd.ntmps72
  go_wp2_with fail
  refine (rest_any b len cap a st tl zs _ HC.out HS.out hp).mono ?_
  rintro e w' ⟨a', c, n, rfl, rfl, hlies, hnil, hlc, hcm, hap⟩
  have hby : Bytey (left zs st) := by
    intro z hz
    unfold left at hz
    split at hz
    · exact HS.out.bytes z (List.mem_of_mem_drop hz)
    · cases hz
  have hll : (left zs st).length ≤ 8192 := by
    have h9 : zs.length = len := HS.out.length
    unfold left; split <;> simp; omega
  go_wp2_with fail
  refine (read_any _ (left zs st) _ _ _ hby rfl (by omega) (lies_drewN hlies n)).mono ?_
  rintro e w' ⟨rfl, rfl⟩
  have hinv := rd_inv (left zs st) hby
  have HN : Hid (∀ h : st.1 = 0, _) := fun hf => numb_left (lo := lo) (hi := hi) hf _ (rfl : rd (left zs st) = rd (left zs st))
  have HF : Hid (st.1 ≠ 0 → (rd (left zs st)).2.2 = 10) := fun hf => by unfold left; rw [if_neg hf]; rfl
  have HK : Hid (st.1 = 0 → (left zs st).length = len - st.2) := fun hf => by
    have h9 : zs.length = len := HS.out.length
    unfold left; rw [if_pos hf]; simp [h9]
  generalize left zs st = L at *
  clear hlies hnil hlc hcm hap hby
  generalize rd L = T at *
  obtain ⟨nn, kk, ee⟩ := T
  rcases hinv with ⟨r0, r1, r2, _, r3, r4⟩ | ⟨r0, r1, r2, r3, r4⟩
  · have HF2 : Hid (st.1 = 0) := by
      have h := HF.out
      rcases Decidable.em (st.1 = 0) with h' | h'
      · exact h'
      · have := h h'; simp only at this r0; omega
    have HN2 := HN.out HF2.out
    have HK2 : Hid (L.length = len - st.2) := HK.out HF2.out
    simp only at r0 r1 r2 r3 r4 HN2
    subst r0 r1
    have HS2 := sz_bounds nn r3 r4
    clear HN HF HK
    by_cases hmx : 4611686018427387903 < nn
    · rw [if_neg (by omega), if_pos (.inr hmx)] at HN2
      have HN3 : Hid (numb lo hi (zs.drop st.2) = .bad 22) := HN2
      clear HN2 HS2
      go_wp2_with fail
      refine (fail_any b len cap a st tl _ _ (cur_drewN HC.out n)).mono ?_
      rintro e w' ⟨rfl, hcur, hg, _⟩
      go_wp2
      go_ret
      exact ⟨0, _, rfl, ran_fault 0 (by omega) HE.out hp (fun _ => HN3.out) hcur (grown_trans (grown_drewN _ _ _) hg), by omega, by omega, .inl rfl, fun _ => rfl⟩
    · rw [if_neg (by omega), if_neg (by omega)] at HN2
      have HS3 : Hid (1 ≤ sz nn ∧ sz nn ≤ 10) := ⟨HS2.1, HS2.2.1⟩
      clear HS2
      have hmx' : nn ≤ 4611686018427387903 := by omega
      have hw : ∀ x : Int, x = nn → x = nn := fun _ h => h
      by_cases hbt : lo ≤ nn ∧ nn ≤ hi
      · rw [if_pos hbt] at HN2
        have hbb : btw nn lo hi = true := by simp [btw, hbt]
        have HN3 : Hid (numb lo hi (zs.drop st.2) = .ok nn (zs.drop (st.2 + sz nn))) := by
          unfold Hid; rw [HN2]; simp
        have HBT : Hid (lo ≤ nn ∧ nn ≤ hi) := hbt
        have hk1 : (sz nn : Int) ≤ 10 := by have := HS3.out; omega
        have hk2 : (st.2 : Int) ≤ 8192 := by omega
        clear HN2 hmx hbt hw
        go_wp2_with fail
        refine (between_any _ _ _ _).mono ?_
        rintro e w' ⟨rfl, rfl⟩
        rw [hbb]
        clear hbb
        go_wp2
        go_ret
        refine ⟨nn, (0, st.2 + sz nn), rfl, ⟨?_, grown_trans (grown_drewN _ _ _) (grown_set _ _ _ _), ?_, ?_, by omega, fun h => absurd HF2.out h⟩, r3, hmx', .inr HBT.out, fun h => absurd rfl h⟩
        · have := (cur_drewN HC.out n).set1 (st.2 + sz nn) (st.2 + (sz nn : Int)) (by omega)
          rw [HF2.out] at this; exact this
        · exact Step.good _ _ HF2.out HN3.out
        · have := HK2.out; simp only; omega
      · rw [if_neg hbt] at HN2
        have hbb : btw nn lo hi = false := by simp [btw]; omega
        have HN3 : Hid (numb lo hi (zs.drop st.2) = .bad 23) := HN2
        clear HN2 hmx hbt hw
        go_wp2_with fail
        refine (between_any _ _ _ _).mono ?_
        rintro e w' ⟨rfl, rfl⟩
        rw [hbb]
        clear hbb
        go_wp2_with fail
        refine (fail_any b len cap a st tl _ _ (cur_drewN HC.out n)).mono ?_
        rintro e w' ⟨rfl, hcur, hg, _⟩
        go_wp2
        go_ret
        exact ⟨0, _, rfl, ran_fault 0 (by omega) HE.out hp (fun _ => HN3.out) hcur (grown_trans (grown_drewN _ _ _) hg), by omega, by omega, .inl rfl, fun _ => rfl⟩
  · simp only at r0 r1 r2 r3 r4
    subst r1 r2
    by_cases h10 : ee = 10
    · subst h10
      have HN3 : Hid (st.1 = 0 → numb lo hi (zs.drop st.2) = .bad 20) := fun h => by have := HN.out h; simpa using this
      clear HN HF HK
      go_wp2_with fail
      refine (fail_any b len cap a st tl _ _ (cur_drewN HC.out n)).mono ?_
      rintro e w' ⟨rfl, hcur, hg, _⟩
      go_wp2
      go_ret
      exact ⟨0, _, rfl, ran_fault 0 (by omega) HE.out hp HN3.out hcur (grown_trans (grown_drewN _ _ _) hg), by omega, by omega, .inl rfl, fun _ => rfl⟩
    · have HN3 : Hid (st.1 = 0 → numb lo hi (zs.drop st.2) = .bad 22) := fun h => by have := HN.out h; simpa [h10, r0] using this
      have b1 : (ee == 10) = false := beq_eq_false_iff_ne.mpr h10
      have b2 : (ee != 0) = true := by simp [r0]
      clear HN HF HK h10 r0
      go_wp2_with fail
      refine (fail_any b len cap a st tl _ _ (cur_drewN HC.out n)).mono ?_
      rintro e w' ⟨rfl, hcur, hg, _⟩
      go_wp2
      go_ret
      exact ⟨0, _, rfl, ran_fault 0 (by omega) HE.out hp HN3.out hcur (grown_trans (grown_drewN _ _ _) hg), by omega, by omega, .inl rfl, fun _ => rfl⟩

end Go.Proofs.YtnfbfdngdkkffabDoor
