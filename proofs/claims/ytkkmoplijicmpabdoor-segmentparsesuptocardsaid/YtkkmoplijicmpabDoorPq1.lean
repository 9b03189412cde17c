import Derived.Test.YtkkmoplijicmpabDoorCur
import Derived.Test.YtkkmoplijicmpabDoorRefRead
namespace Go.Proofs.YtkkmoplijicmpabDoor
open Go.RowKit
set_option linter.unusedVariables false
set_option linter.unusedSimpArgs false

/-- The reference's reader in block b. -/
def Cq (w : World) (b : Nat) (a : Option Addr) (len cap : Nat) (st : St) : Prop :=
  w.heap[b]? = some (.cells #[.slice a len cap, .int .i64 (st.2 : Int), .int .i64 st.1] 70 (0, 0))

theorem Cq.c0 {w : World} {b len cap : Nat} {a : Option Addr} {st : St} (h : Cq w b a len cap st) : w.cell? ⟨b, 0, none⟩ = some (.slice a len cap) := by
  unfold Cq at h; simp [World.cell?, h]
theorem Cq.c1 {w : World} {b len cap : Nat} {a : Option Addr} {st : St} (h : Cq w b a len cap st) : w.cell? ⟨b, 1, none⟩ = some (.int .i64 st.2) := by
  unfold Cq at h; simp [World.cell?, h]
theorem Cq.c2 {w : World} {b len cap : Nat} {a : Option Addr} {st : St} (h : Cq w b a len cap st) : w.cell? ⟨b, 2, none⟩ = some (.int .i64 st.1) := by
  unfold Cq at h; simp [World.cell?, h]
theorem Cq.fz {w : World} {b len cap : Nat} {a : Option Addr} {st : St} (h : Cq w b a len cap st) (i : Nat) : w.frozen? ⟨b, i, none⟩ = false := by
  unfold Cq at h; simp [World.frozen?, h]
theorem Cq.lt {w : World} {b len cap : Nat} {a : Option Addr} {st : St} (h : Cq w b a len cap st) : b < w.heap.size := by
  rcases Nat.lt_or_ge b w.heap.size with hg | hg
  · exact hg
  · unfold Cq at h; rw [Array.getElem?_eq_none hg] at h; cases h
theorem Cq.set1 {w : World} {b len cap : Nat} {a : Option Addr} {st : St} (h : Cq w b a len cap st) (p : Nat) (x : Int) (hx : x = p) : Cq (w.setCell ⟨b, 1, none⟩ (.int .i64 x)) b a len cap (st.1, p) := by
  subst hx
  unfold Cq at h ⊢
  simp [World.setCell, Array.getElem?_modify, h]
theorem Cq.set2 {w : World} {b len cap : Nat} {a : Option Addr} {st : St} (h : Cq w b a len cap st) (f : Int) : Cq (w.setCell ⟨b, 2, none⟩ (.int .i64 f)) b a len cap (f, st.2) := by
  unfold Cq at h ⊢
  simp [World.setCell, Array.getElem?_modify, h]

/-- The reference's reader stands in block b, over the bytes zs, in the state st. -/
structure Aq (w : World) (b : Nat) (a : Option Addr) (len cap : Nat) (zs : List Int) (st : St) : Prop where
  cur : Cq w b a len cap st
  src : Src w b a len cap zs
  place : st.2 ≤ len
  errs : 0 ≤ st.1 ∧ st.1 ≤ 100

theorem Aq.lt {w : World} {b len cap : Nat} {a : Option Addr} {zs : List Int} {st : St} (h : Aq w b a len cap zs st) : b < w.heap.size := h.cur.lt
theorem Aq.keep {w w' : World} {b len cap : Nat} {a : Option Addr} {zs : List Int} {st : St} (h : Aq w b a len cap zs st) (hb : Below (b + 1) w w') : Aq w' b a len cap zs st :=
  ⟨(hb.block b (by omega)).trans h.cur, ⟨h.src.bytes, h.src.length, h.src.small, h.src.room, h.src.most, lies_keep h.src.lies hb (fun hz x hx => by have := h.src.apart hz x hx; omega), h.src.nil, h.src.apart⟩, h.place, h.errs⟩
theorem Aq.other {w w' : World} {b len cap : Nat} {a : Option Addr} {zs : List Int} {st : St} (h : Aq w b a len cap zs st) (hb : Below w.heap.size w w') : Aq w' b a len cap zs st := h.keep (hb.mono h.lt)
theorem Aq.drewN {w : World} {b len cap : Nat} {a : Option Addr} {zs : List Int} {st : St} (h : Aq w b a len cap zs st) (n : Nat) : Aq (w.drewN n) b a len cap zs st := h.keep ⟨rfl, rfl, rfl, Nat.le_refl _, fun _ _ => rfl⟩
theorem Aq.drew {w : World} {b len cap : Nat} {a : Option Addr} {zs : List Int} {st : St} (h : Aq w b a len cap zs st) : Aq w.drew b a len cap zs st := h.keep (Below.refl _ _).drew
theorem Aq.grown {w w' : World} {b len cap : Nat} {a : Option Addr} {zs : List Int} {st st' : St} (h : Aq w b a len cap zs st) (hg : w.grownBy w' (some b)) (hc : Cq w' b a len cap st') (hp : st'.2 ≤ len) (he : 0 ≤ st'.1 ∧ st'.1 ≤ 100) : Aq w' b a len cap zs st' :=
  ⟨hc, h.src.grown hg, hp, he⟩
/-- Something else was written. -/
theorem Aq.still {w w' : World} {b len cap k : Nat} {a : Option Addr} {zs : List Int} {st : St} (h : Aq w b a len cap zs st) (hg : w.grownBy w' (some k)) (hk : b < k) : Aq w' b a len cap zs st :=
  ⟨(hg.block b h.lt (by simp; omega)).trans h.cur, ⟨h.src.bytes, h.src.length, h.src.small, h.src.room, h.src.most, lies_grown h.src.lies hg (fun hz x hx e => by have := h.src.apart hz x hx; simp at e; omega), h.src.nil, h.src.apart⟩, h.place, h.errs⟩

/-- What was read last may be only if ok. -/
def wst (ok : Bool) (st : St) : St := if st.1 = 0 ∧ ok = false then (23, st.2) else st
/-- What 'number' reads, and the state behind it. -/
def numR (zs : List Int) (st : St) : Int × St :=
  if st.1 ≠ 0 then (0, st) else
  if (rd (zs.drop st.2)).2.2 = 10 then (0, (20, st.2)) else
  if (rd (zs.drop st.2)).2.2 ≠ 0 ∨ 4611686018427387903 < (rd (zs.drop st.2)).1 then (0, (22, st.2)) else ((rd (zs.drop st.2)).1, (0, st.2 + (rd (zs.drop st.2)).2.1.toNat))

theorem wst_ok (st : St) : wst true st = st := by unfold wst; simp
theorem wst_bad {ok : Bool} {st : St} (h : st.1 ≠ 0) : wst ok st = st := by unfold wst; simp [h]

/-- A number, and the wish that it lie between two others, are the number between them. -/
theorem numR_step {zs : List Int} {st st1 : St} {v lo hi : Int} {ok : Bool} (h : numR zs st = (v, st1)) (hok : st1.1 = 0 → (ok = true ↔ lo ≤ v ∧ v ≤ hi)) : Step zs (numb lo hi) st v (wst ok st1) := by
  unfold numR at h
  by_cases h0 : st.1 = 0
  · rw [if_neg (by simpa using h0)] at h
    by_cases h1 : (rd (zs.drop st.2)).2.2 = 10
    · rw [if_pos h1] at h
      simp only [Prod.mk.injEq] at h
      obtain ⟨rfl, rfl⟩ := h
      rw [wst_bad (by simp)]
      exact Step.fault _ _ _ h0 (by omega) (by unfold numb; rw [if_pos h1])
    · rw [if_neg h1] at h
      by_cases h2 : (rd (zs.drop st.2)).2.2 ≠ 0 ∨ 4611686018427387903 < (rd (zs.drop st.2)).1
      · rw [if_pos h2] at h
        simp only [Prod.mk.injEq] at h
        obtain ⟨rfl, rfl⟩ := h
        rw [wst_bad (by simp)]
        exact Step.fault _ _ _ h0 (by omega) (by unfold numb; rw [if_neg h1, if_pos h2])
      · rw [if_neg h2] at h
        simp only [Prod.mk.injEq] at h
        obtain ⟨rfl, rfl⟩ := h
        have hk := hok rfl
        cases ok with
        | true =>
          rw [wst_ok]
          refine Step.good _ _ h0 ?_
          unfold numb
          rw [if_neg h1, if_neg h2, if_pos (hk.mp rfl), List.drop_drop]
        | false =>
          rw [show wst false ((0 : Int), st.2 + (rd (zs.drop st.2)).2.1.toNat) = (23, st.2 + (rd (zs.drop st.2)).2.1.toNat) from rfl]
          refine Step.fault _ _ _ h0 (by omega) ?_
          unfold numb
          rw [if_neg h1, if_neg h2, if_neg (fun h => by have := hk.mpr h; cases this)]
  · rw [if_pos h0] at h
    simp only [Prod.mk.injEq] at h
    obtain ⟨rfl, rfl⟩ := h
    rw [wst_bad h0]
    exact Step.bad _ h0

/-- Any number will do. -/
theorem numR_any {zs : List Int} {st st1 : St} {v : Int} (h : numR zs st = (v, st1)) (h0 : 0 ≤ v) (h1 : v ≤ mn) : Step zs (numb 0 mn) st v st1 := by
  have := numR_step (lo := 0) (hi := mn) (ok := true) h (fun _ => by simp [h0, h1])
  rw [wst_ok] at this; exact this

theorem wst_zero {ok : Bool} {st : St} (h : (wst ok st).1 = 0) : st.1 = 0 ∧ ok = true := by
  unfold wst at h
  split at h
  · simp at h
  · rename_i h1
    refine ⟨h, ?_⟩
    cases ok
    · exact absurd ⟨h, rfl⟩ h1
    · rfl
theorem numR_zero {zs : List Int} {st st1 : St} {v : Int} (h : numR zs st = (v, st1)) : st1.1 = 0 → st.1 = 0 := by
  unfold numR at h
  intro h1
  by_cases h0 : st.1 = 0
  · exact h0
  · rw [if_pos h0] at h
    simp only [Prod.mk.injEq] at h
    obtain ⟨_, rfl⟩ := h
    exact h1
theorem numR_bad {zs : List Int} {st st1 : St} {v : Int} (h : numR zs st = (v, st1)) : st1.1 ≠ 0 → v = 0 := by
  unfold numR at h
  intro h1
  split at h
  · simp only [Prod.mk.injEq] at h; exact h.1.symm
  · split at h
    · simp only [Prod.mk.injEq] at h; exact h.1.symm
    · split at h
      · simp only [Prod.mk.injEq] at h; exact h.1.symm
      · simp only [Prod.mk.injEq] at h; rw [← h.2] at h1; exact absurd rfl h1

def OctQ (b : Nat) (a : Option Addr) (len cap : Nat) (zs : List Int) (st : St) (w : World) (e : Ending) (w' : World) : Prop :=
  ∃ v st', e = .returned (.int .i64 v) ∧ Aq w' b a len cap zs st' ∧ w.grownBy w' (some b) ∧ Step zs oct st v st' ∧ 0 ≤ v ∧ v ≤ 255 ∧ (st'.1 = 0 → st.1 = 0) ∧ (st'.1 = 0 → a ≠ none)

set_option maxHeartbeats 1000000 in
theorem octq_any {b len cap : Nat} {a : Option Addr} {zs : List Int} {st : St} {w : World} (h : Aq w b a len cap zs st) :
    Calls Tryd.prog 36 #[.pointer (some ⟨b, 0, none⟩)] w (OctQ b a len cap zs st w) := by
  have HA : Hid (Aq w b a len cap zs st) := h
  have c0 := h.cur.c0
  have c1 := h.cur.c1
  have c2 := h.cur.c2
  have z1 := h.cur.fz 1
  have z2 := h.cur.fz 2
  have hsm := h.src.small
  have hlen := h.src.length
  have hp := h.place
  clear h
  obtain ⟨f, p⟩ := st
  simp only at c1 c2 hp
  by_cases hf : f = 0
  · subst hf
    by_cases hlt : p < len
    · have hlt' : ¬ (len : Int) ≤ (p : Int) := by omega
      have hp0 : (0 : Int) ≤ (p : Int) := by omega
      have hp1 : (p : Int) ≤ 8192 := by omega
      have hpl : (p : Int) < (len : Int) := by omega
      have hzl : p < zs.length := by omega
      have hb : 0 ≤ zs.getD p 0 ∧ zs.getD p 0 ≤ 255 := by
        rw [List.getD_eq_getElem?_getD, List.getElem?_eq_getElem hzl]; exact HA.out.src.bytes _ (List.getElem_mem hzl)
      obtain ⟨g, off, rfl, hcell⟩ : ∃ g off, a = some ⟨g, off, none⟩ ∧ w.cell? ⟨g, off + p, none⟩ = some (.int .u8 (zs.getD p 0)) := by
        rcases HA.out.src.lies with h | ⟨g, off, rfl, h⟩
        · rw [h] at hzl; simp at hzl
        · exact ⟨g, off, rfl, h p hzl⟩
      have hgb : g < b := HA.out.src.apart (fun h => by rw [h] at hzl; simp at hzl) _ rfl
      have hcell2 : ∀ nq, ((w.drewN nq).setCell ⟨b, 1, none⟩ (.int .i64 (p + 1))).cell? ⟨g, off + p, none⟩ = some (.int .u8 (zs.getD p 0)) := fun nq => by
        rw [World.cell?_of_block (w := w.drewN nq) (Below.heap_setCell _ _ _ _ (by simp; omega))]; exact hcell
      have HZ : Hid (oct (zs.drop p) = .ok (zs.getD p 0) (zs.drop (p + 1))) := by unfold Hid; rw [drop_cons zs p hzl]; rfl
      generalize zs.getD p 0 = z at *
      go_enter Tryd.func36, Tryd.ntmps36
      go_upto_region 3 with fail
      go_quiet (fail)
      go_upto_region 7 with fail
      have d0 : ((w.drewN nq).setCell ⟨b, 1, none⟩ (.int .i64 (p + 1))).cell? ⟨b, 0, none⟩ = some (.slice (some ⟨g, off, none⟩) len cap) := ((HA.out.drewN nq).cur.set1 (p + 1) (p + 1) (by omega)).c0
      have d1 : ((w.drewN nq).setCell ⟨b, 1, none⟩ (.int .i64 (p + 1))).cell? ⟨b, 1, none⟩ = some (.int .i64 ((p : Int) + 1)) := ((HA.out.drewN nq).cur.set1 (p + 1) (p + 1) (by omega)).c1
      have HX : Hid (Aq ((w.drewN nq).setCell ⟨b, 1, none⟩ (.int .i64 (p + 1))) b (some ⟨g, off, none⟩) len cap zs (0, p + 1)) := (HA.out.drewN nq).grown (grown_set _ _ _ _) ((HA.out.drewN nq).cur.set1 (p + 1) (p + 1) (by omega)) (by simp only; omega) (by simp)
      have HG : Hid (w.grownBy ((w.drewN nq).setCell ⟨b, 1, none⟩ (.int .i64 (p + 1))) (some b)) := grown_trans (grown_drewN _ _ _) (grown_set _ _ _ _)
      have hc7 := hcell2 nq
      have hwp : IntKind.i64.wrap ((p : Int) + 1 - 1) = (p : Int) := by rw [IntKind.wrap_i64]; omega
      have htn : Int.toNat (p : Int) = p := by omega
      generalize (w.drewN nq).setCell ⟨b, 1, none⟩ (.int .i64 (p + 1)) = W at *
      clear c0 c1 c2 z1 z2 hcell hcell2
      go_quiet (fail)
      go_wp2
      go_ret
      refine ⟨z, (0, p + 1), rfl, HX.out.drewN _, grown_trans HG.out (grown_drewN _ _ _), Step.good _ _ rfl HZ.out, hb.1, hb.2, fun _ => rfl, fun _ => by simp⟩
    · have hge : (len : Int) ≤ (p : Int) := by omega
      have HZ : Hid (zs.drop p = []) := List.drop_of_length_le (by omega)
      go_enter Tryd.func36, Tryd.ntmps36
      go_upto_region 3 with fail
      go_quiet (fail)
      go_wp2
      go_ret
      have hAd := HA.out.drewN nq
      refine ⟨0, (20, p), rfl, hAd.grown (grown_set _ _ _ _) (hAd.cur.set2 20) HA.out.place (by simp), grown_trans (grown_drewN _ _ _) (grown_set _ _ _ _), Step.fault _ _ _ rfl (by omega) (by simp only; rw [HZ.out]; rfl), by omega, by omega, (fun h => by simp at h), (fun h => by simp at h)⟩
  · have hb : (f != 0) = true := by simp [hf]
    have HF : Hid (f ≠ 0) := hf
    clear hf
    go_enter Tryd.func36, Tryd.ntmps36
    go_wp2
    go_ret
    exact ⟨0, (f, p), rfl, HA.out, World.grownBy.refl _ _, Step.bad _ HF.out, by omega, by omega, id, fun h => absurd h HF.out⟩

set_option maxHeartbeats 1000000 in
theorem wantq_any {b len cap : Nat} {a : Option Addr} {zs : List Int} {st : St} {w : World} (ok : Bool) (h : Aq w b a len cap zs st) :
    Calls Tryd.prog 38 #[.pointer (some ⟨b, 0, none⟩), .bool ok] w fun e w' => e = .returned (.tuple #[]) ∧ Aq w' b a len cap zs (wst ok st) ∧ w.grownBy w' (some b) := by
  have HA : Hid (Aq w b a len cap zs st) := h
  have c2 := h.cur.c2
  have z2 := h.cur.fz 2
  clear h
  obtain ⟨f, p⟩ := st
  simp only at c2
  by_cases hf : f = 0
  · subst hf
    cases ok
    · go_enter Tryd.func38, Tryd.ntmps38
      go_wp2
      go_end0
      exact ⟨rfl, HA.out.grown (grown_set _ _ _ _) (HA.out.cur.set2 23) HA.out.place (by simp [wst]), grown_set _ _ _ _⟩
    · go_enter Tryd.func38, Tryd.ntmps38
      go_wp2
      go_end0
      refine ⟨rfl, ?_, World.grownBy.refl _ _⟩
      rw [wst_ok]; exact HA.out
  · have hb : (f == 0) = false := by simp [hf]
    have HF : Hid (f ≠ 0) := hf
    clear hf
    go_enter Tryd.func38, Tryd.ntmps38
    go_wp2
    go_end0
    refine ⟨rfl, ?_, World.grownBy.refl _ _⟩
    rw [wst_bad HF.out]; exact HA.out

def NumQ (b : Nat) (a : Option Addr) (len cap : Nat) (zs : List Int) (st : St) (w : World) (e : Ending) (w' : World) : Prop :=
  ∃ v st', e = .returned (.int .i64 v) ∧ Aq w' b a len cap zs st' ∧ w.grownBy w' (some b) ∧ numR zs st = (v, st') ∧ 0 ≤ v ∧ v ≤ 4611686018427387903

set_option maxHeartbeats 2000000 in
theorem numq_any {b len cap : Nat} {a : Option Addr} {zs : List Int} {st : St} {w : World} (h : Aq w b a len cap zs st) :
    Calls Tryd.prog 37 #[.pointer (some ⟨b, 0, none⟩)] w (NumQ b a len cap zs st w) := by
  have HA : Hid (Aq w b a len cap zs st) := h
  have c0 := h.cur.c0
  have c1 := h.cur.c1
  have c2 := h.cur.c2
  have z1 := h.cur.fz 1
  have z2 := h.cur.fz 2
  have hsm := h.src.small
  have hro := h.src.room
  have hmo := h.src.most
  have hlen := h.src.length
  have hp := h.place
  clear h
  obtain ⟨f, p⟩ := st
  simp only at c1 c2 hp
  by_cases hf : f = 0
  · subst hf
    have hby : Bytey (zs.drop p) := fun z hz => HA.out.src.bytes z (List.mem_of_mem_drop hz)
    have hdl : (zs.drop p).length = len - p := by simp [hlen]
    have HQ : Hid (∀ T, rd (zs.drop p) = T → numR zs (0, p) = (if T.2.2 = 10 then (0, (20, p)) else if T.2.2 ≠ 0 ∨ 4611686018427387903 < T.1 then (0, (22, p)) else (T.1, (0, p + T.2.1.toNat)))) := fun T hT => by
      subst hT; unfold numR; rw [if_neg (by simp)]
    have hinv := rd_inv (zs.drop p) hby
    have hRd : ∀ (a' : Option Addr) (c' : Nat), Lies .u8 w a' (zs.drop p) → ∀ V : World, V.heap = w.heap → Calls Tryd.prog 67 #[.slice a' (len - p) c'] V fun e w' => e = .returned (.tuple #[.int .u64 (rd (zs.drop p)).1, .int .i64 (rd (zs.drop p)).2.1, .int .i64 (rd (zs.drop p)).2.2]) ∧ w' = V := fun a' c' hl V hV =>
      (refread_any a' (zs.drop p) (len - p) c' V hby hdl (by omega) (by
        rcases hl with h | ⟨g, off, e, h⟩
        · exact .inl h
        · exact .inr ⟨g, off, e, fun i hi => by rw [← h i hi]; simp only [World.cell?, hV]⟩)).mono fun e w' h => ⟨h.1, h.2.symm⟩
    have hpc : (p : Int) ≤ (cap : Int) := by omega
    have hpl : (p : Int) ≤ (len : Int) := by omega
    have hp0 : (0 : Int) ≤ (p : Int) := by omega
    have htn : Int.toNat (p : Int) = p := by omega
    have HK : Hid (p + (len - p) = len) := by show _ = _; omega
    have hdl2 : (zs.drop p).length = len - p := hdl
    obtain ⟨T, hT⟩ : ∃ T, rd (zs.drop p) = T := ⟨_, rfl⟩
    have HQ2 := HQ.out T hT
    rw [hT] at hinv hRd
    have HLies : Hid (Lies .u8 w a zs) := HA.out.src.lies
    obtain ⟨nn, kk, ee⟩ := T
    simp only at hinv hRd HQ2
    clear hT HQ
    rw [hdl2] at hinv
    clear hdl hdl2 hby
    have HBad : Hid (∀ (x : Int) (nq : Nat), 0 < x ∧ x ≤ 100 → numR zs (0, p) = (0, (x, p)) → NumQ b a len cap zs (0, p) w (.returned (.int .i64 0)) ((w.drewN nq).setCell ⟨b, 2, none⟩ (.int .i64 x))) := fun x nq hx hq => by
      have hAd := HA.out.drewN nq
      exact ⟨0, (x, p), rfl, hAd.grown (grown_set _ _ _ _) (hAd.cur.set2 x) HA.out.place (by simp only; omega), grown_trans (grown_drewN _ _ _) (grown_set _ _ _ _), hq, by omega, by omega⟩
    have HGood : Hid (∀ (nq : Nat), ee = 0 → kk = (sz nn : Int) → sz nn ≤ len - p → 0 ≤ nn → nn ≤ 4611686018427387903 → numR zs (0, p) = (nn, (0, p + kk.toNat)) → NumQ b a len cap zs (0, p) w (.returned (.int .i64 nn)) ((w.drewN nq).setCell ⟨b, 1, none⟩ (.int .i64 (p + kk)))) := fun nq h0 h1 h2 h3 h4 hq => by
      have hAd := HA.out.drewN nq
      exact ⟨nn, (0, p + kk.toNat), rfl, hAd.grown (grown_set _ _ _ _) (hAd.cur.set1 (p + kk.toNat) (p + kk) (by omega)) (by simp only; omega) (by simp), grown_trans (grown_drewN _ _ _) (grown_set _ _ _ _), hq, h3, h4⟩
    by_cases hcp : cap = p
    · have hnil : zs.drop p = [] := List.drop_of_length_le (by omega)
      cases a with
      | none =>
        have hn := HA.out.src.nil rfl
        obtain ⟨rfl, rfl⟩ := hn
        obtain rfl : p = 0 := by omega
        have hRd' := hRd none 0 (by rw [hnil]; exact .inl rfl)
        clear hRd hnil
        rcases hinv with ⟨r0, r1, r2, _, r3, r4⟩ | ⟨r0, r1, r2, r3, r4⟩
        · exfalso
          have hs2 := sz_bounds nn r3 r4
          omega
        · subst r1 r2
          by_cases h10 : ee = 10
          · have HN : Hid (numR zs (0, 0) = (0, (20, 0))) := by show _ = _; rw [HQ2, if_pos h10]
            subst h10
            go_enter Tryd.func37, Tryd.ntmps37
            go_upto_region 3 with fail
            go_quiet (first | (go_at_call 67; refine Calls.quiet_of_same (hRd' _ rfl)))
            go_wp2
            go_ret
            first | exact HBad.out 20 nq (by omega) HN.out | (have hq := HBad.out 20 nq (by omega) HN.out; rw [hcp] at hq; exact hq)
          · have HN : Hid (numR zs (0, 0) = (0, (22, 0))) := by show _ = _; rw [HQ2, if_neg h10, if_pos (.inl r0)]
            have b1 : (ee == 10) = false := beq_eq_false_iff_ne.mpr h10
            have b2 : (ee != 0) = true := by simp [r0]
            clear h10 r0 HQ2
            go_enter Tryd.func37, Tryd.ntmps37
            go_upto_region 3 with fail
            go_quiet (first | (go_at_call 67; refine Calls.quiet_of_same (hRd' _ rfl)))
            go_wp2
            go_ret
            first | exact HBad.out 22 nq (by omega) HN.out | (have hq := HBad.out 22 nq (by omega) HN.out; rw [hcp] at hq; exact hq)
      | some x =>
        have hRd' := hRd (some x) 0 (by rw [hnil]; exact .inl rfl)
        clear hRd hnil
        rcases hinv with ⟨r0, r1, r2, _, r3, r4⟩ | ⟨r0, r1, r2, r3, r4⟩
        · exfalso
          have hs2 := sz_bounds nn r3 r4
          omega
        · subst r1 r2
          by_cases h10 : ee = 10
          · have HN : Hid (numR zs (0, p) = (0, (20, p))) := by show _ = _; rw [HQ2, if_pos h10]
            subst h10
            go_enter Tryd.func37, Tryd.ntmps37
            go_upto_region 3 with fail
            go_quiet (first | (go_at_call 67; refine Calls.quiet_of_same (hRd' _ rfl)))
            go_wp2
            go_ret
            first | exact HBad.out 20 nq (by omega) HN.out | (have hq := HBad.out 20 nq (by omega) HN.out; rw [hcp] at hq; exact hq)
          · have HN : Hid (numR zs (0, p) = (0, (22, p))) := by show _ = _; rw [HQ2, if_neg h10, if_pos (.inl r0)]
            have b1 : (ee == 10) = false := beq_eq_false_iff_ne.mpr h10
            have b2 : (ee != 0) = true := by simp [r0]
            clear h10 r0 HQ2
            go_enter Tryd.func37, Tryd.ntmps37
            go_upto_region 3 with fail
            go_quiet (first | (go_at_call 67; refine Calls.quiet_of_same (hRd' _ rfl)))
            go_wp2
            go_ret
            first | exact HBad.out 22 nq (by omega) HN.out | (have hq := HBad.out 22 nq (by omega) HN.out; rw [hcp] at hq; exact hq)
    · have hcp' : (p : Int) < (cap : Int) := by omega
      cases a with
      | none =>
        exfalso
        have := HA.out.src.nil rfl
        omega
      | some x =>
        have hRd' := hRd (some (x.add p)) (cap - p) (lies_add HLies.out p)
        clear hRd
        rcases hinv with ⟨r0, r1, r2, _, r3, r4⟩ | ⟨r0, r1, r2, r3, r4⟩
        · have r0' : ee = 0 := r0
          subst r0
          by_cases hmx : 4611686018427387903 < nn
          · have HN : Hid (numR zs (0, p) = (0, (22, p))) := by show _ = _; rw [HQ2, if_neg (by decide), if_pos (.inr hmx)]
            go_enter Tryd.func37, Tryd.ntmps37
            go_upto_region 3 with fail
            go_quiet (first | (go_at_call 67; refine Calls.quiet_of_same (hRd' _ rfl)))
            go_wp2
            go_ret
            exact HBad.out 22 nq (by omega) HN.out
          · have HN : Hid (numR zs (0, p) = (nn, (0, p + kk.toNat))) := by show _ = _; rw [HQ2, if_neg (by decide), if_neg (by omega)]
            have hs2 := sz_bounds nn r3 r4
            have hk0 : 0 ≤ kk ∧ kk ≤ 10 := by omega
            have hmx' : nn ≤ 4611686018427387903 := by omega
            have HR : Hid (kk = (sz nn : Int) ∧ sz nn ≤ len - p) := ⟨r1, r2⟩
            clear hs2 r1 r2
            go_enter Tryd.func37, Tryd.ntmps37
            go_upto_region 3 with fail
            go_quiet (first | (go_at_call 67; refine Calls.quiet_of_same (hRd' _ rfl)))
            go_wp2
            go_ret
            exact HGood.out _ (by first | rfl | trivial) HR.out.1 HR.out.2 r3 hmx' HN.out
        · subst r1 r2
          by_cases h10 : ee = 10
          · have HN : Hid (numR zs (0, p) = (0, (20, p))) := by show _ = _; rw [HQ2, if_pos h10]
            subst h10
            go_enter Tryd.func37, Tryd.ntmps37
            go_upto_region 3 with fail
            go_quiet (first | (go_at_call 67; refine Calls.quiet_of_same (hRd' _ rfl)))
            go_wp2
            go_ret
            exact HBad.out 20 nq (by omega) HN.out
          · have HN : Hid (numR zs (0, p) = (0, (22, p))) := by show _ = _; rw [HQ2, if_neg h10, if_pos (.inl r0)]
            have b1 : (ee == 10) = false := beq_eq_false_iff_ne.mpr h10
            have b2 : (ee != 0) = true := by simp [r0]
            clear h10 r0 HQ2
            go_enter Tryd.func37, Tryd.ntmps37
            go_upto_region 3 with fail
            go_quiet (first | (go_at_call 67; refine Calls.quiet_of_same (hRd' _ rfl)))
            go_wp2
            go_ret
            exact HBad.out 22 nq (by omega) HN.out
  · have hb : (f != 0) = true := by simp [hf]
    have HF : Hid (f ≠ 0) := hf
    clear hf
    go_enter Tryd.func37, Tryd.ntmps37
    go_wp2
    go_ret
    exact ⟨0, (f, p), rfl, HA.out, World.grownBy.refl _ _, by unfold numR; rw [if_pos HF.out], by omega, by omega⟩

end Go.Proofs.YtkkmoplijicmpabDoor
