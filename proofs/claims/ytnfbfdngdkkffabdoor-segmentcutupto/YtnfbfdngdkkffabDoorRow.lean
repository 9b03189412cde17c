import Derived.Test.YtnfbfdngdkkffabDoorCur
namespace Go.Proofs.YtnfbfdngdkkffabDoor
open Go.RowKit

/-- The reader stands in block b, over the bytes zs, in the state st; its other cells are tl. -/
structure At (w : World) (b : Nat) (a : Option Addr) (len cap : Nat) (zs : List Int) (st : St) (tl : List Value) : Prop where
  cur : Cur w b a len cap st tl
  src : Src w b a len cap zs
  place : st.2 ≤ len
  errs : 0 ≤ st.1 ∧ st.1 ≤ 100

theorem At.cell {w : World} {b len cap : Nat} {a : Option Addr} {zs : List Int} {st : St} {tl : List Value} (h : At w b a len cap zs st tl) (j : Nat) {u : Value} (hu : tl[j]? = some u) : w.cell? ⟨b, j + 3, none⟩ = some u := by
  have h1 := h.cur
  unfold Cur at h1
  simp [World.cell?, h1, hu]
theorem At.fz {w : World} {b len cap : Nat} {a : Option Addr} {zs : List Int} {st : St} {tl : List Value} (h : At w b a len cap zs st tl) (i : Nat) : w.frozen? ⟨b, i, none⟩ = false := h.cur.fz i
theorem At.put {w : World} {b len cap : Nat} {a : Option Addr} {zs : List Int} {st : St} {tl : List Value} (h : At w b a len cap zs st tl) (j : Nat) (u : Value) (i : Nat) (hi : i = j + 3) : At (w.setCell ⟨b, i, none⟩ u) b a len cap zs st (tl.set j u) := by
  subst hi
  refine ⟨?_, h.src.grown (grown_set _ _ _ _), h.place, h.errs⟩
  have h1 := h.cur
  unfold Cur at h1 ⊢
  simp only [World.setCell, Array.getElem?_modify, h1, if_true, Option.map_some]
  simp
theorem At.lt {w : World} {b len cap : Nat} {a : Option Addr} {zs : List Int} {st : St} {tl : List Value} (h : At w b a len cap zs st tl) : b < w.heap.size := h.cur.lt
theorem lies_keep {k : IntKind} {w w' : World} {a : Option Addr} {zs : List Int} {B : Nat} (h : Lies k w a zs) (hb : Below B w w') (hr : zs ≠ [] → ∀ x, a = some x → x.block < B) : Lies k w' a zs := by
  by_cases hz : zs = []
  · exact .inl hz
  · rcases h with rfl | ⟨g, off, rfl, h⟩
    · exact .inl rfl
    · exact .inr ⟨g, off, rfl, fun i hi => (hb.cell (p := ⟨g, off + i, none⟩) (hr hz ⟨g, off, none⟩ rfl)).trans (h i hi)⟩
theorem At.keep {w w' : World} {b len cap : Nat} {a : Option Addr} {zs : List Int} {st : St} {tl : List Value} (h : At w b a len cap zs st tl) (hb : Below (b + 1) w w') : At w' b a len cap zs st tl :=
  ⟨h.cur.of_eq (hb.block b (by omega)), ⟨h.src.bytes, h.src.length, h.src.small, h.src.room, h.src.most, lies_keep h.src.lies hb (fun hz x hx => by have := h.src.apart hz x hx; omega), h.src.nil, h.src.apart⟩, h.place, h.errs⟩
theorem At.other {w w' : World} {b len cap : Nat} {a : Option Addr} {zs : List Int} {st : St} {tl : List Value} (h : At w b a len cap zs st tl) (hb : Below w.heap.size w w') : At w' b a len cap zs st tl := h.keep (hb.mono h.lt)

theorem At.ran {α : Type} {p : Pr α} {w w' : World} {b len cap : Nat} {a : Option Addr} {zs : List Int} {st st' : St} {tl : List Value} {v : α} (h : At w b a len cap zs st tl) (hr : Ran p w w' b a len cap zs st tl v st') : At w' b a len cap zs st' tl :=
  ⟨hr.cur, h.src.grown hr.grown, hr.place, hr.errs⟩

/-- What a step of the cursor comes to. -/
def OctAt (b : Nat) (a : Option Addr) (len cap : Nat) (zs : List Int) (st : St) (tl : List Value) (w : World) (e : Ending) (w' : World) : Prop :=
  ∃ v st', e = .returned (.int .i64 v) ∧ At w' b a len cap zs st' tl ∧ w.grownBy w' (some b) ∧ Step zs oct st v st' ∧ 0 ≤ v ∧ v ≤ 255
theorem octet_at {b len cap : Nat} {a : Option Addr} {zs : List Int} {st : St} {tl : List Value} {w : World} (h : At w b a len cap zs st tl) :
    Calls Tryd.prog 73 #[.pointer (some ⟨b, 0, none⟩)] w (OctAt b a len cap zs st tl w) := by
  refine (octet_any b len cap a st tl zs w h.cur h.src h.place h.errs).mono ?_
  rintro e w' ⟨v, st', rfl, hr, h1, h2, _⟩
  exact ⟨v, st', rfl, h.ran hr, hr.grown, hr.step, h1, h2⟩
def NumAt (b : Nat) (a : Option Addr) (len cap : Nat) (zs : List Int) (st : St) (tl : List Value) (lo hi : Int) (w : World) (e : Ending) (w' : World) : Prop :=
  ∃ v st', e = .returned (.int .i64 v) ∧ At w' b a len cap zs st' tl ∧ w.grownBy w' (some b) ∧ Step zs (numb lo hi) st v st' ∧ 0 ≤ v ∧ v ≤ 4611686018427387903 ∧ (v = 0 ∨ lo ≤ v ∧ v ≤ hi)
theorem number_at {b len cap : Nat} {a : Option Addr} {zs : List Int} {st : St} {tl : List Value} {w : World} (lo hi : Int) (h : At w b a len cap zs st tl) :
    Calls Tryd.prog 72 #[.pointer (some ⟨b, 0, none⟩), .int .i64 lo, .int .i64 hi] w (NumAt b a len cap zs st tl lo hi w) := by
  refine (number_any b len cap a st tl zs lo hi w h.cur h.src h.place h.errs).mono ?_
  rintro e w' ⟨v, st', rfl, hr, h1, h2, h3, _⟩
  exact ⟨v, st', rfl, h.ran hr, hr.grown, hr.step, h1, h2, h3⟩

theorem heap_alloc_new' (w : World) (o : Obj) : (w.alloc o).heap[w.heap.size]? = some o := by
  have : (w.alloc o).heap = w.heap.push o := rfl
  rw [this]; simp

def ClonePost (zs : List Int) (w : World) (e : Ending) (w' : World) : Prop :=
  ∃ a c, e = .returned (.slice a zs.length c) ∧ w'.ownsRow w.heap.size 5 1 (.slice a zs.length c) zs.length (zs.map (Value.int .u8)) ∧ Below w.heap.size w w'

set_option maxRecDepth 100000 in
set_option maxHeartbeats 400000 in
theorem clone_any (a : Option Addr) (zs : List Int) (cap : Nat) (w : World) (hm : zs.length ≤ 70000) (hl : Lies .u8 w a zs) (hn : a = none → zs.length = 0 ∧ cap = 0) :
    Calls Tryd.prog 86 #[.slice a zs.length cap] w (ClonePost zs w) := by
  have hq : ∀ (w : World) (a : Option Addr) (l c : Nat), (binOp .eql 25 (.slice a l c) (.slice none 0 0)).run Tryd.prog w = .ok (.bool a.isNone) w := fun w a l c => Lib.run_eql_slice_nil w 25 5 a l c 0 0 Tryd.underlying25
  cases a with
  | none =>
    obtain ⟨h0, rfl⟩ := hn rfl
    obtain rfl : zs = [] := List.eq_nil_of_length_eq_zero h0
    go_enter Tryd.func86, Tryd.ntmps86
    go_wp2
    go_ret
    exact ⟨none, 0, rfl, World.ownsRow_nil _ _ _ _, Below.refl _ _⟩
  | some x =>
    obtain ⟨i0, hi, hz0, hz1, hz2⟩ := info_parts Tryd.info_u8
    have HL : Hid (Lies .u8 w (some x) zs) := hl
    clear hl hn
    have hown : (w.alloc (.cells #[] 5 (0, 0))).ownsRow w.heap.size 5 1 (.slice (some ⟨w.heap.size, 0, none⟩) 0 0) 0 [] := by
      refine ⟨rfl, .inr ⟨w.heap.size, 0, #[], rfl, Nat.le_refl _, ?_, by omega, by unfold maxLen; omega, rfl, rfl⟩⟩
      exact heap_alloc_new' _ _
    go_enter Tryd.func86, Tryd.ntmps86
    go_wp2_with (at_builtin; refine append_any _ rfl _ _ 25 rfl w.heap.size 5 i0 (.int .u8 0) 1 Tryd.underlying25 hi hz0 hz1 hz2 rfl _ _ _ rfl hown .u8 (some x) zs.length cap zs rfl (fun h => by cases h) rfl (HL.out.below ((Below.refl _ _).alloc (Nat.le_refl _) _)) (by unfold maxLen; omega) (by omega) (by simp) ?_)
    intro v' w1 hown1 hgrow
    have hb : Below w.heap.size w w1 := own_grown ((Below.refl _ _).alloc (Nat.le_refl _) _) hgrow hown (by simp)
    have HO : Hid (w1.ownsRow w.heap.size 5 1 v' zs.length (zs.map (Value.int .u8))) := hown1
    clear hown1 hgrow hown
    obtain ⟨av, cv, rfl⟩ := own_shape HO.out
    go_wp2
    go_ret
    exact ⟨av, cv, rfl, HO.out, hb⟩

/-- What 'row' answers: new memory, with the bytes that it read. -/
def RowAt (b : Nat) (a : Option Addr) (len cap : Nat) (zs : List Int) (st : St) (tl : List Value) (n : Int) (w : World) (e : Ending) (w' : World) : Prop :=
  ∃ a' c d st', e = .returned (.slice a' d.length c) ∧ w'.ownsRow w.heap.size 5 1 (.slice a' d.length c) d.length (d.map (Value.int .u8)) ∧ d.length ≤ 70000 ∧ Bytey d ∧ At w' b a len cap zs st' tl ∧ w.grownBy w' (some b) ∧ Step zs (rowp n) st d st'

theorem below_grown {w w' : World} {b : Nat} (h : Below w.heap.size w w') : w.grownBy w' (some b) := ⟨h.os, h.tape, h.output, h.size, fun k hk _ => h.block k hk⟩

theorem take_lies {k : IntKind} {w : World} {a : Option Addr} {zs : List Int} (h : Lies k w a zs) (m : Nat) : Lies k w a (zs.take m) := by
  rcases h with rfl | ⟨g, off, rfl, h⟩
  · exact .inl (by simp)
  · refine .inr ⟨g, off, rfl, fun i hi => ?_⟩
    have hi' : i < m ∧ i < zs.length := by simp at hi; omega
    rw [h i hi'.2]
    simp [List.getD_eq_getElem?_getD, hi'.1]

set_option maxHeartbeats 1000000 in
theorem row_at {b len cap : Nat} {a : Option Addr} {zs : List Int} {st : St} {tl : List Value} {w : World} (n : Int) (hn0 : 0 ≤ n) (hn1 : n ≤ 65536) (h : At w b a len cap zs st tl) :
    Calls Tryd.prog 82 #[.pointer (some ⟨b, 0, none⟩), .int .i64 n] w (RowAt b a len cap zs st tl n w) := by
  have HC : Hid (At w b a len cap zs st tl) := h
  have c1 := h.cur.c1
  have z1 := h.cur.fz 1
  have hsm := h.src.small
  have hp := h.place
  clear h
  obtain ⟨m, rfl⟩ : ∃ m : Nat, n = m := ⟨n.toNat, by omega⟩
  go_enter Tryd.func82, Tryd.ntmps82
  go_wp2_with fail
  refine (rest_any b len cap a st tl zs _ HC.out.cur HC.out.src hp).mono ?_
  rintro e w' ⟨a', c, k, rfl, rfl, hlies, hnil, hlc, hcm, hap⟩
  by_cases h0 : (left zs st).length < m
  · have h0' : ((left zs st).length : Int) < (m : Int) := by omega
    have HL : Hid (st.1 = 0 → rowp m (zs.drop st.2) = .bad 20) := fun hf => by
      have : left zs st = zs.drop st.2 := by unfold left; rw [if_pos hf]
      unfold rowp; rw [← this, if_pos h0']
    clear hlies hnil hlc hcm hap h0
    go_wp2_with fail
    refine (fail_any b len cap a st tl _ _ (cur_drewN HC.out.cur k)).mono ?_
    rintro e w' ⟨rfl, hcur, hg, _⟩
    go_wp2
    go_ret
    have hr := ran_fault (w := w) (zs := zs) ([] : List Int) (by omega) HC.out.errs hp HL.out hcur (grown_trans (grown_drewN _ _ _) hg)
    exact ⟨none, 0, [], _, rfl, World.ownsRow_nil _ _ _ _, by simp, (fun z hz => by cases hz), HC.out.ran hr, hr.grown, hr.step⟩
  · have h0' : ¬ ((left zs st).length : Int) < (m : Int) := by omega
    have hmc : (m : Int) ≤ (c : Int) := by omega
    have hm2 : (m : Int) ≤ 9223372036854775807 := by omega
    have hk2 : (st.2 : Int) ≤ 8192 := by omega
    have hml : (left zs st).length ≤ 8192 := by
      have h9 : zs.length = len := HC.out.src.length
      unfold left; split <;> simp; omega
    have hby : Bytey ((left zs st).take m) := by
      intro z hz
      have hz := List.mem_of_mem_take hz
      unfold left at hz
      split at hz
      · exact HC.out.src.bytes z (List.mem_of_mem_drop hz)
      · cases hz
    have HBY : Hid (Bytey ((left zs st).take m)) := hby
    have HLen : Hid (((left zs st).take m).length = m) := by unfold Hid; simp; omega
    have HNL : Hid (a' = none → ((left zs st).take m).length = 0 ∧ c = 0) := fun hx => by
      have := hnil hx; have := HLen.out; constructor <;> omega
    have HLI : Hid (Lies .u8 w a' ((left zs st).take m)) := take_lies hlies m
    have hcur2 := (cur_drewN HC.out.cur k).set1 (st.2 + m) (st.2 + (m : Int)) (by omega)
    have hg2 : w.grownBy ((w.drewN k).setCell ⟨b, 1, none⟩ (.int .i64 (st.2 + (m : Int)))) (some b) := grown_trans (grown_drewN _ _ _) (grown_set _ _ _ _)
    have HR : Hid (Ran (rowp m) w ((w.drewN k).setCell ⟨b, 1, none⟩ (.int .i64 (st.2 + (m : Int)))) b a len cap zs st tl ((left zs st).take m) (st.1, st.2 + m)) := by
      have hpl : st.1 ≠ 0 → m = 0 := fun hf => by
        have : left zs st = [] := by unfold left; rw [if_neg hf]
        rw [this] at h0; simp at h0; omega
      have hple : st.2 + m ≤ len := by
        by_cases hf : st.1 = 0
        · have : left zs st = zs.drop st.2 := by unfold left; rw [if_pos hf]
          have h9 : zs.length = len := HC.out.src.length
          rw [this] at h0; simp at h0; omega
        · have := hpl hf; omega
      refine ⟨hcur2, hg2, ?_, hple, HC.out.errs, fun hf => by rw [hpl hf]; rfl⟩
      by_cases hf : st.1 = 0
      · have : left zs st = zs.drop st.2 := by unfold left; rw [if_pos hf]
        rw [hf]
        refine Step.good _ _ hf ?_
        rw [this] at h0 h0' ⊢
        unfold rowp
        rw [if_neg h0']; simp
      · rw [hpl hf]; exact Step.bad _ hf
    clear hcur2 hg2 hnil hlc hby
    have HAP : Hid ((left zs st).take m ≠ [] → ∀ x, a' = some x → x.block < b) := fun hz => hap (fun h => hz (by rw [h]; simp))
    clear hap hlies
    have hle := HLen.out
    generalize (left zs st).take m = d at *
    subst hle
    clear HLen
    cases a' with
    | none =>
      have hz := HNL.out rfl
      obtain rfl : d = [] := List.eq_nil_of_length_eq_zero hz.1
      obtain ⟨_, rfl⟩ := hz
      clear HLI HNL HAP
      go_wp2_with fail
      refine (clone_any none [] 0 _ (by simp) (.inl rfl) (fun _ => ⟨rfl, rfl⟩)).mono ?_
      rintro e w2 ⟨a2, c2, rfl, hown, hb2⟩
      have HO : Hid (w2.ownsRow w.heap.size 5 1 (.slice a2 0 c2) 0 []) := by
        have h := hown
        rw [show ((w.drewN k).setCell ⟨b, 1, none⟩ (.int .i64 (st.2 : Int))).heap.size = w.heap.size from by simp [World.setCell]] at h
        exact h
      have HB2 : Hid (Below ((w.drewN k).setCell ⟨b, 1, none⟩ (.int .i64 (st.2 : Int))).heap.size ((w.drewN k).setCell ⟨b, 1, none⟩ (.int .i64 (st.2 : Int))) w2) := hb2
      clear hown hb2
      go_wp2
      go_ret
      have hat := HC.out.ran HR.out
      simp only [List.length_nil, Int.natCast_zero, Int.add_zero] at hat
      refine ⟨a2, c2, [], _, rfl, HO.out, by simp, HBY.out, hat.other HB2.out, ?_, HR.out.step⟩
      have hg := HR.out.grown
      simp only [List.length_nil, Int.natCast_zero, Int.add_zero] at hg
      exact grown_trans hg (below_grown HB2.out)
    | some x =>
      have hxl : Lies .u8 ((w.drewN k).setCell ⟨b, 1, none⟩ (.int .i64 (st.2 + (d.length : Int)))) (some x) d := lies_grown HLI.out HR.out.grown (fun hz y hy hb' => by have := HAP.out hz y hy; simp at hb'; omega)
      have HX : Hid (Lies .u8 ((w.drewN k).setCell ⟨b, 1, none⟩ (.int .i64 (st.2 + (d.length : Int)))) (some x) d) := hxl
      clear HLI HNL HAP hxl
      go_wp2_with fail
      refine (clone_any (some x) d c _ (by omega) HX.out (fun h => by cases h)).mono ?_
      rintro e w2 ⟨a2, c2, rfl, hown, hb2⟩
      have HO : Hid (w2.ownsRow w.heap.size 5 1 (.slice a2 d.length c2) d.length (d.map (Value.int .u8))) := by
        have h := hown
        rw [show ((w.drewN k).setCell ⟨b, 1, none⟩ (.int .i64 (st.2 + (d.length : Int)))).heap.size = w.heap.size from by simp [World.setCell]] at h
        exact h
      clear hown
      go_wp2
      go_ret
      have hat := HC.out.ran HR.out
      exact ⟨a2, c2, d, _, rfl, HO.out, by omega, HBY.out, hat.other hb2, grown_trans HR.out.grown (below_grown hb2), HR.out.step⟩

end Go.Proofs.YtnfbfdngdkkffabDoor
