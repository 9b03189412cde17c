import Derived.Test.YtjolflpmeodnaagDoorRcLnd
import Derived.Deep.CutRange
namespace Go.Proofs.YtjolflpmeodnaagDoor
open Go.RowKit
set_option linter.unusedVariables false
set_option linter.unusedSimpArgs false

/-- What a record that can't be read panics with. -/
abbrev pcV : List PanicEntry := [{ v := .iface 29 (.int .i64 61), recovered := false }]
theorem must_ok (w : World) : Calls Tryd.prog 42 #[.bool true] w fun e w' => (∃ v, e = .returned v) ∧ w = w' := by
  go_enter Tryd.func42, Tryd.ntmps42
  go_wp2
  go_end0
  exact ⟨⟨_, rfl⟩, rfl⟩
theorem must_no (w : World) : Calls Tryd.prog 42 #[.bool false] w fun e w' => e = .panicked pcV ∧ w = w' := by
  go_enter Tryd.func42, Tryd.ntmps42
  go_wp2
  exact ⟨rfl, rfl, rfl⟩

/-- A reader: what is left to it lies in block g. -/
structure RdS (W : World) (rb g : Nat) (zs : List Int) : Prop where
  ex : ∃ off n c, W.heap[rb]? = some (.cells #[.slice (some ⟨g, off, none⟩) n c] 84) ∧ zs.length = n ∧ n ≤ c ∧ (n ≤ 140737488355328 ∧ c ≤ 9223372036854775807) ∧ ∀ i, i < zs.length → W.cell? ⟨g, off + i, none⟩ = some (.int .u8 (zs.getD i 0))
  ne : g ≠ rb

set_option maxRecDepth 100000 in
set_option maxHeartbeats 1000000 in
theorem take_ok (rb g : Nat) (zs : List Int) (k : Nat) (w : World) (h : RdS w rb g zs) (hk : k ≤ zs.length) :
    Calls Tryd.prog 56 #[.pointer (some ⟨rb, 0, none⟩), .int .i64 k] w fun e w' => (∃ off c, e = .returned (.slice (some ⟨g, off, none⟩) k c) ∧ k ≤ c ∧ ∀ i, i < k → w'.cell? ⟨g, off + i, none⟩ = some (.int .u8 (zs.getD i 0))) ∧ RdS w' rb g (zs.drop k) ∧ w.grownBy w' (some rb) := by
  obtain ⟨off, n, c, hh, hn, hnc, hc, hcell⟩ := h.ex
  have hne := h.ne
  have HC : Hid (∀ i, i < zs.length → w.cell? ⟨g, off + i, none⟩ = some (.int .u8 (zs.getD i 0))) := hcell
  have HH : Hid (w.heap[rb]? = some (.cells #[.slice (some ⟨g, off, none⟩) n c] 84)) := hh
  have c0 : w.cell? ⟨rb, 0, none⟩ = some (.slice (some ⟨g, off, none⟩) n c) := cell_of_row _ _ 0 _ _ _ hh
  have f0 : w.frozen? ⟨rb, 0, none⟩ = false := by simp [World.frozen?, hh]
  subst hn
  have hk' : (k : Int) ≤ (zs.length : Int) := by omega
  clear hcell hh h
  by_cases hck : c = k
  · have HS : Hid ((w.setCell ⟨rb, 0, none⟩ (.slice (some ⟨g, off, none⟩) (zs.length - k) (c - k))).heap[rb]? = some (.cells #[.slice (some ⟨g, off, none⟩) (zs.length - k) (c - k)] 84)) := by unfold Hid; simp [World.setCell, Array.getElem?_modify, HH.out]
    have HG : Hid (w.grownBy (w.setCell ⟨rb, 0, none⟩ (.slice (some ⟨g, off, none⟩) (zs.length - k) (c - k))) (some rb)) := grown_set _ _ _ _
    subst hck
    have hzz : zs.length = c := by omega
    go_enter Tryd.func56, Tryd.ntmps56
    go_wp2_with (go_at_call 42; refine (must_ok _).mono ?_; rintro e w1 ⟨⟨v1, rfl⟩, rfl⟩)
    go_ret
    have hgg : ∀ i, (w.setCell ⟨rb, 0, none⟩ (.slice (some ⟨g, off, none⟩) (zs.length - c) (c - c))).cell? ⟨g, i, none⟩ = w.cell? ⟨g, i, none⟩ := fun i => World.cell?_setCell_other _ _ _ _ (by simp [hne])
    refine ⟨⟨off, c, rfl, Nat.le_refl _, fun i hi => ?_⟩, ⟨⟨off, zs.length - c, c - c, ?_, by simp, by omega, by omega, fun i hi => ?_⟩, hne⟩, ?_⟩
    · have h2 := HC.out i (by omega)
      first | exact (hgg _).trans h2 | (simp only [Nat.sub_self, hzz] at *; exact (hgg _).trans h2)
    · first | exact HS.out | (have := HS.out; simp only [Nat.sub_self, hzz] at *; exact this)
    · simp [hzz] at hi
    · first | exact HG.out | (have := HG.out; simp only [Nat.sub_self, hzz] at *; exact this)
  · have HS : Hid ((w.setCell ⟨rb, 0, none⟩ (.slice (some ⟨g, off + k, none⟩) (zs.length - k) (c - k))).heap[rb]? = some (.cells #[.slice (some ⟨g, off + k, none⟩) (zs.length - k) (c - k)] 84)) := by unfold Hid; simp [World.setCell, Array.getElem?_modify, HH.out]
    have HG : Hid (w.grownBy (w.setCell ⟨rb, 0, none⟩ (.slice (some ⟨g, off + k, none⟩) (zs.length - k) (c - k))) (some rb)) := grown_set _ _ _ _
    go_enter Tryd.func56, Tryd.ntmps56
    go_wp2_with (go_at_call 42; refine (must_ok _).mono ?_; rintro e w1 ⟨⟨v1, rfl⟩, rfl⟩)
    go_ret
    have hgg : ∀ i, (w.setCell ⟨rb, 0, none⟩ (.slice (some ⟨g, off + k, none⟩) (zs.length - k) (c - k))).cell? ⟨g, i, none⟩ = w.cell? ⟨g, i, none⟩ := fun i => World.cell?_setCell_other _ _ _ _ (by simp [hne])
    refine ⟨⟨off, c, rfl, by omega, fun i hi => (hgg _).trans (HC.out i (by omega))⟩, ⟨⟨off + k, zs.length - k, c - k, HS.out, by simp, by omega, by omega, fun i hi => ?_⟩, hne⟩, HG.out⟩
    have h1 : i < zs.length - k := by simpa using hi
    rw [hgg, Nat.add_assoc, HC.out (k + i) (by omega), List.getD_eq_getElem?_getD, List.getD_eq_getElem?_getD, List.getElem?_drop]

set_option maxRecDepth 100000 in
set_option maxHeartbeats 1000000 in
theorem take_no (rb g : Nat) (zs : List Int) (k : Int) (w : World) (h : RdS w rb g zs) (hk : ¬ k ≤ zs.length) :
    Calls Tryd.prog 56 #[.pointer (some ⟨rb, 0, none⟩), .int .i64 k] w fun e w' => e = .panicked pcV ∧ w = w' := by
  obtain ⟨off, n, c, hh, hn, hnc, hc, hcell⟩ := h.ex
  have c0 : w.cell? ⟨rb, 0, none⟩ = some (.slice (some ⟨g, off, none⟩) n c) := cell_of_row _ _ 0 _ _ _ hh
  subst hn
  clear hcell hh h
  go_enter Tryd.func56, Tryd.ntmps56
  go_wp2_with (go_at_call 42; refine (must_no _).mono ?_; rintro e w1 ⟨rfl, rfl⟩)
  exact ⟨rfl, rfl, rfl⟩

/-- A number is read. -/
def numP (zs : List Int) : Option (Int × List Int) := if (rd zs).2.2 = 0 ∧ (rd zs).1 ≤ 4611686018427387903 then some ((rd zs).1, zs.drop (rd zs).2.1.toNat) else none
theorem numP_inv {zs t : List Int} {n : Int} (hb : Bytey zs) (h : numP zs = some (n, t)) : (rd zs).2.2 = 0 ∧ (rd zs).1 = n ∧ (rd zs).2.1 = (sz n : Int) ∧ zs = enc n ++ t ∧ t = zs.drop (sz n) ∧ sz n ≤ zs.length ∧ 0 ≤ n ∧ n ≤ 4611686018427387903 := by
  unfold numP at h
  split at h
  · rename_i hc
    simp only [Option.some.injEq, Prod.mk.injEq] at h
    obtain ⟨rfl, rfl⟩ := h
    rcases rd_inv zs hb with ⟨h1, h2, h3, h4, h5, h6⟩ | ⟨h1, _⟩
    · have ht : (rd zs).2.1.toNat = sz (rd zs).1 := by rw [h2]; simp
      rw [ht]
      exact ⟨h1, rfl, h2, by rw [← h4, List.take_append_drop], rfl, h3, h5, hc.2⟩
    · exact absurd hc.1 h1
  · cases h
theorem numP_enc {n : Int} (t : List Int) (h0 : 0 ≤ n) (h1 : n ≤ 4611686018427387903) : numP (enc n ++ t) = some (n, t) := by
  have h := rd_enc n h0 (by omega) t
  unfold numP
  rw [h]
  simp only [true_and, if_pos h1]
  have hl := enc_length n h0 (by omega)
  rw [Int.toNat_natCast, ← hl, List.drop_left]
theorem RdS.lies {W : World} {rb g off n c : Nat} {zs : List Int} (h : ∀ i, i < zs.length → W.cell? ⟨g, off + i, none⟩ = some (.int .u8 (zs.getD i 0))) : Lies .u8 W (some ⟨g, off, none⟩) zs := .inr ⟨g, off, rfl, h⟩

set_option maxRecDepth 100000 in
set_option maxHeartbeats 1000000 in
theorem num_ok (rb g : Nat) (zs t : List Int) (n : Int) (w : World) (h : RdS w rb g zs) (hb : Bytey zs) (hn : numP zs = some (n, t)) :
    Calls Tryd.prog 57 #[.pointer (some ⟨rb, 0, none⟩)] w fun e w' => e = .returned (.int .i64 n) ∧ RdS w' rb g t ∧ w.grownBy w' (some rb) := by
  obtain ⟨h1, h2, h3, h4, h5, h6, h7, h8⟩ := numP_inv hb hn
  have HT := take_ok rb g zs (sz n) w h h6
  obtain ⟨off, m, c, hh, hm, hnc, hc, hcell⟩ := h.ex
  have HR := read_any (some ⟨g, off, none⟩) zs m c w hb hm (by omega) (.inr ⟨g, off, rfl, hcell⟩)
  rw [h1, h2, h3] at HR
  rw [← h5] at HT
  have c0 : w.cell? ⟨rb, 0, none⟩ = some (.slice (some ⟨g, off, none⟩) m c) := cell_of_row _ _ 0 _ _ _ hh
  have HHT : Hid (Calls Tryd.prog 56 #[.pointer (some ⟨rb, 0, none⟩), .int .i64 (sz n)] w fun e w' => (∃ off c, e = .returned (.slice (some ⟨g, off, none⟩) (sz n) c) ∧ (sz n) ≤ c ∧ ∀ i, i < sz n → w'.cell? ⟨g, off + i, none⟩ = some (.int .u8 (zs.getD i 0))) ∧ RdS w' rb g t ∧ w.grownBy w' (some rb)) := HT
  have HHR : Hid (Calls Tryd.prog 72 #[.slice (some ⟨g, off, none⟩) m c] w fun e w' => e = .returned (.tuple #[.int .u64 n, .int .i64 (sz n), .int .i64 0]) ∧ w = w') := HR
  have hw : IntKind.i64.wrap n = n := by rw [IntKind.wrap_i64]; omega
  clear hh hcell h HT HR h1 h2 h3 h4 h5 h6 hn hb
  go_enter Tryd.func57, Tryd.ntmps57
  go_wp2_with (first | (go_at_call 72; refine HHR.out.mono ?_; rintro e w1 ⟨rfl, rfl⟩) | (go_at_call 42; refine (must_ok _).mono ?_; rintro e w1 ⟨⟨v1, rfl⟩, rfl⟩) | (go_at_call 56; refine HHT.out.mono ?_; rintro e w2 ⟨⟨off2, c2, rfl, _, _⟩, hr2, hg2⟩))
  go_ret
  exact ⟨rfl, hr2, hg2⟩

set_option maxRecDepth 100000 in
set_option maxHeartbeats 1000000 in
theorem num_no (rb g : Nat) (zs : List Int) (w : World) (h : RdS w rb g zs) (hb : Bytey zs) (hn : numP zs = none) :
    Calls Tryd.prog 57 #[.pointer (some ⟨rb, 0, none⟩)] w fun e w' => e = .panicked pcV ∧ w = w' := by
  obtain ⟨off, m, c, hh, hm, hnc, hc, hcell⟩ := h.ex
  have HR := read_any (some ⟨g, off, none⟩) zs m c w hb hm (by omega) (.inr ⟨g, off, rfl, hcell⟩)
  have c0 : w.cell? ⟨rb, 0, none⟩ = some (.slice (some ⟨g, off, none⟩) m c) := cell_of_row _ _ 0 _ _ _ hh
  have hcs : ¬ ((rd zs).2.2 = 0 ∧ (rd zs).1 ≤ 4611686018427387903) := fun h => by unfold numP at hn; rw [if_pos h] at hn; cases hn
  generalize rd zs = q at *
  obtain ⟨q1, q2, q3⟩ := q
  simp only at hcs HR
  have HHR : Hid (Calls Tryd.prog 72 #[.slice (some ⟨g, off, none⟩) m c] w fun e w' => e = .returned (.tuple #[.int .u64 q1, .int .i64 q2, .int .i64 q3]) ∧ w = w') := HR
  clear hh hcell h HR hn hb
  by_cases h0 : q3 = 0
  · subst h0
    have h1 : decide (q1 ≤ 4611686018427387903) = false := decide_eq_false (fun h => hcs ⟨rfl, h⟩)
    clear hcs
    go_enter Tryd.func57, Tryd.ntmps57
    go_wp2_with (first | (go_at_call 72; refine HHR.out.mono ?_; rintro e w1 ⟨rfl, rfl⟩) | (go_at_call 42; refine (must_no _).mono ?_; rintro e w1 ⟨rfl, rfl⟩))
    exact ⟨rfl, rfl, rfl⟩
  · clear hcs
    go_enter Tryd.func57, Tryd.ntmps57
    go_wp2_with (first | (go_at_call 72; refine HHR.out.mono ?_; rintro e w1 ⟨rfl, rfl⟩) | (go_at_call 42; refine (must_no _).mono ?_; rintro e w1 ⟨rfl, rfl⟩))
    exact ⟨rfl, rfl, rfl⟩
end Go.Proofs.YtjolflpmeodnaagDoor
