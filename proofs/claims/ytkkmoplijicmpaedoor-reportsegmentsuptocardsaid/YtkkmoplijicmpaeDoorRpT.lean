import Derived.Test.YtkkmoplijicmpaeDoorRpF
import Derived.Test.YtkkmoplijicmpaeDoorAll
import Derived.Laws.EntriesVeiled
import Derived.Deep.LoopGhost
namespace Go.Proofs.YtkkmoplijicmpaeDoor
open Go.RowKit
set_option linter.unusedVariables false
set_option linter.unusedSimpArgs false

theorem jn2_len5 (a b : Int) (ha : 0 ≤ a ∧ a ≤ 18446744073709551615) (hb : 0 ≤ b ∧ b ≤ 18446744073709551615) : (jn [a, b]).length = sz a + sz b := by
  simp only [jn, List.flatMap_cons, List.flatMap_nil, List.length_append, List.length_nil, enc_length a ha.1 ha.2, enc_length b hb.1 hb.2]; omega
theorem btw_t5 {n lo hi : Int} (h1 : lo ≤ n) (h2 : n ≤ hi) : btw n lo hi = true := by simp [btw, h1, h2]
theorem alw_t5 {p n s lo hi : Int} (ha : anyB p s = true) (h1 : lo ≤ n) (h2 : n ≤ hi) : alw p n s lo hi = true := by unfold alw; rw [ha]; exact btw_t5 h1 h2
theorem alw_f5 {p n s lo hi : Int} (ha : anyB p s = false) (h : n = 0) : alw p n s lo hi = true := by unfold alw; rw [ha]; simp [h]
theorem sz_small5 (n : Int) (h0 : 0 ≤ n) (h1 : n ≤ 65536) : 1 ≤ sz n ∧ sz n ≤ 3 := by
  have h := sz_bounds n h0 (by omega)
  refine ⟨h.1, ?_⟩
  have m := sz_mono n 65536 h0 h1 (by omega)
  have : sz 65536 = 3 := by decide +kernel
  omega
/-! ## What Make answers: numbers and lists alone -/
/-- What all reports of one question share. -/
structure Qu where
  org : Int
  num : Int
  mtu : Int
  chk : Int
  upp : Int
structure Qu.Ok (k : Qu) : Prop where
  org : 1 ≤ k.org ∧ k.org ≤ 4611686018427387903
  num : 1 ≤ k.num ∧ k.num ≤ 4611686018427387902
  mtu : 80 ≤ k.mtu ∧ k.mtu ≤ 4096
  chk : 0 ≤ k.chk ∧ k.chk ≤ 4611686018427387903
  upp : k.upp ≤ 65536
/-- A report. -/
structure Rr where
  ser : Int
  chk : Int
  upp : Int
  low : Int
  clm : List (Int × Int)
def upA (up : Int) (l : List (Int × Int)) (n : Nat) : Int := ((l[n]?).map Prod.fst).getD up
def sg5 (k : Qu) (r : Rr) : Sg := rpS k.org k.num r.ser r.chk r.upp r.low r.clm
def rep5 (k : Qu) (lo sr : Int) (l : List (Int × Int)) (n : Nat) : Rr := ⟨sr, k.chk, upA k.upp l n, lo, l.take n⟩
def fit5 (k : Qu) (lo sr : Int) (l : List (Int × Int)) (n : Nat) : Bool := fitR k.mtu (sg5 k (rep5 k lo sr l n))
/-- The greatest number with which it fits, one after another. -/
def cn5 (fit : Nat → Bool) (N : Nat) : Nat → Nat → Nat
  | 0, i => i
  | f + 1, i => if i < N ∧ fit (i + 1) = true then cn5 fit N f (i + 1) else i
structure NR (fit : Nat → Bool) (N n : Nat) : Prop where
  le : n ≤ N
  all : ∀ i, i < n → fit (i + 1) = true
  stop : n < N → fit (n + 1) = false
theorem NR.go {fit : Nat → Bool} {N n : Nat} (h : NR fit N n) : ∀ (f i : Nat), i ≤ n → N ≤ f + i → cn5 fit N f i = n
  | 0, i, h1, h2 => by have := h.le; unfold cn5; omega
  | f + 1, i, h1, h2 => by
    unfold cn5
    by_cases e : i < n
    · rw [if_pos ⟨by have := h.le; omega, h.all i e⟩]
      exact NR.go h f (i + 1) (by omega) (by omega)
    · obtain rfl : i = n := by omega
      rw [if_neg]
      intro q
      have := h.stop q.1
      rw [this] at q
      exact absurd q.2 (by decide)
theorem NR.eq {fit : Nat → Bool} {N n : Nat} (h : NR fit N n) : n = cn5 fit N N 0 := (NR.go h N 0 (Nat.zero_le _) (by omega)).symm
def nm5 (k : Qu) (lo sr : Int) (l : List (Int × Int)) : Nat := cn5 (fit5 k lo sr l) (min l.length 1000) (min l.length 1000) 0
/-- The reports; none, if a serial would be too great. -/
def dl5 (k : Qu) : Nat → Int → Int → List (Int × Int) → Option (List Rr)
  | 0, _, _, _ => none
  | f + 1, lo, sr, l => if l = [] then some [] else if 4611686018427387903 < sr then none else
      (dl5 k f (upA k.upp l (nm5 k lo sr l)) (sr + 1) (l.drop (nm5 k lo sr l))).map (rep5 k lo sr l (nm5 k lo sr l) :: ·)

theorem clOk_up : ∀ {l : List (Int × Int)} {up a : Int} (n : Nat), clOk up (a + 1) l = true → a ≤ up → a ≤ upA up l n
  | [], up, a, n, h, h1 => by simpa [upA] using h1
  | p :: r, up, a, 0, h, h1 => by
    simp only [clOk, Bool.and_eq_true, decide_eq_true_eq] at h
    simp [upA]; omega
  | p :: r, up, a, n + 1, h, h1 => by
    simp only [clOk, Bool.and_eq_true, decide_eq_true_eq] at h
    have := clOk_up (l := r) (a := p.2) n h.2.2.2 h.2.2.1
    simp only [upA, List.getElem?_cons_succ] at this ⊢
    omega
theorem clOk_take : ∀ {l : List (Int × Int)} {up lo : Int} (n : Nat), clOk up lo l = true → clOk (upA up l n) lo (l.take n) = true
  | [], up, lo, n, h => by simp [clOk]
  | p :: r, up, lo, 0, h => by simp [clOk]
  | p :: r, up, lo, n + 1, h => by
    simp only [clOk, Bool.and_eq_true, decide_eq_true_eq] at h
    have h1 := clOk_take (l := r) (lo := p.2 + 1) n h.2.2.2
    have h2 := clOk_up (l := r) (a := p.2) n h.2.2.2 h.2.2.1
    simp only [List.take_succ_cons, clOk, Bool.and_eq_true, decide_eq_true_eq]
    refine ⟨h.1, h.2.1, ?_, ?_⟩
    · simpa [upA] using h2
    · simpa [upA] using h1
theorem clOk_drop : ∀ {l : List (Int × Int)} {up lo : Int} (n : Nat), clOk up lo l = true → clOk up (upA up l n) (l.drop n) = true
  | [], up, lo, n, h => by simp [clOk]
  | p :: r, up, lo, 0, h => by
    simp only [clOk, Bool.and_eq_true, decide_eq_true_eq] at h
    simp only [List.drop_zero, clOk, Bool.and_eq_true, decide_eq_true_eq]
    exact ⟨by simp [upA], h.2⟩
  | p :: r, up, lo, n + 1, h => by
    simp only [clOk, Bool.and_eq_true, decide_eq_true_eq] at h
    have := clOk_drop (l := r) n h.2.2.2
    simpa [upA] using this
theorem clOk_low : ∀ {l : List (Int × Int)} {up lo : Int} (n : Nat), clOk up lo l = true → l ≠ [] → lo < up ∧ (1 ≤ n → lo < upA up l n) ∧ upA up l n ≤ up
  | [], up, lo, n, h, h0 => absurd rfl h0
  | p :: r, up, lo, n, h, h0 => by
    simp only [clOk, Bool.and_eq_true, decide_eq_true_eq] at h
    refine ⟨by omega, fun hn => ?_, ?_⟩
    · obtain ⟨m, rfl⟩ : ∃ m, n = m + 1 := ⟨n - 1, by omega⟩
      have h2 := clOk_up (l := r) (a := p.2) m h.2.2.2 h.2.2.1
      simp only [upA, List.getElem?_cons_succ] at h2 ⊢
      omega
    · cases n with
      | zero => simp [upA]; omega
      | succ m =>
        by_cases hr : r = []
        · subst hr; simp [upA]
        · have := (clOk_low (l := r) m h.2.2.2 hr).2.2
          simpa [upA] using this
theorem upA_mono {l : List (Int × Int)} {up lo : Int} (n : Nat) (h : clOk up lo l = true) (hn : n < l.length) : upA up l n ≤ upA up l (n + 1) := by
  have h1 := clOk_drop n h
  have hne : l.drop n ≠ [] := fun e => by have := congrArg List.length e; simp at this; omega
  have h2 := (clOk_low (l := l.drop n) 1 h1 hne).2.1 (Nat.le_refl _)
  have e2 : upA up (l.drop n) 1 = upA up l (n + 1) := by simp [upA]
  rw [e2] at h2
  omega

/-! How many bytes a report's segment has. -/
def lc5 (lo : Int) : List (Int × Int) → Nat
  | [] => 0
  | p :: r => sz (p.1 - lo) + sz (p.2 - p.1) + lc5 lo r
theorem lc5_append (lo : Int) : ∀ (a b : List (Int × Int)), lc5 lo (a ++ b) = lc5 lo a + lc5 lo b
  | [], b => by simp [lc5]
  | p :: a, b => by simp [lc5, lc5_append lo a b]; omega
theorem clmB_len5 {lo up : Int} (h0 : 0 ≤ lo) (hu : up ≤ 65536) : ∀ {cl : List (Int × Int)} (a : Int), lo ≤ a → clOk up a cl = true → (clmB lo cl).length = lc5 lo cl ∧ lc5 lo cl ≤ 6 * cl.length
  | [], a, h1, h2 => by simp [clmB, lc5]
  | p :: r, a, h1, h2 => by
    simp only [clOk, Bool.and_eq_true, decide_eq_true_eq] at h2
    obtain ⟨e1, e2⟩ := clmB_len5 h0 hu (cl := r) (p.2 + 1) (by omega) h2.2.2.2
    have e3 := jn2_len5 (p.1 - lo) (p.2 - p.1) ⟨by omega, by omega⟩ ⟨by omega, by omega⟩
    have s1 := sz_small5 (p.1 - lo) (by omega) (by omega)
    have s2 := sz_small5 (p.2 - p.1) (by omega) (by omega)
    have e4 : (clmB lo (p :: r)).length = (jn [p.1 - lo, p.2 - p.1]).length + (clmB lo r).length := by unfold clmB; rw [List.flatMap_cons, List.length_append]
    have e5 : lc5 lo (p :: r) = sz (p.1 - lo) + sz (p.2 - p.1) + lc5 lo r := rfl
    rw [e4, e5, e1, e3, List.length_cons]
    omega
def ln5 (k : Qu) (r : Rr) : Nat := 2 + sz k.org + sz k.num + sz r.ser + sz r.chk + sz r.upp + sz r.low + sz r.clm.length + lc5 r.low r.clm
/-- A report may be. -/
structure Rr.Ok (r : Rr) : Prop where
  ser : 1 ≤ r.ser ∧ r.ser ≤ 4611686018427387903
  chk : 0 ≤ r.chk ∧ r.chk ≤ 4611686018427387903
  low : 0 ≤ r.low
  mid : r.low < r.upp
  upp : r.upp ≤ 65536
  some : 1 ≤ r.clm.length
  few : r.clm.length ≤ 1000
  cls : clOk r.upp r.low r.clm = true
theorem jn5_len (a b c d f : Int) (ha : 0 ≤ a ∧ a ≤ 18446744073709551615) (hb : 0 ≤ b ∧ b ≤ 18446744073709551615) (hc : 0 ≤ c ∧ c ≤ 18446744073709551615) (hd : 0 ≤ d ∧ d ≤ 18446744073709551615) (hf : 0 ≤ f ∧ f ≤ 18446744073709551615) : (jn [a, b, c, d, f]).length = sz a + sz b + sz c + sz d + sz f := by
  simp only [jn, List.flatMap_cons, List.flatMap_nil, List.length_append, List.length_nil, enc_length a ha.1 ha.2, enc_length b hb.1 hb.2, enc_length c hc.1 hc.2, enc_length d hd.1 hd.2, enc_length f hf.1 hf.2]; omega
theorem lay5_len {k : Qu} (ok : k.Ok) {r : Rr} (hr : r.Ok) : (layB (shp (sg5 k r).typ) (sg5 k r)).length = ln5 k r ∧ ln5 k r ≤ 8192 := by
  have o1 := ok.org; have o2 := ok.num
  have r1 := hr.ser; have r2 := hr.chk; have r3 := hr.low; have r4 := hr.mid; have r5 := hr.upp; have r6 := hr.some; have r7 := hr.few
  have e1 := jn2_len5 k.org k.num ⟨by omega, by omega⟩ ⟨by omega, by omega⟩
  have e2 := jn5_len r.ser r.chk r.upp r.low r.clm.length ⟨by omega, by omega⟩ ⟨by omega, by omega⟩ ⟨by omega, by omega⟩ ⟨by omega, by omega⟩ ⟨by omega, by omega⟩
  obtain ⟨e3, e4⟩ := clmB_len5 r3 r5 r.low (Int.le_refl _) hr.cls
  have s1 := sz62r (n := k.org) (by omega) (by omega)
  have s2 := sz62r (n := k.num) (by omega) (by omega)
  have s3 := sz62r (n := r.ser) (by omega) (by omega)
  have s4 := sz62r (n := r.chk) (by omega) (by omega)
  have s5 := sz_small5 r.upp (by omega) (by omega)
  have s6 := sz_small5 r.low (by omega) (by omega)
  have s7 := sz_small5 r.clm.length (by omega) (by omega)
  have hsh : shp (sg5 k r).typ = 9 := by show shp 8 = 9; decide
  rw [hsh]
  constructor
  · simp only [layB, sg5, rpS, conB, repB, encXs, List.flatMap_nil, List.length_cons, List.length_append, List.length_nil, List.nil_append, e1, e2, e3, ln5]
    simp only [show ¬ ((9 : Int) = 3 ∨ (9 : Int) = 7) by omega, if_false, if_true, List.length_append, e2, e3]
    omega
  · unfold ln5; omega
theorem may5 {k : Qu} (ok : k.Ok) {r : Rr} (hr : r.Ok) : may (shp (sg5 k r).typ) (sg5 k r) [] [] = true := by
  have hsh : shp (sg5 k r).typ = 9 := by show shp 8 = 9; decide
  have r1 := hr.ser; have r2 := hr.chk; have r3 := hr.low; have r4 := hr.mid; have r5 := hr.upp; have r6 := hr.some; have r7 := hr.few
  rw [hsh]
  unfold may
  simp only [Bool.and_eq_true]
  refine ⟨btw_t5 ok.org.1 ok.org.2, btw_t5 ok.num.1 ok.num.2, rfl, rfl, alw_f5 (by decide) rfl, alw_f5 (by decide) rfl, alw_f5 (by decide) rfl, alw_t5 (by decide) ?_ r2.2, alw_t5 (by decide) ?_ r1.2, alw_t5 (by decide) (by show (1 : Int) ≤ r.upp; omega) r5, alw_t5 (by decide) r3 (by show r.low ≤ r.upp - 1; omega), alw_t5 (by decide) (by show (1 : Int) ≤ (r.clm.length : Int); omega) (by show (r.clm.length : Int) ≤ 1000; omega), hr.cls, alw_f5 (by decide) rfl⟩
  · rw [show one (anyB 9 4) = 0 from by decide]; exact r2.1
  · rw [show one (anyB 9 24) = 1 from by decide]; exact r1.1
theorem prt5 {k : Qu} (ok : k.Ok) {r : Rr} (hr : r.Ok) : (prt (sg5 k r) [] []).1 = 0 ∧ (prt (sg5 k r) [] []).2.length = ln5 k r := by
  obtain ⟨hl, hb⟩ := lay5_len ok hr
  have hm := may5 ok hr
  have ho : shp (sg5 k r).typ % 2 = 1 := by show shp 8 % 2 = 1; decide
  have he : prt (sg5 k r) [] [] = (0, layB (shp (sg5 k r).typ) (sg5 k r)) := by
    unfold prt
    rw [if_neg (by omega), hm, if_neg (by simp), if_neg (by omega)]
  rw [he]
  exact ⟨rfl, hl⟩
theorem fit_iff {k : Qu} (ok : k.Ok) {r : Rr} (hr : r.Ok) : fitR k.mtu (sg5 k r) = true ↔ (ln5 k r : Int) ≤ k.mtu := by
  obtain ⟨h1, h2⟩ := prt5 ok hr
  unfold fitR
  rw [h1, h2]
  simp

/-- What is asked of a report that begins. -/
structure Bg (k : Qu) (lo sr : Int) (l : List (Int × Int)) : Prop where
  low : 0 ≤ lo
  ser : 1 ≤ sr
  cls : clOk k.upp lo l = true
theorem rep_ok {k : Qu} (ok : k.Ok) {lo sr : Int} {l : List (Int × Int)} (h : Bg k lo sr l) (hs : sr ≤ 4611686018427387903) {n : Nat} (h1 : 1 ≤ n) (h2 : n ≤ l.length) (h3 : n ≤ 1000) : (rep5 k lo sr l n).Ok := by
  have hne : l ≠ [] := fun e => by subst e; simp at h2; omega
  obtain ⟨q1, q2, q3⟩ := clOk_low n h.cls hne
  have := ok.upp
  exact ⟨⟨h.ser, hs⟩, ok.chk, h.low, q2 h1, by show upA k.upp l n ≤ 65536; omega, by show 1 ≤ (l.take n).length; simp; omega, by show (l.take n).length ≤ 1000; simp; omega, clOk_take n h.cls⟩
theorem ln_mono {k : Qu} (ok : k.Ok) {lo sr : Int} {l : List (Int × Int)} (h : Bg k lo sr l) {n : Nat} (h1 : 1 ≤ n) (h2 : n + 1 ≤ l.length) (h3 : n + 1 ≤ 1000) : ln5 k (rep5 k lo sr l n) ≤ ln5 k (rep5 k lo sr l (n + 1)) := by
  have hne : l ≠ [] := fun e => by subst e; simp at h2
  have u1 := upA_mono n h.cls (by omega)
  obtain ⟨q1, q2, q3⟩ := clOk_low n h.cls hne
  obtain ⟨q4, q5, q6⟩ := clOk_low (n + 1) h.cls hne
  have := ok.upp; have := h.low; have := q2 h1
  have m1 := sz_mono (upA k.upp l n) (upA k.upp l (n + 1)) (by omega) u1 (by omega)
  have m2 := sz_mono (n : Int) ((n + 1 : Nat) : Int) (by omega) (by omega) (by omega)
  have e1 : (l.take n).length = n := by simp; omega
  have e2 : (l.take (n + 1)).length = n + 1 := by simp; omega
  have e3 : lc5 lo (l.take n) ≤ lc5 lo (l.take (n + 1)) := by
    rw [List.take_add_one, lc5_append]; omega
  unfold ln5
  simp only [rep5, e1, e2]
  omega
theorem ln_one {k : Qu} (ok : k.Ok) {lo sr : Int} {l : List (Int × Int)} (h : Bg k lo sr l) (hs : sr ≤ 4611686018427387903) (hne : l ≠ []) : (ln5 k (rep5 k lo sr l 1) : Int) ≤ k.mtu := by
  have hl : 1 ≤ l.length := List.length_pos_iff.mpr hne
  have hr := rep_ok ok h hs (Nat.le_refl _) hl (by omega)
  have r1 := hr.ser; have r2 := hr.chk; have r3 := hr.low; have r4 := hr.mid; have r5 := hr.upp
  obtain ⟨e3, e4⟩ := clmB_len5 r3 r5 (rep5 k lo sr l 1).low (Int.le_refl _) hr.cls
  have e5 : (rep5 k lo sr l 1).clm.length = 1 := by show (l.take 1).length = 1; simp; omega
  have o1 := ok.org; have o2 := ok.num; have o3 := ok.mtu
  have s1 := sz62r (n := k.org) (by omega) (by omega)
  have s2 := sz62r (n := k.num) (by omega) (by omega)
  have s3 := sz62r (n := (rep5 k lo sr l 1).ser) (by omega) (by omega)
  have s4 := sz62r (n := (rep5 k lo sr l 1).chk) (by omega) (by omega)
  have s5 := sz_small5 (rep5 k lo sr l 1).upp (by omega) (by omega)
  have s6 := sz_small5 (rep5 k lo sr l 1).low (by omega) (by omega)
  have s7 := sz_small5 ((rep5 k lo sr l 1).clm.length : Int) (by omega) (by omega)
  unfold ln5
  omega
theorem fit_one {k : Qu} (ok : k.Ok) {lo sr : Int} {l : List (Int × Int)} (h : Bg k lo sr l) (hs : sr ≤ 4611686018427387903) (hne : l ≠ []) : fit5 k lo sr l 1 = true :=
  (fit_iff ok (rep_ok ok h hs (Nat.le_refl _) (List.length_pos_iff.mpr hne) (by omega))).mpr (ln_one ok h hs hne)
theorem fit_down {k : Qu} (ok : k.Ok) {lo sr : Int} {l : List (Int × Int)} (h : Bg k lo sr l) (hs : sr ≤ 4611686018427387903) : ∀ (d n : Nat), 1 ≤ n → n + d ≤ min l.length 1000 → fit5 k lo sr l (n + d) = true → fit5 k lo sr l n = true
  | 0, n, _, _, hf => hf
  | d + 1, n, h1, h2, hf => by
    have h3 := fit_down ok h hs d (n + 1) (by omega) (by omega) (by rw [show n + 1 + d = n + (d + 1) by omega]; exact hf)
    unfold fit5 at h3 ⊢
    rw [fit_iff ok (rep_ok ok h hs (by omega) (by omega) (by omega))] at h3 ⊢
    have := ln_mono ok h h1 (by omega) (by omega)
    omega
/-- What sort.Search is asked rises. -/
theorem fit_search {k : Qu} (ok : k.Ok) {lo sr : Int} {l : List (Int × Int)} (h : Bg k lo sr l) (hs : sr ≤ 4611686018427387903) : ∀ a b, a ≤ b → b < min l.length 1000 → (!fit5 k lo sr l (a + 1)) = true → (!fit5 k lo sr l (b + 1)) = true := by
  intro a b h1 h2 h3
  cases hb : fit5 k lo sr l (b + 1) with
  | false => rfl
  | true =>
    have := fit_down ok h hs (b - a) (a + 1) (by omega) (by omega) (by rw [show a + 1 + (b - a) = b + 1 by omega]; exact hb)
    rw [this] at h3
    exact absurd h3 (by decide)
theorem nm_of {k : Qu} {lo sr : Int} {l : List (Int × Int)} {n : Nat} (h : NR (fit5 k lo sr l) (min l.length 1000) n) : n = nm5 k lo sr l := h.eq
theorem nm_one {k : Qu} (ok : k.Ok) {lo sr : Int} {l : List (Int × Int)} (h : Bg k lo sr l) (hs : sr ≤ 4611686018427387903) (hne : l ≠ []) {n : Nat} (hn : NR (fit5 k lo sr l) (min l.length 1000) n) : 1 ≤ n ∧ n ≤ l.length ∧ n ≤ 1000 := by
  have hl : 1 ≤ l.length := List.length_pos_iff.mpr hne
  have h2 := hn.le
  refine ⟨?_, by omega, by omega⟩
  rcases Nat.eq_zero_or_pos n with e | e
  · subst e
    have := hn.stop (by omega)
    rw [Nat.zero_add, fit_one ok h hs hne] at this
    exact absurd this (by decide)
  · exact e
/-- The question goes on behind a report. -/
theorem Bg.next {k : Qu} {lo sr : Int} {l : List (Int × Int)} (h : Bg k lo sr l) {n : Nat} (hne : l ≠ []) (h1 : 1 ≤ n) : Bg k (upA k.upp l n) (sr + 1) (l.drop n) :=
  ⟨by have := (clOk_low n h.cls hne).2.1 h1; have := h.low; omega, by have := h.ser; omega, clOk_drop n h.cls⟩
theorem dl_step {k : Qu} {lo sr : Int} {l : List (Int × Int)} (f : Nat) (hne : l ≠ []) (hs : sr ≤ 4611686018427387903) {n : Nat} (hn : NR (fit5 k lo sr l) (min l.length 1000) n) : dl5 k (f + 1) lo sr l = (dl5 k f (upA k.upp l n) (sr + 1) (l.drop n)).map (rep5 k lo sr l n :: ·) := by
  rw [nm_of hn]
  show (if l = [] then _ else _) = _
  rw [if_neg hne, if_neg (by omega)]
theorem dl_big {k : Qu} {lo sr : Int} {l : List (Int × Int)} (f : Nat) (hne : l ≠ []) (hs : 4611686018427387903 < sr) : dl5 k (f + 1) lo sr l = none := by
  show (if l = [] then _ else _) = _
  rw [if_neg hne, if_pos hs]
theorem dl_end {k : Qu} {lo sr : Int} (f : Nat) : dl5 k (f + 1) lo sr [] = some [] := rfl

end Go.Proofs.YtkkmoplijicmpaeDoor
