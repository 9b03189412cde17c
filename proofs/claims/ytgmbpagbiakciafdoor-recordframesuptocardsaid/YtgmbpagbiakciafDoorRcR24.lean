import Derived.Test.YtgmbpagbiakciafDoorRcR23
import Derived.Test.YtgmbpagbiakciafDoorRcLtr
namespace Go.Proofs.YtgmbpagbiakciafDoor
open Go.RowKit
set_option linter.unusedVariables false
set_option linter.unusedSimpArgs false

/-- A record with one number more. -/
def setN (r : Rc) (j : Nat) (n : Int) : Rc :=
  if j = 0 then { r with org := n } else if j = 1 then { r with num := n } else if j = 2 then { r with peer := n } else if j = 3 then { r with srv := n }
  else if j = 4 then { r with off := n } else if j = 5 then { r with red := n } else if j = 6 then { r with size := n } else { r with how := n }
set_option maxRecDepth 100000 in
set_option maxHeartbeats 4000000 in
theorem with2_any (r : Rc) (sa da : Option Addr) (ns nd sc dc : Nat) (j : Nat) (hj : j < 8) (n : Int) (w : World) :
    Calls Tryd.prog 53 #[.agg (rcC r (.slice sa ns sc) (.slice da nd dc)), .int .u8 (ltL.getD j 0).toNat, .int .i64 n] w fun e w' => e = .returned (.agg (rcC (setN r j n) (.slice sa ns sc) (.slice da nd dc))) ∧ Below w.heap.size w w' := by
  have : j = 0 ∨ j = 1 ∨ j = 2 ∨ j = 3 ∨ j = 4 ∨ j = 5 ∨ j = 6 ∨ j = 7 := by omega
  rcases this with rfl | rfl | rfl | rfl | rfl | rfl | rfl | rfl
  · go_enter Tryd.func53, Tryd.ntmps53
    go_wp2
    refine bodyPost_ret (v := .agg (rcC { r with org := n } (.slice sa ns sc) (.slice da nd dc))) (by simp [results, Tryd.results53, go_sem, rcC]) rfl ?_
    exact ⟨rfl, ((Below.refl _ _).alloc (Nat.le_refl _) _).alloc (by simp) _⟩
  · go_enter Tryd.func53, Tryd.ntmps53
    go_wp2
    refine bodyPost_ret (v := .agg (rcC { r with num := n } (.slice sa ns sc) (.slice da nd dc))) (by simp [results, Tryd.results53, go_sem, rcC]) rfl ?_
    exact ⟨rfl, ((Below.refl _ _).alloc (Nat.le_refl _) _).alloc (by simp) _⟩
  · go_enter Tryd.func53, Tryd.ntmps53
    go_wp2
    refine bodyPost_ret (v := .agg (rcC { r with peer := n } (.slice sa ns sc) (.slice da nd dc))) (by simp [results, Tryd.results53, go_sem, rcC]) rfl ?_
    exact ⟨rfl, ((Below.refl _ _).alloc (Nat.le_refl _) _).alloc (by simp) _⟩
  · go_enter Tryd.func53, Tryd.ntmps53
    go_wp2
    refine bodyPost_ret (v := .agg (rcC { r with srv := n } (.slice sa ns sc) (.slice da nd dc))) (by simp [results, Tryd.results53, go_sem, rcC]) rfl ?_
    exact ⟨rfl, ((Below.refl _ _).alloc (Nat.le_refl _) _).alloc (by simp) _⟩
  · go_enter Tryd.func53, Tryd.ntmps53
    go_wp2
    refine bodyPost_ret (v := .agg (rcC { r with off := n } (.slice sa ns sc) (.slice da nd dc))) (by simp [results, Tryd.results53, go_sem, rcC]) rfl ?_
    exact ⟨rfl, ((Below.refl _ _).alloc (Nat.le_refl _) _).alloc (by simp) _⟩
  · go_enter Tryd.func53, Tryd.ntmps53
    go_wp2
    refine bodyPost_ret (v := .agg (rcC { r with red := n } (.slice sa ns sc) (.slice da nd dc))) (by simp [results, Tryd.results53, go_sem, rcC]) rfl ?_
    exact ⟨rfl, ((Below.refl _ _).alloc (Nat.le_refl _) _).alloc (by simp) _⟩
  · go_enter Tryd.func53, Tryd.ntmps53
    go_wp2
    refine bodyPost_ret (v := .agg (rcC { r with size := n } (.slice sa ns sc) (.slice da nd dc))) (by simp [results, Tryd.results53, go_sem, rcC]) rfl ?_
    exact ⟨rfl, ((Below.refl _ _).alloc (Nat.le_refl _) _).alloc (by simp) _⟩
  · go_enter Tryd.func53, Tryd.ntmps53
    go_wp2
    refine bodyPost_ret (v := .agg (rcC { r with how := n } (.slice sa ns sc) (.slice da nd dc))) (by simp [results, Tryd.results53, go_sem, rcC]) rfl ?_
    exact ⟨rfl, ((Below.refl _ _).alloc (Nat.le_refl _) _).alloc (by simp) _⟩
end Go.Proofs.YtgmbpagbiakciafDoor

namespace Go.Proofs.YtgmbpagbiakciafDoor
open Go.RowKit
set_option linter.unusedVariables false
set_option linter.unusedSimpArgs false

/-- What a letter makes of a record and of what is left. -/
def upL (s : Rc × Option (List Int)) (c : UInt8) : Rc × Option (List Int) :=
  if c = 68 then ({ s.1 with data := (byt2P s.2).1 }, (byt2P s.2).2)
  else if c = 83 then ({ s.1 with spans := (sps2P s.2).1 }, (sps2P s.2).2)
  else (setN s.1 (ltL.idxOf c) (num2P s.2).1, (num2P s.2).2)
def runL (s : Rc × Option (List Int)) (cs : List UInt8) : Rc × Option (List Int) := cs.foldl upL s
def isL (c : UInt8) : Prop := c = 68 ∨ c = 83 ∨ ∃ j, j < 8 ∧ c = ltL.getD j 0
theorem idx_lt (j : Nat) (hj : j < 8) : ltL.idxOf (ltL.getD j 0) = j := by
  have : j = 0 ∨ j = 1 ∨ j = 2 ∨ j = 3 ∨ j = 4 ∨ j = 5 ∨ j = 6 ∨ j = 7 := by omega
  rcases this with rfl | rfl | rfl | rfl | rfl | rfl | rfl | rfl <;> decide
theorem lt_ne (j : Nat) (hj : j < 8) : ltL.getD j 0 ≠ 68 ∧ ltL.getD j 0 ≠ 83 := by
  have : j = 0 ∨ j = 1 ∨ j = 2 ∨ j = 3 ∨ j = 4 ∨ j = 5 ∨ j = 6 ∨ j = 7 := by omega
  rcases this with rfl | rfl | rfl | rfl | rfl | rfl | rfl | rfl <;> decide
theorem upL68 (s : Rc × Option (List Int)) : upL s 68 = ({ s.1 with data := (byt2P s.2).1 }, (byt2P s.2).2) := by unfold upL; rw [if_pos rfl]
theorem upL83 (s : Rc × Option (List Int)) : upL s 83 = ({ s.1 with spans := (sps2P s.2).1 }, (sps2P s.2).2) := by unfold upL; rw [if_neg (by decide), if_pos rfl]
theorem upLn (s : Rc × Option (List Int)) (j : Nat) (hj : j < 8) : upL s (ltL.getD j 0) = (setN s.1 j (num2P s.2).1, (num2P s.2).2) := by
  unfold upL; rw [if_neg (lt_ne j hj).1, if_neg (lt_ne j hj).2, idx_lt j hj]
theorem nmA_setN (r : Rc) (j i : Nat) (hj : j < 8) (hi : i < 8) (n : Int) : nmA (setN r j n) i = if i = j then n else nmA r i := by
  have h1 : j = 0 ∨ j = 1 ∨ j = 2 ∨ j = 3 ∨ j = 4 ∨ j = 5 ∨ j = 6 ∨ j = 7 := by omega
  have h2 : i = 0 ∨ i = 1 ∨ i = 2 ∨ i = 3 ∨ i = 4 ∨ i = 5 ∨ i = 6 ∨ i = 7 := by omega
  rcases h1 with rfl | rfl | rfl | rfl | rfl | rfl | rfl | rfl <;> rcases h2 with rfl | rfl | rfl | rfl | rfl | rfl | rfl | rfl <;> rfl
theorem setN_lists (r : Rc) (j : Nat) (n : Int) : (setN r j n).spans = r.spans ∧ (setN r j n).data = r.data ∧ (setN r j n).kind = r.kind := by
  unfold setN
  repeat' split
  all_goals exact ⟨rfl, rfl, rfl⟩
theorem ltB_congr {r r' : Rc} (c : UInt8) (hc : isL c) (h1 : c = 68 → r'.data = r.data) (h2 : c = 83 → r'.spans = r.spans) (h3 : ∀ j, j < 8 → c = ltL.getD j 0 → nmA r' j = nmA r j) : ltB r' c = ltB r c := by
  rcases hc with rfl | rfl | ⟨j, hj, rfl⟩
  · rw [ltB68, ltB68, h1 rfl]
  · rw [ltB83, ltB83, h2 rfl]
  · rw [ltBn r' j hj, ltBn r j hj, h3 j hj rfl]
theorem getD_inj {i j : Nat} (hi : i < 8) (hj : j < 8) (h : ltL.getD i 0 = ltL.getD j 0) : i = j := by
  rw [← idx_lt i hi, ← idx_lt j hj, h]
/-- Another letter's bytes stay. -/
theorem upL_other (s : Rc × Option (List Int)) {c d : UInt8} (hc : isL c) (hd : isL d) (hne : d ≠ c) : ltB (upL s c).1 d = ltB s.1 d := by
  rcases hc with rfl | rfl | ⟨j, hj, rfl⟩
  · rw [upL68]
    exact ltB_congr d hd (fun h => absurd h hne) (fun _ => rfl) (fun _ _ _ => rfl)
  · rw [upL83]
    exact ltB_congr d hd (fun _ => rfl) (fun h => absurd h hne) (fun _ _ _ => rfl)
  · rw [upLn s j hj]
    refine ltB_congr d hd (fun _ => (setN_lists _ _ _).2.1) (fun _ => (setN_lists _ _ _).1) (fun i hi e => ?_)
    rw [nmA_setN _ j i hj hi, if_neg]
    intro e2; subst e2; exact hne e
theorem upL_kind (s : Rc × Option (List Int)) {c : UInt8} (hc : isL c) : (upL s c).1.kind = s.1.kind := by
  rcases hc with rfl | rfl | ⟨j, hj, rfl⟩
  · rw [upL68]
  · rw [upL83]
  · rw [upLn s j hj]; exact (setN_lists _ _ _).2.2
theorem num2_inv {q : Option (List Int)} {v : Int} {t' : List Int} (hb : ∀ t, q = some t → Bytey t) (h : num2P q = (v, some t')) : ∃ t, q = some t ∧ t = enc v ++ t' ∧ Bytey t' ∧ 0 ≤ v := by
  cases q with
  | none => simp [num2P] at h
  | some t =>
    cases hn : numP t with
    | none => unfold num2P at h; simp only [hn] at h; cases h
    | some p =>
      obtain ⟨v2, t2⟩ := p
      unfold num2P at h; simp only [hn, Prod.mk.injEq, Option.some.injEq] at h
      obtain ⟨rfl, rfl⟩ := h
      obtain ⟨_, _, _, h4, _, _, h7, _⟩ := numP_inv (hb t rfl) hn
      exact ⟨t, rfl, h4, (numP_by (hb t rfl) hn).1, h7⟩
theorem sp2_inv : ∀ {k : Nat} {q : Option (List Int)} {l : List (Int × Int)} {t' : List Int}, (∀ t, q = some t → Bytey t) → sp2P k q = (l, some t') → ∃ t, q = some t ∧ t = l.flatMap spB1 ++ t'
  | 0, q, l, t', hb, h => by
    simp only [sp2P, Prod.mk.injEq] at h
    obtain ⟨rfl, rfl⟩ := h
    exact ⟨t', rfl, by simp⟩
  | k + 1, q, l, t', hb, h => by
    simp only [sp2P] at h
    split at h
    · cases h
    · rename_i l' t1 h1
      obtain ⟨t, e1, e2⟩ := sp2_inv hb h1
      have hbt := (sp2P_by hb h1).2.1
      simp only [Prod.mk.injEq] at h
      obtain ⟨rfl, h2⟩ := h
      split at h2
      · cases h2
      · obtain ⟨_, _, b3⟩ := num2_bd (q := some t1) (fun t h => by cases h; exact hbt)
        obtain ⟨t2, f1, f2, _, _⟩ := num2_inv (q := (num2P (some t1)).2) (v := (num2P (num2P (some t1)).2).1) (t' := t') (fun t h => (b3 t h).1) (by rw [← h2])
        obtain ⟨t3, g1, g2, _, _⟩ := num2_inv (q := some t1) (v := (num2P (some t1)).1) (t' := t2) (fun t h => by cases h; exact hbt) (by rw [← f1])
        cases g1
        refine ⟨t, e1, ?_⟩
        have hx : ∀ a b : Int, a + b - a = b := fun a b => by omega
        rw [e2, List.flatMap_append]
        simp only [List.flatMap_cons, List.flatMap_nil, List.append_nil, spB1, List.append_assoc, hx]
        rw [← f2, ← g2]
/-- What a letter has taken. -/
theorem upL_took (s : Rc × Option (List Int)) {c : UInt8} (hc : isL c) {t' : List Int} (hb : ∀ t, s.2 = some t → Bytey t) (h : (upL s c).2 = some t') : ∃ t, s.2 = some t ∧ t = ltB (upL s c).1 c ++ t' ∧ Bytey t' := by
  rcases hc with rfl | rfl | ⟨j, hj, rfl⟩
  · rw [upL68] at h ⊢
    simp only at h
    rw [byt2_eq] at h
    cases hq : (num2P s.2).2 with
    | none => rw [hq] at h; cases h
    | some t1 =>
      rw [hq] at h
      simp only at h
      split at h
      · rename_i hn
        simp only [Option.some.injEq] at h
        obtain ⟨t, e1, e2, e3, e4⟩ := num2_inv (v := (num2P s.2).1) (t' := t1) hb (by rw [← hq])
        refine ⟨t, e1, ?_, by rw [← h]; exact bytey_drop e3 _⟩
        have hd : (byt2P s.2).1 = t1.take (num2P s.2).1.toNat := by rw [byt2_eq, hq]; simp only [if_pos hn]
        rw [ltB68]
        simp only [hd]
        have hlen : (((t1.take (num2P s.2).1.toNat).length : Nat) : Int) = (num2P s.2).1 := by rw [List.length_take]; omega
        rw [hlen, List.append_assoc, ← h, List.take_append_drop]
        exact e2
      · cases h
  · rw [upL83] at h ⊢
    simp only at h
    unfold sps2P at h
    obtain ⟨_, _, b3⟩ := num2_bd hb
    have hs : sp2P (num2P s.2).1.toNat (num2P s.2).2 = ((sps2P s.2).1, some t') := by unfold sps2P; rw [← h]
    obtain ⟨t1, e1, e2⟩ := sp2_inv (fun t h => (b3 t h).1) hs
    obtain ⟨hl, hbt, _⟩ := sp2P_by (fun t h => (b3 t h).1) hs
    obtain ⟨t, f1, f2, _, f4⟩ := num2_inv (v := (num2P s.2).1) (t' := t1) hb (by rw [← e1])
    refine ⟨t, f1, ?_, hbt⟩
    rw [ltB83]
    unfold spB
    simp only
    rw [hl, Int.toNat_of_nonneg f4, f2, e2, List.append_assoc]
  · rw [upLn s j hj] at h ⊢
    simp only at h
    obtain ⟨t, e1, e2, e3, e4⟩ := num2_inv (v := (num2P s.2).1) (t' := t') hb (by rw [← h])
    refine ⟨t, e1, ?_, e3⟩
    rw [ltBn _ j hj, nmA_setN _ j j hj hj, if_pos rfl]
    exact e2
theorem run_inv : ∀ (cs : List UInt8) (s : Rc × Option (List Int)) {t' : List Int}, (∀ c ∈ cs, isL c) → cs.Nodup → (∀ t, s.2 = some t → Bytey t) → (runL s cs).2 = some t' → ∃ t, s.2 = some t ∧ t = cs.flatMap (ltB (runL s cs).1) ++ t' ∧ (runL s cs).1.kind = s.1.kind ∧ ∀ d, isL d → d ∉ cs → ltB (runL s cs).1 d = ltB s.1 d
  | [], s, t', hL, hN, hb, h => by
    exact ⟨t', h, by simp, rfl, fun _ _ _ => rfl⟩
  | c :: cs, s, t', hL, hN, hb, h => by
    have hc := hL c (by simp)
    rw [List.nodup_cons] at hN
    have hr : runL s (c :: cs) = runL (upL s c) cs := rfl
    rw [hr] at h ⊢
    have hbu : ∀ t, (upL s c).2 = some t → Bytey t := fun t ht => by
      obtain ⟨_, _, _, h3⟩ := upL_took s hc hb ht
      exact h3
    obtain ⟨t1, e1, e2, e3, e4⟩ := run_inv cs (upL s c) (fun d hd => hL d (List.mem_cons_of_mem _ hd)) hN.2 hbu h
    obtain ⟨t, f1, f2, f3⟩ := upL_took s hc hb e1
    refine ⟨t, f1, ?_, e3.trans (upL_kind s hc), fun d hd hnd => ?_⟩
    · rw [List.flatMap_cons, e4 c hc hN.1, List.append_assoc, f2, e2]
    · rw [e4 d hd (fun h => hnd (List.mem_cons_of_mem _ h))]
      exact upL_other s hc hd (fun e => hnd (by rw [e]; simp))
end Go.Proofs.YtgmbpagbiakciafDoor
