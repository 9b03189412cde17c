import Derived.Test.YtllhbhogfffedaaGreatDoorJkRw
import Derived.Test.YtllhbhogfffedaaGreatDoorJkSs
namespace Go.Proofs.YtllhbhogfffedaaGreatDoor.K
open Go.RowKit
set_option linter.unusedVariables false
set_option linter.unusedSimpArgs false

/-- A journal that is open, and its disk: what is sure, what was written since. -/
structure Lv (sure more : List Rc) (D : Dk) (J : Jl) : Prop where
  val : Vd (sure ++ more)
  n : J.n = (fr (sure ++ more)).length
  k : J.k = (fr more).length
  dead : J.dead = false
  dw : D.dw = false
  fs : (sure = [] ∧ more = [] ∧ D.fs = []) ∨ D.fs = [⟨jN, fr (sure ++ more), ((fr sure).length : Int)⟩]
theorem Lv.dd {sure more : List Rc} {D : Dk} {J : Jl} (h : Lv sure more D J) : Dd sure more D.fs := by
  refine ⟨more, List.prefix_refl _, ?_⟩
  rcases h.fs with ⟨h1, _, h2⟩ | h1
  · exact .inl ⟨h1, h2⟩
  · exact .inr (.inr ⟨(fr sure).length, Nat.le_refl _, by rw [fr_alen]; omega, .inl h1⟩)
theorem act_yes {D : Dk} (h : actB D = true) (fs : List Fl) : actD D fs = { D with fs := if D.dn = true then fs else D.fs, dw := true } ∧ actR D = 2 := by
  unfold actD actR
  rw [if_pos h, if_pos h]
  exact ⟨rfl, rfl⟩
theorem act_no {D : Dk} (h : ¬ actB D = true) (fs : List Fl) : actD D fs = { D with fs := fs, acts := if D.arm = true then D.acts - 1 else D.acts } ∧ actR D = 0 := by
  unfold actD actR
  rw [if_neg h, if_neg h]
  exact ⟨rfl, rfl⟩
theorem act_room (D : Dk) (fs : List Fl) : (actD D fs).room = D.room := by unfold actD; split <;> rfl
theorem frE_ok {J : Jl} {l : List Rc} (h : J.dead = false) (hv : Vd l) : frE J l = 0 := by
  unfold frE
  rw [if_neg (by simp [h]), if_pos (List.all_eq_true.mpr (fun r hr => (hv r hr).1))]
/-- What a call on an open journal makes of it: it is open, or the power went. -/
def WrO (s m s' m' : List Rc) (R : Dk × Jl × Nat) : Prop := (R.2.2 = 0 ∧ Lv s m R.1 R.2.1) ∨ (R.2.2 = 2 ∧ R.2.1 = ⟨0, 0, true⟩ ∧ Dd s' m' R.1.fs)
/-- The half of Write that makes safe. -/
theorem wrS_lv {sure more : List Rc} {D : Dk} {J : Jl} (h : Lv sure more D J) (sync : Bool) : WrO (if sync = true then sure ++ more else sure) (if sync = true then [] else more) sure more (wrS D J sync) := by
  unfold wrS
  cases sync with
  | false =>
    simp only [Bool.false_eq_true, if_false]
    rw [if_pos (Or.inl trivial)]
    exact .inl ⟨rfl, h⟩
  | true =>
    simp only [if_true]
    by_cases hk : J.k = 0
    · rw [if_pos (Or.inr hk)]
      have hm : more = [] := fr_zero (h.k.symm.trans hk)
      subst hm
      refine .inl ⟨rfl, ?_⟩
      simp only [List.append_nil]
      exact h
    · rw [if_neg (by simp [hk])]
      have hf : D.fs = [⟨jN, fr (sure ++ more), ((fr sure).length : Int)⟩] := by
        rcases h.fs with ⟨_, h1, _⟩ | h1
        · exfalso; rw [h.k, h1] at hk; exact hk rfl
        · exact h1
      have hs : fileD D jN (fun i => synF D.fs i) = (actD D [⟨jN, fr (sure ++ more), ((fr (sure ++ more)).length : Int)⟩], actR D) := by
        unfold fileD
        rw [h.dw, hf, fnd_j]
        rfl
      rw [hs]
      by_cases ha : actB D = true
      · rw [(act_yes ha _).1, (act_yes ha []).2]
        rw [if_neg (by simp)]
        refine .inr ⟨rfl, rfl, more, List.prefix_refl _, .inr (.inr ?_)⟩
        by_cases hdn : D.dn = true
        · exact ⟨(fr (sure ++ more)).length, by rw [fr_alen]; omega, Nat.le_refl _, .inl (by simp [hdn])⟩
        · exact ⟨(fr sure).length, Nat.le_refl _, by rw [fr_alen]; omega, .inl (by simp only [hdn]; exact hf)⟩
      · rw [(act_no ha _).1, (act_no ha []).2]
        rw [if_pos rfl]
        refine .inl ⟨rfl, ?_, ?_, rfl, h.dead, h.dw, .inr ?_⟩
        · rw [List.append_nil]; exact h.val
        · rw [List.append_nil]; exact h.n
        · simp only [List.append_nil]
theorem app_j {D : Dk} {bs b : List Int} {sf : Int} (hd : D.dw = false) (hr : (bs.length : Int) + b.length ≤ D.room) (hf : (bs = [] ∧ sf = 0 ∧ D.fs = []) ∨ D.fs = [⟨jN, bs, sf⟩]) : appD D jN b = (actD D [⟨jN, bs ++ b, sf⟩], actR D) := by
  unfold appD
  rw [if_neg (by simp [hd])]
  rcases hf with ⟨rfl, rfl, hf⟩ | hf
  · rw [hf, if_neg (by simp [usd] at hr ⊢; omega), addF_new (fnd_nil _)]
    rfl
  · rw [hf, if_neg (by simp [usd] at hr ⊢; omega), addF_old (fnd_j _ _ _) rfl]
    rfl
/-- WRITE, of records that may be. -/
theorem wr_lv {sure more l : List Rc} {D : Dk} {J : Jl} (h : Lv sure more D J) (hl : Vd l) (hr : ((fr (sure ++ more)).length : Int) + (fr l).length ≤ D.room) (sync : Bool) : WrO (if sync = true then sure ++ (more ++ l) else sure) (if sync = true then [] else more ++ l) sure (more ++ l) (wrX D J l sync) := by
  unfold wrX
  rw [if_pos (frE_ok h.dead hl)]
  unfold wrA
  by_cases h0 : l.length = 0
  · rw [if_pos h0]
    have : l = [] := List.eq_nil_of_length_eq_zero h0
    subst this
    rw [List.append_nil]
    exact wrS_lv h sync
  · rw [if_neg h0]
    have ha := app_j (b := fr l) (bs := fr (sure ++ more)) (sf := ((fr sure).length : Int)) h.dw hr (h.fs.elim (fun q => .inl ⟨by rw [q.1, q.2.1]; rfl, by rw [q.1]; rfl, q.2.2⟩) .inr)
    rw [ha]
    have hap : fr (sure ++ more) ++ fr l = fr (sure ++ (more ++ l)) := by rw [← fr_app, List.append_assoc]
    rw [hap]
    obtain ⟨S, hS⟩ : ∃ S, (if sync = true then sure ++ (more ++ l) else sure) = S := ⟨_, rfl⟩
    obtain ⟨N, hN⟩ : ∃ N, (if sync = true then [] else more ++ l) = N := ⟨_, rfl⟩
    rw [hS, hN]
    by_cases hb : actB D = true
    · rw [(act_yes hb _).1, (act_yes hb []).2, if_neg (by simp)]
      refine .inr ⟨rfl, rfl, ?_⟩
      simp only
      by_cases hdn : D.dn = true
      · rw [if_pos hdn]
        exact ⟨more ++ l, List.prefix_refl _, .inr (.inr ⟨(fr sure).length, Nat.le_refl _, by rw [fr_alen]; omega, .inl rfl⟩)⟩
      · rw [if_neg hdn]
        obtain ⟨p, hp, q⟩ := h.dd
        exact ⟨p, hp.trans (List.prefix_append _ _), q⟩
    · rw [(act_no hb _).1, (act_no hb []).2, if_pos rfl]
      have h1 : Lv sure (more ++ l) { D with fs := [⟨jN, fr (sure ++ (more ++ l)), ((fr sure).length : Int)⟩], acts := if D.arm = true then D.acts - 1 else D.acts } ⟨J.n + (fr l).length, J.k + (fr l).length, J.dead⟩ := by
        refine ⟨?_, ?_, ?_, h.dead, h.dw, .inr rfl⟩
        · rw [← List.append_assoc]; exact h.val.app hl
        · show J.n + (fr l).length = _; rw [h.n, ← List.append_assoc, fr_alen (sure ++ more) l]
        · show J.k + (fr l).length = _; rw [h.k, fr_alen]
      rw [← hS, ← hN]
      exact wrS_lv h1 sync
theorem app_n {D : Dk} {sure more : List Rc} {J : Jl} {b : List Int} (h : Lv sure more D J) (hr : ((fr (sure ++ more)).length : Int) + b.length ≤ D.room) : appD D jnN b = (actD D (D.fs ++ [⟨jnN, b, 0⟩]), actR D) := by
  unfold appD
  rw [if_neg (by simp [h.dw])]
  rcases h.fs with ⟨h1, h2, hf⟩ | hf
  · rw [if_neg (by rw [hf]; subst h1 h2; simp [usd] at hr ⊢; omega), addF_new (by rw [hf]; rfl)]
  · rw [if_neg (by rw [hf]; simp [usd] at hr ⊢; omega), addF_new (by rw [hf]; exact fnd_n1 _ _)]
theorem Dd.new {sure more : List Rc} {D : Dk} {J : Jl} (h : Lv sure more D J) (L : List Int) (s : Int) : Dd sure more (D.fs ++ [⟨jnN, L, s⟩]) := by
  refine ⟨more, List.prefix_refl _, ?_⟩
  rcases h.fs with ⟨h1, _, h2⟩ | h1
  · exact .inr (.inl ⟨h1, L, s, by rw [h2]; rfl⟩)
  · exact .inr (.inr ⟨(fr sure).length, Nat.le_refl _, by rw [fr_alen]; omega, .inr ⟨L, s, by rw [h1]; rfl⟩⟩)
/-- The new file made safe, and named. -/
theorem syn_n {D : Dk} {sure more : List Rc} {J : Jl} (h : Lv sure more D J) {E : Dk} {b : List Int} (hd : E.dw = false) (hf : E.fs = D.fs ++ [⟨jnN, b, 0⟩]) : fileD E jnN (fun i => synF E.fs i) = (actD E (D.fs ++ [⟨jnN, b, (b.length : Int)⟩]), actR E) := by
  unfold fileD
  rcases h.fs with ⟨_, _, h1⟩ | h1
  · rw [hd, hf, h1]
    simp only [List.nil_append, fnd_nn]
    rfl
  · rw [hd, hf, h1]
    simp only [List.singleton_append, fnd_n2]
    rfl
theorem ren_n {D : Dk} {sure more : List Rc} {J : Jl} (h : Lv sure more D J) {E : Dk} {b : List Int} {s : Int} (hd : E.dw = false) (hf : E.fs = D.fs ++ [⟨jnN, b, s⟩]) : fileD E jnN (fun i => renF E.fs i jN) = (actD E [⟨jN, b, s⟩], actR E) := by
  unfold fileD
  rcases h.fs with ⟨_, _, h1⟩ | h1
  · rw [hd, hf, h1]
    simp only [List.nil_append, fnd_nn]
    have : renF [⟨jnN, b, s⟩] 0 jN = [⟨jN, b, s⟩] := by unfold renF; rw [fnd_nj]; rfl
    rw [this]
    rfl
  · rw [hd, hf, h1]
    simp only [List.singleton_append, fnd_n2]
    have : ∀ B t, renF [⟨jN, B, t⟩, ⟨jnN, b, s⟩] 1 jN = [⟨jN, b, s⟩] := fun B t => by unfold renF; rw [fnd_j]; rfl
    rw [this]
    rfl
/-- What a rewriting makes of an open journal: the new records alone, or the power went, and the old ones or the new ones are there. -/
def RwO (sure more l : List Rc) (R : Dk × Jl × Nat) : Prop := (R.2.2 = 0 ∧ Lv l [] R.1 R.2.1) ∨ (R.2.2 = 2 ∧ R.2.1 = ⟨0, 0, true⟩ ∧ (Dd sure more R.1.fs ∨ Dd l [] R.1.fs))
theorem rw_lv {sure more l : List Rc} {D : Dk} {J : Jl} (h : Lv sure more D J) (hl : Vd l) (hr : ((fr (sure ++ more)).length : Int) + (fr l).length ≤ D.room) : RwO sure more l (rwX D J l) := by
  unfold rwX
  rw [if_pos (frE_ok h.dead hl)]
  unfold rwA
  have key : (tnX D J (fr l)).2.2 = 0 ∧ (tnX D J (fr l)).1.fs = [⟨jN, fr l, ((fr l).length : Int)⟩] ∧ (tnX D J (fr l)).1.dw = false ∧ (tnX D J (fr l)).2.1.dead = false ∨ ((tnX D J (fr l)).2.2 = 2 ∧ (tnX D J (fr l)).2.1 = ⟨0, 0, true⟩ ∧ (Dd sure more (tnX D J (fr l)).1.fs ∨ Dd l [] (tnX D J (fr l)).1.fs)) := by
    unfold tnX
    rw [app_n h hr]
    by_cases hb : actB D = true
    · rw [(act_yes hb _).1, (act_yes hb []).2, if_neg (by simp)]
      refine .inr ⟨rfl, rfl, .inl ?_⟩
      simp only
      by_cases hdn : D.dn = true
      · rw [if_pos hdn]; exact Dd.new h _ _
      · rw [if_neg hdn]; exact h.dd
    · rw [(act_no hb _).1, (act_no hb []).2, if_pos rfl]
      simp only
      obtain ⟨E, hE⟩ : ∃ E : Dk, { D with fs := D.fs ++ [⟨jnN, fr l, 0⟩], acts := if D.arm = true then D.acts - 1 else D.acts } = E := ⟨_, rfl⟩
      have hEd : E.dw = false := by rw [← hE]; exact h.dw
      have hEf : E.fs = D.fs ++ [⟨jnN, fr l, 0⟩] := by rw [← hE]
      rw [hE]
      unfold tn2
      rw [syn_n h hEd hEf]
      by_cases hb2 : actB E = true
      · rw [(act_yes hb2 _).1, (act_yes hb2 []).2, if_neg (by simp)]
        refine .inr ⟨rfl, rfl, .inl ?_⟩
        simp only
        by_cases hdn : E.dn = true
        · rw [if_pos hdn]; exact Dd.new h _ _
        · rw [if_neg hdn, hEf]; exact Dd.new h _ _
      · rw [(act_no hb2 _).1, (act_no hb2 []).2, if_pos rfl]
        simp only
        obtain ⟨G, hG⟩ : ∃ G : Dk, { E with fs := D.fs ++ [⟨jnN, fr l, ((fr l).length : Int)⟩], acts := if E.arm = true then E.acts - 1 else E.acts } = G := ⟨_, rfl⟩
        have hGd : G.dw = false := by rw [← hG]; exact hEd
        have hGf : G.fs = D.fs ++ [⟨jnN, fr l, ((fr l).length : Int)⟩] := by rw [← hG]
        rw [hG]
        unfold tn3
        rw [ren_n h hGd hGf]
        by_cases hb3 : actB G = true
        · rw [(act_yes hb3 _).1, (act_yes hb3 []).2]
          refine .inr ⟨rfl, rfl, ?_⟩
          simp only
          by_cases hdn : G.dn = true
          · rw [if_pos hdn]
            exact .inr ⟨[], List.prefix_refl _, .inr (.inr ⟨(fr l).length, Nat.le_refl _, by rw [List.append_nil]; exact Nat.le_refl _, .inl (by rw [List.append_nil])⟩)⟩
          · rw [if_neg hdn, hGf]
            exact .inl (Dd.new h _ _)
        · rw [(act_no hb3 _).1, (act_no hb3 []).2]
          exact .inl ⟨rfl, rfl, hGd, h.dead⟩
  rcases key with ⟨k1, k2, k3, k4⟩ | ⟨k1, k2, k3⟩
  · rw [if_pos k1]
    refine .inl ⟨rfl, ?_, ?_, rfl, k4, k3, .inr ?_⟩
    · rw [List.append_nil]; exact hl
    · rw [List.append_nil]
    · rw [List.append_nil]; exact k2
  · rw [if_neg (by rw [k1]; simp)]
    exact .inr ⟨k1, k2, k3⟩
theorem ok_wrS {D : Dk} {B : Nat} {J : Jl} {sync : Bool} (h : D.Ok B) : (wrS D J sync).1.Ok B := by
  unfold wrS
  split
  · exact h
  · split
    · exact ok_file h (fun i => fsok_syn h.files)
    · exact ok_file h (fun i => fsok_syn h.files)
theorem ok_wrX {D : Dk} {B C : Nat} {J : Jl} {l : List Rc} {sync : Bool} (h : D.Ok B) (hl : frE J l = 0 → Bytey (fr l)) (hC : (fr l).length ≤ C) (h1 : 1 ≤ C) : (wrX D J l sync).1.Ok (B + C) := by
  unfold wrX
  split
  · rename_i q
    have h2 := ok_app (s := jN) h (hl q) hC h1
    unfold wrA
    split
    · exact (ok_wrS h).up (by omega)
    · split
      · exact ok_wrS h2
      · exact h2
  · exact h.up (by omega)
theorem ok_rwX {D : Dk} {B C : Nat} {J : Jl} {l : List Rc} (h : D.Ok B) (hl : frE J l = 0 → Bytey (fr l)) (hC : (fr l).length ≤ C) (h1 : 1 ≤ C) : (rwX D J l).1.Ok (B + C) := by
  have ht : frE J l = 0 → (tnX D J (fr l)).1.Ok (B + C) := fun q => by
    have h2 := ok_app (s := jnN) h (hl q) hC h1
    unfold tnX
    split
    · have h3 : (fileD (appD D jnN (fr l)).1 jnN (fun i => synF (appD D jnN (fr l)).1.fs i)).1.Ok (B + C) := ok_file h2 (fun i => fsok_syn h2.files)
      unfold tn2
      split
      · exact ok_file h3 (fun i => fsok_ren h3.files)
      · exact h3
    · exact h2
  unfold rwX
  split
  · rename_i q
    unfold rwA
    split
    · exact ht q
    · exact ht q
  · exact h.up (by omega)
/-- How many bytes there are, told anew. -/
theorem Lv.ok {sure more : List Rc} {D : Dk} {J : Jl} {B C : Nat} (h : Lv sure more D J) (hk : D.Ok B) (hC : (fr (sure ++ more)).length + 2 ≤ C) : D.Ok C := by
  refine ⟨hk.fs, ?_, ?_, hk.room, hk.acts⟩
  · rcases h.fs with ⟨_, _, h1⟩ | h1
    · rw [h1]; simp
    · rw [h1]; simp; omega
  · rcases h.fs with ⟨_, _, h1⟩ | h1
    · rw [h1]; simp [usd]
    · rw [h1]; simp only [usd]; omega
theorem file_room (D : Dk) (s : ByteArray) (g : Nat → List Fl) : (fileD D s g).1.room = D.room := by
  unfold fileD
  split
  · rfl
  · split
    · rfl
    · exact act_room _ _
theorem app_room (D : Dk) (s : ByteArray) (b : List Int) : (appD D s b).1.room = D.room := by
  unfold appD
  split
  · rfl
  · split
    · rfl
    · exact act_room _ _
theorem wrS_room (D : Dk) (J : Jl) (sync : Bool) : (wrS D J sync).1.room = D.room := by
  unfold wrS
  split
  · rfl
  · split
    · exact file_room ..
    · exact file_room ..
theorem wr_room (D : Dk) (J : Jl) (l : List Rc) (sync : Bool) : (wrX D J l sync).1.room = D.room := by
  unfold wrX
  split
  · unfold wrA
    split
    · exact wrS_room ..
    · split
      · exact (wrS_room ..).trans (app_room ..)
      · exact app_room ..
  · rfl
theorem tn_room (D : Dk) (J : Jl) (b : List Int) : (tnX D J b).1.room = D.room := by
  unfold tnX
  split
  · unfold tn2
    split
    · unfold tn3
      exact (file_room ..).trans ((file_room ..).trans (app_room ..))
    · exact (file_room ..).trans (app_room ..)
  · exact app_room ..
theorem rw_room (D : Dk) (J : Jl) (l : List Rc) : (rwX D J l).1.room = D.room := by
  unfold rwX
  split
  · unfold rwA
    split
    · exact tn_room ..
    · exact tn_room ..
  · rfl
/-- WRITE of a disk that is up and not armed, its journal open: safe at once. -/
theorem wr_up {t l : List Rc} {D : Dk} {J : Jl} (h : Up t D) (hv : Vd t) (hl : Vd l) (hJ : J.n = (fr t).length) (hk : J.k ≤ J.n) (hd : J.dead = false) (hr : ((fr t).length : Int) + (fr l).length ≤ D.room) : (wrX D J l true).2.2 = 0 ∧ Up (t ++ l) (wrX D J l true).1 := by
  -- the half that makes safe
  have hS : ∀ (E : Dk) (G : Jl) (b : List Int) (sf : Nat), E.dw = false → E.arm = false → (b = [] ∧ E.fs = [] ∧ G.k = 0 ∨ E.fs = [⟨jN, b, (sf : Int)⟩]) → (G.k = 0 → sf = b.length) → (wrS E G true).2.2 = 0 ∧ (wrS E G true).1.dw = false ∧ (wrS E G true).1.arm = false ∧ ((b = [] ∧ (wrS E G true).1.fs = []) ∨ (wrS E G true).1.fs = [⟨jN, b, (b.length : Int)⟩]) := by
    intro E G b sf e1 e2 e3 e4
    unfold wrS
    by_cases hk : G.k = 0
    · rw [if_pos (Or.inr hk)]
      refine ⟨rfl, e1, e2, ?_⟩
      rcases e3 with ⟨q1, q2, _⟩ | q
      · exact .inl ⟨q1, q2⟩
      · rw [e4 hk] at q; exact .inr q
    · rw [if_neg (by simp [hk])]
      have hf : E.fs = [⟨jN, b, (sf : Int)⟩] := by rcases e3 with ⟨_, _, q⟩ | q; exact absurd q hk; exact q
      have hs : fileD E jN (fun i => synF E.fs i) = (actD E [⟨jN, b, (b.length : Int)⟩], actR E) := by
        unfold fileD
        rw [e1, hf, fnd_j]
        rfl
      rw [hs, (act_up e2 _).1, (act_up e2 []).2, if_pos rfl]
      exact ⟨rfl, e1, e2, .inr rfl⟩
  unfold wrX
  rw [if_pos (frE_ok hd hl)]
  unfold wrA
  by_cases h0 : l.length = 0
  · rw [if_pos h0]
    have : l = [] := List.eq_nil_of_length_eq_zero h0
    subst this
    rw [List.append_nil]
    obtain ⟨q1, q2, q3, q4⟩ := hS D J (fr t) (fr t).length h.dw h.arm (h.fs.elim (fun q => .inl ⟨by rw [q.1]; rfl, q.2, by rw [hJ, q.1] at hk; simpa using hk⟩) .inr) (fun _ => rfl)
    exact ⟨q1, q4.elim (fun q => .inl ⟨fr_zero (by rw [q.1]; rfl), q.2⟩) .inr, q2, q3⟩
  · rw [if_neg h0]
    have ha := app_j (b := fr l) (bs := fr t) (sf := ((fr t).length : Int)) h.dw hr (h.fs.elim (fun q => .inl ⟨by rw [q.1]; rfl, by rw [q.1]; rfl, q.2⟩) .inr)
    rw [ha, (act_up h.arm _).1, (act_up h.arm []).2, if_pos rfl, ← fr_app]
    simp only
    obtain ⟨q1, q2, q3, q4⟩ := hS { D with fs := [⟨jN, fr (t ++ l), ((fr t).length : Int)⟩] } ⟨J.n + (fr l).length, J.k + (fr l).length, J.dead⟩ (fr (t ++ l)) (fr t).length h.dw h.arm (.inr rfl) (fun q => by
      have := fr_pos (l := l) (fun e => h0 (by rw [e]; rfl))
      simp only at q
      omega)
    exact ⟨q1, q4.elim (fun q => .inl ⟨fr_zero (by rw [q.1]; rfl), q.2⟩) .inr, q2, q3⟩
end Go.Proofs.YtllhbhogfffedaaGreatDoor.K

namespace Go.Proofs.YtllhbhogfffedaaGreatDoor.C
open Go.RowKit Go.Shelf
set_option linter.unusedVariables false
set_option linter.unusedSimpArgs false

/-- Some bool; nothing but draws. -/
def SbD (w : World) (e : Ending) (w' : World) : Prop := ∃ q, e = .returned (.bool q) ∧ ∃ nd, w' = w.drewN nd
set_option maxHeartbeats 4000000 in
set_option maxRecDepth 100000 in
/-- sameSpans, of any two lists: some bool. -/
theorem sameSpans7_gen (a b : Option Addr) (c d n m : Nat) (l l' : List Sp) (w : World) (hn : l.length = n) (hm' : l'.length = m) (hm : n ≤ 4611686018427387903) (h : Spa w a l) (h' : Spa w b l') :
    Calls Tryz.prog 89 #[.slice a n c, .slice b m d] w fun e w' => SbD w e w' := by
  by_cases hnm : n = m
  case neg =>
    have hz : ¬ (n : Int) = (m : Int) := by omega
    clear hn hm' hm h h' hnm
    go_enter Tryz.func89, Tryz.ntmps89
    go_wp2
    go_ret
    exact ⟨false, rfl, 0, rfl⟩
  case pos =>
    subst hnm
    have HN : Hid (l.length = n ∧ l'.length = n) := ⟨hn, hm'⟩
    have HS : Hid (Spa w a l) := h
    have HS' : Hid (Spa w b l') := h'
    clear hn h h' hm'
    go_enter Tryz.func89, Tryz.ntmps89
    obtain ⟨Z, hZ⟩ : ∃ Z, w = Z := ⟨_, rfl⟩
    rw [hZ] at HS HS' ⊢
    clear hZ
    go_wp2_with fail
    go_loopw [5] (fun v wr => Lp57 Z n v wr) (fun v _ => n - (intOf v).toNat)
    case atStart => exact lp57 (nd := 0) (p := 0) rfl (by omega)
    case round =>
      obtain ⟨k, nd, rfl, hk, hwr⟩ := hrel
      have HW : Hid (wr = Z.drewN nd) := hwr
      have HA : Hid (Spa wr a l) := by show Spa _ _ _; rw [hwr]; exact HS.out.drewN7 _
      have HA' : Hid (Spa wr b l') := by show Spa _ _ _; rw [hwr]; exact HS'.out.drewN7 _
      clear hwr
      by_cases hlt : k = n
      · subst hlt
        have hz : ¬ (k : Int) < (k : Int) := by omega
        go_wp2
        go_ret
        exact ⟨true, rfl, _, HW.out⟩
      · have hlt' : (k : Int) < (n : Int) := by omega
        have hwk : IntKind.i64.wrap ((k : Int) + 1) = (k : Int) + 1 := by rw [IntKind.wrap_i64]; omega
        obtain ⟨⟨p1, p2⟩, hp⟩ : ∃ p, l[k]? = some p := ⟨_, List.getElem?_eq_getElem (by rw [HN.out.1]; omega)⟩
        obtain ⟨⟨s1, s2⟩, hs⟩ : ∃ p, l'[k]? = some p := ⟨_, List.getElem?_eq_getElem (by rw [HN.out.2]; omega)⟩
        obtain ⟨g, off, rfl, q1, q2⟩ := HA.out.at hp
        obtain ⟨g', off', rfl, r1, r2⟩ := HA'.out.at hs
        simp only at q1 q2 r1 r2
        clear hp hs
        by_cases e1 : p1 = s1
        · subst e1
          by_cases e2 : p2 = s2
          · subst e2
            go_wp2_with fail
            go_quiet (fail)
            go_wp2
            exact ⟨by rw [HW.out, World.drewN_drewN]; exact lp57 (p := k + 1) (by simp) (by omega), by simp [intOf]; omega⟩
          · go_wp2_with fail
            go_quiet (fail)
            go_wp2
            go_ret
            exact ⟨false, rfl, _, by rw [HW.out, World.drewN_drewN]⟩
        · go_wp2_with fail
          go_quiet (fail)
          go_wp2
          go_ret
          exact ⟨false, rfl, _, by rw [HW.out, World.drewN_drewN]⟩
end Go.Proofs.YtllhbhogfffedaaGreatDoor.C
namespace Go.Proofs.YtllhbhogfffedaaGreatDoor
open Go.RowKit
/-- Some bool; what lay there lies there. -/
def SbB (w : World) (e : Ending) (w' : World) : Prop := ∃ q, e = .returned (.bool q) ∧ Below w.heap.size w w'
set_option maxRecDepth 100000 in
set_option maxHeartbeats 8000000 in
/-- sameRecord, of any two: some bool. -/
theorem sameRec7_gen (r r' : Rc) (sa da sb db : Option Addr) (ns nd sc dc ms md tc ec : Nat) (w : World) (ha : RIn w r sa da ns nd sc dc) (hb : RIn w r' sb db ms md tc ec) (hns : ns ≤ 4611686018427387903) :
    Calls Tryz.prog 55 #[.agg (rcC r (.slice sa ns sc) (.slice da nd dc)), .agg (rcC r' (.slice sb ms tc) (.slice db md ec))] w fun e w' => SbB w e w' := by
  have HB : Hid (Below w.heap.size w ((w.alloc (rcO r (.slice sa ns sc) (.slice da nd dc))).alloc (rcO r' (.slice sb ms tc) (.slice db md ec)))) := ((Below.refl _ _).alloc (Nat.le_refl _) _).alloc (by simp) _
  have HX : Hid (((w.alloc (rcO r (.slice sa ns sc) (.slice da nd dc))).alloc (rcO r' (.slice sb ms tc) (.slice db md ec))).heap[w.heap.size]? = some (rcO r (.slice sa ns sc) (.slice da nd dc))) := (((Below.refl _ _).alloc (Nat.le_refl _) _).block _ (by simp)).trans (heap_new6 w _)
  have HY : Hid (((w.alloc (rcO r (.slice sa ns sc) (.slice da nd dc))).alloc (rcO r' (.slice sb ms tc) (.slice db md ec))).heap[w.heap.size + 1]? = some (rcO r' (.slice sb ms tc) (.slice db md ec))) := by
    unfold Hid
    have := heap_new6 (w.alloc (rcO r (.slice sa ns sc) (.slice da nd dc))) (rcO r' (.slice sb ms tc) (.slice db md ec))
    simpa using this
  have HRA : Hid (RIn w r sa da ns nd sc dc) := ha
  have HRB : Hid (RIn w r' sb db ms md tc ec) := hb
  clear ha hb
  go_enter Tryz.func55, Tryz.ntmps55
  go_wp2_with fail
  generalize (w.alloc (rcO r (.slice sa ns sc) (.slice da nd dc))).alloc (rcO r' (.slice sb ms tc) (.slice db md ec)) = w1 at *
  have HSS := C.sameSpans7_gen sa sb sc tc ns ms r.spans r'.spans w1 HRA.out.spn HRB.out.spn (by omega) (HRA.out.spin w1 HB.out) (HRB.out.spin w1 HB.out)
  refine HSS.mono ?_
  rintro e w2 ⟨qs, rfl, nd2, hw2⟩
  have HB2 : Hid (Below w.heap.size w w2) := by rw [hw2]; exact ⟨HB.out.os, HB.out.tape, HB.out.output, HB.out.size, HB.out.block⟩
  have HX2 : Hid (w2.heap[w.heap.size]? = some (rcO r (.slice sa ns sc) (.slice da nd dc))) := by rw [hw2]; exact HX.out
  have HY2 : Hid (w2.heap[w.heap.size + 1]? = some (rcO r' (.slice sb ms tc) (.slice db md ec))) := by rw [hw2]; exact HY.out
  clear hw2 HX HY HB HSS
  obtain ⟨c0, c1, c2, c3, c4, c5, c6, c7, c8, c9, c10⟩ := rc_cells HX2.out
  obtain ⟨d0, d1, d2, d3, d4, d5, d6, d7, d8, d9, d10⟩ := rc_cells HY2.out
  have k1 := conv7 w2 da nd dc r.data HRA.out.dat (HRA.out.lie.below HB2.out)
  have k2 := conv7 w2 db md ec r'.data HRB.out.dat (HRB.out.lie.below HB2.out)
  generalize strOfNums r.data = S at *
  generalize strOfNums r'.data = S' at *
  obtain ⟨r0, r1, r2, r3, r4, r5, r6, r7, r8, r9, r10⟩ := r
  obtain ⟨s0, s1, s2, s3, s4, s5, s6, s7, s8, s9, s10⟩ := r'
  simp only at c0 c1 c2 c3 c4 c5 c6 c7 c8 c9 c10 d0 d1 d2 d3 d4 d5 d6 d7 d8 d9 d10
  by_cases e0 : r0 = s0
  · subst e0
    by_cases e1 : r1 = s1
    · subst e1
      by_cases e2 : r2 = s2
      · subst e2
        by_cases e3 : r3 = s3
        · subst e3
          by_cases e4 : r4 = s4
          · subst e4
            by_cases e5 : r5 = s5
            · subst e5
              by_cases e6 : r6 = s6
              · subst e6
                by_cases e7 : r7 = s7
                · subst e7
                  by_cases e8 : r8 = s8
                  · subst e8
                    by_cases eS : (S.toList == S'.toList) = true
                    · cases qs with
                      | true =>
                        go_wp2
                        go_ret
                        exact ⟨_, rfl, HB2.out⟩
                      | false =>
                        go_wp2
                        go_ret
                        exact ⟨_, rfl, HB2.out⟩
                    · have eS2 : (S.toList == S'.toList) = false := by simpa using eS
                      clear eS
                      cases qs with
                      | true =>
                        go_wp2
                        go_ret
                        exact ⟨_, rfl, HB2.out⟩
                      | false =>
                        go_wp2
                        go_ret
                        exact ⟨_, rfl, HB2.out⟩
                  · cases qs with
                    | true =>
                      go_wp2
                      go_ret
                      exact ⟨_, rfl, HB2.out⟩
                    | false =>
                      go_wp2
                      go_ret
                      exact ⟨_, rfl, HB2.out⟩
                · cases qs with
                  | true =>
                    go_wp2
                    go_ret
                    exact ⟨_, rfl, HB2.out⟩
                  | false =>
                    go_wp2
                    go_ret
                    exact ⟨_, rfl, HB2.out⟩
              · cases qs with
                | true =>
                  go_wp2
                  go_ret
                  exact ⟨_, rfl, HB2.out⟩
                | false =>
                  go_wp2
                  go_ret
                  exact ⟨_, rfl, HB2.out⟩
            · cases qs with
              | true =>
                go_wp2
                go_ret
                exact ⟨_, rfl, HB2.out⟩
              | false =>
                go_wp2
                go_ret
                exact ⟨_, rfl, HB2.out⟩
          · cases qs with
            | true =>
              go_wp2
              go_ret
              exact ⟨_, rfl, HB2.out⟩
            | false =>
              go_wp2
              go_ret
              exact ⟨_, rfl, HB2.out⟩
        · cases qs with
          | true =>
            go_wp2
            go_ret
            exact ⟨_, rfl, HB2.out⟩
          | false =>
            go_wp2
            go_ret
            exact ⟨_, rfl, HB2.out⟩
      · cases qs with
        | true =>
          go_wp2
          go_ret
          exact ⟨_, rfl, HB2.out⟩
        | false =>
          go_wp2
          go_ret
          exact ⟨_, rfl, HB2.out⟩
    · cases qs with
      | true =>
        go_wp2
        go_ret
        exact ⟨_, rfl, HB2.out⟩
      | false =>
        go_wp2
        go_ret
        exact ⟨_, rfl, HB2.out⟩
  · cases qs with
    | true =>
      go_wp2
      go_ret
      exact ⟨_, rfl, HB2.out⟩
    | false =>
      go_wp2
      go_ret
      exact ⟨_, rfl, HB2.out⟩

end Go.Proofs.YtllhbhogfffedaaGreatDoor

namespace Go.Proofs.YtllhbhogfffedaaGreatDoor.K
open Go.RowKit
set_option linter.unusedVariables false
set_option linter.unusedSimpArgs false

/-- The number of an error. -/
def nmJ (c : Nat) : Int := if c = 0 then 0 else if c = 1 then 5 else if c = 2 then 6 else c
/-- The variable errors.As reads. -/
def Et (w : World) : Prop := w.cell? ⟨3, 0, none⟩ = some (.iface 172 (.agg #[.pointer (some ⟨5, 43, none⟩)]))
theorem Et.below {w V : World} (h : Et w) (hb : Below w.heap.size w V) : Et V := bel_cell hb h
set_option maxHeartbeats 4000000 in
set_option maxRecDepth 20000 in
theorem number_errno (w : World) (F : Nat → Prop) (aD aF aN : Addr) (c : Nat) (h : Snt w F aD aF aN) (hE : Et w) : Calls Tryz.prog 16 #[.iface 55 (.int .i64 c)] w fun e w' => e = .returned (.int .i64 c) ∧ Hid (Below w.heap.size w w') := by
  obtain ⟨w1, hw1⟩ : ∃ V, w.alloc (.cells #[.int .i64 0] 55) = V := ⟨_, rfl⟩
  have hb : Below w.heap.size w w1 := by rw [← hw1]; exact (Below.refl _ _).alloc (Nat.le_refl _) _
  have hs1 : w1.heap.size = w.heap.size + 1 := by rw [← hw1]; simp
  have hg1 := heap_new6 w (.cells #[.int .i64 0] 55)
  rw [hw1] at hg1
  have HI : Hid (∀ a V, Calls Tryz.prog 43 #[.iface 55 (.int .i64 c), .iface 218 (.pointer (some a))] V fun e w' => e = .returned (.bool false) ∧ w' = V) := fun a V => isErrno7 c a V
  have HA := asHit7 c w.heap.size (.int .i64 0) w1 (hE.below hb) (cell_of_row _ _ 0 _ _ _ hg1) (frozen_of_row _ _ 0 _ _ hg1)
  obtain ⟨w2, hw2⟩ : ∃ V, ((((w1.alloc (.cells #[.pointer (some ⟨w.heap.size, 0, none⟩)] 105)).alloc (.cells #[.pointer (some ⟨5, 105, none⟩), .pointer (some ⟨w1.heap.size, 0, none⟩), .int .u64 150] 147)).alloc (.cells #[.pointer (some ⟨5, 105, none⟩), .pointer (some ⟨w1.heap.size, 0, none⟩), .int .u64 150] 147)).alloc (.cells #[.int .i64 c] 55)) = V := ⟨_, rfl⟩
  rw [hw2] at HA
  have hb2 : Below w1.heap.size w1 w2 := by
    rw [← hw2]
    exact ((((Below.refl _ _).alloc (Nat.le_refl _) _).alloc (by simp) _).alloc (by simp; omega) _).alloc (by simp; omega) _
  have HW : Hid ((w2.setCell ⟨w.heap.size, 0, none⟩ (.int .i64 c)).cell? ⟨w.heap.size, 0, none⟩ = some (.int .i64 c) ∧ Below w.heap.size w (w2.setCell ⟨w.heap.size, 0, none⟩ (.int .i64 c))) := by
    have h2 := (hb2.block w.heap.size (by omega)).trans hg1
    refine ⟨cell_of_row _ _ 0 _ _ _ (heap_setCell_same w2 w.heap.size 0 _ _ _ h2), ?_⟩
    have hbb : Below w.heap.size w w2 := hb.trans (hb2.mono hb.size)
    exact ⟨hbb.os, hbb.tape, hbb.output, by simp [World.setCell]; exact hbb.size, fun k hk => (heap_setCell_other w2 ⟨w.heap.size, 0, none⟩ k _ (by simp; omega)).trans (hbb.block k hk)⟩
  have e0 : w1.cell? ⟨0, 0, none⟩ = some (.iface 218 (.pointer (some aD))) := (h.er.below hb).d
  have e1 : w1.cell? ⟨1, 0, none⟩ = some (.iface 218 (.pointer (some aF))) := (h.er.below hb).f
  clear h hE hb hb2 hg1 hw2
  go_enter Tryz.func16, Tryz.ntmps16
  go_wp2_with (first
    | (go_at_call 43; refine (HI.out _ _).mono ?_; rintro e w9 ⟨rfl, hw9⟩; rw [hw9]; clear hw9)
    | (go_at_call 44; refine HA.mono ?_; rintro e w9 ⟨rfl, hw9⟩; rw [hw9]; clear hw9; have c9 := HW.out.1))
  go_ret
  exact ⟨rfl, HW.out.2⟩
end Go.Proofs.YtllhbhogfffedaaGreatDoor.K

namespace Go.Proofs.YtllhbhogfffedaaGreatDoor
open Go.RowKit
set_option linter.unusedVariables false
set_option linter.unusedSimpArgs false
set_option maxRecDepth 100000 in
set_option maxHeartbeats 4000000 in
/-- Two lists of one length: some bool. -/
theorem same7_one (l l' : List Rc) (a b : Option Addr) (n ca cb : Nat) (w : World) (hn : l.length = n) (hn' : l'.length = n) (hm : n ≤ 140737488355328) (ha : RLin w a l) (hb : RLin w b l') (hsp : ∀ r ∈ l, r.spans.length ≤ 4611686018427387903) :
    Calls Tryz.prog 24 #[.slice a n ca, .slice b n cb] w fun e w' => SbB w e w' := by
  have HA : Hid (RLin w a l) := ha
  have HB : Hid (RLin w b l') := hb
  have HN' : Hid (l'.length = n) := hn'
  have HN : Hid (l.length = n) := hn
  have HSP : Hid (∀ r ∈ l, r.spans.length ≤ 4611686018427387903) := hsp
  clear ha hb hn hn' hsp
  go_enter Tryz.func24, Tryz.ntmps24
  go_wp2_with fail
  go_loopw [5] (fun i wr => ∃ k : Nat, k ≤ n ∧ i = .int .i64 k ∧ Below w.heap.size w wr) (fun i _ => n - (intOf i).toNat)
  case atStart => exact ⟨0, Nat.zero_le _, rfl, Below.refl _ _⟩
  case round =>
    obtain ⟨k, hk, rfl, hbw⟩ := hrel
    have HBW : Hid (Below w.heap.size w wr) := hbw
    by_cases hlt : k < n
    · have hkl : k < l.length := by rw [HN.out]; exact hlt
      obtain ⟨r, hr⟩ : ∃ r, l[k]? = some r := ⟨l[k], List.getElem?_eq_getElem hkl⟩
      obtain ⟨g, off, sa, da, sc, dc, rfl, hc, hri⟩ := (HA.out.below hbw).at hr
      obtain ⟨r', hr'⟩ : ∃ r', l'[k]? = some r' := ⟨l'[k]'(by rw [HN'.out]; exact hlt), List.getElem?_eq_getElem _⟩
      obtain ⟨g', off', sb, db, tc, ec, rfl, hc', hri'⟩ := (HB.out.below hbw).at hr'
      have c0 := hc 0 _ rfl
      have c1 := hc 1 _ rfl
      have c2 := hc 2 _ rfl
      have c3 := hc 3 _ rfl
      have c4 := hc 4 _ rfl
      have c5 := hc 5 _ rfl
      have c6 := hc 6 _ rfl
      have c7 := hc 7 _ rfl
      have c8 := hc 8 _ rfl
      have c9 := hc 9 _ rfl
      have c10 := hc 10 _ rfl
      have d0 := hc' 0 _ rfl
      have d1 := hc' 1 _ rfl
      have d2 := hc' 2 _ rfl
      have d3 := hc' 3 _ rfl
      have d4 := hc' 4 _ rfl
      have d5 := hc' 5 _ rfl
      have d6 := hc' 6 _ rfl
      have d7 := hc' 7 _ rfl
      have d8 := hc' 8 _ rfl
      have d9 := hc' 9 _ rfl
      have d10 := hc' 10 _ rfl
      simp only [Nat.add_zero] at c0 d0
      have hsr := HSP.out r (List.mem_of_getElem? hr)
      have HS : Hid (∀ W, Below wr.heap.size wr W → Calls Tryz.prog 55 #[.agg (rcC r (.slice sa r.spans.length sc) (.slice da r.data.length dc)), .agg (rcC r' (.slice sb r'.spans.length tc) (.slice db r'.data.length ec))] W fun e w' => SbB W e w') := fun W hW => sameRec7_gen r r' sa da sb db _ _ sc dc _ _ tc ec W (hri.below hW) (hri'.below hW) hsr
      have HBN : Hid (∀ W W', Below wr.heap.size wr W → Below W.heap.size W W' → Below w.heap.size w W') := fun W W' h1 h2 => (HBW.out.trans (h1.mono HBW.out.size)).trans (h2.mono (by have := HBW.out.size; have := h1.size; omega))
      have hlt' : (k : Int) < (n : Int) := by omega
      clear hc hc' hri hri' hbw hr hr' hsr
      generalize r.spans.length = ns at *
      generalize r.data.length = nd at *
      generalize r'.spans.length = ms at *
      generalize r'.data.length = md at *
      go_upto_region 6 with fail
      go_region_with (go_at_call 55; refine (HS.out _ (by first | exact Below.refl _ _ | exact ⟨rfl, rfl, rfl, Nat.le_refl _, fun _ _ => rfl⟩)).mono ?_; rintro e w2 ⟨qq, rfl, hb2⟩; have HB2 : Hid (Below w.heap.size w w2) := HBN.out _ _ (by first | exact Below.refl _ _ | exact ⟨rfl, rfl, rfl, Nat.le_refl _, fun _ _ => rfl⟩) hb2; clear hb2)
      all_goals
        clear c0 c1 c2 c3 c4 c5 c6 c7 c8 c9 c10 d0 d1 d2 d3 d4 d5 d6 d7 d8 d9 d10 HS HBN
        cases qq with
        | true =>
          go_wp2
          go_roundw
          case rel => exact ⟨k + 1, by omega, by go_num, HB2.out⟩
          case measure => simp [intOf]; omega
        | false =>
          go_wp2
          go_ret
          exact ⟨_, rfl, HB2.out⟩
    · have hlt' : ¬ (k : Int) < (n : Int) := by omega
      clear hbw
      go_wp2
      go_ret
      exact ⟨_, rfl, HBW.out⟩

set_option maxRecDepth 100000 in
theorem same7_len (a b : Option Addr) (n m ca cb : Nat) (w : World) (h : n ≠ m) :
    Calls Tryz.prog 24 #[.slice a n ca, .slice b m cb] w fun e w' => SbB w e w' := by
  have hz : ¬ (n : Int) = (m : Int) := by omega
  clear h
  go_enter Tryz.func24, Tryz.ntmps24
  go_wp2
  go_ret
  exact ⟨_, rfl, Below.refl _ _⟩
/-- same, of any two lists: some bool; true, if they say the same. -/
def SmP (l l' : List Rc) (w : World) (e : Ending) (w' : World) : Prop := ∃ q, e = .returned (.bool q) ∧ (l = l' → q = true) ∧ Below w.heap.size w w'
theorem same7_any (l l' : List Rc) (a b : Option Addr) (n m ca cb : Nat) (w : World) (hn : l.length = n) (hn' : l'.length = m) (hm : n ≤ 140737488355328) (ha : RLin w a l) (hb : RLin w b l') (hsp : ∀ r ∈ l, r.spans.length ≤ 4611686018427387903) :
    Calls Tryz.prog 24 #[.slice a n ca, .slice b m cb] w fun e w' => SmP l l' w e w' := by
  by_cases he : l = l'
  · subst he
    obtain rfl : n = m := hn.symm.trans hn'
    refine (same7_eq l a b n ca cb w hn hm ha hb hsp).mono ?_
    rintro e w' ⟨rfl, hB⟩
    exact ⟨true, rfl, fun _ => rfl, hB⟩
  · by_cases hnm : n = m
    · subst hnm
      refine (same7_one l l' a b n ca cb w hn hn' hm ha hb hsp).mono ?_
      rintro e w' ⟨q, rfl, hB⟩
      exact ⟨q, rfl, fun h => absurd h he, hB⟩
    · refine (same7_len a b n m ca cb w hnm).mono ?_
      rintro e w' ⟨q, rfl, hB⟩
      exact ⟨q, rfl, fun h => absurd h he, hB⟩
end Go.Proofs.YtllhbhogfffedaaGreatDoor
