import Derived.Test.YtcfodcioeefbeaaDoorMath
namespace Go.Proofs.YtcfodcioeefbeaaDoor

/-- What a reading comes to: an error, or a value and what is left. -/
inductive Res (α : Type) where
  | bad (e : Int)
  | ok (v : α) (rest : List Int)

def Pr (α : Type) := List Int → Res α

def Pr.ret {α : Type} (v : α) : Pr α := fun zs => .ok v zs
def Pr.fail {α : Type} (e : Int) : Pr α := fun _ => .bad e
def Pr.bind {α β : Type} (p : Pr α) (f : α → Pr β) : Pr β := fun zs => match p zs with
  | .bad e => .bad e
  | .ok v r => f v r

theorem Pr.bind_assoc {α β γ : Type} (p : Pr α) (f : α → Pr β) (g : β → Pr γ) : (p.bind f).bind g = p.bind fun v => (f v).bind g := by
  funext zs
  simp only [Pr.bind]
  cases p zs <;> rfl
theorem Pr.ret_bind {α β : Type} (v : α) (f : α → Pr β) : (Pr.ret v).bind f = f v := rfl
theorem Pr.fail_bind {α β : Type} (e : Int) (f : α → Pr β) : (Pr.fail e).bind f = Pr.fail e := rfl
theorem Pr.bind_ret {α : Type} (p : Pr α) : p.bind Pr.ret = p := by
  funext zs
  simp only [Pr.bind]
  cases p zs <;> rfl

/-- A reading that takes a piece, tells at once what is wrong, and is short of every shorter beginning. -/
structure Good {α : Type} (p : Pr α) : Prop where
  ok : ∀ zs v r, p zs = .ok v r → ∃ c, zs = c ++ r ∧ (∀ x, p (c ++ x) = .ok v x) ∧ ∀ k, k < c.length → p (c.take k) = .bad 20
  bad : ∀ zs e, p zs = .bad e → e ≠ 20 → ∀ x, p (zs ++ x) = .bad e

theorem Good.ret {α : Type} (v : α) : Good (Pr.ret v) :=
  ⟨fun zs v' r h => ⟨[], by simp [Pr.ret] at h; simp [h.2], by simp [Pr.ret] at h; intro x; simp [Pr.ret, h.1], by simp⟩, fun zs e h => by simp [Pr.ret] at h⟩
theorem Good.fail {α : Type} (e : Int) : Good (Pr.fail (α := α) e) :=
  ⟨fun zs v' r h => by simp [Pr.fail] at h, fun zs e' h _ x => by simp [Pr.fail] at h ⊢; exact h⟩

theorem Good.bind {α β : Type} {p : Pr α} {f : α → Pr β} (hp : Good p) (hf : ∀ v, Good (f v)) : Good (p.bind f) := by
  constructor
  · intro zs v r h
    simp only [Pr.bind] at h
    cases h1 : p zs with
    | bad e => rw [h1] at h; cases h
    | ok u r1 =>
      rw [h1] at h
      obtain ⟨c1, rfl, a1, b1⟩ := hp.ok zs u r1 h1
      obtain ⟨c2, rfl, a2, b2⟩ := (hf u).ok r1 v r h
      refine ⟨c1 ++ c2, by simp, fun x => ?_, fun k hk => ?_⟩
      · simp only [Pr.bind, List.append_assoc, a1, a2]
      · by_cases hk1 : k < c1.length
        · rw [List.take_append_of_le_length (by omega)]
          simp only [Pr.bind, b1 k hk1]
        · rw [List.take_append, List.take_of_length_le (by omega)]
          simp only [Pr.bind, a1]
          exact b2 _ (by simp at hk; omega)
  · intro zs e h he x
    simp only [Pr.bind] at h ⊢
    cases h1 : p zs with
    | bad e1 =>
      rw [h1] at h
      simp at h; subst h
      rw [hp.bad zs e1 h1 he x]
    | ok u r1 =>
      rw [h1] at h
      obtain ⟨c1, rfl, a1, b1⟩ := hp.ok zs u r1 h1
      rw [List.append_assoc, a1]
      exact (hf u).bad r1 e h he x

def oct : Pr Int := fun zs => match zs with
  | [] => .bad 20
  | c :: r => .ok c r
def numb (lo hi : Int) : Pr Int := fun zs =>
  if (rd zs).2.2 = 10 then .bad 20 else if (rd zs).2.2 ≠ 0 ∨ 4611686018427387903 < (rd zs).1 then .bad 22
  else if lo ≤ (rd zs).1 ∧ (rd zs).1 ≤ hi then .ok (rd zs).1 (zs.drop (rd zs).2.1.toNat) else .bad 23
def rowp (n : Int) : Pr (List Int) := fun zs => if (zs.length : Int) < n then .bad 20 else .ok (zs.take n.toNat) (zs.drop n.toNat)

theorem rdGo_cut : ∀ (zs : List Int) (v i : Int),
    ((rdGo v i zs).2.2 = 0 ∧ ∃ c r, zs = c ++ r ∧ (rdGo v i zs).2.1 = i + c.length ∧ (∀ x, rdGo v i (c ++ x) = rdGo v i zs) ∧ ∀ j, j < c.length → rdGo v i (c.take j) = (0, 0, 10)) ∨
    ((rdGo v i zs).2.2 ≠ 0 ∧ ((rdGo v i zs).2.2 ≠ 10 → ∀ x, rdGo v i (zs ++ x) = rdGo v i zs))
  | [], v, i => by right; simp [rdGo]
  | z :: zs, v, i => by
    by_cases h1 : i = 0 ∧ z = 128
    · right; simp [rdGo, h1]
    · by_cases h2 : 144115188075855871 < v
      · right; simp [rdGo, h1, h2]
      · by_cases h3 : z < 128
        · left
          refine ⟨by simp [rdGo, h1, h2, h3], [z], zs, by simp, by simp [rdGo, h1, h2, h3], fun x => by simp [rdGo, h1, h2, h3], fun j hj => ?_⟩
          obtain rfl : j = 0 := by simp at hj; omega
          rfl
        · rcases rdGo_cut zs (v * 128 + (z - 128)) (i + 1) with ⟨a, c, r, e, b, d, f⟩ | ⟨a, b⟩
          · left
            refine ⟨by simp only [rdGo, h1, h2, h3, if_false]; exact a, z :: c, r, by simp [e], ?_, fun x => ?_, fun j hj => ?_⟩
            · simp only [rdGo, h1, h2, h3, if_false, b]; simp; omega
            · simp only [rdGo, h1, h2, h3, if_false, List.cons_append, d]
            · cases j with
              | zero => rfl
              | succ j =>
                simp only [List.take_succ_cons, rdGo, h1, h2, h3, if_false]
                exact f j (by simp at hj; omega)
          · right
            refine ⟨by simp only [rdGo, h1, h2, h3, if_false]; exact a, fun hn x => ?_⟩
            simp only [rdGo, h1, h2, h3, if_false, List.cons_append] at hn ⊢
            exact b hn x

theorem Good.oct : Good oct := by
  constructor
  · intro zs v r h
    cases zs with
    | nil => simp [Go.Proofs.YtcfodcioeefbeaaDoor.oct] at h
    | cons c t =>
      simp only [Go.Proofs.YtcfodcioeefbeaaDoor.oct, Res.ok.injEq] at h
      obtain ⟨rfl, rfl⟩ := h
      refine ⟨[c], rfl, fun x => rfl, fun k hk => ?_⟩
      obtain rfl : k = 0 := by simp at hk; omega
      rfl
  · intro zs e h he x
    cases zs with
    | nil => simp only [Go.Proofs.YtcfodcioeefbeaaDoor.oct, Res.bad.injEq] at h; omega
    | cons c t => simp [Go.Proofs.YtcfodcioeefbeaaDoor.oct] at h

theorem numb_ok {lo hi : Int} {zs : List Int} {v : Int} {r : List Int} (h : numb lo hi zs = .ok v r) : (rd zs).2.2 = 0 ∧ (rd zs).1 = v ∧ lo ≤ v ∧ v ≤ hi ∧ v ≤ 4611686018427387903 ∧ r = zs.drop (rd zs).2.1.toNat := by
  unfold numb at h
  split at h
  · cases h
  · split at h
    · cases h
    · split at h
      · rename_i h1 h2 h3
        simp only [Res.ok.injEq] at h
        obtain ⟨rfl, rfl⟩ := h
        exact ⟨by omega, rfl, h3.1, h3.2, by omega, rfl⟩
      · cases h

theorem Good.numb (lo hi : Int) : Good (numb lo hi) := by
  constructor
  · intro zs v r h
    obtain ⟨h0, hv, hl, hh, hm, hr⟩ := numb_ok h
    rcases rdGo_cut zs 0 0 with ⟨a, c, t, e, b, d, f⟩ | ⟨a, _⟩
    · have b' : (rd zs).2.1 = c.length := by have : (rd zs).2.1 = 0 + (c.length : Int) := b; omega
      have hrt : r = t := by rw [hr, b', e]; simp
      subst hrt
      refine ⟨c, e, fun x => ?_, fun k hk => ?_⟩
      · have d' : rd (c ++ x) = rd zs := d x
        unfold Go.Proofs.YtcfodcioeefbeaaDoor.numb
        rw [d', if_neg (by omega), if_neg (by omega), if_pos (by omega), hv, b']
        simp
      · have f' : rd (c.take k) = (0, 0, 10) := f k hk
        unfold Go.Proofs.YtcfodcioeefbeaaDoor.numb
        rw [f', if_pos rfl]
    · exact absurd h0 a
  · intro zs e h he x
    unfold Go.Proofs.YtcfodcioeefbeaaDoor.numb at h ⊢
    split at h
    · simp at h; omega
    · rename_i h10
      rcases rdGo_cut zs 0 0 with ⟨a, c, t, e', b, d, f⟩ | ⟨a, b⟩
      · have d' : rd (zs ++ x) = rd zs := by
          have h1 : rd (c ++ (t ++ x)) = rd zs := d (t ++ x)
          rw [← List.append_assoc, ← e'] at h1; exact h1
        rw [d', if_neg h10]
        split at h
        · rename_i h2; rw [if_pos h2]; exact h
        · rename_i h2; rw [if_neg h2]
          split at h
          · cases h
          · rename_i h3; rw [if_neg h3]; exact h
      · have d' : rd (zs ++ x) = rd zs := b h10 x
        rw [d', if_neg h10]
        have a' : (rd zs).2.2 ≠ 0 := a
        rw [if_pos (.inl a')] at h ⊢; exact h

theorem Good.rowp (n : Int) : Good (rowp n) := by
  constructor
  · intro zs v r h
    unfold Go.Proofs.YtcfodcioeefbeaaDoor.rowp at h
    split at h
    · cases h
    · rename_i h1
      simp only [Res.ok.injEq] at h
      obtain ⟨rfl, rfl⟩ := h
      refine ⟨zs.take n.toNat, by simp, fun x => ?_, fun k hk => ?_⟩
      · unfold Go.Proofs.YtcfodcioeefbeaaDoor.rowp
        have hl : (zs.take n.toNat).length = n.toNat := by simp; omega
        rw [if_neg (by simp; omega)]
        congr 1
        · rw [List.take_append_of_le_length (by omega), List.take_of_length_le (by omega)]
        · rw [List.drop_append_of_le_length (by omega), List.drop_of_length_le (by omega)]; rfl
      · unfold Go.Proofs.YtcfodcioeefbeaaDoor.rowp
        simp at hk
        rw [if_pos (by simp; omega)]
  · intro zs e h he x
    unfold Go.Proofs.YtcfodcioeefbeaaDoor.rowp at h
    split at h
    · simp at h; omega
    · cases h

theorem Good.ite {α : Type} {c : Prop} [Decidable c] {p q : Pr α} (hp : Good p) (hq : Good q) : Good (if c then p else q) := by
  split <;> assumption

structure Ex where
  tag : Int
  data : List Int

structure Sg where
  typ : Int
  org : Int
  num : Int
  head : List Ex
  tail : List Ex
  srv : Int
  off : Int
  data : List Int
  chk : Int
  rep : Int
  upp : Int
  low : Int
  clm : List (Int × Int)
  rsn : Int

/-- The table of the types. -/
def shp (t : Int) : Int := if t < 0 ∨ 16 ≤ t then 0 else [3, 7, 7, 7, 3, 0, 0, 3, 9, 17, 0, 0, 33, 1, 33, 1].getD t.toNat 0

def kindp : Pr Int := oct.bind fun t => if shp t % 2 = 1 then Pr.ret t else Pr.fail 21
def extsp : Nat → List Ex → Pr (List Ex)
  | 0, acc => Pr.ret acc
  | n + 1, acc => oct.bind fun t => (numb 0 200).bind fun k => (rowp k).bind fun d => extsp n (acc ++ [⟨t, d⟩])
def claimsp (lower upper : Int) : Nat → Int → List (Int × Int) → Pr (List (Int × Int))
  | 0, _, acc => Pr.ret acc
  | n + 1, least, acc => (numb least (upper - lower - 1)).bind fun f => (numb 1 (upper - (lower + f))).bind fun k => claimsp lower upper n (lower + f + k - lower + 1) (acc ++ [(lower + f, lower + f + k)])
def mn : Int := 4611686018427387903
def blockp (h : Int) (s : Sg) : Pr Sg :=
  (numb 0 mn).bind fun sv => (numb 0 mn).bind fun o => (numb 1 (65536 - o)).bind fun n =>
    if h = 7 then (numb 1 mn).bind fun c => (numb 0 mn).bind fun r => (rowp n).bind fun d => Pr.ret { s with srv := sv, off := o, chk := c, rep := r, data := d }
    else (rowp n).bind fun d => Pr.ret { s with srv := sv, off := o, data := d }
def reportp (s : Sg) : Pr Sg :=
  (numb 1 mn).bind fun r => (numb 0 mn).bind fun c => (numb 1 65536).bind fun u => (numb 0 (u - 1)).bind fun l => (numb 1 1000).bind fun n =>
    (claimsp l u n.toNat 0 []).bind fun cl => Pr.ret { s with rep := r, chk := c, upp := u, low := l, clm := cl }
def reasonp (s : Sg) : Pr Sg := oct.bind fun r => if r ≤ 5 then Pr.ret { s with rsn := r } else Pr.fail 23
def contp (h : Int) (s : Sg) : Pr Sg :=
  if h = 3 ∨ h = 7 then blockp h s else if h = 9 then reportp s else if h = 17 then (numb 1 mn).bind fun r => Pr.ret { s with rep := r } else if h = 33 then reasonp s else Pr.ret s
def sg0 : Sg := ⟨0, 0, 0, [], [], 0, 0, [], 0, 0, 0, 0, [], 0⟩
def segp : Pr Sg := kindp.bind fun t => (numb 1 mn).bind fun o => (numb 1 (mn - 1)).bind fun n => oct.bind fun c =>
  (extsp (c / 16).toNat []).bind fun hd => (contp (shp t) { sg0 with typ := t, org := o, num := n, head := hd }).bind fun s => (extsp (c % 16).toNat []).bind fun tl => Pr.ret { s with tail := tl }

theorem Good.extsp : ∀ (n : Nat) (acc : List Ex), Good (extsp n acc)
  | 0, _ => Good.ret _
  | n + 1, _ => Good.bind Good.oct fun _ => Good.bind (Good.numb _ _) fun _ => Good.bind (Good.rowp _) fun _ => Good.extsp n _
theorem Good.claimsp (l u : Int) : ∀ (n : Nat) (least : Int) (acc : List (Int × Int)), Good (claimsp l u n least acc)
  | 0, _, _ => Good.ret _
  | n + 1, _, _ => Good.bind (Good.numb _ _) fun _ => Good.bind (Good.numb _ _) fun _ => Good.claimsp l u n _ _
theorem Good.contp (h : Int) (s : Sg) : Good (contp h s) :=
  Good.ite (Good.bind (Good.numb _ _) fun _ => Good.bind (Good.numb _ _) fun _ => Good.bind (Good.numb _ _) fun _ => Good.ite (Good.bind (Good.numb _ _) fun _ => Good.bind (Good.numb _ _) fun _ => Good.bind (Good.rowp _) fun _ => Good.ret _) (Good.bind (Good.rowp _) fun _ => Good.ret _))
    (Good.ite (Good.bind (Good.numb _ _) fun _ => Good.bind (Good.numb _ _) fun _ => Good.bind (Good.numb _ _) fun _ => Good.bind (Good.numb _ _) fun _ => Good.bind (Good.numb _ _) fun _ => Good.bind (Good.claimsp _ _ _ _ _) fun _ => Good.ret _)
      (Good.ite (Good.bind (Good.numb _ _) fun _ => Good.ret _) (Good.ite (Good.bind Good.oct fun _ => Good.ite (Good.ret _) (Good.fail _)) (Good.ret _))))
theorem Good.segp : Good segp :=
  Good.bind (Good.bind Good.oct fun _ => Good.ite (Good.ret _) (Good.fail _)) fun _ => Good.bind (Good.numb _ _) fun _ => Good.bind (Good.numb _ _) fun _ => Good.bind Good.oct fun _ =>
    Good.bind (Good.extsp _ _) fun _ => Good.bind (Good.contp _ _) fun _ => Good.bind (Good.extsp _ _) fun _ => Good.ret _

/-- What Parse answers: the error, and the segment where there is none. -/
def prs (zs : List Int) : Int × Sg := if 8192 < zs.length then (2, sg0) else match segp zs with
  | .bad e => (e, sg0)
  | .ok s [] => (0, s)
  | .ok _ (_ :: _) => (24, sg0)

/-- The state of a cursor: what was wrong first, and the place. -/
abbrev St := Int × Nat
/-- What is left to come of a reading. -/
def fin {α : Type} (p : Pr α) (zs : List Int) (st : St) : Res α := if st.1 ≠ 0 then .bad st.1 else p (zs.drop st.2)
/-- From st to st', with the value v, just p was read. -/
def Step {α : Type} (zs : List Int) (p : Pr α) (st : St) (v : α) (st' : St) : Prop := ∀ (β : Type) (K : α → Pr β), fin (p.bind K) zs st = fin (K v) zs st'

theorem Step.bind {α β : Type} {zs : List Int} {p : Pr α} {f : α → Pr β} {st st1 st2 : St} {v : α} {u : β} (h : Step zs p st v st1) (h' : Step zs (f v) st1 u st2) : Step zs (p.bind f) st u st2 := by
  intro γ K
  rw [Pr.bind_assoc, h, h']
theorem Step.ret {α : Type} {zs : List Int} {st : St} (v : α) : Step zs (Pr.ret v) st v st := fun _ _ => rfl
theorem Step.bad {α : Type} {zs : List Int} {p : Pr α} {st : St} (v : α) (h : st.1 ≠ 0) : Step zs p st v st := by
  intro β K; simp [fin, h]
theorem Step.fault {α : Type} {zs : List Int} {p : Pr α} {st : St} (v : α) (e : Int) (pl : Nat) (h : st.1 = 0) (he : e ≠ 0) (hp : p (zs.drop st.2) = .bad e) : Step zs p st v (e, pl) := by
  intro β K; simp [fin, h, Pr.bind, hp, he]
theorem Step.good {α : Type} {zs : List Int} {p : Pr α} {st : St} (v : α) (pl : Nat) (h : st.1 = 0) (hp : p (zs.drop st.2) = .ok v (zs.drop pl)) : Step zs p st v (0, pl) := by
  intro β K; simp [fin, h, Pr.bind, hp]

end Go.Proofs.YtcfodcioeefbeaaDoor
