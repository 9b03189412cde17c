import Derived.Test.YtcefemblcifogaiTmRt
import Derived.Test.YtcefemblcifogaiTmSrf
namespace Go.Proofs.Ytcefemblcifogai
open Go.RowKit Go.Maps
set_option linter.unusedVariables false

/-! ## The law's table against the program's -/
def smallK (k : Kx) : Prop := (1 ≤ k.1 ∧ k.1 ≤ 3) ∧ (1 ≤ k.2.1 ∧ k.2.1 ≤ 3) ∧ (1 ≤ k.2.2.1 ∧ k.2.2.1 ≤ 3) ∧ (1 ≤ k.2.2.2.1 ∧ k.2.2.2.1 ≤ 4) ∧ (0 ≤ k.2.2.2.2 ∧ k.2.2.2.2 ≤ 3)
theorem rgt_small (k : Kx) : smallK (rgt k) := by
  have h1 := pk_lo k.1 3 (by omega)
  have h2 := pk_hi k.1 3 (by omega)
  have h3 := pk_lo k.2.1 3 (by omega)
  have h4 := pk_hi k.2.1 3 (by omega)
  have h5 := pk_lo k.2.2.1 3 (by omega)
  have h6 := pk_hi k.2.2.1 3 (by omega)
  have h7 := pk_lo k.2.2.2.1 4 (by omega)
  have h8 := pk_hi k.2.2.2.1 4 (by omega)
  have h9 := pk_lo k.2.2.2.2 4 (by omega)
  have h10 := pk_hi k.2.2.2.2 4 (by omega)
  unfold smallK rgt
  simp only
  omega
def codeK (k : Kx) : Nat := (((((k.1 - 1) * 3 + (k.2.1 - 1)) * 3 + (k.2.2.1 - 1)) * 4 + (k.2.2.2.1 - 1)) * 4 + k.2.2.2.2).toNat
theorem code_lt {k : Kx} (h : smallK k) : codeK k < 432 := by
  unfold smallK at h
  unfold codeK
  omega
theorem code_inj {k k' : Kx} (h : smallK k) (h' : smallK k') (e : codeK k = codeK k') : k = k' := by
  obtain ⟨a, b, c, d, f⟩ := k
  obtain ⟨a', b', c', d', f'⟩ := k'
  unfold smallK at h h'
  unfold codeK at e
  simp only at h h' e
  simp only [Prod.mk.injEq]
  omega
theorem nd_le : ∀ (n : Nat) (l : List Nat), l.Nodup → (∀ x ∈ l, x < n) → l.length ≤ n
  | 0, l, _, h => by
    cases l with
    | nil => simp
    | cons x r => exact absurd (h x (by simp)) (by omega)
  | n + 1, l, hn, h => by
    have h1 := nd_le n (l.erase n) (hn.erase n) (fun x hx => by
      have h2 := (hn.mem_erase_iff).mp hx
      have h3 := h x h2.2
      omega)
    by_cases e : n ∈ l
    · rw [List.length_erase_of_mem e] at h1; omega
    · rw [List.erase_of_not_mem e] at h1; omega
theorem nd_code {α : Type} (f : α → Nat) (n : Nat) (l : List α) (hn : l.Nodup) (hf : ∀ x ∈ l, ∀ y ∈ l, f x = f y → x = y) (hb : ∀ x ∈ l, f x < n) : l.length ≤ n := by
  have h1 : (l.map f).Nodup := by
    unfold List.Nodup at *
    rw [List.pairwise_map]
    exact hn.imp_of_mem (fun {a b} ha hb' h e => h (hf a ha b hb' e))
  have h2 := nd_le n (l.map f) h1 (fun x hx => by
    obtain ⟨y, hy, rfl⟩ := List.mem_map.mp hx
    exact hb y hy)
  simpa using h2
structure RO (R : Tl) (b : Int) : Prop where
  nd : (R.map Prod.fst).Nodup
  ok : ∀ x ∈ R, smallK x.1 ∧ -b ≤ x.2 ∧ x.2 ≤ 12
theorem RO.len {R : Tl} {b : Int} (h : RO R b) : R.length ≤ 432 := by
  have := nd_code codeK 432 (R.map Prod.fst) h.nd (fun x hx y hy e => by
    obtain ⟨x', hx', rfl⟩ := List.mem_map.mp hx
    obtain ⟨y', hy', rfl⟩ := List.mem_map.mp hy
    exact code_inj (h.ok _ hx').1 (h.ok _ hy').1 e) (fun x hx => by
    obtain ⟨x', hx', rfl⟩ := List.mem_map.mp hx
    exact code_lt (h.ok _ hx').1)
  simpa using this
theorem smallK.kW {k : Kx} (h : smallK k) : kW k := by
  obtain ⟨h1, h2, h3, h4, h5⟩ := h
  exact ⟨kI_of (by omega), kI_of (by omega), kI_of (by omega), kI_of (by omega), kI_of (by omega)⟩
theorem RO.nil (b : Int) : RO [] b := ⟨by simp, by simp⟩
theorem RO.up {R : Tl} (h : RO R 0) (k : Kx) (n : Int) (hn : 1 ≤ n ∧ n ≤ 12) : RO (upR R (rgt k) n) 0 := by
  refine ⟨upR_nd _ _ h.nd, ?_⟩
  rintro ⟨x, c⟩ hx
  rcases upR_mem.mp hx with ⟨rfl, rfl⟩ | ⟨h1, _⟩
  · exact ⟨rgt_small k, by omega, by omega⟩
  · exact h.ok _ h1
theorem mem_dn {R : Tl} {h : Int} {k : Kx} {c : Int} : (k, c) ∈ R.map (dn h) ↔ (hb h k.1 = true ∧ (k, c) ∈ R) ∨ (hb h k.1 = false ∧ (k, c + 1) ∈ R) := by
  rw [List.mem_map]
  constructor
  · rintro ⟨⟨y, d⟩, h1, h2⟩
    unfold dn at h2
    cases e : hb h y.1
    · simp only [e, Bool.false_eq_true, if_false, Prod.mk.injEq] at h2
      obtain ⟨rfl, rfl⟩ := h2
      exact .inr ⟨e, by rw [show d - 1 + 1 = d by omega]; exact h1⟩
    · simp only [e, if_true, Prod.mk.injEq] at h2
      obtain ⟨rfl, rfl⟩ := h2
      exact .inl ⟨e, h1⟩
  · rintro (⟨h1, h2⟩ | ⟨h1, h2⟩)
    · exact ⟨_, h2, by simp [dn, h1]⟩
    · exact ⟨_, h2, by simp [dn, h1]⟩
theorem RO.dn {R : Tl} {b : Int} (h : RO R b) (q : Int) : RO (R.map (dn q)) (b + 1) := by
  refine ⟨?_, ?_⟩
  · have e : (R.map (Go.Proofs.Ytcefemblcifogai.dn q)).map Prod.fst = R.map Prod.fst := by
      rw [List.map_map]
      exact List.map_congr_left fun x _ => dn_fst q x
    rw [e]; exact h.nd
  · rintro ⟨k, c⟩ hx
    rcases mem_dn.mp hx with ⟨_, h1⟩ | ⟨_, h1⟩
    · have := h.ok _ h1
      exact ⟨this.1, by have := this.2.1; simp only at this ⊢; omega, this.2.2⟩
    · have := h.ok _ h1
      have h2 := this.2.1
      have h3 := this.2.2
      simp only at h2 h3
      exact ⟨this.1, by simp only; omega, by simp only; omega⟩
/-- The program's timers are those of the law's table that have ticks left. -/
structure LR (L R : Tl) : Prop where
  mem : ∀ k c, (k, c) ∈ L ↔ ((k, c) ∈ R ∧ 1 ≤ c)
theorem LR.of_perm {L R : Tl} (h : L.Perm R) (hp : ∀ x ∈ L, 1 ≤ x.2) : LR L R := ⟨fun k c => ⟨fun h1 => ⟨h.mem_iff.mp h1, hp _ h1⟩, fun h1 => h.mem_iff.mpr h1.1⟩⟩
def posR (R : Tl) : Tl := R.filter fun x => decide (1 ≤ x.2)
theorem LR.perm {L R : Tl} {b : Int} (h : LR L R) (hL : (L.map Prod.fst).Nodup) (hR : RO R b) : L.Perm (posR R) := by
  have h2 : (posR R).Nodup := List.Nodup.sublist List.filter_sublist (nd_fst hR.nd)
  rw [List.perm_ext_iff_of_nodup (nd_fst hL) h2]
  rintro ⟨k, c⟩
  rw [h.mem]
  simp [posR]
theorem LR.len {L R : Tl} {b : Int} (h : LR L R) (hL : (L.map Prod.fst).Nodup) (hR : RO R b) : L.length ≤ 432 := by
  rw [(h.perm hL hR).length_eq]
  exact Nat.le_trans (List.length_filter_le _ _) hR.len
theorem LR.tick {L R : Tl} {Hs : List Int} {h : Int} (H : LR L R) (hp : ∀ x ∈ R, (x.1.1 ∈ Hs ↔ hb h x.1.1 = true)) : LR (tickT L Hs) (R.map (dn h)) := by
  refine ⟨fun k c => ?_⟩
  rw [tickT_mem, mem_dn, H.mem, H.mem]
  constructor
  · rintro (⟨h1, h2, h3⟩ | ⟨h1, ⟨h2, h3⟩, h4⟩)
    · exact ⟨.inl ⟨(hp _ h2).mp h1, h2⟩, h3⟩
    · refine ⟨.inr ⟨?_, h2⟩, by omega⟩
      cases e : hb h k.1
      · rfl
      · exact absurd ((hp _ h2).mpr e) h1
  · rintro ⟨⟨h1, h2⟩ | ⟨h1, h2⟩, h3⟩
    · exact .inl ⟨(hp _ h2).mpr h1, h2, h3⟩
    · refine .inr ⟨fun e => ?_, ⟨h2, by omega⟩, by omega⟩
      have := (hp _ h2).mp e
      rw [h1] at this; cases this
theorem out_len {L R : Tl} {Hs : List Int} {h b : Int} (H : LR L R) (hL : (L.map Prod.fst).Nodup) (hR : RO R b) (hp : ∀ x ∈ R, (x.1.1 ∈ Hs ↔ hb h x.1.1 = true)) : (srtK (outS L Hs)).length = cnt R h := by
  rw [srtK_len]
  unfold outS cnt
  rw [List.length_map, ((H.perm hL hR).filter _).length_eq, posR, List.filter_filter]
  congr 1
  refine List.filter_congr fun x hx => ?_
  have := hp x hx
  rw [Bool.eq_iff_iff, Bool.and_eq_true, Bool.and_eq_true, decide_eq_true_iff, decide_eq_true_iff, decide_eq_true_iff, Bool.not_eq_true']
  constructor
  · rintro ⟨⟨h1, h2⟩, h3⟩
    refine ⟨h1, ?_⟩
    cases e : hb h x.1.1
    · rfl
    · exact absurd (this.mpr e) h2
  · rintro ⟨h1, h2⟩
    exact ⟨⟨h1, fun e => by have := this.mp e; rw [h2] at this; cases this⟩, by omega⟩
theorem out_all {L R : Tl} {Hs : List Int} {h : Int} (H : LR L R) (hp : ∀ x ∈ R, (x.1.1 ∈ Hs ↔ hb h x.1.1 = true)) : ∀ x ∈ R, x.2 = 1 → hb h x.1.1 = false → x.1 ∈ srtK (outS L Hs) := by
  rintro ⟨k, c⟩ hx h1 h2
  simp only at h1 h2
  subst h1
  rw [srtK_mem, outS_mem]
  refine ⟨(H.mem _ _).mpr ⟨hx, by omega⟩, fun e => ?_⟩
  have := (hp _ hx).mp e
  rw [h2] at this; cases this
theorem out_kw {L R : Tl} {Hs : List Int} {b : Int} (H : LR L R) (hR : RO R b) : ∀ x ∈ srtK (outS L Hs), kW x := by
  intro x hx
  rw [srtK_mem, outS_mem] at hx
  exact (hR.ok _ ((H.mem _ _).mp hx.1).1).1.kW
theorem LR.key {L R : Tl} {b : Int} {k : Kx} {c : Int} (H : LR L R) (hR : RO R b) (hx : (k, c) ∈ R) : decide (k ∈ L.map Prod.fst) = decide (1 ≤ c) := by
  refine decide_eq_decide.mpr ⟨fun h => ?_, fun h => List.mem_map.mpr ⟨_, (H.mem _ _).mpr ⟨hx, h⟩, rfl⟩⟩
  obtain ⟨⟨k', c'⟩, h1, h2⟩ := List.mem_map.mp h
  have h2' : k' = k := h2
  subst h2'
  have h3 := (H.mem _ _).mp h1
  have := uniqT hR.nd h3.1 hx
  omega
theorem posR_step {R : Tl} {j : Nat} {x : Kx × Int} (hx : R[j]? = some x) : (posR (R.take (j + 1))).length = (posR (R.take j)).length + if 1 ≤ x.2 then 1 else 0 := by
  unfold posR
  rw [List.take_add_one, hx, List.filter_append, List.length_append]
  congr 1
  simp only [Option.toList_some, List.filter_cons, List.filter_nil, decide_eq_true_eq]
  split <;> rfl
theorem posR_le (R : Tl) (j : Nat) : (posR (R.take j)).length ≤ j := Nat.le_trans (List.length_filter_le _ _) (by rw [List.length_take]; exact Nat.min_le_left _ _)
/-- Peers of 1 to 3: there are three. -/
theorem held_le {Hs : List Int} (hn : Hs.Nodup) (h : ∀ x ∈ Hs, 1 ≤ x ∧ x ≤ 3) : Hs.length ≤ 4 :=
  nd_code Int.toNat 4 Hs hn (fun x hx y hy e => by have := h x hx; have := h y hy; omega) (fun x hx => by have := h x hx; omega)

/-! ## What came in -/
def Sta (w : World) (a : Option Addr) (l : Tl) : Prop := l = [] ∨ ∃ g off, a = some ⟨g, off, none⟩ ∧ ∀ (i : Nat) (x : Kx × Int), l[i]? = some x →
  w.cell? ⟨g, off + i * 6, none⟩ = some (.int .i64 x.1.1) ∧ w.cell? ⟨g, off + i * 6 + 1, none⟩ = some (.int .i64 x.1.2.1) ∧ w.cell? ⟨g, off + i * 6 + 2, none⟩ = some (.int .i64 x.1.2.2.1) ∧ w.cell? ⟨g, off + i * 6 + 3, none⟩ = some (.int .i64 x.1.2.2.2.1) ∧ w.cell? ⟨g, off + i * 6 + 4, none⟩ = some (.int .i64 x.1.2.2.2.2) ∧ w.cell? ⟨g, off + i * 6 + 5, none⟩ = some (.int .i64 x.2)
theorem tm_cell {w w' : World} {g o : Nat} {u : Value} (h : w.cell? ⟨g, o, none⟩ = some u) (hb : Below w.heap.size w w') : w'.cell? ⟨g, o, none⟩ = some u :=
  (hb.cell (p := ⟨g, o, none⟩) (World.block_lt_of_cell? w ⟨g, o, none⟩ h)).trans h
theorem Sta.below {w w' : World} {a : Option Addr} {l : Tl} (h : Sta w a l) (hb : Below w.heap.size w w') : Sta w' a l := by
  rcases h with h | ⟨g, off, ha, h⟩
  · exact .inl h
  · exact .inr ⟨g, off, ha, fun i c hc => by
      obtain ⟨h0, h1, h2, h3, h4, h5⟩ := h i c hc
      exact ⟨tm_cell h0 hb, tm_cell h1 hb, tm_cell h2 hb, tm_cell h3 hb, tm_cell h4 hb, tm_cell h5 hb⟩⟩
def Itt (w : World) (a : Option Addr) (l : List Int) : Prop := l = [] ∨ ∃ g off, a = some ⟨g, off, none⟩ ∧ ∀ (i : Nat) (x : Int), l[i]? = some x → w.cell? ⟨g, off + i, none⟩ = some (.int .i64 x)
theorem Itt.below {w w' : World} {a : Option Addr} {l : List Int} (h : Itt w a l) (hb : Below w.heap.size w w') : Itt w' a l := by
  rcases h with h | ⟨g, off, ha, h⟩
  · exact .inl h
  · exact .inr ⟨g, off, ha, fun i c hc => tm_cell (h i c hc) hb⟩

end Go.Proofs.Ytcefemblcifogai
