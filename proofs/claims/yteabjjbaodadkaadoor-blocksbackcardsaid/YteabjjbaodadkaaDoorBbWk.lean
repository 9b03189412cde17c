import Derived.Test.YteabjjbaodadkaaDoorBbMath
import Derived.Test.YteabjjbaodadkaaDoorBfAw
import Derived.Test.YteabjjbaodadkaaDoorBkMay
import Derived.Deep.CutRange
namespace Go.Proofs.YteabjjbaodadkaaDoor
open Go.RowKit
set_option linter.unusedVariables false
set_option linter.unusedSimpArgs false

/-- What lies there while BlocksBack goes on. -/
structure BV (k : Pk) (base : Int) (bz tz : Value) (Bx Bs gl cl B0 : Nat) (l : List Pc) (V : World) : Prop where
  snd : V.heap[Bx]? = some (.cells (sndC k base bz tz) 50 (0, 0))
  spn : V.heap[Bs]? = some (.cells #[.int .i64 0, .int .i64 k.red] 38 (0, 0))
  row : POwn V 0 (.slice (some ⟨gl, 0, none⟩) l.length cl) l
  lt : Bx < B0 ∧ Bs < B0 ∧ gl < B0
theorem BV.low {k : Pk} {base : Int} {bz tz : Value} {Bx Bs gl cl B0 : Nat} {l : List Pc} {V V' : World} (h : BV k base bz tz Bx Bs gl cl B0 l V) (hb : Below B0 V V') : BV k base bz tz Bx Bs gl cl B0 l V' :=
  ⟨(hb.block _ h.lt.1).trans h.snd, (hb.block _ h.lt.2.1).trans h.spn, C.own_same0 h.row (fun g hg => by cases hg; exact hb.block _ h.lt.2.2), h.lt⟩
theorem BV.piece {k : Pk} {base : Int} {bz tz : Value} {Bx Bs gl cl B0 : Nat} {l : List Pc} {V : World} (h : BV k base bz tz Bx Bs gl cl B0 l V) {j : Nat} {y : Pc} (hj : l[j]? = some y) :
    V.cell? ⟨gl, j * 5, none⟩ = some (.int .i64 y.typ) ∧ V.cell? ⟨gl, j * 5 + 1, none⟩ = some (.int .i64 y.frm) ∧ V.cell? ⟨gl, j * 5 + 2, none⟩ = some (.int .i64 y.to) ∧ V.cell? ⟨gl, j * 5 + 3, none⟩ = some (.int .i64 y.chk) ∧ V.cell? ⟨gl, j * 5 + 4, none⟩ = some (.int .i64 y.rep) := by
  have hl := (List.getElem?_eq_some_iff.mp hj).1
  have hf : ∀ (l : List Pc) (j : Nat) (y : Pc), l[j]? = some y → ∀ i u, (pcL y)[i]? = some u → (l.flatMap pcL)[j * 5 + i]? = some u := fun l => by
    induction l with
    | nil => intro j y h; simp at h
    | cons x r ih =>
      intro j y h i u hu
      have hi : i < 5 := by have := (List.getElem?_eq_some_iff.mp hu).1; simpa [pcL] using this
      cases j with
      | zero =>
        simp at h; subst h
        rw [List.flatMap_cons, List.getElem?_append_left (by simp [pcL]; omega)]
        simpa using hu
      | succ j =>
        simp at h
        rw [List.flatMap_cons, List.getElem?_append_right (by simp [pcL]; omega), show (j + 1) * 5 + i - (pcL x).length = j * 5 + i from by simp [pcL]; omega]
        exact ih j y h i u hu
  have hlen : (l.flatMap pcL).length = l.length * 5 := h.row.1
  have hc : ∀ i u, (pcL y)[i]? = some u → V.cell? ⟨gl, j * 5 + i, none⟩ = some u := fun i u hu => by
    have hi : i < 5 := by have := (List.getElem?_eq_some_iff.mp hu).1; simpa [pcL] using this
    rw [World.ownsRow.cellAt h.row (j * 5 + i) (by omega)]
    exact hf l j y hj i u hu
  exact ⟨hc 0 _ rfl, hc 1 _ rfl, hc 2 _ rfl, hc 3 _ rfl, hc 4 _ rfl⟩
theorem BV.cells {k : Pk} {base : Int} {bz tz : Value} {Bx Bs gl cl B0 : Nat} {l : List Pc} {V : World} (h : BV k base bz tz Bx Bs gl cl B0 l V) :
    V.cell? ⟨Bx, 0, none⟩ = some (.int .i64 k.org) ∧ V.cell? ⟨Bx, 1, none⟩ = some (.int .i64 k.num) ∧ V.cell? ⟨Bx, 2, none⟩ = some (.int .i64 k.srv) ∧ V.cell? ⟨Bx, 3, none⟩ = some (.int .i64 k.size) ∧ V.cell? ⟨Bx, 4, none⟩ = some (.int .i64 k.red) ∧ V.cell? ⟨Bx, 5, none⟩ = some (.int .i64 k.mtu) ∧ V.cell? ⟨Bx, 6, none⟩ = some (.int .i64 k.every) ∧ V.cell? ⟨Bx, 7, none⟩ = some (.int .i64 base) ∧ V.cell? ⟨Bx, 8, none⟩ = some bz ∧ V.cell? ⟨Bx, 9, none⟩ = some tz :=
  ⟨cell_of_row _ _ 0 _ _ _ h.snd, cell_of_row _ _ 1 _ _ _ h.snd, cell_of_row _ _ 2 _ _ _ h.snd, cell_of_row _ _ 3 _ _ _ h.snd, cell_of_row _ _ 4 _ _ _ h.snd, cell_of_row _ _ 5 _ _ _ h.snd, cell_of_row _ _ 6 _ _ _ h.snd, cell_of_row _ _ 7 _ _ _ h.snd, cell_of_row _ _ 8 _ _ _ h.snd, cell_of_row _ _ 9 _ _ _ h.snd⟩
/-- The buffer while pieces of a cut come. -/
structure BL (k : Pk) (l : List Pc) (Z : List Int) (b : C.Bf) : Prop where
  bi : Bi b Z k.red
  st : ∀ s ∈ b.l, ∃ y ∈ l, y.frm < k.red ∧ s.1 = y.frm
theorem BL.few {k : Pk} {l : List Pc} {Z : List Int} {b : C.Bf} (h : BL k l Z b) : b.l.length ≤ redN k l := by
  unfold redN
  rw [← List.length_map (f := fun y : Pc => y.frm)]
  refine starts_len h.bi.ok.set.2 (fun s hs => ?_)
  obtain ⟨y, hy, h1, h2⟩ := h.st s hs
  exact List.mem_map.mpr ⟨y, List.mem_filter.mpr ⟨hy, by simpa using h1⟩, h2.symm⟩
theorem BL.put {k : Pk} {l : List Pc} {Z : List Int} {b b' : C.Bf} (h : BL k l Z b) {y : Pc} (hy : y ∈ l) (hr : y.frm < k.red) {u : List (Int × Int)} (hu : C.Uni b.l [(y.frm, y.to)] u) : (∀ s ∈ u, ∃ z ∈ l, z.frm < k.red ∧ s.1 = z.frm) := fun s hs => by
  have := starts_of (l := b.l) (p := y.frm) (q := y.to) h.bi.ok.set.2 hu.rt (fun x hx => (uni_or hu x).mp hx) (fun x hx => (uni_or hu x).mpr (.inl hx)) (fun x a1 a2 => (uni_or hu x).mpr (.inr ⟨a1, a2⟩)) s hs
  rcases List.mem_cons.mp this with e | e
  · exact ⟨y, hy, hr, e⟩
  · obtain ⟨r, hr1, hr2⟩ := List.mem_map.mp e
    obtain ⟨z, hz, h1, h2⟩ := h.st r hr1
    exact ⟨z, hz, h1, by rw [← hr2]; exact h2⟩
theorem BL.lenU {k : Pk} {l : List Pc} {Z : List Int} {b : C.Bf} (h : BL k l Z b) {y : Pc} (hy : y ∈ l) (hr : y.frm < k.red) {u : List (Int × Int)} (hu : C.Uni b.l [(y.frm, y.to)] u) : u.length ≤ redN k l := by
  unfold redN
  rw [← List.length_map (f := fun y : Pc => y.frm)]
  refine starts_len hu.rt (fun s hs => ?_)
  obtain ⟨z, hz, h1, h2⟩ := h.put (b' := b) hy hr hu s hs
  exact List.mem_map.mpr ⟨z, List.mem_filter.mpr ⟨hz, by simpa using h1⟩, h2.symm⟩

end Go.Proofs.YteabjjbaodadkaaDoor

namespace Go.Proofs.YteabjjbaodadkaaDoor
open Go.RowKit
set_option linter.unusedVariables false

/-- Of what is cut again, each end by itself. -/
theorem mkl_suf {k : Pk} (ok : k.Ok) {c r : Int} (hc : 1 ≤ c ∧ c ≤ 4611686018427387903) (hr : 0 ≤ r ∧ r ≤ 4611686018427387903) {gs : List (Int × Int)} (hg : Gp gs k.red) : ∀ {l : List Pc} {g : Nat} {a : Int}, MSt k c r gs l g a → (∀ f0 t0, gs[g]? = some (f0, t0) → a < t0) → g < gs.length ∨ l = [] → (l = [] → ∀ x, a ≤ x → C.has gs x = false) → ∀ pre y rest, l = pre ++ y :: rest → MkL k gs (y :: rest) y.frm
  | [], g, a, h, _, _, hz, pre, y, rest, e => by simp at e
  | y0 :: l, g, a, h, ha, hlg, hz, pre, y, rest, e => by
    obtain ⟨f0, t0, hgl, hgg, hf, hp, hk⟩ := h.step ok hc hr
    cases pre with
    | nil =>
      simp only [List.nil_append, List.cons.injEq] at e
      obtain ⟨rfl, rfl⟩ := e
      have := mkl_of ok hc hr hg h ha hlg hz
      rw [hf]; exact this
    | cons z pre =>
      simp only [List.cons_append, List.cons.injEq] at e
      obtain ⟨rfl, e⟩ := e
      rcases hk with ⟨f1, t1, q1, q2, q3, q4, q5, q6⟩ | ⟨q1, q2, q3, q4, q5, q6⟩ | ⟨q1, q2, q3, q4, q5, q6⟩ | ⟨q1, q2, q3, q4, q5, q6, q7, q8⟩
      · have hm1 := hg.mem (f1, t1) (List.mem_of_getElem? q2)
        simp only at hm1
        exact mkl_suf ok hc hr hg q6 (fun a b hab => by rw [q2] at hab; cases hab; omega) (.inl q1) (fun e => absurd e q5) pre y rest e
      · exact mkl_suf ok hc hr hg q6 (fun a b hab => by rw [hgg] at hab; cases hab; omega) (.inl hgl) (fun e => absurd e q5) pre y rest e
      · exact mkl_suf ok hc hr hg q6 (fun a b hab => by rw [hgg] at hab; cases hab; omega) (.inl hgl) (fun e => absurd e q5) pre y rest e
      · rw [q7] at e; simp at e

/-- The gaps of what came, in a red part. -/
structure GpF (k : Pk) (l : List (Int × Int)) (G : List (Int × Int)) (M : List Pc) : Prop where
  suf : ∀ pre y rest, M = pre ++ y :: rest → MkL k G (y :: rest) y.frm
  all : ∀ x, 0 ≤ x → x < k.red → C.has l x = false → ∃ y ∈ M, y.frm ≤ x ∧ x < y.to
  gap : ∀ x, C.has G x = true ↔ (0 ≤ x ∧ x < k.red) ∧ C.has l x = false
  pos : 0 < M.length
  len : M.length ≤ 131072
theorem gps_iff {l : List (Int × Int)} {red : Int} (hl : C.Rt 0 l) (x : Int) : C.has (C.gps l (0, red)) x = true ↔ (0 ≤ x ∧ x < red) ∧ C.has l x = false := by
  rw [C.gps_has hl, Bool.and_eq_true, C.inn_iff, Bool.not_eq_true']
theorem gpf_of {k : Pk} (ok : k.Ok) {c : Int} (hc : 1 ≤ c ∧ c ≤ 4611686018427387903) {l : List (Int × Int)} (hl : C.IsSet l) (hn : l.length ≤ 1774) (hne : C.gps l (0, k.red) ≠ []) :
    GpF k l (C.gps l (0, k.red)) (agL k c 3 (C.gps l (0, k.red))) ∧ ag k (C.gps l (0, k.red)) c 3 = (agL k c 3 (C.gps l (0, k.red)), 0) := by
  have hkr := ok.red
  have hks := ok.size
  have hask : C.Asked (0, k.red) := ⟨by show (0 : Int) ≤ 0; omega, by show (0 : Int) ≤ k.red; omega, by show k.red ≤ _; omega⟩
  have hrt := C.gps_rt hl.2 hask
  have hlen : (C.gps l (0, k.red)).length ≤ 2000 := by
    have := C.len_false (hi := k.red) (l := l) (p := 0)
    show (C.pick false (C.pc k.red 0 l)).length ≤ _; omega
  have hhi : ∀ s ∈ C.gps l (0, k.red), s.2 ≤ k.red := fun s hs => by
    have h1 := hrt.mem s hs
    have h2 : C.has (C.gps l (0, k.red)) (s.2 - 1) = true := C.has_mem.mpr ⟨s, hs, by omega, by omega⟩
    have := (gps_iff hl.2 _).mp h2; omega
  have hlast : lastTo (C.gps l (0, k.red)) ≤ k.red := by
    unfold lastTo
    cases e : (C.gps l (0, k.red)).getLast? with
    | none => simp; omega
    | some s => simp; exact hhi s (List.mem_of_getLast? e)
  have hgb : gapB (C.gps l (0, k.red)) k.red = true := by
    unfold gapB
    rw [C.setB_iff.mpr ⟨hlen, hrt⟩]
    simp [hne, hlast]
  have hgp : Gp (C.gps l (0, k.red)) k.red := ⟨hne, hrt, hlen, hlast⟩
  have hag : ag k (C.gps l (0, k.red)) c 3 = (agL k c 3 (C.gps l (0, k.red)), 0) := by
    unfold ag
    rw [if_neg (by omega), if_neg (by simp [ok.ses]), if_neg (by simp [ok.pcl]), if_neg (by simp [hgb]), if_neg]
    unfold asB btw
    simp; omega
  obtain ⟨f0, t0, hg0, hst⟩ := MSt.start (c := c) (r := 3) hgp
  have h00 := hgp.mem (f0, t0) (List.mem_of_getElem? hg0)
  simp only at h00
  have hpos := agL_pos (k := k) (c := c) (r := 3) hne hrt
  have h0l : 0 < (C.gps l (0, k.red)).length := List.length_pos_iff.mpr hne
  have hA : ∀ f1 t1, (C.gps l (0, k.red))[0]? = some (f1, t1) → f0 < t1 := fun a b hab => by rw [hg0] at hab; cases hab; omega
  have hmk := mkl_of ok hc (by omega : (0 : Int) ≤ 3 ∧ (3 : Int) ≤ 4611686018427387903) hgp hst hA (.inl h0l) (fun e => absurd e hpos)
  refine ⟨⟨mkl_suf ok hc (by omega) hgp hst hA (.inl h0l) (fun e => absurd e hpos), fun x x1 x2 x3 => ?_, gps_iff hl.2, List.length_pos_iff.mpr hpos, by have := ag_len k (C.gps l (0, k.red)) c 3; rw [hag] at this; exact this⟩, hag⟩
  have hx := (gps_iff hl.2 x).mpr ⟨⟨x1, x2⟩, x3⟩
  refine hmk.all x ?_ hx
  obtain ⟨s, hs, s1, _⟩ := C.has_mem.mp hx
  obtain ⟨j, hj⟩ := List.getElem?_of_mem hs
  have := gs_from hrt (Nat.zero_le j) hg0 hj
  simp only at this; omega

/-- The buffer while what was missing comes, from the end. -/
structure BM (k : Pk) (l0 : List (Int × Int)) (M : List Pc) (Z : List Int) (j : Nat) (b : C.Bf) : Prop where
  bi : Bi b Z k.red
  hs : ∀ x, C.has b.l x = true ↔ C.has l0 x = true ∨ ∃ y ∈ M.drop j, y.frm ≤ x ∧ x < y.to
theorem drop_at {M : List Pc} {j : Nat} {y : Pc} (h : M[j]? = some y) : M.drop j = y :: M.drop (j + 1) := by
  have hl := (List.getElem?_eq_some_iff.mp h).1
  rw [List.drop_eq_getElem_cons hl]
  congr 1
  rw [List.getElem?_eq_getElem hl] at h; exact Option.some.inj h
theorem BM.piece {k : Pk} {l0 G : List (Int × Int)} {M : List Pc} {j : Nat} {y : Pc} (hG : GpF k l0 G M) (h : M[j]? = some y) : MkL k G (y :: M.drop (j + 1)) y.frm :=
  hG.suf (M.take j) y (M.drop (j + 1)) (by rw [← drop_at h, List.take_append_drop])
theorem BM.lenU {k : Pk} {l0 G : List (Int × Int)} {M : List Pc} {Z : List Int} {j : Nat} {b : C.Bf} (h : BM k l0 M Z (j + 1) b) (hl : C.IsSet l0) (hG : GpF k l0 G M) {y : Pc} (hy : M[j]? = some y) {u : List (Int × Int)} (hu : C.Uni b.l [(y.frm, y.to)] u) : u.length ≤ l0.length + 1 := by
  have hm := BM.piece hG hy
  have hye := hm.each y (by simp)
  have := starts_len hu.rt (starts_of (l := l0) (p := y.frm) (q := k.red) hl.2 hu.rt (fun x hx => ?_) (fun x hx => ?_) (fun x x1 x2 => ?_))
  · simpa using this
  · rcases (uni_or hu x).mp hx with q | q
    · rcases (h.hs x).mp q with q | ⟨z, hz, z1, z2⟩
      · exact .inl q
      · have := hm.each z (by simp [hz])
        exact .inr ⟨by omega, by omega⟩
    · exact .inr ⟨q.1, by omega⟩
  · exact (uni_or hu x).mpr (.inl ((h.hs x).mpr (.inl hx)))
  · cases e : C.has l0 x with
    | true => exact (uni_or hu x).mpr (.inl ((h.hs x).mpr (.inl e)))
    | false =>
      have hx0 : 0 ≤ x := by have := hye.1.lo; omega
      obtain ⟨z, hz, z1, z2⟩ := hm.all x x1 ((hG.gap x).mpr ⟨⟨hx0, x2⟩, e⟩)
      rcases List.mem_cons.mp hz with rfl | hz
      · exact (uni_or hu x).mpr (.inr ⟨z1, z2⟩)
      · exact (uni_or hu x).mpr (.inl ((h.hs x).mpr (.inr ⟨z, hz, z1, z2⟩)))
theorem BM.put {k : Pk} {l0 G : List (Int × Int)} {M : List Pc} {Z zs : List Int} {j : Nat} {b : C.Bf} (h : BM k l0 M Z (j + 1) b) {y : Pc} (hy : M[j]? = some y) {u : List (Int × Int)} (hu : C.Uni b.l [(y.frm, y.to)] u) (hb : Bi (C.putB b y.frm zs u) Z k.red) : BM k l0 M Z j (C.putB b y.frm zs u) := by
  refine ⟨hb, fun x => ?_⟩
  show C.has u x = true ↔ _
  rw [uni_or hu x, h.hs x, drop_at hy]
  constructor
  · rintro ((q | ⟨z, hz, q⟩) | q)
    · exact .inl q
    · exact .inr ⟨z, by simp [hz], q⟩
    · exact .inr ⟨y, by simp, q⟩
  · rintro (q | ⟨z, hz, q⟩)
    · exact .inl (.inl q)
    · rcases List.mem_cons.mp hz with rfl | hz
      · exact .inr q
      · exact .inl (.inr ⟨z, hz, q⟩)

/-- All red bytes came. -/
structure Full (b : C.Bf) (Z : List Int) (red : Int) : Prop where
  rb : C.rdB b 0 red = true
  rl : C.rdL b 0 red = cutZ Z 0 red
  hd : C.heldN b = red
theorem full_of {b : C.Bf} {Z : List Int} {red : Int} (h : Bi b Z red) (ha : ∀ x, 0 ≤ x → x < red → C.has b.l x = true) (h1 : 1 ≤ red) (h2 : red ≤ 65536) (h3 : red ≤ Z.length) : Full b Z red := by
  have hl : b.l = [(0, red)] := h.ok.set.2.uniq (lb := 0) (b := [(0, red)]) ⟨by show (0 : Int) ≤ 0; omega, by show (0 : Int) < red; omega, by show red ≤ _; omega, trivial⟩ (fun x => by
    apply Bool.eq_iff_iff.mpr
    rw [show (C.has [(0, red)] x = true) ↔ (0 ≤ x ∧ x < red) from by simp [C.has, C.inn]]
    exact ⟨fun q => ⟨(h.ins x q).1, (h.ins x q).2.1⟩, fun q => ha x q.1 q.2⟩)
  have hask : C.Asked (0, red) := ⟨by show (0 : Int) ≤ 0; omega, by show (0 : Int) ≤ red; omega, by show red ≤ _; omega⟩
  have hcv : C.cvB b.l (0, red) = true := by
    unfold C.cvB
    rw [C.setB_iff.mpr h.ok.set, C.askB_iff.mpr hask, C.cover_math h.ok.set.2 hask (fun x hx => by have := C.inn_iff.mp hx; exact ha x this.1 this.2)]
    rfl
  have hrb : C.rdB b 0 red = true := by unfold C.rdB; rw [h.dr, hcv, decide_eq_true (by omega : (0 : Int) < red)]; rfl
  have hf := C.rd_fits h.ok hrb
  refine ⟨hrb, ?_, ?_⟩
  · unfold C.rdL
    rw [if_pos hrb]
    have hz := cutZ_len (Z := Z) (f := 0) (t := red) (by omega) (by omega) h3
    apply List.ext_getElem
    · rw [hz, List.length_take, List.length_drop]; omega
    · intro i i1 i2
      rw [hz] at i2
      have e1 := (h.ins (i : Int) (ha _ (by omega) (by omega))).2.2
      have e2 := cutZ_get (Z := Z) (f := 0) (t := red) (x := (i : Int)) (by omega) (by omega) (by omega)
      rw [show ((i : Int) - 0).toNat = i from by omega, show ((i : Int)).toNat = i from by omega] at e2
      rw [show ((i : Int)).toNat = i from by omega] at e1
      rw [← e1] at e2
      simp only [List.getD_eq_getElem?_getD] at e2
      rw [List.getElem?_eq_getElem (by omega), List.getElem?_eq_getElem (by omega)] at e2
      simp only [List.getElem_take, List.getElem_drop]
      have e3 : (0 : Int).toNat + i = i := by simp
      simp only [Option.getD_some] at e2
      rw [e2]
      congr 1
  · unfold C.heldN
    rw [if_neg (by simp [h.dr]), hl]
    simp [C.siz]

end Go.Proofs.YteabjjbaodadkaaDoor

namespace Go.Proofs.YteabjjbaodadkaaDoor
open Go.RowKit
set_option linter.unusedVariables false
set_option linter.unusedSimpArgs false

theorem cut_yesB {k : Pk} {b : Int} (h : mayB k b = true) : k.Ok ∧ 0 ≤ b ∧ b ≤ 4611686018427322367 ∧ cut k b = (cutL k b, 0) := by
  unfold mayB at h
  simp only [Bool.and_eq_true, decide_eq_true_eq] at h
  obtain ⟨h1, h2, h3, h4⟩ := h
  refine ⟨Pk.ok_of h1 h2, h3, h4, ?_⟩
  unfold cut
  rw [h1, h2]
  simp
  omega

set_option maxRecDepth 100000 in
set_option maxHeartbeats 8000000 in
theorem back4_walk (k : Pk) (base : Int) (Z ts : List Int) (az at' : Option Addr) (nz cz nt ct : Nat) (w : World) (hT : Tab w) (hzb : Bytey Z) (hzl : Z.length = nz) (hzc : nz ≤ cz) (hzm : cz ≤ 9223372036854775807) (hz : Lies .u8 w az Z) (hzn : az = none → nz = 0 ∧ cz = 0)
    (htl : ts.length = nt) (htm : nt ≤ 9223372036854775807) (ht : Lies .i64 w at' ts) :
    Calls Tryd.prog 4 #[.agg (sndC k base (.slice az nz cz) (.slice at' nt ct))] w fun e w' => e = .returned (.bool true) ∧ Below w.heap.size w w' := by
  have HT : Hid (Tab w) := hT
  have HZ : Hid (Bytey Z ∧ Z.length = nz ∧ nz ≤ cz ∧ cz ≤ 9223372036854775807 ∧ Lies .u8 w az Z ∧ (az = none → nz = 0 ∧ cz = 0)) := ⟨hzb, hzl, hzc, hzm, hz, hzn⟩
  have HTS : Hid (ts.length = nt ∧ nt ≤ 9223372036854775807 ∧ Lies .i64 w at' ts) := ⟨htl, htm, ht⟩
  clear hT hzb hzl hzc hzm hz hzn htl htm ht
  obtain ⟨W0, hW0⟩ : ∃ W0, W0 = w.alloc (.cells (sndC k base (.slice az nz cz) (.slice at' nt ct)) 50) := ⟨_, rfl⟩
  have HB0 : Hid (Below w.heap.size w W0) := by rw [hW0]; exact (Below.refl _ _).alloc (Nat.le_refl _) _
  have HS0 : Hid (W0.heap[w.heap.size]? = some (.cells (sndC k base (.slice az nz cz) (.slice at' nt ct)) 50 (0, 0))) := by unfold Hid; rw [hW0]; exact heap_alloc_new' _ _
  have haw := awk4_any W0 (HT.out.below HB0.out (tab_pos HT.out))
  rw [hW0] at haw
  go_enter Tryd.func4, Tryd.ntmps4
  go_wp2_with fail
  refine haw.mono ?_
  rw [← hW0]
  clear haw hW0
  rintro e w1 ⟨rfl, hb1⟩
  have HB1 : Hid (Below w.heap.size w w1) := HB0.out.trans (hb1.mono HB0.out.size)
  have HS1 : Hid (w1.heap[w.heap.size]? = some (.cells (sndC k base (.slice az nz cz) (.slice at' nt ct)) 50 (0, 0))) := (hb1.block _ (Array.getElem?_eq_some_iff.1 HS0.out).1).trans HS0.out
  have s0 : w1.cell? ⟨w.heap.size, 0, none⟩ = some (.int .i64 k.org) := cell_of_row _ _ 0 _ _ _ HS1.out
  have s1 : w1.cell? ⟨w.heap.size, 1, none⟩ = some (.int .i64 k.num) := cell_of_row _ _ 1 _ _ _ HS1.out
  have s2 : w1.cell? ⟨w.heap.size, 2, none⟩ = some (.int .i64 k.srv) := cell_of_row _ _ 2 _ _ _ HS1.out
  have s3 : w1.cell? ⟨w.heap.size, 3, none⟩ = some (.int .i64 k.size) := cell_of_row _ _ 3 _ _ _ HS1.out
  have s4 : w1.cell? ⟨w.heap.size, 4, none⟩ = some (.int .i64 k.red) := cell_of_row _ _ 4 _ _ _ HS1.out
  have s5 : w1.cell? ⟨w.heap.size, 5, none⟩ = some (.int .i64 k.mtu) := cell_of_row _ _ 5 _ _ _ HS1.out
  have s6 : w1.cell? ⟨w.heap.size, 6, none⟩ = some (.int .i64 k.every) := cell_of_row _ _ 6 _ _ _ HS1.out
  have s7 : w1.cell? ⟨w.heap.size, 7, none⟩ = some (.int .i64 base) := cell_of_row _ _ 7 _ _ _ HS1.out
  have hmy := may_any k base w1
  clear hb1 HS0 HB0
  obtain ⟨mb, hmb⟩ : ∃ mb, mayB k base = mb := ⟨_, rfl⟩
  rw [hmb] at hmy
  have HMB : Hid (mayB k base = mb) := hmb
  clear hmb
  go_wp2_with fail
  refine hmy.mono ?_
  rintro e w2 ⟨rfl, hb2⟩
  have HB2 : Hid (Below w.heap.size w w2) := HB1.out.trans (hb2.mono HB1.out.size)
  have HS2 : Hid (w2.heap[w.heap.size]? = some (.cells (sndC k base (.slice az nz cz) (.slice at' nt ct)) 50 (0, 0))) := (hb2.block _ (Array.getElem?_eq_some_iff.1 HS1.out).1).trans HS1.out
  clear hmy hb2 s0 s1 s2 s3 s4 s5 s6 s7 HS1 HB1
  have s0 : w2.cell? ⟨w.heap.size, 0, none⟩ = some (.int .i64 k.org) := cell_of_row _ _ 0 _ _ _ HS2.out
  have s1 : w2.cell? ⟨w.heap.size, 1, none⟩ = some (.int .i64 k.num) := cell_of_row _ _ 1 _ _ _ HS2.out
  have s2 : w2.cell? ⟨w.heap.size, 2, none⟩ = some (.int .i64 k.srv) := cell_of_row _ _ 2 _ _ _ HS2.out
  have s3 : w2.cell? ⟨w.heap.size, 3, none⟩ = some (.int .i64 k.size) := cell_of_row _ _ 3 _ _ _ HS2.out
  have s4 : w2.cell? ⟨w.heap.size, 4, none⟩ = some (.int .i64 k.red) := cell_of_row _ _ 4 _ _ _ HS2.out
  have s5 : w2.cell? ⟨w.heap.size, 5, none⟩ = some (.int .i64 k.mtu) := cell_of_row _ _ 5 _ _ _ HS2.out
  have s6 : w2.cell? ⟨w.heap.size, 6, none⟩ = some (.int .i64 k.every) := cell_of_row _ _ 6 _ _ _ HS2.out
  have s7 : w2.cell? ⟨w.heap.size, 7, none⟩ = some (.int .i64 base) := cell_of_row _ _ 7 _ _ _ HS2.out
  have s8 : w2.cell? ⟨w.heap.size, 8, none⟩ = some (.slice az nz cz) := cell_of_row _ _ 8 _ _ _ HS2.out
  cases mb with
  | false =>
    go_wp2
    go_ret
    exact ⟨rfl, HB2.out⟩
  | true =>
    by_cases hsz : (nz : Int) = k.size
    · by_cases hrd : k.red = 0
      · have hrd' : (k.red == 0) = true := by simp [hrd]
        have hsz' : ((nz : Int) != k.size) = false := by simp [hsz]
        go_wp2
        go_ret
        exact ⟨rfl, HB2.out⟩
      · have hrd' : (k.red == 0) = false := by simp [hrd]
        have hsz' : ((nz : Int) != k.size) = false := by simp [hsz]
        have HSZ : Hid ((nz : Int) = k.size ∧ ¬ k.red = 0) := ⟨hsz, hrd⟩
        clear hsz hrd
        obtain ⟨ok, hb0, hb1, hcut⟩ := cut_yesB HMB.out
        have HOK : Hid (k.Ok ∧ 0 ≤ base ∧ base ≤ 4611686018427322367) := ⟨ok, hb0, hb1⟩
        have HRD : Hid (1 ≤ k.red ∧ k.red ≤ k.size ∧ k.size ≤ 65536) := by have := ok.red; have := ok.size; have := HSZ.out.2; exact ⟨by omega, by omega, by omega⟩
        obtain ⟨l, hl⟩ : ∃ l, l = cutL k base := ⟨_, rfl⟩
        have HCK : Hid (CkL k l 0 ∧ redN k l ≤ 1774) := by unfold Hid; rw [hl]; exact cut_ckl ok ⟨hb0, hb1⟩
        obtain ⟨W2, hW2⟩ : ∃ W2, W2 = w2.alloc (.cells #[.int .i64 0, .int .i64 k.red] 38) := ⟨_, rfl⟩
        have HBW2 : Hid (Below w2.heap.size w2 W2 ∧ W2.heap[w2.heap.size]? = some (.cells #[.int .i64 0, .int .i64 k.red] 38 (0, 0))) := by unfold Hid; rw [hW2]; exact ⟨(Below.refl _ _).alloc (Nat.le_refl _) _, heap_alloc_new' _ _⟩
        have hcu := cut_any k base W2 (HT.out.below (HB2.out.trans (HBW2.out.1.mono HB2.out.size)) (tab_pos HT.out))
        rw [hcut, ← hl] at hcu
        have HL : Hid (l = cutL k base) := hl
        have HLc : Hid (l = cutL k base) := hl
        rw [hW2] at hcu
        clear hcut hl hb0 hb1 ok
        have hba : Below w2.heap.size w2 (w2.alloc (.cells #[.int .i64 0, .int .i64 k.red] 38)) := (Below.refl _ _).alloc (Nat.le_refl _) _
        have t0 := cell_below s0 hba
        have t1 := cell_below s1 hba
        have t2 := cell_below s2 hba
        have t3 := cell_below s3 hba
        have t4 := cell_below s4 hba
        have t5 := cell_below s5 hba
        have t6 := cell_below s6 hba
        have t7 := cell_below s7 hba
        clear hba
        go_wp2_with fail
        refine hcu.mono ?_
        rw [← hW2]
        clear hcu hW2
        rintro e w3 ⟨v, rfl, hown, hb3⟩
        have hlp : 0 < l.length := by
          obtain ⟨y, hy, _⟩ := HCK.out.1.all 0 (by omega) (by have := HRD.out; omega)
          exact List.length_pos_of_mem hy
        obtain ⟨gl, cl, rfl⟩ : ∃ g c, v = .slice (some ⟨g, 0, none⟩) l.length c := C.own_some hown hlp
        have hll := World.ownsRow.lt hown gl rfl
        have HB3 : Hid (Below w2.heap.size w2 w3 ∧ Below W2.heap.size W2 w3) := ⟨HBW2.out.1.trans (hb3.mono HBW2.out.1.size), hb3⟩
        have HBV : Hid (BV k base (.slice az nz cz) (.slice at' nt ct) w.heap.size w2.heap.size gl cl w3.heap.size l w3) := by
          have h1 := HB3.out.1
          have h2 := HB3.out.2
          have hx := (Array.getElem?_eq_some_iff.1 HS2.out).1
          have hy := (Array.getElem?_eq_some_iff.1 HBW2.out.2).1
          exact ⟨(h1.block _ hx).trans HS2.out, (h2.block _ hy).trans HBW2.out.2, C.own_base0 hown, ⟨Nat.lt_of_lt_of_le hx h1.size, Nat.lt_of_lt_of_le hy h2.size, hll.2⟩⟩
        have HBw3 : Hid (Below w.heap.size w w3) := HB2.out.trans (HB3.out.1.mono HB2.out.size)
        have hnw := C.new4_any w3
        clear hown hb3 hll HB3 HBW2 HB2 HS2 s0 s1 s2 s3 s4 s5 s6 s7 s8 t0 t1 t2 t3 t4 t5 t6 t7
        have hlp' : ((l.length : Int) == 0) = false := beq_false_of_ne (by omega)
        go_wp2_with fail
        refine hnw.mono ?_
        rintro e w4 ⟨rfl, hbu, hb4⟩
        have HBV4 : Hid (∀ V, Below w3.heap.size w4 V → BV k base (.slice az nz cz) (.slice at' nt ct) w.heap.size w2.heap.size gl cl w3.heap.size l V) := fun V hV => (HBV.out.low hb4).low hV
        have HBw4 : Hid (Below w3.heap.size w3 w4) := hb4
        have HI4 : Hid (C.Bu w4 w3.heap.size (fun j => w3.heap.size ≤ j ∧ j < w4.heap.size) C.bf0) := hbu.cut
        have HLL : Hid (0 < l.length) := hlp
        obtain ⟨gz, oz, rfl, hzc⟩ : ∃ gz oz, az = some ⟨gz, oz, none⟩ ∧ ∀ i, i < Z.length → w.cell? ⟨gz, oz + i, none⟩ = some (.int .u8 (Z.getD i 0)) := by
          rcases HZ.out.2.2.2.2.1 with h0 | h0
          · have h1 := HZ.out.2.1; have h2 := HSZ.out.1; have h3 := HRD.out; rw [h0] at h1; simp at h1; omega
          · exact h0
        have hgz : gz < w.heap.size := World.block_lt_of_cell? w ⟨gz, oz + 0, none⟩ (hzc 0 (by have h1 := HZ.out.2.1; have h2 := HSZ.out.1; have h3 := HRD.out; omega))
        have HZL : Hid (∀ x : Addr, (some ⟨gz, oz, none⟩ : Option Addr) = some x → x.block < w3.heap.size) := fun x hx => by cases hx; exact Nat.lt_of_lt_of_le hgz HBw3.out.size
        have HZV : Hid (∀ V, Below w3.heap.size w4 V → Lies .u8 V (some ⟨gz, oz, none⟩) Z) := fun V hV => .inr ⟨gz, oz, rfl, fun i hi => by
          have h3 := HBw3.out
          have hg3 : gz < w3.heap.size := Nat.lt_of_lt_of_le hgz h3.size
          exact (hV.cell (p := ⟨gz, oz + i, none⟩) hg3).trans ((HBw4.out.cell (p := ⟨gz, oz + i, none⟩) hg3).trans ((h3.cell (p := ⟨gz, oz + i, none⟩) hgz).trans (hzc i hi)))⟩
        clear hzc hgz
        clear hnw hbu hb4 HBV hlp
        go_wp2_with fail
        go_loopw [9] (fun p wr => ∃ i : Nat, p = .int .i64 (i : Int) ∧ i ≤ nt ∧ ∃ b : C.Bf, Hid (BL k l Z b ∧ C.Bu wr w3.heap.size (fun j => w3.heap.size ≤ j ∧ j < wr.heap.size) b ∧ Below w3.heap.size w4 wr)) (fun p _ => nt - (intOf p).toNat)
        case atStart => exact ⟨0, rfl, by omega, C.bf0, ⟨⟨bi0 _ _, by simp [C.bf0]⟩, HI4.out, Below.refl _ _⟩⟩
        case round =>
          obtain ⟨i, rfl, hi, b, HR⟩ := hrel
          have hbv := HBV4.out wr HR.out.2.2
          have s9 : wr.cell? ⟨w.heap.size, 9, none⟩ = some (.slice at' nt ct) := hbv.cells.2.2.2.2.2.2.2.2.2
          by_cases hlt : i < nt
          · have hlt' : (i : Int) < (nt : Int) := by omega
            obtain ⟨gt, ot, rfl, htc⟩ : ∃ gt ot, at' = some ⟨gt, ot, none⟩ ∧ w.cell? ⟨gt, ot + i, none⟩ = some (.int .i64 (ts.getD i 0)) := by
              rcases HTS.out.2.2 with h0 | ⟨g, o, h1, h2⟩
              · have := HTS.out.1; rw [h0] at this; simp at this; omega
              · exact ⟨g, o, h1, h2 i (by rw [HTS.out.1]; exact hlt)⟩
            have htw : gt < w.heap.size := World.block_lt_of_cell? w ⟨gt, ot + i, none⟩ htc
            have tc : wr.cell? ⟨gt, ot + i, none⟩ = some (.int .i64 (ts.getD i 0)) := by
              have h3 := HBw3.out
              exact (HR.out.2.2.cell (p := ⟨gt, ot + i, none⟩) (Nat.lt_of_lt_of_le htw h3.size)).trans ((HBw4.out.cell (p := ⟨gt, ot + i, none⟩) (Nat.lt_of_lt_of_le htw h3.size)).trans ((h3.cell (p := ⟨gt, ot + i, none⟩) htw).trans htc))
            generalize ts.getD i 0 = tv at tc
            clear htc
            have hn0 : ¬ l.length = 0 := by have := HLL.out; omega
            have hn1 : ¬ l = [] := fun e => hn0 (by rw [e]; rfl)
            obtain ⟨kk, hkk, hkl⟩ : ∃ kk : Nat, max 0 tv % (l.length : Int) = (kk : Int) ∧ kk < l.length := by
              have h1 := Int.emod_nonneg (max 0 tv) (show (l.length : Int) ≠ 0 by omega)
              have h2 := Int.emod_lt_of_pos (max 0 tv) (show (0 : Int) < (l.length : Int) by omega)
              exact ⟨(max 0 tv % (l.length : Int)).toNat, by omega, by omega⟩
            have HKK : Hid (kk < l.length) := hkl
            have hkl' : (kk : Int) < (l.length : Int) := by omega
            obtain ⟨y, hy⟩ : ∃ y, l[kk]? = some y := ⟨_, List.getElem?_eq_getElem hkl⟩
            have HY : Hid (l[kk]? = some y) := hy
            have hi63 : IntKind.i64.wrap ((i : Int) + 1) = ((i + 1 : Nat) : Int) := by rw [IntKind.wrap_i64]; have := HTS.out.2.1; omega
            clear hkl hy
            go_upto_region 14 with fail
            rw [hkk]
            clear hkk hn0 hn1 tc
            have hpc := hbv.piece HY.out
            have c1 := hpc.2.1
            have s4 := hbv.cells.2.2.2.2.1
            by_cases hfr : k.red ≤ y.frm
            · go_quiet (fail)
              go_wp2
              go_roundw
              case rel =>
                have hbe : Below wr.heap.size wr (wr.drewN nq) := below_drewN (Below.refl _ _) _
                exact ⟨i + 1, rfl, by omega, b, HR.out.1, HR.out.2.1.below hbe, HR.out.2.2.trans (hbe.mono (by have := HR.out.2.2.size; have := HBw4.out.size; omega))⟩
              case measure => simp [intOf]; omega
            · go_quiet (fail)
              have hbe : Below wr.heap.size wr (wr.drewN nq) := below_drewN (Below.refl _ _) _
              have HR1 : Hid (BL k l Z b ∧ C.Bu (wr.drewN nq) w3.heap.size (fun j => w3.heap.size ≤ j ∧ j < (wr.drewN nq).heap.size) b ∧ Below w3.heap.size w4 (wr.drewN nq)) := ⟨HR.out.1, HR.out.2.1.below hbe, HR.out.2.2.trans (hbe.mono (by have := HR.out.2.2.size; have := HBw4.out.size; omega))⟩
              clear hbe hbv hpc c1 s4 s9 HR
              obtain ⟨W1, hW1⟩ : ∃ W1, W1 = wr.drewN nq := ⟨_, rfl⟩
              rw [← hW1] at HR1 ⊢
              clear hW1
              have HR2 : Hid (BL k l Z b ∧ C.Bu W1.drew w3.heap.size (fun j => w3.heap.size ≤ j ∧ j < W1.drew.heap.size) b ∧ Below w3.heap.size w4 W1.drew) := ⟨HR1.out.1, HR1.out.2.1.below ((Below.refl _ _).drew), HR1.out.2.2.drew⟩
              have hyin : y ∈ l := List.mem_of_getElem? HY.out
              have hyc := HCK.out.1.each y hyin
              have hyr : y.frm < k.red := by omega
              have hcame := came_any k HOK.out.1 base (.slice (some ⟨gz, oz, none⟩) nz cz) (.slice (some ⟨gt, ot, none⟩) nt ct) y hyc.1.pc hyc.1.lo hyc.1.lt (hyc.2 hyr) w3.heap.size w3.heap.size b Z (some ⟨gz, oz, none⟩) nz cz W1.drew HZ.out.2.1 HSZ.out.1 HZ.out.2.2.1 HZ.out.2.2.2.1 (HZV.out _ HR2.out.2.2) HZ.out.1 HZL.out (by have := HR2.out.2.2.size; have := HBw4.out.size; omega) HR2.out.2.1 HR2.out.1.bi (fun u hu => by have := HR2.out.1.lenU hyin hyr hu; have := HCK.out.2; omega)
              have b1 := HBV4.out W1 HR1.out.2.2
              have b2 := HBV4.out W1.drew HR2.out.2.2
              have k1 := (⟨b1.cells, b1.piece HY.out⟩ : _ ∧ _)
              have k2 := (⟨b2.cells, b2.piece HY.out⟩ : _ ∧ _)
              go_wp2_with fail
              go_region_held3 (fun V => (V.cell? ⟨w.heap.size, 0, none⟩ = some (.int .i64 k.org) ∧ V.cell? ⟨w.heap.size, 1, none⟩ = some (.int .i64 k.num) ∧ V.cell? ⟨w.heap.size, 2, none⟩ = some (.int .i64 k.srv) ∧ V.cell? ⟨w.heap.size, 3, none⟩ = some (.int .i64 k.size) ∧ V.cell? ⟨w.heap.size, 4, none⟩ = some (.int .i64 k.red) ∧ V.cell? ⟨w.heap.size, 5, none⟩ = some (.int .i64 k.mtu) ∧ V.cell? ⟨w.heap.size, 6, none⟩ = some (.int .i64 k.every) ∧ V.cell? ⟨w.heap.size, 7, none⟩ = some (.int .i64 base) ∧ V.cell? ⟨w.heap.size, 8, none⟩ = some (.slice (some ⟨gz, oz, none⟩) nz cz) ∧ V.cell? ⟨w.heap.size, 9, none⟩ = some (.slice (some ⟨gt, ot, none⟩) nt ct)) ∧ (V.cell? ⟨gl, kk * 5, none⟩ = some (.int .i64 y.typ) ∧ V.cell? ⟨gl, kk * 5 + 1, none⟩ = some (.int .i64 y.frm) ∧ V.cell? ⟨gl, kk * 5 + 2, none⟩ = some (.int .i64 y.to) ∧ V.cell? ⟨gl, kk * 5 + 3, none⟩ = some (.int .i64 y.chk) ∧ V.cell? ⟨gl, kk * 5 + 4, none⟩ = some (.int .i64 y.rep)))
                (first | (exact k1) | (exact k2) | (exact k3))
                (first
                  | (go_at_call 12
                     refine hcame.mono ?_
                     rintro e w5 ⟨rfl, u, hu, hB5, hBi5, hb5⟩
                     have HB5 : Hid (Below w3.heap.size w4 w5) := HR2.out.2.2.trans hb5
                     have b3 := HBV4.out w5 HB5.out
                     have k3 := (⟨b3.cells, b3.piece HY.out⟩ : _ ∧ _)
                     have HE : Hid (BL k l Z (C.putB b y.frm (cutZ Z y.frm y.to) u) ∧ C.Bu w5 w3.heap.size (fun j => w3.heap.size ≤ j ∧ j < w5.heap.size) (C.putB b y.frm (cutZ Z y.frm y.to) u)) := ⟨⟨hBi5, HR2.out.1.put (b' := b) hyin hyr hu⟩, hB5⟩
                     clear hu hB5 hBi5 hb5))
              all_goals (
                clear hcame k1 k2 k3 b1 b2 b3
                go_wp2
                go_roundw
                case rel => exact ⟨i + 1, rfl, by omega, _, HE.out.1, HE.out.2, HB5.out⟩
                case measure => simp [intOf]; omega)
          · obtain ⟨wo, hwo⟩ : ∃ x, x = wr := ⟨_, rfl⟩
            subst hwo
            have hnl : ¬ ((i : Int) < (nt : Int)) := by omega
            have HL1 : Hid (b.l.length ≤ 1774) := Nat.le_trans HR.out.1.few HCK.out.2
            have HLo : Hid (w3.heap.size ≤ wo.heap.size) := by have := HR.out.2.2.size; have := HBw4.out.size; exact Nat.le_trans this (by omega)
            go_wp2_with fail
            clear s9 hbv hnl hlt hi
            have HGR : Hid (∀ u er, C.GR false b.l (0, k.red) u er → er = 0 ∧ u = C.gps b.l (0, k.red)) := fun u er hg => by
              have h1 := HR.out.1.bi.ok.set
              have h2 := HRD.out
              rcases hg.gaps h1 ⟨by show (0 : Int) ≤ 0; omega, by show (0 : Int) ≤ k.red; omega, by show k.red ≤ _; omega⟩ with ⟨_, rfl, rfl⟩ | ⟨h, _⟩
              · exact ⟨rfl, rfl⟩
              · have := C.len_false (hi := k.red) (l := b.l) (p := 0)
                have := HL1.out
                have h' : 2000 < (C.pick false (C.pc k.red 0 b.l)).length := h
                omega
            have HBd : Hid (Below w3.heap.size w4 wo.drew) := HR.out.2.2.drew
            have hhv := C.have_any w3.heap.size b _ wo.drew (HR.out.2.1.below ((Below.refl _ _).drew))
            have HGp : Hid (∀ (V : World) (ba : Nat) (v : Value), C.SOwn V ba v b.l → Calls Tryd.prog 13 #[v, .agg #[.int .i64 0, .int .i64 k.red]] V (C.GRPost false b.l (0, k.red) V)) := fun V ba v hv => C.gaps_any 0 k.red (C.SOwn.ls hv (by have := HL1.out; omega))
            have k1 : wo.cell? ⟨w2.heap.size, 0, none⟩ = some (.int .i64 0) ∧ wo.cell? ⟨w2.heap.size, 1, none⟩ = some (.int .i64 k.red) := by
              have hb := HBV4.out wo HR.out.2.2
              exact ⟨cell_of_row _ _ 0 _ _ _ hb.spn, cell_of_row _ _ 1 _ _ _ hb.spn⟩
            have k2 : wo.drew.cell? ⟨w2.heap.size, 0, none⟩ = some (.int .i64 0) ∧ wo.drew.cell? ⟨w2.heap.size, 1, none⟩ = some (.int .i64 k.red) := k1
            go_region_held3 (fun V => V.cell? ⟨w2.heap.size, 0, none⟩ = some (.int .i64 0) ∧ V.cell? ⟨w2.heap.size, 1, none⟩ = some (.int .i64 k.red))
              (first | (exact k1) | (exact k2) | (exact k3) | (exact k4))
              (first
                | (go_at_call 14
                   refine hhv.mono ?_
                   rintro e w5 ⟨v5, rfl, ho5, hb5⟩
                   obtain ⟨a5, c5, rfl⟩ := ho5.shape
                   have k3 : w5.cell? ⟨w2.heap.size, 0, none⟩ = some (.int .i64 0) ∧ w5.cell? ⟨w2.heap.size, 1, none⟩ = some (.int .i64 k.red) := ⟨cell_below k2.1 hb5, cell_below k2.2 hb5⟩
                   have H5 : Hid (C.SOwn w5 wo.heap.size (.slice a5 b.l.length c5) b.l ∧ Below wo.heap.size wo w5) := ⟨ho5, (Below.refl _ wo).drew.trans hb5⟩
                   clear ho5 hb5)
                | (go_at_call 13
                   refine (HGp.out _ _ _ H5.out.1).mono ?_
                   rintro e w6 ⟨v6, u6, er6, rfl, ho6, hg6, hb6⟩
                   obtain ⟨rfl, rfl⟩ := HGR.out _ _ hg6
                   obtain ⟨a6, c6, rfl⟩ := ho6.shape
                   have k4 : w6.cell? ⟨w2.heap.size, 0, none⟩ = some (.int .i64 0) ∧ w6.cell? ⟨w2.heap.size, 1, none⟩ = some (.int .i64 k.red) := ⟨cell_below k3.1 hb6, cell_below k3.2 hb6⟩
                   have H6 : Hid (C.SOwn w6 wo.heap.size (.slice a6 (C.gps b.l (0, k.red)).length c6) (C.gps b.l (0, k.red)) ∧ Below wo.heap.size wo w6) := ⟨C.SOwn.base ho6 H5.out.2.size, H5.out.2.trans (hb6.mono H5.out.2.size)⟩
                   clear ho6 hg6 hb6))
            all_goals (clear hhv HGp k1 k2 k3 k4 HGR H5)
            obtain ⟨G, hG⟩ : ∃ G, G = C.gps b.l (0, k.red) := ⟨_, rfl⟩
            have HG : Hid (G = C.gps b.l (0, k.red)) := hG
            rw [← hG] at H6 ⊢
            clear hG
            have H6' : Hid (C.Bu w6 w3.heap.size (fun j => w3.heap.size ≤ j ∧ j < wo.heap.size) b ∧ Below w3.heap.size w4 w6) := ⟨HR.out.2.1.below H6.out.2, HR.out.2.2.trans (H6.out.2.mono HLo.out)⟩
            go_upto_if 131 with fail
            go_cut [14, 15, 16, 17] from 129 (fun q14 q15 q16 q17 wx => ∃ b2 : C.Bf, Hid (Bi b2 Z k.red ∧ C.Bu wx w3.heap.size (fun j => w3.heap.size ≤ j ∧ j < wx.heap.size) b2 ∧ Below w3.heap.size w4 wx ∧ ∀ x, 0 ≤ x → x < k.red → C.has b2.l x = true))
            case first =>
              by_cases hg0 : G = []
              · subst hg0
                go_wp2_with fail
                go_meet
                refine ⟨b, HR.out.1.bi, H6'.out.1.mono (fun j h => ⟨h.1, Nat.lt_of_lt_of_le h.2 H6.out.2.size⟩), H6'.out.2, fun x x1 x2 => ?_⟩
                have h1 := C.gps_has (s := (0, k.red)) HR.out.1.bi.ok.set.2 x
                rw [← HG.out, show C.inn (0, k.red) x = true from C.inn_iff.mpr ⟨x1, x2⟩] at h1
                cases e : C.has b.l x with
                | true => rfl
                | false => rw [e] at h1; simp [C.has] at h1
              · have hg1 : 0 < G.length := List.length_pos_iff.mpr hg0
                have hg1' : 0 < (G.length : Int) := by omega
                have hbb := HOK.out.2
                have hbw : IntKind.i64.wrap (base + 1) = base + 1 := by rw [IntKind.wrap_i64]; omega
                obtain ⟨hgf, hage⟩ := gpf_of (c := base + 1) HOK.out.1 (by omega) HR.out.1.bi.ok.set HL1.out (by rw [← HG.out]; exact hg0)
                rw [← HG.out] at hgf hage
                obtain ⟨M, hM⟩ : ∃ M, M = agL k (base + 1) 3 G := ⟨_, rfl⟩
                rw [← hM] at hgf hage
                have HGF : Hid (GpF k b.l G M) := hgf
                have hgl : G.length ≤ 9223372036854775807 := by
                  have h8 := HL1.out
                  have h7 := C.len_false (hi := k.red) (l := b.l) (p := 0)
                  have h9 : G.length = (C.pick false (C.pc k.red 0 b.l)).length := by rw [HG.out]; rfl
                  omega
                have hag := again_any k G (base + 1) 3 a6 c6 w6 (HT.out.below (HBw3.out.trans ((HBw4.out.trans H6'.out.2).mono HBw3.out.size)) (tab_pos HT.out)) (C.SOwn.ls H6.out.1 hgl)
                rw [hage] at hag
                have hbv := HBV4.out w6 H6'.out.2
                have s0 := hbv.cells.1
                have s1 := hbv.cells.2.1
                have s2 := hbv.cells.2.2.1
                have s3 := hbv.cells.2.2.2.1
                have s4 := hbv.cells.2.2.2.2.1
                have s5 := hbv.cells.2.2.2.2.2.1
                have s6 := hbv.cells.2.2.2.2.2.2.1
                have s7 := hbv.cells.2.2.2.2.2.2.2.1
                clear hgf hage hM hbv hbb
                go_wp2_with fail
                refine hag.mono ?_
                rintro e w7 ⟨v7, rfl, ho7, hb7⟩
                obtain ⟨gm, cm, rfl⟩ : ∃ g c, v7 = .slice (some ⟨g, 0, none⟩) M.length c := C.own_some ho7 HGF.out.pos
                have hml := World.ownsRow.lt ho7 gm rfl
                have hmp : 0 < M.length := HGF.out.pos
                have hmp' : ((M.length : Int) == 0) = false := beq_false_of_ne (by omega)
                have hmx := HGF.out.len
                have hmw : IntKind.i64.wrap ((M.length : Int) - 1) = (M.length : Int) - 1 := by rw [IntKind.wrap_i64]; omega
                have HB7 : Hid (Below wo.heap.size wo w7 ∧ Below w3.heap.size w4 w7 ∧ w6.heap.size ≤ gm ∧ gm < w7.heap.size ∧ wo.heap.size ≤ w6.heap.size) := ⟨H6.out.2.trans (hb7.mono H6.out.2.size), H6'.out.2.trans (hb7.mono (by have := HLo.out; have := H6.out.2.size; omega)), hml.1, hml.2, H6.out.2.size⟩
                have HPO : Hid (POwn w7 0 (.slice (some ⟨gm, 0, none⟩) M.length cm) M) := C.own_base0 ho7
                have HBu7 : Hid (C.Bu w7 w3.heap.size (fun j => ((w3.heap.size ≤ j ∧ j < wo.heap.size) ∨ w7.heap.size ≤ j) ∧ j < w7.heap.size) b) := (H6'.out.1.below hb7).mono (fun j h => ⟨.inl h, by have := H6.out.2.size; have := hb7.size; omega⟩)
                have HVM : Hid (∀ V, C.Kf (fun j => w3.heap.size ≤ j ∧ j < wo.heap.size) w7 V → Below w3.heap.size w4 V ∧ BV k base (.slice (some ⟨gz, oz, none⟩) nz cz) (.slice at' nt ct) w.heap.size w2.heap.size gm cm w7.heap.size M V) := fun V hV => by
                  have h7 := HB7.out
                  have hlo := HLo.out
                  have hb : Below w3.heap.size w4 V := h7.2.1.trans (hV.bel (by omega) (fun j q => q.1))
                  have hq := HBV4.out V hb
                  exact ⟨hb, hq.snd, hq.spn, C.own_same0 HPO.out (fun g hg => by cases hg; exact hV.same gm h7.2.2.2.1 (fun q => by have q2 : gm < wo.heap.size := q.2; omega)), by have := hq.lt; omega, by have := hq.lt; omega, h7.2.2.2.1⟩
                clear hag ho7 hb7 hml s0 s1 s2 s3 s4 s5 s6 s7 hg1 hg1' hbw
                go_wp2_with fail
                go_loopw [16] (fun p wq => ∃ (j : Nat) (q : Int), p = .int .i64 q ∧ q + 1 = (j : Int) ∧ j ≤ M.length ∧ ∃ b2 : C.Bf, Hid (BM k b.l M Z j b2 ∧ C.Bu wq w3.heap.size (fun j => ((w3.heap.size ≤ j ∧ j < wo.heap.size) ∨ w7.heap.size ≤ j) ∧ j < wq.heap.size) b2 ∧ C.Kf (fun j => w3.heap.size ≤ j ∧ j < wo.heap.size) w7 wq)) (fun p _ => (intOf p + 1).toNat)
                case atStart =>
                  exact ⟨M.length, _, rfl, by omega, Nat.le_refl _, b, ⟨⟨HR.out.1.bi, fun x => by simp⟩, HBu7.out, .of_below (Below.refl _ _)⟩⟩
                case round =>
                  obtain ⟨j, q, rfl, hq, hj, b2, HR2⟩ := hrel
                  have hz63 : True := trivial
                  cases j with
                  | zero =>
                    obtain rfl : q = -1 := by omega
                    go_wp2_with fail
                    go_meet
                    have hv := HVM.out wr HR2.out.2.2
                    have h7 := HB7.out
                    refine ⟨b2, HR2.out.1.bi, HR2.out.2.1.mono (fun j h => ⟨h.1.elim (fun r => r.1) (fun r => by have := HLo.out; have := h7.1.size; omega), h.2⟩), hv.1, fun x x1 x2 => ?_⟩
                    rw [HR2.out.1.hs x]
                    cases e : C.has b.l x with
                    | true => exact .inl rfl
                    | false =>
                      obtain ⟨z, hz, z1⟩ := HGF.out.all x x1 x2 e
                      exact .inr ⟨z, by simpa using hz, z1⟩
                  | succ jj =>
                    obtain rfl : q = (jj : Int) := by omega
                    obtain ⟨y, hy⟩ : ∃ y, M[jj]? = some y := ⟨_, List.getElem?_eq_getElem (by omega)⟩
                    have HY : Hid (M[jj]? = some y) := hy
                    have hjl : (jj : Int) < (M.length : Int) := by omega
                    have hjw : IntKind.i64.wrap ((jj : Int) - 1) = (jj : Int) - 1 := by rw [IntKind.wrap_i64]; omega
                    have hye := (BM.piece HGF.out hy).each y (by simp)
                    have HRd : Hid (BM k b.l M Z (jj + 1) b2 ∧ C.Bu wr.drew w3.heap.size (fun j => ((w3.heap.size ≤ j ∧ j < wo.heap.size) ∨ w7.heap.size ≤ j) ∧ j < wr.drew.heap.size) b2 ∧ C.Kf (fun j => w3.heap.size ≤ j ∧ j < wo.heap.size) w7 wr.drew) := ⟨HR2.out.1, HR2.out.2.1.below ((Below.refl _ _).drew), kf_trans0 HR2.out.2.2 (.of_below ((Below.refl _ _).drew))⟩
                    have hv1 := HVM.out wr HR2.out.2.2
                    have hv2 := HVM.out wr.drew HRd.out.2.2
                    have hcame := came_gen k HOK.out.1 base (.slice (some ⟨gz, oz, none⟩) nz cz) (.slice at' nt ct) y hye.1.pc hye.1.lo hye.1.lt hye.2.1 w3.heap.size (fun j => ((w3.heap.size ≤ j ∧ j < wo.heap.size) ∨ w7.heap.size ≤ j) ∧ j < wr.drew.heap.size) b2 Z (some ⟨gz, oz, none⟩) nz cz wr.drew HZ.out.2.1 HSZ.out.1 HZ.out.2.2.1 HZ.out.2.2.2.1 (HZV.out _ hv2.1) HZ.out.1 (fun x hx q => by have h1 := HZL.out x hx; have h7 := HB7.out; have h8 := HLo.out; have h9 := h7.1.size; rcases q.1 with r | r <;> omega) (fun j h => h.2) HRd.out.2.1 HRd.out.1.bi (fun u hu => by have := HRd.out.1.lenU HR.out.1.bi.ok.set HGF.out HY.out hu; have := HL1.out; omega)
                    have k1 := (⟨hv1.2.cells, hv1.2.piece HY.out⟩ : _ ∧ _)
                    have k2 := (⟨hv2.2.cells, hv2.2.piece HY.out⟩ : _ ∧ _)
                    clear hy hye hv1 hv2
                    go_wp2_with fail
                    go_region_held3 (fun V => (V.cell? ⟨w.heap.size, 0, none⟩ = some (.int .i64 k.org) ∧ V.cell? ⟨w.heap.size, 1, none⟩ = some (.int .i64 k.num) ∧ V.cell? ⟨w.heap.size, 2, none⟩ = some (.int .i64 k.srv) ∧ V.cell? ⟨w.heap.size, 3, none⟩ = some (.int .i64 k.size) ∧ V.cell? ⟨w.heap.size, 4, none⟩ = some (.int .i64 k.red) ∧ V.cell? ⟨w.heap.size, 5, none⟩ = some (.int .i64 k.mtu) ∧ V.cell? ⟨w.heap.size, 6, none⟩ = some (.int .i64 k.every) ∧ V.cell? ⟨w.heap.size, 7, none⟩ = some (.int .i64 base) ∧ V.cell? ⟨w.heap.size, 8, none⟩ = some (.slice (some ⟨gz, oz, none⟩) nz cz) ∧ V.cell? ⟨w.heap.size, 9, none⟩ = some (.slice at' nt ct)) ∧ (V.cell? ⟨gm, jj * 5, none⟩ = some (.int .i64 y.typ) ∧ V.cell? ⟨gm, jj * 5 + 1, none⟩ = some (.int .i64 y.frm) ∧ V.cell? ⟨gm, jj * 5 + 2, none⟩ = some (.int .i64 y.to) ∧ V.cell? ⟨gm, jj * 5 + 3, none⟩ = some (.int .i64 y.chk) ∧ V.cell? ⟨gm, jj * 5 + 4, none⟩ = some (.int .i64 y.rep)))
                      (first | (exact k1) | (exact k2) | (exact k3))
                      (first
                        | (go_at_call 12
                           refine hcame.mono ?_
                           rintro e w8 ⟨rfl, u, hu, hB8, hBi8, hk8⟩
                           have HK8 : Hid (C.Kf (fun j => w3.heap.size ≤ j ∧ j < wo.heap.size) w7 w8) := ⟨HRd.out.2.2.ox.trans hk8.ox, Nat.le_trans HRd.out.2.2.size hk8.size, fun j hj hn => (hk8.same j (Nat.lt_of_lt_of_le hj HRd.out.2.2.size) (fun r => r.1.elim hn (fun r => by omega))).trans (HRd.out.2.2.same j hj hn)⟩
                           have b3 := HVM.out w8 HK8.out
                           have k3 := (⟨b3.2.cells, b3.2.piece HY.out⟩ : _ ∧ _)
                           have HE : Hid (BM k b.l M Z jj (C.putB b2 y.frm (cutZ Z y.frm y.to) u) ∧ C.Bu w8 w3.heap.size (fun j => ((w3.heap.size ≤ j ∧ j < wo.heap.size) ∨ w7.heap.size ≤ j) ∧ j < w8.heap.size) (C.putB b2 y.frm (cutZ Z y.frm y.to) u)) := ⟨HRd.out.1.put (G := G) HY.out hu hBi8, hB8.mono (fun j r => ⟨r.1.elim (fun r => r.1) (fun r => .inr (by have := HRd.out.2.2.size; omega)), r.2⟩)⟩
                           clear hu hB8 hBi8 hk8))
                    all_goals (
                      clear hcame k1 k2 k3 b3
                      go_wp2
                      go_roundw
                      case rel => exact ⟨jj, _, rfl, by omega, by omega, _, HE.out.1, HE.out.2, HK8.out⟩
                      case measure => (simp [intOf]; try omega))
            case rest =>
              obtain ⟨b2, HF⟩ := hcut
              have hzl := HZ.out.2.1
              have hsz1 := HSZ.out.1
              have hrr := HRD.out
              have hful := full_of HF.out.1 HF.out.2.2.2 (by omega) (by omega) (by omega)
              obtain ⟨rn, hrn⟩ : ∃ rn : Nat, k.red = rn := ⟨k.red.toNat, by omega⟩
              obtain ⟨D, hD⟩ : ∃ D, D = cutZ Z 0 k.red := ⟨_, rfl⟩
              have hDl : D.length = rn := by rw [hD, cutZ_len (by omega) (by omega) (by omega)]; omega
              have hrd := C.read_any w3.heap.size b2 _ 0 k.red wc HF.out.2.1
              unfold C.RdPost at hrd
              rw [hful.rl, hful.rb, ← hD, hDl] at hrd
              have HDN : Hid (k.red = rn ∧ D.length = rn ∧ D = cutZ Z 0 k.red ∧ rn ≤ cz) := ⟨hrn, hDl, hD, by have := HZ.out.2.2.1; omega⟩
              have hbv := HBV4.out wc HF.out.2.2.1
              have p0 : wc.cell? ⟨w2.heap.size, 0, none⟩ = some (.int .i64 0) := cell_of_row _ _ 0 _ _ _ hbv.spn
              have p1 : wc.cell? ⟨w2.heap.size, 1, none⟩ = some (.int .i64 k.red) := cell_of_row _ _ 1 _ _ _ hbv.spn
              have hhd := C.held_any w3.heap.size b2 (fun j => w3.heap.size ≤ j ∧ j < wc.heap.size)
              rw [hful.hd, hrn] at hhd
              have HHD : Hid (∀ V, C.Bu V w3.heap.size (fun j => w3.heap.size ≤ j ∧ j < wc.heap.size) b2 → Calls Tryd.prog 17 #[.pointer (some ⟨w3.heap.size, 0, none⟩)] V fun e w' => e = .returned (.int .i64 (rn : Int)) ∧ Below V.heap.size V w') := hhd
              have HZD : Hid (∀ V, Below w3.heap.size w4 V → Lies .u8 V (some ⟨gz, oz, none⟩) D) := fun V hV => by
                have h1 := lies_cut (HZV.out V hV) (f := 0) (t := rn) (by omega) (by omega)
                rw [hD, hrn]; exact h1
              clear hzl hsz1 hrr hful hrn hD hDl hbv hhd H6 H6' HG HL1 HLo HR HL
              go_wp2_with fail
              refine hrd.mono ?_
              rintro e w5 ⟨ag, cg, rfl, ho5, hb5⟩
              have hlow : w3.heap.size ≤ wc.heap.size := by have := HF.out.2.2.1.size; have := HBw4.out.size; omega
              have HB5 : Hid (Below w3.heap.size w4 w5 ∧ Below wc.heap.size wc w5 ∧ w3.heap.size ≤ w5.heap.size) := ⟨HF.out.2.2.1.trans (hb5.mono hlow), hb5, by have := hb5.size; omega⟩
              have HO5 : Hid (∀ V, Below w5.heap.size w5 V → Lies .u8 V ag D) := fun V hV => (own_liesB ho5).below hV
              have HGot : Hid (∀ g o, ag = some ⟨g, o, none⟩ → g < w5.heap.size) := fun g o h => by subst h; exact (ho5.lt g rfl).2
              clear hrd ho5 hb5 p0 p1 hlow
              have hrc : rn ≤ cz := HDN.out.2.2.2
              obtain ⟨St, hSt⟩ : ∃ St, St = strOfNums D := ⟨_, rfl⟩
              have HCv : Hid (∀ V, Below w5.heap.size w5 V → (convert 36 9 (.slice ag rn cg)).run Tryd.prog V = .ok (.string St) V ∧ (convert 36 9 (.slice (some ⟨gz, oz, none⟩) rn cz)).run Tryd.prog V = .ok (.string St) V ∧ V.cell? ⟨w.heap.size, 8, none⟩ = some (.slice (some ⟨gz, oz, none⟩) nz cz) ∧ V.cell? ⟨w.heap.size, 4, none⟩ = some (.int .i64 (rn : Int))) := fun V hV => by
                have hb : Below w3.heap.size w4 V := HB5.out.1.trans (hV.mono HB5.out.2.2)
                have hq := (HBV4.out V hb).cells
                rw [hSt]
                exact ⟨convB _ _ _ _ _ HDN.out.2.1 (HO5.out V hV), convB _ _ _ _ _ HDN.out.2.1 (HZD.out V hb), hq.2.2.2.2.2.2.2.2.1, by rw [← HDN.out.1]; exact hq.2.2.2.2.1⟩
              have HSt : Hid (St = strOfNums D) := hSt
              clear hSt
              have hhd := HHD.out w5.drew (((HF.out.2.1.below HB5.out.2.1)).below ((Below.refl _ _).drew))
              have k1 := HCv.out w5 (Below.refl _ _)
              have k2 := HCv.out w5.drew ((Below.refl _ _).drew)
              go_wp2_with fail
              go_region_held3 (fun V => (convert 36 9 (.slice ag rn cg)).run Tryd.prog V = .ok (.string St) V ∧ (convert 36 9 (.slice (some ⟨gz, oz, none⟩) rn cz)).run Tryd.prog V = .ok (.string St) V ∧ V.cell? ⟨w.heap.size, 8, none⟩ = some (.slice (some ⟨gz, oz, none⟩) nz cz) ∧ V.cell? ⟨w.heap.size, 4, none⟩ = some (.int .i64 (rn : Int)))
                (first | (exact k1) | (exact k2) | (exact k3))
                (first
                  | (go_at_call 17
                     refine hhd.mono ?_
                     rintro e w6 ⟨rfl, hb6⟩
                     have HB6 : Hid (Below w5.heap.size w5 w6) := (Below.refl _ w5).drew.trans hb6
                     have k3 := HCv.out w6 HB6.out
                     clear hb6))
              all_goals (clear hhd k1 k2 k3)
              have hnw := C.new4_any w6
              go_wp2_with fail
              refine hnw.mono ?_
              rintro e w7 ⟨rfl, hbu7, hb7⟩
              have hs56 := HB6.out.size
              have HB7 : Hid (Below w6.heap.size w6 w7 ∧ w3.heap.size ≤ w6.heap.size) := ⟨hb7, by have := HB5.out.2.2; omega⟩
              have HI7 : Hid (C.Bu w7 w6.heap.size (fun j => w6.heap.size ≤ j ∧ j < w7.heap.size) C.bf0) := hbu7.cut
              have HV7 : Hid (∀ V, Below w6.heap.size w7 V → Below w3.heap.size w4 V ∧ Below w5.heap.size w5 V) := fun V hV => by
                have h67 := HB7.out.1.trans hV
                have h57 : Below w5.heap.size w5 V := HB6.out.trans (h67.mono HB6.out.size)
                exact ⟨HB5.out.1.trans (h57.mono HB5.out.2.2), h57⟩
              clear hnw hbu7 hb7 hs56
              go_wp2_with fail
              go_loopw [21] (fun p wr => ∃ i : Nat, p = .int .i64 (i : Int) ∧ i ≤ l.length ∧ ∃ b3 : C.Bf, Hid (BL k l Z b3 ∧ C.Bu wr w6.heap.size (fun j => w6.heap.size ≤ j ∧ j < wr.heap.size) b3 ∧ Below w6.heap.size w7 wr ∧ ∀ (j : Nat) (y : Pc), j < i → l[j]? = some y → y.frm < k.red → ∀ x, y.frm ≤ x → x < y.to → C.has b3.l x = true)) (fun p _ => l.length - (intOf p).toNat)
              case atStart => exact ⟨0, rfl, by omega, C.bf0, ⟨⟨bi0 _ _, by simp [C.bf0]⟩, HI7.out, Below.refl _ _, fun j y hj => by omega⟩⟩
              case round =>
                obtain ⟨i, rfl, hi, b3, HR3⟩ := hrel
                by_cases hlt : i < l.length
                · have hlt' : (i : Int) < (l.length : Int) := by omega
                  obtain ⟨y, hy⟩ : ∃ y, l[i]? = some y := ⟨_, List.getElem?_eq_getElem hlt⟩
                  have HY : Hid (l[i]? = some y) := hy
                  have hll : l.length ≤ 140737488355328 := by
                    have h1 := cutL_len HOK.out.1 base
                    have h2 : l.length ≤ 131072 := by rw [HLc.out]; unfold cutL; rw [List.length_append]; omega
                    omega
                  have hi63 : IntKind.i64.wrap ((i : Int) + 1) = ((i + 1 : Nat) : Int) := by rw [IntKind.wrap_i64]; omega
                  have hbv := HBV4.out wr (HV7.out wr HR3.out.2.2.1).1
                  have hpc := hbv.piece hy
                  have c1 := hpc.2.1
                  have s4 := hbv.cells.2.2.2.2.1
                  clear hy hll
                  by_cases hfr : y.frm < k.red
                  · have hyin : y ∈ l := List.mem_of_getElem? HY.out
                    have hyc := HCK.out.1.each y hyin
                    have hyr : y.frm < k.red := hfr
                    go_wp2_with fail
                    go_quiet (fail)
                    have hbe : Below wr.heap.size wr (wr.drewN nq) := below_drewN (Below.refl _ _) _
                    have HR4 : Hid (C.Bu (wr.drewN nq) w6.heap.size (fun j => w6.heap.size ≤ j ∧ j < (wr.drewN nq).heap.size) b3 ∧ Below w6.heap.size w7 (wr.drewN nq)) := ⟨HR3.out.2.1.below hbe, HR3.out.2.2.1.trans (hbe.mono (by have := HR3.out.2.2.1.size; have := HB7.out.1.size; omega))⟩
                    clear hbe hbv hpc c1 s4
                    obtain ⟨W1, hW1⟩ : ∃ W1, W1 = wr.drewN nq := ⟨_, rfl⟩
                    rw [← hW1] at HR4 ⊢
                    clear hW1
                    have HR5 : Hid (C.Bu W1.drew w6.heap.size (fun j => w6.heap.size ≤ j ∧ j < W1.drew.heap.size) b3 ∧ Below w6.heap.size w7 W1.drew) := ⟨HR4.out.1.below ((Below.refl _ _).drew), HR4.out.2.drew⟩
                    have hcame := came_any k HOK.out.1 base (.slice (some ⟨gz, oz, none⟩) nz cz) (.slice at' nt ct) y hyc.1.pc hyc.1.lo hyc.1.lt (hyc.2 hyr) w6.heap.size w6.heap.size b3 Z (some ⟨gz, oz, none⟩) nz cz W1.drew HZ.out.2.1 HSZ.out.1 HZ.out.2.2.1 HZ.out.2.2.2.1 (HZV.out _ (HV7.out _ HR5.out.2).1) HZ.out.1 (fun x hx => Nat.lt_of_lt_of_le (HZL.out x hx) HB7.out.2) (by have := HR5.out.2.size; have := HB7.out.1.size; omega) HR5.out.1 HR3.out.1.bi (fun u hu => by have := HR3.out.1.lenU hyin hyr hu; have := HCK.out.2; omega)
                    have b1 := HBV4.out W1 (HV7.out _ HR4.out.2).1
                    have b2' := HBV4.out W1.drew (HV7.out _ HR5.out.2).1
                    have k1 := (⟨b1.cells, b1.piece HY.out⟩ : _ ∧ _)
                    have k2 := (⟨b2'.cells, b2'.piece HY.out⟩ : _ ∧ _)
                    go_wp2_with fail
                    go_region_held3 (fun V => (V.cell? ⟨w.heap.size, 0, none⟩ = some (.int .i64 k.org) ∧ V.cell? ⟨w.heap.size, 1, none⟩ = some (.int .i64 k.num) ∧ V.cell? ⟨w.heap.size, 2, none⟩ = some (.int .i64 k.srv) ∧ V.cell? ⟨w.heap.size, 3, none⟩ = some (.int .i64 k.size) ∧ V.cell? ⟨w.heap.size, 4, none⟩ = some (.int .i64 k.red) ∧ V.cell? ⟨w.heap.size, 5, none⟩ = some (.int .i64 k.mtu) ∧ V.cell? ⟨w.heap.size, 6, none⟩ = some (.int .i64 k.every) ∧ V.cell? ⟨w.heap.size, 7, none⟩ = some (.int .i64 base) ∧ V.cell? ⟨w.heap.size, 8, none⟩ = some (.slice (some ⟨gz, oz, none⟩) nz cz) ∧ V.cell? ⟨w.heap.size, 9, none⟩ = some (.slice at' nt ct)) ∧ (V.cell? ⟨gl, i * 5, none⟩ = some (.int .i64 y.typ) ∧ V.cell? ⟨gl, i * 5 + 1, none⟩ = some (.int .i64 y.frm) ∧ V.cell? ⟨gl, i * 5 + 2, none⟩ = some (.int .i64 y.to) ∧ V.cell? ⟨gl, i * 5 + 3, none⟩ = some (.int .i64 y.chk) ∧ V.cell? ⟨gl, i * 5 + 4, none⟩ = some (.int .i64 y.rep)))
                      (first | (exact k1) | (exact k2) | (exact k3))
                      (first
                        | (go_at_call 12
                           refine hcame.mono ?_
                           rintro e w8 ⟨rfl, u, hu, hB8, hBi8, hb8⟩
                           have HB8 : Hid (Below w6.heap.size w7 w8) := HR5.out.2.trans hb8
                           have b3' := HBV4.out w8 (HV7.out _ HB8.out).1
                           have k3 := (⟨b3'.cells, b3'.piece HY.out⟩ : _ ∧ _)
                           have HE : Hid (BL k l Z (C.putB b3 y.frm (cutZ Z y.frm y.to) u) ∧ C.Bu w8 w6.heap.size (fun j => w6.heap.size ≤ j ∧ j < w8.heap.size) (C.putB b3 y.frm (cutZ Z y.frm y.to) u) ∧ ∀ (j : Nat) (z : Pc), j < i + 1 → l[j]? = some z → z.frm < k.red → ∀ x, z.frm ≤ x → x < z.to → C.has u x = true) := ⟨⟨hBi8, HR3.out.1.put (b' := b3) hyin hyr hu⟩, hB8, fun j z hj hz hzr x x1 x2 => by
                             rcases Nat.lt_or_ge j i with q | q
                             · exact (uni_or hu x).mpr (.inl (HR3.out.2.2.2 j z q hz hzr x x1 x2))
                             · obtain rfl : j = i := by omega
                               rw [HY.out] at hz; cases hz
                               exact (uni_or hu x).mpr (.inr ⟨x1, x2⟩)⟩
                           clear hu hB8 hBi8 hb8))
                    all_goals (
                      clear hcame k1 k2 k3 b1 b2' b3'
                      go_wp2
                      go_roundw
                      case rel => exact ⟨i + 1, rfl, by omega, _, HE.out.1, HE.out.2.1, HB8.out, HE.out.2.2⟩
                      case measure => simp [intOf]; omega)
                  · go_wp2_with fail
                    go_quiet (fail)
                    go_wp2
                    go_roundw
                    case rel =>
                      have hbe : Below wr.heap.size wr (wr.drewN nq) := below_drewN (Below.refl _ _) _
                      exact ⟨i + 1, rfl, by omega, b3, HR3.out.1, HR3.out.2.1.below hbe, HR3.out.2.2.1.trans (hbe.mono (by have := HR3.out.2.2.1.size; have := HB7.out.1.size; omega)), fun j z hj hz hzr => by
                        rcases Nat.lt_or_ge j i with q | q
                        · exact HR3.out.2.2.2 j z q hz hzr
                        · obtain rfl : j = i := by omega
                          rw [HY.out] at hz; cases hz; omega⟩
                    case measure => simp [intOf]; omega
                · have hnl : ¬ ((i : Int) < (l.length : Int)) := by omega
                  have hil : i = l.length := by omega
                  have hzl := HZ.out.2.1
                  have hsz1 := HSZ.out.1
                  have hrr := HRD.out
                  have hful := full_of HR3.out.1.bi (fun x x1 x2 => by
                    obtain ⟨y, hy, y1, y2⟩ := HCK.out.1.all x x1 x2
                    obtain ⟨j, hj⟩ := List.getElem?_of_mem hy
                    exact HR3.out.2.2.2 j y (by rw [hil]; exact (List.getElem?_eq_some_iff.mp hj).1) hj (by omega) x y1 y2) (by omega) (by omega) (by omega)
                  have hrd := C.read_any w6.heap.size b3 _ 0 k.red wr HR3.out.2.1
                  unfold C.RdPost at hrd
                  rw [hful.rl, hful.rb, ← HDN.out.2.2.1, HDN.out.2.1] at hrd
                  have hbv := HBV4.out wr (HV7.out wr HR3.out.2.2.1).1
                  have p0 : wr.cell? ⟨w2.heap.size, 0, none⟩ = some (.int .i64 0) := cell_of_row _ _ 0 _ _ _ hbv.spn
                  have p1 : wr.cell? ⟨w2.heap.size, 1, none⟩ = some (.int .i64 k.red) := cell_of_row _ _ 1 _ _ _ hbv.spn
                  clear hzl hsz1 hrr hful hbv hil
                  go_wp2_with fail
                  refine hrd.mono ?_
                  rintro e w8 ⟨ah, ch, rfl, ho8, hb8⟩
                  have h68 : Below w6.heap.size w7 w8 := HR3.out.2.2.1.trans (hb8.mono (by have := HR3.out.2.2.1.size; have := HB7.out.1.size; omega))
                  have k1 : (convert 36 9 (.slice ah rn ch)).run Tryd.prog w8 = .ok (.string St) w8 := by rw [HSt.out]; exact convB _ _ _ _ _ HDN.out.2.1 (own_liesB ho8)
                  have k2 := (HCv.out w8 (HV7.out w8 h68).2).1
                  have HE : Hid (Below w.heap.size w w8) := HBw3.out.trans ((HBw4.out.trans (HV7.out w8 h68).1).mono HBw3.out.size)
                  clear hrd ho8 hb8 h68 p0 p1
                  go_wp2
                  go_ret
                  exact ⟨rfl, HE.out⟩
    · have hsz' : ((nz : Int) != k.size) = true := by simp [hsz]
      go_wp2
      go_ret
      exact ⟨rfl, HB2.out⟩
end Go.Proofs.YteabjjbaodadkaaDoor
