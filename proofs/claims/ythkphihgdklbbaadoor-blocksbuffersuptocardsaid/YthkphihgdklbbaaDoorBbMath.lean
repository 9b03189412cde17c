import Derived.Test.YthkphihgdklbbaaDoorBfRd
import Derived.Test.YthkphihgdklbbaaDoorBkFlM
import Derived.Test.YthkphihgdklbbaaDoorBkMk2
import Derived.WalkSmall
namespace Go.Proofs.YthkphihgdklbbaaDoor
open Go.RowKit
set_option linter.unusedVariables false

/-! ## How many spans -/
theorem starts_len : ∀ {u : List (Int × Int)} {lo : Int} {S : List Int}, C.Rt lo u → (∀ s ∈ u, s.1 ∈ S) → u.length ≤ S.length
  | [], _, _, _, _ => Nat.zero_le _
  | s :: r, lo, S, h, hs => by
    have hm := hs s (by simp)
    have hr : ∀ t ∈ r, t.1 ∈ S.erase s.1 := fun t ht => by
      have h1 := h.2.2.2.mem t ht
      have h2 := h.2.1
      exact (List.mem_erase_of_ne (by omega)).mpr (hs t (by simp [ht]))
    have ih := starts_len h.2.2.2 hr
    rw [List.length_erase_of_mem hm] at ih
    have hp : 0 < S.length := List.length_pos_of_mem hm
    simp only [List.length_cons]; omega
/-- Ahead of a span's first byte there is none. -/
theorem rt_ahead : ∀ {u : List (Int × Int)} {lo : Int}, C.Rt lo u → ∀ s ∈ u, C.has u (s.1 - 1) = false
  | t :: r, lo, h, s, hs => by
    have h2 := h.2.1
    cases q : C.has (t :: r) (s.1 - 1) with
    | false => rfl
    | true =>
      exfalso
      rcases List.mem_cons.mp hs with rfl | hs
      · rcases C.has_cons.mp q with q | q
        · omega
        · have := h.2.2.2.low q; omega
      · have h3 := h.2.2.2.mem s hs
        rcases C.has_cons.mp q with q | q
        · omega
        · have := rt_ahead h.2.2.2 s hs
          rw [this] at q; cases q
theorem rt_at {u : List (Int × Int)} {lo : Int} (h : C.Rt lo u) {s : Int × Int} (hs : s ∈ u) : C.has u s.1 = true := C.has_mem.mpr ⟨s, hs, Int.le_refl _, (h.mem s hs).2.1⟩
/-- A set to which a span came: each span begins where one did, or where that does. -/
theorem starts_of {l u : List (Int × Int)} {lo : Int} {p q : Int} (hl : C.Rt 0 l) (hu : C.Rt lo u) (h1 : ∀ x, C.has u x = true → C.has l x = true ∨ (p ≤ x ∧ x < q)) (h2 : ∀ x, C.has l x = true → C.has u x = true) (h3 : ∀ x, p ≤ x → x < q → C.has u x = true) : ∀ s ∈ u, s.1 ∈ p :: l.map (·.1) := by
  intro s hs
  have a1 := rt_at hu hs
  have a2 := rt_ahead hu s hs
  rcases h1 _ a1 with h | h
  · obtain ⟨r, hr, r1, r2⟩ := C.has_mem.mp h
    by_cases e : r.1 = s.1
    · exact List.mem_cons_of_mem _ (List.mem_map.mpr ⟨r, hr, e⟩)
    · have := h2 (s.1 - 1) (C.has_mem.mpr ⟨r, hr, by omega, by omega⟩)
      rw [this] at a2; cases a2
  · by_cases e : p = s.1
    · rw [e]; exact List.mem_cons_self
    · have := h3 (s.1 - 1) (by omega) (by omega)
      rw [this] at a2; cases a2
theorem uni_or {l u : List (Int × Int)} {p q : Int} (h : C.Uni l [(p, q)] u) (x : Int) : C.has u x = true ↔ C.has l x = true ∨ (p ≤ x ∧ x < q) := by
  rw [h.all, Bool.or_eq_true]
  constructor
  · rintro (a | a)
    · exact .inl a
    · exact .inr (by simpa [C.has, C.inn] using a)
  · rintro (a | a)
    · exact .inl a
    · exact .inr (by simpa [C.has, C.inn] using a)

/-! ## The pieces of a cut -/
def redN (k : Pk) (l : List Pc) : Nat := (l.filter fun y => decide (y.frm < k.red)).length
theorem frx_small {k : Pk} (ok : k.Ok) {y : Pc} (hf : 0 ≤ y.frm ∧ y.frm ≤ 65536) (hc : 0 ≤ y.chk ∧ y.chk ≤ 4611686018427387903) (hr : y.rep = 0) : frX k y ≤ 42 := by
  have a := fr0_bd ok hf.1 hf.2
  have b := sz62 y.chk hc.1 hc.2
  have d : sz 0 = 1 := by decide +kernel
  unfold frX
  split
  · unfold fr1; rw [hr, d]; omega
  · omega
theorem long37 {k : Pk} (ok : k.Ok) {y : Pc} (hF : frX k y ≤ 42) (hlt : y.frm < y.to) (h : fitB (frX k y) k.mtu (y.to + 1 - y.frm) = false) : y.frm + 37 ≤ y.to := by
  rcases Int.lt_or_le y.to (y.frm + 37) with q | q
  · exfalso
    have hs : sz (y.to + 1 - y.frm) = 1 := by
      have m := sz_mono (y.to + 1 - y.frm) 37 (by omega) (by omega) (by omega)
      have : sz 37 = 1 := by decide +kernel
      have := (sz_pos (y.to + 1 - y.frm) (by omega) (by omega)).1
      omega
    have hm := ok.mtu
    simp only [fitB, decide_eq_false_iff_not] at h
    rw [hs] at h
    omega
  · exact q

/-- What is so of the pieces from a place on. -/
structure CkL (k : Pk) (l : List Pc) (a : Int) : Prop where
  each : ∀ y ∈ l, PF k y ∧ (y.frm < k.red → y.to ≤ k.red)
  all : ∀ x, a ≤ x → x < k.red → ∃ y ∈ l, y.frm ≤ x ∧ x < y.to
  few : (k.red ≤ a → redN k l = 0) ∧ (a = k.red - 1 → redN k l ≤ 1) ∧ (a ≤ k.red - 2 → (redN k l : Int) ≤ (k.red - a - 2) / 37 + 2)
theorem ckl_of {k : Pk} (ok : k.Ok) {base : Int} (hb : 0 ≤ base ∧ base ≤ 4611686018427322367) : ∀ {l : List Pc} {a nx pl : Int}, FSt k base l a nx pl → CkL k l a
  | [], a, nx, pl, h => by
    have := h.done
    have := ok.red
    exact ⟨by simp, fun x _ _ => by omega, fun _ => rfl, fun _ => by simp [redN], fun _ => by omega⟩
  | y :: r, a, nx, pl, h => by
    obtain ⟨hp, hf, nx', pl', hk, hs⟩ := h.step ok hb
    have ih := ckl_of ok hb hs
    have n0 := h.n0
    have n1 := h.n1
    have a0 := h.a0
    have a1 := h.a1
    have hks := ok.size
    have hkr := ok.red
    have hlt := hp.lt
    have hred : y.frm < k.red → y.to ≤ k.red := fun q => by
      rcases hk with c | c | c | c | c | c <;> omega
    refine ⟨fun z hz => ?_, fun x x1 x2 => ?_, ?_⟩
    · rcases List.mem_cons.mp hz with rfl | hz
      · exact ⟨hp, hred⟩
      · exact ih.each z hz
    · by_cases c : x < y.to
      · exact ⟨y, by simp, by omega, c⟩
      · obtain ⟨z, hz, q⟩ := ih.all x (by omega) x2
        exact ⟨z, by simp [hz], q⟩
    · have e : redN k (y :: r) = (if y.frm < k.red then 1 else 0) + redN k r := by
        unfold redN
        by_cases c : y.frm < k.red
        · rw [List.filter_cons_of_pos (by simpa using c), if_pos c, List.length_cons]; omega
        · rw [List.filter_cons_of_neg (by simpa using c), if_neg c]; omega
      rw [e]
      refine ⟨fun c => ?_, fun c => ?_, fun c => ?_⟩
      · rw [if_neg (by omega), ih.few.1 (by omega)]
      · rw [if_pos (by omega), ih.few.1 (by omega)]; omega
      · rw [if_pos (by omega)]
        have hrd := hred (by omega)
        by_cases c1 : y.to = k.red
        · rw [ih.few.1 (by omega)]; omega
        · by_cases c2 : y.to = k.red - 1
          · have := ih.few.2.1 c2; omega
          · have hF : frX k y ≤ 42 := by
              refine frx_small ok ⟨by omega, by omega⟩ ?_ ?_
              · rcases hk with c | c | c | c | c | c <;> omega
              · rcases hk with c | c | c | c | c | c <;> omega
            have h37 : y.frm + 37 ≤ y.to := by
              rcases hp.full with q | q | q | q
              · omega
              · omega
              · omega
              · exact long37 ok hF hlt q
            have := ih.few.2.2 (by omega)
            omega
theorem cut_ckl {k : Pk} (ok : k.Ok) {base : Int} (hb : 0 ≤ base ∧ base ≤ 4611686018427322367) : CkL k (cutL k base) 0 ∧ redN k (cutL k base) ≤ 1774 := by
  have h := ckl_of ok hb (FSt.start ok hb.1)
  refine ⟨h, ?_⟩
  have h1 := ok.red
  have h2 := ok.size
  rcases Int.lt_or_le k.red 2 with q | q
  · by_cases c : k.red = 1
    · have := h.few.2.1 (by omega); omega
    · have := h.few.1 (by omega); omega
  · have := h.few.2.2 (by omega); omega

/-! ## The pieces that are cut again -/
structure MkL (k : Pk) (gs : List (Int × Int)) (l : List Pc) (a : Int) : Prop where
  each : ∀ y ∈ l, PM k y ∧ y.to ≤ k.red ∧ a ≤ y.frm
  all : ∀ x, a ≤ x → C.has gs x = true → ∃ y ∈ l, y.frm ≤ x ∧ x < y.to
theorem gs_next {gs : List (Int × Int)} {lo : Int} (h : C.Rt lo gs) {g : Nat} {f0 t0 : Int} (hg : gs[g]? = some (f0, t0)) {x : Int} (hx : t0 ≤ x) (hs : C.has gs x = true) : ∃ j s, g < j ∧ gs[j]? = some s ∧ s.1 ≤ x ∧ x < s.2 := by
  obtain ⟨s, hm, s1, s2⟩ := C.has_mem.mp hs
  obtain ⟨j, hj⟩ := List.getElem?_of_mem hm
  refine ⟨j, s, ?_, hj, s1, s2⟩
  rcases Nat.lt_or_ge g j with q | q
  · exact q
  · exfalso
    have hle : ∀ (l : List (Int × Int)) (lo : Int), C.Rt lo l → ∀ (i j : Nat) (a b : Int × Int), i ≤ j → l[i]? = some a → l[j]? = some b → a.2 ≤ b.2 := fun l => by
      induction l with
      | nil => intro lo _ i j a b _ h; simp at h
      | cons t r ih =>
        intro lo h i j a b hij ha hb
        cases i with
        | zero =>
          simp at ha; subst ha
          cases j with
          | zero => simp at hb; subst hb; exact Int.le_refl _
          | succ j =>
            simp at hb
            have := h.2.2.2.mem b (List.mem_of_getElem? hb)
            omega
        | succ i =>
          cases j with
          | zero => omega
          | succ j => simp at ha hb; exact ih _ h.2.2.2 i j a b (by omega) ha hb
    have := hle gs lo h j g s (f0, t0) q hj hg
    simp only at this; omega
theorem gs_from {gs : List (Int × Int)} {lo : Int} (h : C.Rt lo gs) {i j : Nat} {a b : Int × Int} (hij : i ≤ j) (ha : gs[i]? = some a) (hb : gs[j]? = some b) : a.1 ≤ b.1 := by
  induction gs generalizing lo i j with
  | nil => simp at ha
  | cons t r ih =>
    cases i with
    | zero =>
      simp at ha; subst ha
      cases j with
      | zero => simp at hb; subst hb; exact Int.le_refl _
      | succ j =>
        simp at hb
        have := h.2.2.2.mem b (List.mem_of_getElem? hb)
        have := h.2.1
        omega
    | succ i =>
      cases j with
      | zero => omega
      | succ j => simp at ha hb; exact ih h.2.2.2 (by omega) ha hb
theorem gs_sep {gs : List (Int × Int)} {lo : Int} (h : C.Rt lo gs) {g : Nat} {f0 t0 f1 t1 : Int} (ha : gs[g]? = some (f0, t0)) (hb : gs[g + 1]? = some (f1, t1)) : t0 < f1 := by
  induction gs generalizing lo g with
  | nil => simp at ha
  | cons t r ih =>
    cases g with
    | zero =>
      simp at ha hb; subst ha
      have := h.2.2.2.mem (f1, t1) (List.mem_of_getElem? hb)
      simp only at this
      omega
    | succ g => simp at ha hb; exact ih h.2.2.2 ha hb
theorem mkl_of {k : Pk} (ok : k.Ok) {c r : Int} (hc : 1 ≤ c ∧ c ≤ 4611686018427387903) (hr : 0 ≤ r ∧ r ≤ 4611686018427387903) {gs : List (Int × Int)} (hg : Gp gs k.red) : ∀ {l : List Pc} {g : Nat} {a : Int}, MSt k c r gs l g a → (∀ f0 t0, gs[g]? = some (f0, t0) → a < t0) → g < gs.length ∨ l = [] → (l = [] → ∀ x, a ≤ x → C.has gs x = false) → MkL k gs l a
  | [], g, a, h, _, _, hz => ⟨by simp, fun x x1 x2 => by rw [hz rfl x x1] at x2; cases x2⟩
  | y :: l, g, a, h, ha, hlg, _ => by
    obtain ⟨f0, t0, hgl, hgg, hf, hp, hk⟩ := h.step ok hc hr
    have hlt := hp.lt
    have hat := ha f0 t0 hgg
    have hmem := hg.mem (f0, t0) (List.mem_of_getElem? hgg)
    simp only at hmem
    have fin : ∀ {l' : List Pc} {a' : Int}, MkL k gs l' a' → y.to ≤ t0 → y.frm < a' → (∀ x, y.to ≤ x → x < a' → C.has gs x = false) → l' = l → MkL k gs (y :: l) a := by
      intro l' a' ih h1 h2 h3 h4
      subst h4
      refine ⟨fun z hz => ?_, fun x x1 x2 => ?_⟩
      · rcases List.mem_cons.mp hz with rfl | hz
        · exact ⟨hp, by omega, by omega⟩
        · have := ih.each z hz
          exact ⟨this.1, this.2.1, by omega⟩
      · by_cases c1 : x < y.to
        · exact ⟨y, by simp, by omega, c1⟩
        · by_cases c2 : x < a'
          · rw [h3 x (by omega) c2] at x2; cases x2
          · obtain ⟨z, hz, q⟩ := ih.all x (by omega) x2
            exact ⟨z, by simp [hz], q⟩
    rcases hk with ⟨f1, t1, q1, q2, q3, q4, q5, q6⟩ | ⟨q1, q2, q3, q4, q5, q6⟩ | ⟨q1, q2, q3, q4, q5, q6⟩ | ⟨q1, q2, q3, q4, q5, q6, q7, q8⟩
    · have hm1 := hg.mem (f1, t1) (List.mem_of_getElem? q2)
      simp only at hm1
      have ih := mkl_of ok hc hr hg q6 (fun a b hab => by rw [q2] at hab; cases hab; omega) (.inl q1) (fun e => absurd e q5)
      have hgt : t0 < f1 := by
        have := gs_sep hg.rt hgg q2
        omega
      refine fin ih (by omega) (by omega) (fun x x1 x2 => ?_) rfl
      cases e : C.has gs x with
      | false => rfl
      | true =>
        exfalso
        obtain ⟨j, s, hj, hjs, s1, s2⟩ := gs_next hg.rt hgg (by omega) e
        have := gs_from hg.rt (show g + 1 ≤ j by omega) q2 hjs
        simp only at this
        omega
    · have ih := mkl_of ok hc hr hg q6 (fun a b hab => by rw [hgg] at hab; cases hab; omega) (.inl hgl) (fun e => absurd e q5)
      exact fin ih (by omega) (by omega) (fun x x1 x2 => by omega) rfl
    · have ih := mkl_of ok hc hr hg q6 (fun a b hab => by rw [hgg] at hab; cases hab; omega) (.inl hgl) (fun e => absurd e q5)
      exact fin ih (by omega) (by omega) (fun x x1 x2 => by omega) rfl
    · have hend : ∀ x, y.to ≤ x → C.has gs x = false := fun x x1 => by
        cases e : C.has gs x with
        | false => rfl
        | true =>
          exfalso
          obtain ⟨j, s, hj, hjs, _⟩ := gs_next hg.rt hgg (by omega) e
          have := (List.getElem?_eq_some_iff.mp hjs).1
          omega
      have ih := mkl_of ok hc hr hg q8 (fun a b hab => by rw [List.getElem?_eq_none (by omega)] at hab; cases hab) (.inr q7) (fun _ => hend)
      exact fin ih (by omega) (by omega) (fun x x1 x2 => by omega) rfl

end Go.Proofs.YthkphihgdklbbaaDoor

namespace Go.Proofs.YthkphihgdklbbaaDoor
open Go.RowKit
set_option linter.unusedVariables false

/-- A buffer that holds nothing but a block's red bytes. -/
structure Bi (b : C.Bf) (Z : List Int) (red : Int) : Prop where
  ok : b.Ok
  dr : b.dr = false
  ins : ∀ x, C.has b.l x = true → 0 ≤ x ∧ x < red ∧ b.bs.getD x.toNat 0 = Z.getD x.toNat 0
theorem bi0 (Z : List Int) (red : Int) : Bi C.bf0 Z red := ⟨C.bf0_ok, rfl, fun x h => by simp [C.bf0, C.has] at h⟩

def cutZ (Z : List Int) (f t : Int) : List Int := (Z.drop f.toNat).take (t - f).toNat
theorem cutZ_len {Z : List Int} {f t : Int} (h0 : 0 ≤ f) (h1 : f ≤ t) (h2 : t ≤ Z.length) : (cutZ Z f t).length = (t - f).toNat := by
  unfold cutZ; rw [List.length_take, List.length_drop]; omega
theorem cutZ_get {Z : List Int} {f t x : Int} (h0 : 0 ≤ f) (h1 : f ≤ x) (h2 : x < t) : (cutZ Z f t).getD (x - f).toNat 0 = Z.getD x.toNat 0 := by
  unfold cutZ
  simp only [List.getD_eq_getElem?_getD]
  rw [List.getElem?_take, if_pos (by omega), List.getElem?_drop, show f.toNat + (x - f).toNat = x.toNat from by omega]
theorem bytey_cut {Z : List Int} {f t : Int} (h : Bytey Z) : Bytey (cutZ Z f t) := fun z hz => h z (List.mem_of_mem_drop (List.mem_of_mem_take hz))

structure Came (b : C.Bf) (Z : List Int) (red f t : Int) (u : List (Int × Int)) : Prop where
  may : C.may4 f (cutZ Z f t)
  len : f + ((cutZ Z f t).length : Int) = t
  cl : C.clN b f (cutZ Z f t) = 0
  bi : Bi (C.putB b f (cutZ Z f t) u) Z red
  rb : C.rdB (C.putB b f (cutZ Z f t) u) f t = true
  rl : C.rdL (C.putB b f (cutZ Z f t) u) f t = cutZ Z f t
theorem may_of {Z : List Int} {f t : Int} (h0 : 0 ≤ f) (h1 : f < t) (h2 : t ≤ Z.length) (h3 : Z.length ≤ 65536) : C.may4 f (cutZ Z f t) ∧ f + ((cutZ Z f t).length : Int) = t := by
  have hl := cutZ_len h0 (by omega) h2
  exact ⟨⟨by omega, by omega, h0, by omega⟩, by omega⟩
theorem came_math {b : C.Bf} {Z : List Int} {red f t : Int} {u : List (Int × Int)} (h : Bi b Z red) (hZ : Bytey Z) (h0 : 0 ≤ f) (h1 : f < t) (h2 : t ≤ red) (h3 : red ≤ Z.length) (h4 : Z.length ≤ 65536) (hu : C.Uni b.l [(f, t)] u) (hul : u.length ≤ 2000) : Came b Z red f t u := by
  obtain ⟨hm, hln⟩ := may_of h0 h1 (by omega) h4
  have hl := cutZ_len h0 (by omega) (by omega : t ≤ Z.length)
  have hu' : C.Uni b.l [(f, f + ((cutZ Z f t).length : Int))] u := by rw [hln]; exact hu
  have hok := C.put_ok h.ok (bytey_cut hZ) hm hu' hul
  have hg : ∀ x, C.has u x = true → (C.tkB b f (cutZ Z f t)).getD x.toNat 0 = Z.getD x.toNat 0 := fun x hx => by
    have hx' := (uni_or hu x).mp hx
    have hx0 : 0 ≤ x := by rcases hx' with q | q
                           · exact (h.ins x q).1
                           · omega
    have hc : ((x.toNat : Nat) : Int) = x := by omega
    rw [C.tk_get h.ok h.dr hm, hc, hln]
    by_cases c : (f ≤ x ∧ x < t) ∧ C.has b.l x = false
    · rw [if_pos c]; exact cutZ_get h0 c.1.1 c.1.2
    · rw [if_neg c]
      rcases hx' with q | q
      · exact (h.ins x q).2.2
      · cases e : C.has b.l x with
        | true => exact (h.ins x e).2.2
        | false => exact absurd ⟨q, e⟩ c
  have hbi : Bi (C.putB b f (cutZ Z f t) u) Z red := ⟨hok, h.dr, fun x hx => by
    rcases (uni_or hu x).mp hx with q | q
    · exact ⟨(h.ins x q).1, (h.ins x q).2.1, hg x hx⟩
    · exact ⟨by omega, by omega, hg x hx⟩⟩
  have hcv : C.cvB u (f, t) = true := by
    unfold C.cvB
    have hask : C.Asked (f, t) := ⟨h0, by show f ≤ t; omega, by show t ≤ _; omega⟩
    rw [show C.setB u = true from C.setB_iff.mpr hok.set, C.askB_iff.mpr hask]
    have := C.cover_math (l := u) (s := (f, t)) hu.rt hask (fun x hx => (uni_or hu x).mpr (.inr (C.inn_iff.mp hx)))
    rw [this]; rfl
  have hrb : C.rdB (C.putB b f (cutZ Z f t) u) f t = true := by
    unfold C.rdB
    show (!b.dr && (decide (f < t) && C.cvB u (f, t))) = true
    rw [h.dr, hcv, decide_eq_true h1]; rfl
  have hfit := C.rd_fits hok hrb
  refine ⟨hm, hln, ?_, hbi, hrb, ?_⟩
  · unfold C.clN
    rw [if_neg (by simp [h.dr])]
    refine C.cb_none (fun i i1 i2 => ?_)
    cases e : C.has b.l i with
    | false => rfl
    | true =>
      have := (h.ins i e).2.2
      unfold C.dfB
      rw [this, cutZ_get h0 i1 (by omega)]
      simp
  · unfold C.rdL
    rw [if_pos hrb]
    show ((C.tkB b f (cutZ Z f t)).drop f.toNat).take (t - f).toNat = cutZ Z f t
    have hkl : t ≤ ((C.tkB b f (cutZ Z f t)).length : Int) := hfit.2.2.2
    apply List.ext_getElem
    · rw [hl, List.length_take, List.length_drop]; omega
    · intro i i1 i2
      rw [hl] at i2
      have e1 := hg (f + i) ((uni_or hu _).mpr (.inr ⟨by omega, by omega⟩))
      have e2 := cutZ_get (Z := Z) (f := f) (t := t) (x := f + i) h0 (by omega) (by omega)
      rw [show (f + (i : Int)).toNat = f.toNat + i from by omega] at e1
      rw [show (f + (i : Int) - f).toNat = i from by omega, show (f + (i : Int)).toNat = f.toNat + i from by omega] at e2
      rw [← e1] at e2
      simp only [List.getD_eq_getElem?_getD] at e2
      rw [List.getElem?_eq_getElem (by omega), List.getElem?_eq_getElem (by omega)] at e2
      simp only [List.getElem_take, List.getElem_drop]
      exact e2.symm

end Go.Proofs.YthkphihgdklbbaaDoor

namespace Go.Proofs.YthkphihgdklbbaaDoor
open Go.RowKit
set_option linter.unusedVariables false
set_option linter.unusedSimpArgs false

theorem convB (W : World) (a : Option Addr) (n cap : Nat) (xs : List Int) (hl : xs.length = n) (hc : Lies .u8 W a xs) :
    (convert 36 9 (.slice a n cap)).run Tryd.prog W = .ok (.string (strOfNums xs)) W := by
  rcases hc with rfl | ⟨b, off, rfl, h⟩
  · obtain rfl : n = 0 := by simpa using hl.symm
    cases a with
    | none => exact run_convert_bytes_nil (P := Tryd.prog) W 36 5 Tryd.underlying36 Tryd.underlying5 0 cap 9 Tryd.underlying9
    | some x =>
      have hl0 := run_loadCells_list (P := Tryd.prog) W x ([].map (Value.int .u8)) (fun j v hj => by simp at hj)
      rw [run_convert_bytes_string W 36 9 5 _ 0 cap Tryd.underlying36 Tryd.underlying5 Tryd.underlying9, run_bytesToString W x 0 cap [] hl0]
      rfl
  · exact run_convert_bytes_arg (P := Tryd.prog) W 36 5 Tryd.underlying36 Tryd.underlying5 b off n cap xs hl (fun i hi => h i (by omega)) 9 Tryd.underlying9

/-- What a Send is, as a value. -/
abbrev sndC (k : Pk) (base : Int) (bv tv : Value) : Array Value := #[.int .i64 k.org, .int .i64 k.num, .int .i64 k.srv, .int .i64 k.size, .int .i64 k.red, .int .i64 k.mtu, .int .i64 k.every, .int .i64 base, bv, tv]
theorem own_liesB {w : World} {base n c : Nat} {a : Option Addr} {xs : List Int} (h : w.ownsRow base 5 1 (.slice a n c) n (xs.map (Value.int .u8))) : Lies .u8 w a xs := by
  obtain ⟨hl, ⟨h1, h2⟩ | ⟨g, cap, cur, h1, hb, hh, hn, hm, hs, ht⟩⟩ := id h
  · left
    exact List.eq_nil_of_length_eq_zero (by simpa [h2] using hl)
  · simp only [Value.slice.injEq] at h1
    obtain ⟨rfl, _, rfl⟩ := h1
    have hl' : xs.length = n := by simpa using hl
    refine .inr ⟨g, 0, rfl, fun i hi => ?_⟩
    rw [Nat.zero_add, h.cellAt i (by omega), List.getElem?_map, List.getD_eq_getElem?_getD, List.getElem?_eq_getElem hi]
    rfl
theorem lies_cut {w : World} {g off : Nat} {Z : List Int} (h : Lies .u8 w (some ⟨g, off, none⟩) Z) {f t : Nat} (h1 : f < t) (h2 : t ≤ Z.length) : Lies .u8 w (some ⟨g, off + f, none⟩) (cutZ Z f t) := by
  rcases h with rfl | ⟨g', off', he, hc⟩
  · simp at h2; omega
  · cases he
    have hl := cutZ_len (Z := Z) (f := f) (t := t) (by omega) (by omega) (by omega)
    refine .inr ⟨g, off + f, rfl, fun i hi => ?_⟩
    rw [Nat.add_assoc, hc (f + i) (by omega)]
    have := cutZ_get (Z := Z) (f := f) (t := t) (x := (f : Int) + i) (by omega) (by omega) (by omega)
    rw [show ((f : Int) + (i : Int) - (f : Int)).toNat = i from by omega, show ((f : Int) + (i : Int)).toNat = f + i from by omega] at this
    rw [this]

theorem put_came {b b' : C.Bf} {D : List Int} {f t fr cl er : Int} (h : C.PutR b f D fr cl er b') (hm : C.may4 f D) (hl : f + (D.length : Int) = t) (hul : ∀ u, C.Uni b.l [(f, t)] u → u.length ≤ 2000) (hcl : ∀ u, C.Uni b.l [(f, t)] u → C.clN b f D = 0) : ∃ u, C.Uni b.l [(f, t)] u ∧ er = 0 ∧ cl = 0 ∧ fr = C.siz u - C.siz b.l ∧ b' = C.putB b f D u := by
  rcases h with ⟨h, _⟩ | ⟨_, h, _⟩ | ⟨_, u, hu, h⟩
  · have := hm.1; omega
  · exact absurd hm h
  · rw [hl] at hu
    rcases h with ⟨_, h1, h2, h3, h4⟩ | ⟨h, _⟩
    · exact ⟨u, hu, h1, h3.trans (hcl u hu), h2, h4⟩
    · have := hul u hu; omega
theorem kf_trans0 {F : Nat → Prop} {a b c : World} (h : C.Kf F a b) (h' : C.Kf F b c) : C.Kf F a c := ⟨h.ox.trans h'.ox, Nat.le_trans h.size h'.size, fun k hk hn => (h'.same k (Nat.lt_of_lt_of_le hk h.size) hn).trans (h.same k hk hn)⟩

set_option maxRecDepth 100000 in
set_option maxHeartbeats 4000000 in
theorem came_gen (k : Pk) (ok : k.Ok) (base : Int) (bv tv : Value) (y : Pc) (hp : pieceB k y = true) (h0 : 0 ≤ y.frm) (h1 : y.frm < y.to) (h2 : y.to ≤ k.red) (Bb : Nat) (F : Nat → Prop) (b : C.Bf) (Z : List Int) (a : Option Addr) (n cap : Nat) (w : World)
    (hn : Z.length = n) (hs : (n : Int) = k.size) (hnc : n ≤ cap) (hcm : cap ≤ 9223372036854775807) (hz : Lies .u8 w a Z) (hzb : Bytey Z) (hlow : ∀ x : Addr, a = some x → ¬ F x.block) (hFl : ∀ j, F j → j < w.heap.size) (hB : C.Bu w Bb F b) (hbi : Bi b Z k.red) (hul : ∀ u, C.Uni b.l [(y.frm, y.to)] u → u.length ≤ 2000) :
    Calls Tryd.prog 12 #[.pointer (some ⟨Bb, 0, none⟩), .agg (sndC k base bv tv), .agg (pcC y), .slice a n cap] w fun e w' => e = .returned (.bool true) ∧ ∃ u, C.Uni b.l [(y.frm, y.to)] u ∧ C.Bu w' Bb (fun j => (F j ∨ w.heap.size ≤ j) ∧ j < w'.heap.size) (C.putB b y.frm (cutZ Z y.frm y.to) u) ∧ Bi (C.putB b y.frm (cutZ Z y.frm y.to) u) Z k.red ∧ C.Kf F w w' := by
  have hks := ok.size
  have hkr := ok.red
  have hmk : mk k y Z = (sgP k y (cutZ Z y.frm y.to), 0) := by
    unfold mk
    rw [if_neg (by omega), if_neg (by simp [ok.ses]), if_neg (by simp [ok.pcl]), if_neg (by simp [hp]), if_neg (by omega)]
    rfl
  obtain ⟨gz, oz, rfl, hzc⟩ : ∃ gz oz, a = some ⟨gz, oz, none⟩ ∧ Lies .u8 w (some ⟨gz, oz, none⟩) Z := by
    rcases id hz with h | ⟨g, o, h, _⟩
    · subst h; simp at hn; omega
    · exact ⟨g, o, h, by rw [← h]; exact hz⟩
  have hzl := hlow _ rfl
  simp only at hzl
  have hgzw : gz < w.heap.size := by
    rcases hzc with h | ⟨g', o', he, hc⟩
    · subst h; simp at hn; omega
    · cases he; exact World.block_lt_of_cell? w ⟨gz, oz + 0, none⟩ (hc 0 (by omega))
  obtain ⟨fn, hfn⟩ : ∃ fn : Nat, y.frm = fn := ⟨y.frm.toNat, by omega⟩
  obtain ⟨tn, htn⟩ : ∃ tn : Nat, y.to = tn := ⟨y.to.toNat, by omega⟩
  obtain ⟨D, hD⟩ : ∃ D, D = cutZ Z y.frm y.to := ⟨_, rfl⟩
  have hDl : (D.length : Int) = y.to - y.frm := by rw [hD, cutZ_len h0 (by omega) (by omega)]; omega
  have HDb : Hid (Bytey D) := by unfold Hid; rw [hD]; exact bytey_cut hzb
  have HMay : Hid (C.may4 y.frm D) := by unfold Hid; rw [hD]; exact (may_of h0 h1 (by omega) (by omega)).1
  have HCm : Hid (∀ u, C.Uni b.l [(y.frm, y.to)] u → Came b Z k.red y.frm y.to u) := fun u hu => came_math hbi hzb h0 h1 h2 (by omega) (by omega) hu (hul u hu)
  have HUl : Hid (∀ u, C.Uni b.l [(y.frm, y.to)] u → u.length ≤ 2000) := hul
  have HLZ : Hid (∀ V, C.Kf F w V → Lies .u8 V (some ⟨gz, oz + fn, none⟩) D) := fun V hV => by
    have := lies_cut hzc (f := fn) (t := tn) (by omega) (by omega)
    rw [hD, hfn, htn]
    rcases this with h | ⟨g', o', he, hc⟩
    · exact .inl h
    · cases he
      exact .inr ⟨gz, oz + fn, rfl, fun i hi => (World.cell?_of_block (a := ⟨gz, oz + fn + i, none⟩) (hV.same gz hgzw hzl)).trans (hc i hi)⟩
  have HDD : Hid (D = cutZ Z y.frm y.to ∧ (D.length : Int) = y.to - y.frm) := ⟨hD, hDl⟩
  have hmake := make_any k y (some ⟨gz, oz, none⟩) Z n cap
  have HMk : Hid (∀ V, C.Kf F w V → Calls Tryd.prog 39 #[.agg #[.int .i64 k.org, .int .i64 k.num], .agg (pclC k), .agg (pcC y), .slice (some ⟨gz, oz, none⟩) n cap] V (MkPost (sgP k y D, 0) V)) := fun V hV => by
    have := hmake V hn hnc (by
      rcases hzc with h | ⟨g', o', he, hc⟩
      · exact .inl h
      · cases he
        exact .inr ⟨gz, oz, rfl, fun i hi => (World.cell?_of_block (a := ⟨gz, oz + i, none⟩) (hV.same gz hgzw hzl)).trans (hc i hi)⟩) (fun h => by cases h)
    rw [hmk, ← hD] at this; exact this
  have HBu : Hid (C.Bu w Bb F b) := hB
  have hf1 : fn ≤ tn := by omega
  have hf2 : tn ≤ cap := by omega
  have hf3 : ¬ cap = fn := by omega
  have HNum : Hid (y.frm = fn ∧ y.to = tn ∧ fn < tn ∧ tn ≤ n) := ⟨hfn, htn, by omega, by omega⟩
  clear hmake hz hzc hzb hbi hul hmk hD hDl hfn htn hB h0 h1 h2 hn hs hlow hnc hp
  obtain ⟨W0, hW0⟩ : ∃ W0, W0 = (w.alloc (.cells (sndC k base bv tv) 50)).alloc (.cells (pcC y) 57) := ⟨_, rfl⟩
  have HB00 : Hid (Below w.heap.size w W0) := by rw [hW0]; exact ((Below.refl _ _).alloc (Nat.le_refl _) _).alloc (by simp) _
  have HP1 : Hid (W0.heap[w.heap.size + 1]? = some (.cells (pcC y) 57 (0, 0))) := by
    unfold Hid; rw [hW0]
    have := heap_alloc_new' (w.alloc (.cells (sndC k base bv tv) 50)) (.cells (pcC y) 57)
    rw [World.size_alloc] at this; exact this
  have hmk := HMk.out W0 (.of_below HB00.out)
  rw [hW0] at hmk
  go_enter Tryd.func12, Tryd.ntmps12
  go_wp2_with fail
  refine hmk.mono ?_
  rw [← hW0]
  clear hmk hW0
  rintro e w1 ⟨ad, cd, rfl, ho1, hb1⟩
  obtain ⟨nd, hnd⟩ : ∃ nd, nd = D.length := ⟨_, rfl⟩
  have ho1' : w1.ownsRow W0.heap.size 5 1 (.slice ad nd cd) nd (D.map (Value.int .u8)) := by rw [hnd]; exact ho1
  have HND : Hid (D.length = nd) := hnd.symm
  have e1 : (Value.slice ad (sgP k y D).data.length cd) = .slice ad nd cd := by rw [hnd]; rfl
  rw [e1]
  obtain ⟨gd, cd2, hgd⟩ : ∃ g c, Value.slice ad nd cd = .slice (some ⟨g, 0, none⟩) nd c := C.own_some ho1' (by have := HDD.out.2; have := HNum.out; omega)
  simp only [Value.slice.injEq, true_and] at hgd
  obtain ⟨rfl, rfl⟩ := hgd
  have hcap : nd ≤ cd ∧ cd ≤ 9223372036854775807 := by
    obtain ⟨_, ⟨h9, _⟩ | ⟨g', cap', cur, h9, _, _, h8, h7, _⟩⟩ := ho1'
    · cases h9
    · cases h9; simp only [maxLen] at h7; exact ⟨h8, by omega⟩
  have hgl := ho1'.lt gd rfl
  obtain ⟨W1, hW1⟩ : ∃ W1, W1 = w1.alloc (svO (sgP k y D) (.slice none 0 0) (.slice none 0 0) (.slice (some ⟨gd, 0, none⟩) nd cd) (.slice none 0 0)) := ⟨_, rfl⟩
  have HW1 : Hid (Below w.heap.size w W1 ∧ Below w1.heap.size w1 W1) := by
    have q : Below w1.heap.size w1 W1 := by rw [hW1]; exact (Below.refl _ _).alloc (Nat.le_refl _) _
    exact ⟨(HB00.out.trans (hb1.mono HB00.out.size)).trans (q.mono (by have := HB00.out.size; have := hb1.size; omega)), q⟩
  have HOD : Hid (W1.ownsRow w.heap.size 5 1 (.slice (some ⟨gd, 0, none⟩) nd cd) nd (D.map (Value.int .u8))) := by
    unfold Hid; rw [hW1]
    exact (C.own_low0 ho1' HB00.out.size).alloc _
  have HSg : Hid (W1.heap[w1.heap.size]? = some (svO (sgP k y D) (.slice none 0 0) (.slice none 0 0) (.slice (some ⟨gd, 0, none⟩) nd cd) (.slice none 0 0))) := by unfold Hid; rw [hW1]; exact heap_alloc_new' _ _
  have HP1' : Hid (W1.heap[w.heap.size + 1]? = some (.cells (pcC y) 57 (0, 0))) := by
    have hp1 := HP1.out
    have hl := (Array.getElem?_eq_some_iff.1 hp1).1
    exact (HW1.out.2.block _ (Nat.lt_of_lt_of_le hl hb1.size)).trans ((hb1.block _ hl).trans hp1)
  have HBu1 : Hid (C.Bu W1 Bb F b) := HBu.out.below HW1.out.1
  have hgw : w.heap.size ≤ gd := Nat.le_trans HB00.out.size hgl.1
  have hlk := C.look_any Bb b F y.frm (some ⟨gd, 0, none⟩) nd cd D W1 HBu1.out HND.out (by have := HMay.out.1; have := HND.out; omega) (own_liesB HOD.out)
  have g5 : W1.cell? ⟨w1.heap.size, 5, none⟩ = some (.int .i64 k.srv) := cell_of_row _ _ 5 _ _ _ HSg.out
  have g6 : W1.cell? ⟨w1.heap.size, 6, none⟩ = some (.int .i64 y.frm) := cell_of_row _ _ 6 _ _ _ HSg.out
  have g7 : W1.cell? ⟨w1.heap.size, 7, none⟩ = some (.slice (some ⟨gd, 0, none⟩) nd cd) := cell_of_row _ _ 7 _ _ _ HSg.out
  rw [hW1] at g5 g6 g7 hlk
  clear ho1 ho1' hb1 hnd e1 HP1
  go_wp2_with fail
  rw [← hW1] at g5 g6 g7 hlk ⊢
  clear hW1
  refine hlk.mono ?_
  rintro e w2 ⟨fr, cl, er, b', rfl, hR, hb2⟩
  have hyl : y.frm + (D.length : Int) = y.to := by have := HDD.out.2; omega
  obtain ⟨u, hu, rfl, rfl, hfr, rfl⟩ := put_came hR HMay.out hyl HUl.out (fun u hu => by have := (HCm.out u hu).cl; rw [← HDD.out.1] at this; exact this)
  have HU : Hid (C.Uni b.l [(y.frm, y.to)] u ∧ fr = C.siz u - C.siz b.l) := ⟨hu, hfr⟩
  have HW2 : Hid (Below w.heap.size w w2 ∧ Below W1.heap.size W1 w2) := ⟨HW1.out.1.trans (hb2.mono HW1.out.1.size), hb2⟩
  have k6 : w2.cell? ⟨w1.heap.size, 6, none⟩ = some (.int .i64 y.frm) := cell_below g6 hb2
  have k7 : w2.cell? ⟨w1.heap.size, 7, none⟩ = some (.slice (some ⟨gd, 0, none⟩) nd cd) := cell_below g7 hb2
  have HBu2 : Hid (C.Bu w2 Bb F b) := HBu1.out.below hb2
  have HP2 : Hid (w2.heap[w.heap.size + 1]? = some (.cells (pcC y) 57 (0, 0))) := (hb2.block _ (Array.getElem?_eq_some_iff.1 HP1'.out).1).trans HP1'.out
  have hpt := C.put_any Bb b F y.frm (some ⟨gd, 0, none⟩) nd cd D w2 HBu2.out HDb.out HND.out (by have := HMay.out.1; have := HND.out; omega) hcap.1 hcap.2 ((own_liesB HOD.out).below hb2) (fun g hg h => by cases hg; have h2 : gd < w.heap.size := hFl _ h; omega)
  clear hlk hR hu hfr hb2 g5 g6 g7 HP1' HBu1
  go_wp2_with fail
  refine hpt.mono ?_
  rintro e w3 ⟨fr2, cl2, er2, b2, rfl, hR2, hB3, hK3⟩
  obtain ⟨u2, hu2, rfl, rfl, hfr2, rfl⟩ := put_came hR2 HMay.out hyl HUl.out (fun u hu => by have := (HCm.out u hu).cl; rw [← HDD.out.1] at this; exact this)
  obtain rfl : u2 = u := hu2.uniq HU.out.1
  obtain rfl : fr2 = fr := by rw [hfr2, HU.out.2]
  have HB3 : Hid (C.Kf F w w3) := kf_trans0 (.of_below HW2.out.1) hK3
  have HBu3 : Hid (C.Bu w3 Bb (fun j => (F j ∨ w.heap.size ≤ j) ∧ j < w3.heap.size) (C.putB b y.frm D u2)) := hB3.cut.mono (fun j h => ⟨h.1.elim (fun q => .inl q) (fun q => .inr (by have := HW2.out.1.size; omega)), h.2⟩)
  have HP3 : Hid (w3.heap[w.heap.size + 1]? = some (.cells (pcC y) 57 (0, 0))) := (hK3.same _ (Array.getElem?_eq_some_iff.1 HP2.out).1 (fun q => by have := hFl _ q; omega)).trans HP2.out
  have HCa : Hid (Came b Z k.red y.frm y.to u2) := HCm.out u2 HU.out.1
  have p1 : w3.cell? ⟨w.heap.size + 1, 1, none⟩ = some (.int .i64 y.frm) := cell_of_row _ _ 1 _ _ _ HP3.out
  have p2 : w3.cell? ⟨w.heap.size + 1, 2, none⟩ = some (.int .i64 y.to) := cell_of_row _ _ 2 _ _ _ HP3.out
  have hrd := C.read_any Bb (C.putB b y.frm D u2) _ y.frm y.to w3 HBu3.out
  have HRL : Hid (C.rdL (C.putB b y.frm D u2) y.frm y.to = D ∧ C.rdB (C.putB b y.frm D u2) y.frm y.to = true) := by
    have hca := HCa.out
    have h1 := hca.rl
    have h2 := hca.rb
    rw [← HDD.out.1] at h1 h2
    exact ⟨h1, h2⟩
  unfold C.RdPost at hrd
  rw [HRL.out.1, HRL.out.2, HND.out] at hrd
  clear hpt hR2 hB3 hK3 hu2 hfr2 HP2 HBu2 HUl HCm HMk k6 k7
  go_wp2_with fail
  refine hrd.mono ?_
  rintro e w4 ⟨ag, cg, rfl, ho4, hb4⟩
  have hnum := HNum.out
  have m1 : w4.cell? ⟨w.heap.size + 1, 1, none⟩ = some (.int .i64 (fn : Int)) := by rw [← hnum.1]; exact cell_below p1 hb4
  have m2 : w4.cell? ⟨w.heap.size + 1, 2, none⟩ = some (.int .i64 (tn : Int)) := by rw [← hnum.2.1]; exact cell_below p2 hb4
  have HB4 : Hid (C.Kf F w w4) := kf_trans0 HB3.out (.of_below hb4)
  have HBu4 : Hid (C.Bu w4 Bb (fun j => (F j ∨ w.heap.size ≤ j) ∧ j < w4.heap.size) (C.putB b y.frm D u2)) := (HBu3.out.below hb4).mono (fun j h => ⟨h.1, Nat.lt_of_lt_of_le h.2 hb4.size⟩)
  have hdl := HDD.out.2
  have hnd := HND.out
  have k1 : ∀ q, (convert 36 9 (.slice ag nd cg)).run Tryd.prog (w4.drewN q) = .ok (.string (strOfNums D)) (w4.drewN q) := fun q => convB _ _ _ _ _ hnd ((own_liesB ho4).below (below_drewN (Below.refl _ _) _))
  have k2 : ∀ q, (convert 36 9 (.slice (some ⟨gz, oz + fn, none⟩) (tn - fn) (cap - fn))).run Tryd.prog (w4.drewN q) = .ok (.string (strOfNums D)) (w4.drewN q) := fun q => convB _ _ _ _ _ (by omega) (HLZ.out _ (kf_trans0 HB4.out (.of_below (below_drewN (Below.refl _ _) _))))
  clear hrd ho4 hb4 p1 p2 hnum hdl hnd HLZ HBu3 HB3 HP3 HOD HSg HBu hyl
  generalize strOfNums D = St at k1 k2
  go_wp2_with fail
  go_quiet (fail)
  go_wp2
  go_ret
  have hE := HCa.out.bi
  exact ⟨rfl, u2, HU.out.1, by rw [← HDD.out.1]; exact (HBu4.out.below (below_drewN (Below.refl _ _) _)).mono (fun j h => h), hE, kf_trans0 HB4.out (.of_below (below_drewN (Below.refl _ _) _))⟩

theorem came_any (k : Pk) (ok : k.Ok) (base : Int) (bv tv : Value) (y : Pc) (hp : pieceB k y = true) (h0 : 0 ≤ y.frm) (h1 : y.frm < y.to) (h2 : y.to ≤ k.red) (Bb B0 : Nat) (b : C.Bf) (Z : List Int) (a : Option Addr) (n cap : Nat) (w : World)
    (hn : Z.length = n) (hs : (n : Int) = k.size) (hnc : n ≤ cap) (hcm : cap ≤ 9223372036854775807) (hz : Lies .u8 w a Z) (hzb : Bytey Z) (hlow : ∀ x : Addr, a = some x → x.block < B0) (hB0 : B0 ≤ w.heap.size) (hB : C.Bu w Bb (fun j => B0 ≤ j ∧ j < w.heap.size) b) (hbi : Bi b Z k.red) (hul : ∀ u, C.Uni b.l [(y.frm, y.to)] u → u.length ≤ 2000) :
    Calls Tryd.prog 12 #[.pointer (some ⟨Bb, 0, none⟩), .agg (sndC k base bv tv), .agg (pcC y), .slice a n cap] w fun e w' => e = .returned (.bool true) ∧ ∃ u, C.Uni b.l [(y.frm, y.to)] u ∧ C.Bu w' Bb (fun j => B0 ≤ j ∧ j < w'.heap.size) (C.putB b y.frm (cutZ Z y.frm y.to) u) ∧ Bi (C.putB b y.frm (cutZ Z y.frm y.to) u) Z k.red ∧ Below B0 w w' := by
  refine (came_gen k ok base bv tv y hp h0 h1 h2 Bb (fun j => B0 ≤ j ∧ j < w.heap.size) b Z a n cap w hn hs hnc hcm hz hzb (fun x hx q => by have := hlow x hx; omega) (fun j h => h.2) hB hbi hul).mono ?_
  rintro e w' ⟨he, u, h3, h4, h5, h6⟩
  exact ⟨he, u, h3, h4.mono (fun j q => ⟨q.1.elim (fun r => r.1) (fun r => by omega), q.2⟩), h5, h6.bel hB0 (fun j q => q.1)⟩

end Go.Proofs.YthkphihgdklbbaaDoor
