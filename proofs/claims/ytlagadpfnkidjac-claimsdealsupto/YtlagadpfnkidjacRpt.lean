import Derived.Test.YtlagadpfnkidjacRfg
import Derived.Test.YtlagadpfnkidjacRfu
import Derived.Laws.AppendOwnNone
namespace Go.Proofs.Ytlagadpfnkidjac
open Go.RowKit

theorem Rt.cross : ∀ {A B : List Sp} {lo : Int}, Rt lo (A ++ B) → ∀ x ∈ A, ∀ y ∈ B, x.2 < y.1
  | [], _, _, _, x, hx => by cases hx
  | s :: A, B, lo, h, x, hx => by
    intro y hy
    rcases List.mem_cons.mp hx with rfl | hx
    · have := h.2.2.2.mem y (by simp [hy]); omega
    · exact Rt.cross h.2.2.2 x hx y hy
theorem Rt.app : ∀ {A B : List Sp} {lo b : Int}, Rt lo A → (∀ x ∈ A, x.2 < b) → lo ≤ b → Rt b B → Rt lo (A ++ B)
  | [], _, _, _, _, _, hl, hB => hB.mono hl
  | s :: A, B, lo, b, h, hx, hl, hB => ⟨h.1, h.2.1, h.2.2.1, Rt.app h.2.2.2 (fun x hx' => hx x (by simp [hx'])) (by have := hx s (by simp); omega) hB⟩
theorem Rt.over {f : Int} : ∀ {r : List Sp} {p : Sp} {lo : Int}, Rt lo (p :: r) → f ≤ p.2 → ∀ x ∈ p :: r, f ≤ x.2
  | r, p, lo, h, hf, x, hx => by
    rcases List.mem_cons.mp hx with rfl | hx
    · exact hf
    · have := h.2.2.2.mem x hx; omega

/-- The spans from i on, below j, are put to the span. -/
structure Pt (l : List Sp) (s : Sp) (i j : Nat) (u : Sp) : Prop where
  ij : i ≤ j
  jl : j ≤ l.length
  ahead : ∀ x ∈ l.take i, x.2 < u.1
  fst : 0 ≤ u.1 ∧ u.1 ≤ s.1
  snd : s.2 ≤ u.2 ∧ u.2 ≤ 4611686018427387903
  all : ∀ x, (inn u x || has (l.drop j) x) = (inn s x || has (l.drop i) x)
theorem Pt.step {l : List Sp} {s u p : Sp} {i j : Nat} (h : Pt l s i j u) (hl : Rt 0 l) (hp : l[j]? = some p) (h1 : p.1 ≤ u.2) (h2 : s.1 ≤ p.2) : Pt l s i (j + 1) (min u.1 p.1, max u.2 p.2) := by
  have hj : j < l.length := (List.getElem?_eq_some_iff.mp hp).1
  have hm := hl.mem p (List.mem_of_getElem? hp)
  have hu := h.fst
  have hv := h.snd
  refine ⟨by have := h.ij; omega, hj, fun x hx => ?_, ⟨by show 0 ≤ min u.1 p.1; omega, by show min u.1 p.1 ≤ s.1; omega⟩, ⟨by show s.2 ≤ max u.2 p.2; omega, by show max u.2 p.2 ≤ _; omega⟩, fun x => ?_⟩
  · have a1 := h.ahead x hx
    have a2 : x.2 < p.1 := Rt.cross (A := l.take i) (B := l.drop i) (by rw [List.take_append_drop]; exact hl) x hx p (by
      refine List.mem_of_getElem? (i := j - i) ?_
      rw [List.getElem?_drop, show i + (j - i) = j from by have := h.ij; omega]; exact hp)
    show x.2 < min u.1 p.1; omega
  · rw [← h.all x, drop_get l j p hp]
    simp only [has]
    have e : inn (min u.1 p.1, max u.2 p.2) x = (inn u x || inn p x) := by
      apply Bool.eq_iff_iff.mpr
      simp only [inn_iff, Bool.or_eq_true]
      omega
    rw [e, Bool.or_assoc]
theorem Pt.done {l : List Sp} {s u : Sp} {i j : Nat} (h : Pt l s i j u) (hl : Rt 0 l) (hs : s.1 < s.2) (he : ∀ p, l[j]? = some p → u.2 < p.1) : Uni l [s] (l.take i ++ (u :: l.drop j)) := by
  have hu := h.fst
  have hv := h.snd
  refine ⟨Rt.app (b := u.1) (Rt.cut (l := l.drop i) (by rw [List.take_append_drop]; exact hl)) h.ahead hu.1 ⟨Int.le_refl _, by omega, hv.2, ?_⟩, fun x => ?_, ?_⟩
  · have hd := hl.dropped j
    cases hq : l.drop j with
    | nil => exact trivial
    | cons p r =>
      rw [hq] at hd
      have hp : l[j]? = some p := by
        have := congrArg (fun z => z[0]?) hq
        simpa [List.getElem?_drop] using this
      exact ⟨by have := he p hp; omega, hd.2⟩
  · rw [has_append]
    have e1 : has l x = (has (l.take i) x || has (l.drop i) x) := by rw [← has_append, List.take_append_drop]
    have e2 : has (u :: l.drop j) x = (inn u x || has (l.drop j) x) := rfl
    rw [e1, e2, h.all x, has_one]
    cases has (l.take i) x <;> cases inn s x <;> cases has (l.drop i) x <;> rfl
  · have := h.ij; have := h.jl; simp; omega

theorem two_c0 {W : World} {g : Nat} {x y : Value} {t : TypeId} (h : W.heap[g]? = some (.cells #[x, y] t (0, 0))) : W.cell? ⟨g, 0, none⟩ = some x := by rw [cell_of_row _ _ _ _ _ _ h]; rfl
theorem two_c1 {W : World} {g : Nat} {x y : Value} {t : TypeId} (h : W.heap[g]? = some (.cells #[x, y] t (0, 0))) : W.cell? ⟨g, 1, none⟩ = some y := by rw [cell_of_row _ _ _ _ _ _ h]; rfl
theorem two_fz {W : World} {g : Nat} {cs : Array Value} {t : TypeId} (h : W.heap[g]? = some (.cells cs t (0, 0))) (i : Nat) : W.frozen? ⟨g, i, none⟩ = false := by simp [World.frozen?, h]

theorem Spa.droppedS {W : World} {g off : Nat} {l : List Sp} (h : Spa W (some ⟨g, off, none⟩) l) (j : Nat) : Spa W (some ⟨g, off + j * 2, none⟩) (l.drop j) := by
  rcases h with h | ⟨g', off', ha, h⟩
  · left; rw [h]; simp
  · simp only [Option.some.injEq, Addr.mk.injEq, and_true] at ha
    obtain ⟨rfl, rfl⟩ := ha
    refine .inr ⟨g, off + j * 2, rfl, fun i p hp => ?_⟩
    rw [List.getElem?_drop] at hp
    have := h (j + i) p hp
    rw [show off + (j + i) * 2 = off + j * 2 + i * 2 from by omega] at this
    exact this
theorem spa_src2 {W : World} {l : List Sp} {g off : Nat} (h : Spa W (some ⟨g, off, none⟩) l) : ∀ j u, (l.flatMap spc)[j]? = some u → W.cell? ((⟨g, off, none⟩ : Addr).add j) = some u := by
  intro j u hj
  have hjl : j < l.length * 2 := by
    rw [← spc_len]
    exact (List.getElem?_eq_some_iff.mp hj).1
  obtain ⟨p, hp⟩ := get_some l (j / 2) (by omega)
  obtain ⟨g', off', he, c1, c2⟩ := h.at hp
  simp only [Option.some.injEq, Addr.mk.injEq, and_true] at he
  obtain ⟨rfl, rfl⟩ := he
  obtain ⟨q1, q2⟩ := spc_get l (j / 2) p hp
  rw [show (⟨g, off, none⟩ : Addr).add j = ⟨g, off + j, none⟩ from by unfold Addr.add; split <;> simp_all]
  rcases Nat.mod_two_eq_zero_or_one j with e | e
  · rw [show j / 2 * 2 = j from by omega] at q1
    rw [show off + j / 2 * 2 = off + j from by omega] at c1
    rw [c1, ← hj, q1]
  · rw [show j / 2 * 2 + 1 = j from by omega] at q2
    rw [show off + j / 2 * 2 + 1 = off + j from by omega] at c2
    rw [c2, ← hj, q2]

theorem ob_low {W : World} {base k : Nat} {v : Value} {l : List Sp} (h : SOwn W base v l) (hk : k < base) : v.ownBlock = none ∨ v.ownBlock ≠ some k := by
  cases hv : v.ownBlock with
  | none => left; rfl
  | some g => right; intro e; simp only [Option.some.injEq] at e; have := (h.lt g hv).1; omega

def PutPost (w : World) (l : List Sp) (s : Sp) (e : Ending) (w' : World) : Prop := ∃ v u, e = .returned v ∧ SOwn w' w.heap.size v u ∧ Uni l [s] u ∧ Below w.heap.size w w'

set_option maxHeartbeats 16000000 in
set_option maxRecDepth 100000 in
theorem refput_in (a : Option Addr) (c : Nat) (l : List Sp) (w : World) (f t : Int) (h : Ls w (.slice a l.length c) l) (hn : a = none → c = 0) (sl : IsSet l) (hs : 0 ≤ f ∧ f < t ∧ t ≤ 4611686018427387903) :
    Calls Try.prog 43 #[.slice a l.length c, .agg #[.int .i64 f, .int .i64 t]] w (PutPost w l (f, t)) := by
  obtain ⟨i0, hi, hz0, hz1, hz2⟩ := info_parts Try.info_span
  have HSp : Hid (Spa w a l) := by obtain ⟨a', c', hv, hs, _⟩ := h.shape; simp only [Value.slice.injEq] at hv; obtain ⟨rfl, _, _⟩ := hv; exact hs
  have hcl : l.length ≤ c ∧ c ≤ 9223372036854775807 := by obtain ⟨a', c', hv, _, h1, h2⟩ := h.shape; simp only [Value.slice.injEq] at hv; obtain ⟨_, _, rfl⟩ := hv; exact ⟨h1, h2⟩
  have HSl : Hid (IsSet l) := sl
  have HN : Hid (a = none → c = 0) := hn
  have HFt : Hid (0 ≤ f ∧ f < t ∧ t ≤ 4611686018427387903) := hs
  have hl2 := sl.1
  have hb0 := below_box w f t
  have hbk0 := heap_alloc_new' w (.cells #[.int .i64 f, .int .i64 t] 24)
  clear h sl hn hs
  go_enter Try.func43, Try.ntmps43
  go_wp2_with fail
  obtain ⟨w0, hw0⟩ : ∃ w0, w.alloc (.cells #[.int .i64 f, .int .i64 t] 24) = w0 := ⟨_, rfl⟩
  rw [hw0] at hb0 hbk0 ⊢
  clear hw0
  have HF : Hid (∀ W, Below w0.heap.size w0 W → Below w.heap.size w W) := fun W hW => hb0.trans (hW.mono hb0.size)
  have hwz : w.heap.size < w0.heap.size := (Array.getElem?_eq_some_iff.1 hbk0).1
  have HBk : Hid (∀ W, Below w0.heap.size w0 W → W.heap[w.heap.size]? = some (.cells #[.int .i64 f, .int .i64 t] 24 (0, 0))) := fun W hW => (hW.block _ hwz).trans hbk0
  clear hb0 hbk0
  go_loopw [5, 6] (fun v x wr => ∃ (i : Nat) (ao : Option Addr) (co : Nat), i ≤ l.length ∧ x = .int .i64 i ∧ v = .slice ao i co ∧ SOwn wr w0.heap.size v (l.take i) ∧ (∀ x ∈ l.take i, x.2 < f) ∧ Below w0.heap.size w0 wr) (fun _ x _ => l.length - (intOf x).toNat)
  case atStart => exact ⟨0, none, 0, by omega, rfl, rfl, SOwn.nil _ _, (fun x hx => by simp at hx), Below.refl _ _⟩
  case round =>
    obtain ⟨i, ao, co, hil, rfl, rfl, hso, hah, hbe⟩ := hrel
    have HSo : Hid (SOwn wr w0.heap.size (.slice ao i co) (l.take i)) := hso
    have HAh : Hid (∀ x ∈ l.take i, x.2 < f) := hah
    have HBe : Hid (Below w0.heap.size w0 wr) := hbe
    have hwr := hbe.size
    have hti : (l.take i).length = i := by simp; omega
    have HTi : Hid ((l.take i).length = i) := hti
    clear hso hah hbe hti
    have k0 := two_c0 (HBk.out wr HBe.out)
    have k1 := two_c1 (HBk.out wr HBe.out)
    -- what stands behind the first loop
    have HEnd : Hid (∀ p, l[i]? = some p → f ≤ p.2) → Hid (Pt l (f, t) i i (f, t)) ∧ Hid (∀ x ∈ l.drop i, f ≤ x.2) := fun hp => ⟨⟨Nat.le_refl _, hil, HAh.out, ⟨HFt.out.1, Int.le_refl _⟩, ⟨Int.le_refl _, HFt.out.2.2⟩, fun _ => rfl⟩, fun x hx => by
      have hd := HSl.out.2.dropped i
      cases hq : l.drop i with
      | nil => rw [hq] at hx; cases hx
      | cons p r =>
        rw [hq] at hd hx
        have : l[i]? = some p := by have := congrArg (fun z => z[0]?) hq; simpa [List.getElem?_drop] using this
        exact hd.over (hp.out p this) x hx⟩
    have hgo : i < l.length ∧ (∃ p, l[i]? = some p ∧ p.2 < f) ∨ Hid (∀ p, l[i]? = some p → f ≤ p.2) := by
      by_cases h1 : i < l.length
      · obtain ⟨p, hp⟩ := get_some l i h1
        by_cases h2 : p.2 < f
        · exact .inl ⟨h1, p, hp, h2⟩
        · exact .inr (fun p' hp' => by rw [hp] at hp'; cases hp'; omega)
      · exact .inr (fun p' hp' => absurd (List.getElem?_eq_some_iff.mp hp').1 h1)
    rcases hgo with ⟨hi1, ⟨p1, p2⟩, hp, hpf⟩ | hstop
    · have hi1' : (i : Int) < (l.length : Int) := by omega
      obtain ⟨g, off, rfl, x1, x2⟩ := (HSp.out.below (HF.out wr HBe.out)).at hp
      simp only at x1 x2 hpf
      have HTk : Hid (l.take (i + 1) = l.take i ++ [(p1, p2)]) := by unfold Hid; rw [List.take_add_one, hp]; rfl
      have HSx : Hid (∀ n, (wr.drewN n).ownsRow w0.heap.size 24 2 (.slice ao i co) i ((l.take i).flatMap spc)) := fun n => by have := HSo.out; unfold SOwn at this; rw [HTi.out] at this; exact this
      clear hp HEnd
      go_wp2_with fail
      go_quiet (fail)
      go_wp2_with (at_builtin; refine wpList_append_own_at _ rfl _ _ 22 rfl w0.heap.size 24 i0 (.agg #[.int .i64 0, .int .i64 0]) 2 16 Try.underlying22 hi hz0 hz1 hz2 rfl (by decide) _ _ _ rfl ((HSx.out _).alloc _) ⟨wr.heap.size, 0, none⟩ 1 1 [.int .i64 p1, .int .i64 p2] rfl rfl ?c1 ?c2 ?c3 ?c4 ?c5 ?_)
      case c1 => exact cell_two_at _ _ _ _ _ (by first | rfl | simp)
      case c2 => intro u hu; simp at hu; rcases hu with rfl | rfl <;> rfl
      case c3 => unfold maxLen; omega
      case c4 => omega
      case c5 => first | omega | (simp; omega)
      intro v' w5 hown5 hgrow5 _ _
      have HS5 : Hid (SOwn w5 w0.heap.size v' (l.take (i + 1))) := by unfold Hid SOwn; rw [HTk.out, List.length_append, List.flatMap_append, HTi.out]; exact hown5
      have HB5 : Hid (Below w0.heap.size w0 w5) := (((below_drewN HBe.out _).alloc (by simp; omega) _).grown hgrow5 (by simp; omega) (fun j hj => ((HSx.out 0).lt j hj).1))
      have HA5 : Hid (∀ x ∈ l.take (i + 1), x.2 < f) := fun x hx => by
        rw [HTk.out] at hx
        rcases List.mem_append.mp hx with q | q
        · exact HAh.out x q
        · simp at q; subst q; exact hpf
      obtain ⟨a5, c5, hv5⟩ := HS5.out.shape
      have e5 : (l.take (i + 1)).length = i + 1 := by rw [HTk.out, List.length_append, HTi.out]; rfl
      rw [e5] at hv5
      subst hv5
      clear hown5 hgrow5 HSx e5 x1 x2 k0 k1 HSo HBe HAh
      go_wp2
      go_roundw
      case rel => exact ⟨i + 1, a5, c5, by omega, by go_num, rfl, HS5.out, HA5.out, HB5.out⟩
      case measure => simp [intOf]; omega
    · obtain ⟨HP0, HGe⟩ := HEnd hstop
      clear HEnd HAh
      -- the first loop's test comes out false; then the second loop
      have HBk0 : Hid (∀ n, (wr.drewN n).heap[w.heap.size]? = some (.cells #[.int .i64 f, .int .i64 t] 24 (0, 0))) := fun n => HBk.out wr HBe.out
      by_cases hi1 : i < l.length
      · have hi1' : (i : Int) < (l.length : Int) := by omega
        obtain ⟨⟨p1, p2⟩, hp⟩ := get_some l i hi1
        have hpf := hstop.out _ hp
        obtain ⟨g, off, rfl, x1, x2⟩ := (HSp.out.below (HF.out wr HBe.out)).at hp
        simp only at x1 x2 hpf
        have hdc : decide (p2 < f) = false := decide_eq_false (by omega)
        clear hp hstop
        go_wp2_with fail
        go_quiet (fail)
        go_wp2_with fail
        clear x1 x2 hdc hpf k0 k1
        go_loopw [6] (fun x wr' => ∃ (j : Nat) (u1 u2 : Int), x = .int .i64 j ∧ Pt l (f, t) i j (u1, u2) ∧ wr'.heap[w.heap.size]? = some (.cells #[.int .i64 u1, .int .i64 u2] 24 (0, 0)) ∧ SOwn wr' w0.heap.size (.slice ao i co) (l.take i) ∧ Below w.heap.size w wr' ∧ w0.heap.size ≤ wr'.heap.size) (fun x _ => l.length - (intOf x).toNat)
        case atStart => exact ⟨i, f, t, rfl, HP0.out, HBk0.out _, (HSo.out).drewN _, below_drewN (HF.out wr HBe.out) _, hwr⟩
        case round =>
          obtain ⟨j, u1, u2, rfl, hpt, hbk, hso, hbe, hsz⟩ := hrel
          have HPt : Hid (Pt l (f, t) i j (u1, u2)) := hpt
          have HBx : Hid (wr.heap[w.heap.size]? = some (.cells #[.int .i64 u1, .int .i64 u2] 24 (0, 0))) := hbk
          have HSo2 : Hid (SOwn wr w0.heap.size (.slice ao i co) (l.take i)) := hso
          have HBe2 : Hid (Below w.heap.size w wr) := hbe
          have hjl := hpt.jl
          have hij := hpt.ij
          have k0 := two_c0 hbk
          have k1 := two_c1 hbk
          have f0 := two_fz hbk 0
          have f1 := two_fz hbk 1
          clear hpt hbk hso hbe HSo HBe HP0 HBk0
          have hgo : (∃ p, l[j]? = some p ∧ p.1 ≤ u2) ∨ Hid (∀ p, l[j]? = some p → u2 < p.1) := by
            by_cases h1 : j < l.length
            · obtain ⟨p, hp⟩ := get_some l j h1
              by_cases h2 : p.1 ≤ u2
              · exact .inl ⟨p, hp, h2⟩
              · exact .inr (fun p' hp' => by rw [hp] at hp'; cases hp'; omega)
            · exact .inr (fun p' hp' => absurd (List.getElem?_eq_some_iff.mp hp').1 h1)
          rcases hgo with ⟨⟨p1, p2⟩, hp, hpu⟩ | hstop2
          · have hj1 : j < l.length := (List.getElem?_eq_some_iff.mp hp).1
            have hj1' : (j : Int) < (l.length : Int) := by omega
            have hge : f ≤ p2 := HGe.out (p1, p2) (List.mem_of_getElem? (i := j - i) (by rw [List.getElem?_drop, show i + (j - i) = j from by omega]; exact hp))
            have hst := HPt.out.step HSl.out.2 hp hpu hge
            have HSt : Hid (Pt l (f, t) i (j + 1) (min u1 p1, max u2 p2)) := hst
            obtain ⟨gg, oo, he, x1, x2⟩ := (HSp.out.below HBe2.out).at hp
            simp only [Option.some.injEq, Addr.mk.injEq, and_true] at he
            obtain ⟨rfl, rfl⟩ := he
            have hgl : g < w.heap.size := by
              obtain ⟨g', off', he, y1, _⟩ := HSp.out.at hp
              simp only [Option.some.injEq, Addr.mk.injEq, and_true] at he
              obtain ⟨rfl, rfl⟩ := he
              exact World.block_lt_of_cell? w _ y1
            simp only at x1 x2 hpu
            clear hp hst HPt
            have hne : g ≠ w.heap.size := by omega
            have hne' : w.heap.size ≠ g := by omega
            rcases Int.lt_or_le p1 u1 with hmn | hmn
            · rcases Int.lt_or_le u2 p2 with hmx | hmx
              · rw [show min u1 p1 = p1 from by omega, show max u2 p2 = p2 from by omega] at HSt
                go_wp2_with fail
                go_quiet (fail)
                go_wp2
                go_region
                go_wp2
                have hb1 : ((wr.drewN (nq + 1)).setCell ⟨w.heap.size, 0, none⟩ (.int .i64 p1)).heap[w.heap.size]? = some (.cells #[.int .i64 p1, .int .i64 u2] 24 (0, 0)) := two_set0 (W := wr.drewN (nq + 1)) HBx.out _
                have z1 : ((wr.drewN (nq + 1)).setCell ⟨w.heap.size, 0, none⟩ (.int .i64 p1)).cell? ⟨g, off + j * 2 + 1, none⟩ = some (.int .i64 p2) := keep_box (W := wr.drewN (nq + 1)) hne' x2
                have HS3 : SOwn ((wr.drewN (nq + 1)).setCell ⟨w.heap.size, 0, none⟩ (.int .i64 p1)) w0.heap.size (.slice ao i co) (l.take i) := World.ownsRow.kept (HSo2.out.drewN (nq + 1)) (grown_set _ _ _ _) (ob_low HSo2.out (by omega))
                have HB3 : Below w.heap.size w ((wr.drewN (nq + 1)).setCell ⟨w.heap.size, 0, none⟩ (.int .i64 p1)) := (below_drewN HBe2.out _).setCell (p := ⟨w.heap.size, 0, none⟩) (Nat.le_refl _) _
                have hz3 : w0.heap.size ≤ ((wr.drewN (nq + 1)).setCell ⟨w.heap.size, 0, none⟩ (.int .i64 p1)).heap.size := by simp; omega
                generalize (wr.drewN (nq + 1)).setCell ⟨w.heap.size, 0, none⟩ (.int .i64 p1) = W1 at hb1 z1 HS3 HB3 hz3 ⊢
                have HH1 : Hid (W1.heap[w.heap.size]? = some (.cells #[.int .i64 p1, .int .i64 u2] 24 (0, 0))) := hb1
                have HH3 : Hid (SOwn W1 w0.heap.size (.slice ao i co) (l.take i)) := HS3
                have HH4 : Hid (Below w.heap.size w W1) := HB3
                clear k0 k1 f0 f1 x1 x2 HSo2 HBe2 HBx HS3 HB3
                have k0 := two_c0 hb1
                have k1 := two_c1 hb1
                have f0 := two_fz hb1 0
                have f1 := two_fz hb1 1
                clear hb1
                go_region
                go_wp2
                go_roundw
                case rel => exact ⟨j + 1, p1, p2, by go_num, HSt.out, two_set1 HH1.out _, SOwn.drewN (World.ownsRow.kept HH3.out (grown_set _ _ _ _) (ob_low HH3.out (by omega))) 1, below_drewN (HH4.out.setCell (p := ⟨w.heap.size, 1, none⟩) (Nat.le_refl _) _) 1, by simp; omega⟩
                case measure => simp [intOf]; omega
              · rw [show min u1 p1 = p1 from by omega, show max u2 p2 = u2 from by omega] at HSt
                go_wp2_with fail
                go_quiet (fail)
                go_wp2
                go_region
                go_wp2
                have hb1 : ((wr.drewN (nq + 1)).setCell ⟨w.heap.size, 0, none⟩ (.int .i64 p1)).heap[w.heap.size]? = some (.cells #[.int .i64 p1, .int .i64 u2] 24 (0, 0)) := two_set0 (W := wr.drewN (nq + 1)) HBx.out _
                have z1 : ((wr.drewN (nq + 1)).setCell ⟨w.heap.size, 0, none⟩ (.int .i64 p1)).cell? ⟨g, off + j * 2 + 1, none⟩ = some (.int .i64 p2) := keep_box (W := wr.drewN (nq + 1)) hne' x2
                have HS3 : SOwn ((wr.drewN (nq + 1)).setCell ⟨w.heap.size, 0, none⟩ (.int .i64 p1)) w0.heap.size (.slice ao i co) (l.take i) := World.ownsRow.kept (HSo2.out.drewN (nq + 1)) (grown_set _ _ _ _) (ob_low HSo2.out (by omega))
                have HB3 : Below w.heap.size w ((wr.drewN (nq + 1)).setCell ⟨w.heap.size, 0, none⟩ (.int .i64 p1)) := (below_drewN HBe2.out _).setCell (p := ⟨w.heap.size, 0, none⟩) (Nat.le_refl _) _
                have hz3 : w0.heap.size ≤ ((wr.drewN (nq + 1)).setCell ⟨w.heap.size, 0, none⟩ (.int .i64 p1)).heap.size := by simp; omega
                generalize (wr.drewN (nq + 1)).setCell ⟨w.heap.size, 0, none⟩ (.int .i64 p1) = W1 at hb1 z1 HS3 HB3 hz3 ⊢
                have HH1 : Hid (W1.heap[w.heap.size]? = some (.cells #[.int .i64 p1, .int .i64 u2] 24 (0, 0))) := hb1
                have HH3 : Hid (SOwn W1 w0.heap.size (.slice ao i co) (l.take i)) := HS3
                have HH4 : Hid (Below w.heap.size w W1) := HB3
                clear k0 k1 f0 f1 x1 x2 HSo2 HBe2 HBx HS3 HB3
                have k0 := two_c0 hb1
                have k1 := two_c1 hb1
                have f0 := two_fz hb1 0
                have f1 := two_fz hb1 1
                clear hb1
                go_region
                go_wp2
                go_roundw
                case rel => exact ⟨j + 1, p1, u2, by go_num, HSt.out, two_set1 HH1.out _, SOwn.drewN (World.ownsRow.kept HH3.out (grown_set _ _ _ _) (ob_low HH3.out (by omega))) 1, below_drewN (HH4.out.setCell (p := ⟨w.heap.size, 1, none⟩) (Nat.le_refl _) _) 1, by simp; omega⟩
                case measure => simp [intOf]; omega
            · rcases Int.lt_or_le u2 p2 with hmx | hmx
              · rw [show min u1 p1 = u1 from by omega, show max u2 p2 = p2 from by omega] at HSt
                go_wp2_with fail
                go_quiet (fail)
                go_wp2
                go_region
                go_wp2
                have hb1 : ((wr.drewN (nq + 1)).setCell ⟨w.heap.size, 0, none⟩ (.int .i64 u1)).heap[w.heap.size]? = some (.cells #[.int .i64 u1, .int .i64 u2] 24 (0, 0)) := two_set0 (W := wr.drewN (nq + 1)) HBx.out _
                have z1 : ((wr.drewN (nq + 1)).setCell ⟨w.heap.size, 0, none⟩ (.int .i64 u1)).cell? ⟨g, off + j * 2 + 1, none⟩ = some (.int .i64 p2) := keep_box (W := wr.drewN (nq + 1)) hne' x2
                have HS3 : SOwn ((wr.drewN (nq + 1)).setCell ⟨w.heap.size, 0, none⟩ (.int .i64 u1)) w0.heap.size (.slice ao i co) (l.take i) := World.ownsRow.kept (HSo2.out.drewN (nq + 1)) (grown_set _ _ _ _) (ob_low HSo2.out (by omega))
                have HB3 : Below w.heap.size w ((wr.drewN (nq + 1)).setCell ⟨w.heap.size, 0, none⟩ (.int .i64 u1)) := (below_drewN HBe2.out _).setCell (p := ⟨w.heap.size, 0, none⟩) (Nat.le_refl _) _
                have hz3 : w0.heap.size ≤ ((wr.drewN (nq + 1)).setCell ⟨w.heap.size, 0, none⟩ (.int .i64 u1)).heap.size := by simp; omega
                generalize (wr.drewN (nq + 1)).setCell ⟨w.heap.size, 0, none⟩ (.int .i64 u1) = W1 at hb1 z1 HS3 HB3 hz3 ⊢
                have HH1 : Hid (W1.heap[w.heap.size]? = some (.cells #[.int .i64 u1, .int .i64 u2] 24 (0, 0))) := hb1
                have HH3 : Hid (SOwn W1 w0.heap.size (.slice ao i co) (l.take i)) := HS3
                have HH4 : Hid (Below w.heap.size w W1) := HB3
                clear k0 k1 f0 f1 x1 x2 HSo2 HBe2 HBx HS3 HB3
                have k0 := two_c0 hb1
                have k1 := two_c1 hb1
                have f0 := two_fz hb1 0
                have f1 := two_fz hb1 1
                clear hb1
                go_region
                go_wp2
                go_roundw
                case rel => exact ⟨j + 1, u1, p2, by go_num, HSt.out, two_set1 HH1.out _, SOwn.drewN (World.ownsRow.kept HH3.out (grown_set _ _ _ _) (ob_low HH3.out (by omega))) 1, below_drewN (HH4.out.setCell (p := ⟨w.heap.size, 1, none⟩) (Nat.le_refl _) _) 1, by simp; omega⟩
                case measure => simp [intOf]; omega
              · rw [show min u1 p1 = u1 from by omega, show max u2 p2 = u2 from by omega] at HSt
                go_wp2_with fail
                go_quiet (fail)
                go_wp2
                go_region
                go_wp2
                have hb1 : ((wr.drewN (nq + 1)).setCell ⟨w.heap.size, 0, none⟩ (.int .i64 u1)).heap[w.heap.size]? = some (.cells #[.int .i64 u1, .int .i64 u2] 24 (0, 0)) := two_set0 (W := wr.drewN (nq + 1)) HBx.out _
                have z1 : ((wr.drewN (nq + 1)).setCell ⟨w.heap.size, 0, none⟩ (.int .i64 u1)).cell? ⟨g, off + j * 2 + 1, none⟩ = some (.int .i64 p2) := keep_box (W := wr.drewN (nq + 1)) hne' x2
                have HS3 : SOwn ((wr.drewN (nq + 1)).setCell ⟨w.heap.size, 0, none⟩ (.int .i64 u1)) w0.heap.size (.slice ao i co) (l.take i) := World.ownsRow.kept (HSo2.out.drewN (nq + 1)) (grown_set _ _ _ _) (ob_low HSo2.out (by omega))
                have HB3 : Below w.heap.size w ((wr.drewN (nq + 1)).setCell ⟨w.heap.size, 0, none⟩ (.int .i64 u1)) := (below_drewN HBe2.out _).setCell (p := ⟨w.heap.size, 0, none⟩) (Nat.le_refl _) _
                have hz3 : w0.heap.size ≤ ((wr.drewN (nq + 1)).setCell ⟨w.heap.size, 0, none⟩ (.int .i64 u1)).heap.size := by simp; omega
                generalize (wr.drewN (nq + 1)).setCell ⟨w.heap.size, 0, none⟩ (.int .i64 u1) = W1 at hb1 z1 HS3 HB3 hz3 ⊢
                have HH1 : Hid (W1.heap[w.heap.size]? = some (.cells #[.int .i64 u1, .int .i64 u2] 24 (0, 0))) := hb1
                have HH3 : Hid (SOwn W1 w0.heap.size (.slice ao i co) (l.take i)) := HS3
                have HH4 : Hid (Below w.heap.size w W1) := HB3
                clear k0 k1 f0 f1 x1 x2 HSo2 HBe2 HBx HS3 HB3
                have k0 := two_c0 hb1
                have k1 := two_c1 hb1
                have f0 := two_fz hb1 0
                have f1 := two_fz hb1 1
                clear hb1
                go_region
                go_wp2
                go_roundw
                case rel => exact ⟨j + 1, u1, u2, by go_num, HSt.out, two_set1 HH1.out _, SOwn.drewN (World.ownsRow.kept HH3.out (grown_set _ _ _ _) (ob_low HH3.out (by omega))) 1, below_drewN (HH4.out.setCell (p := ⟨w.heap.size, 1, none⟩) (Nat.le_refl _) _) 1, by simp; omega⟩
                case measure => simp [intOf]; omega
          · have hU := HPt.out.done HSl.out.2 HFt.out.2.1 hstop2.out
            have HU : Hid (Uni l [(f, t)] (l.take i ++ ((u1, u2) :: l.drop j))) := hU
            clear hU HPt
            by_cases hj2 : j < l.length
            · have hj2' : (j : Int) < (l.length : Int) := by omega
              obtain ⟨⟨y1, y2⟩, hy⟩ := get_some l j hj2
              have hyu := hstop2.out _ hy
              obtain ⟨gg, oo, he, z1, z2⟩ := (HSp.out.below HBe2.out).at hy
              simp only [Option.some.injEq, Addr.mk.injEq, and_true] at he
              obtain ⟨rfl, rfl⟩ := he
              simp only at z1 z2 hyu
              have hdy : decide (y1 ≤ u2) = false := decide_eq_false (by omega)
              clear hy
              have HSx : Hid (∀ n, (wr.drewN n).ownsRow w0.heap.size 24 2 (.slice ao i co) i ((l.take i).flatMap spc)) := fun n => by have := HSo2.out; unfold SOwn at this; rw [HTi.out] at this; exact this
              go_wp2_with fail
              go_quiet (fail)
              go_wp2_with (at_builtin; refine wpList_append_own_at _ rfl _ _ 22 rfl w0.heap.size 24 i0 (.agg #[.int .i64 0, .int .i64 0]) 2 16 Try.underlying22 hi hz0 hz1 hz2 rfl (by decide) _ _ _ rfl ((HSx.out _).alloc _) ⟨wr.heap.size, 0, none⟩ 1 1 [.int .i64 u1, .int .i64 u2] rfl rfl ?c1 ?c2 ?c3 ?c4 ?c5 ?_)
              case c1 => exact cell_two_at _ _ _ _ _ (by first | rfl | simp)
              case c2 => intro u hu; simp at hu; rcases hu with rfl | rfl <;> rfl
              case c3 => unfold maxLen; omega
              case c4 => omega
              case c5 => first | omega | (simp; omega)
              intro v' w5 hown5 hgrow5 _ _
              have HO5 : Hid (w5.ownsRow w0.heap.size 24 2 v' (i + 1) ((l.take i).flatMap spc ++ [.int .i64 u1, .int .i64 u2])) := hown5
              have HB5 : Hid (Below w.heap.size w w5) := (((below_drewN HBe2.out _).alloc (by simp; omega) _).grown hgrow5 (by simp; omega) (fun j hj => by have := ((HSx.out 0).lt j hj).1; omega))
              have hz5 : w0.heap.size ≤ w5.heap.size := by have := hgrow5.size; simp at this; omega
              obtain ⟨g5, c5, rfl⟩ := ownsRow_succ hown5
              clear hown5 hgrow5 HSx k0 k1 f0 f1 HSo2 HBe2 HBx
              have hcj : ¬ c = j := by omega
              have HDl : Hid ((l.drop j).length = l.length - j) := by unfold Hid; simp
              have HSr : Hid (∀ k u, ((l.drop j).flatMap spc)[k]? = some u → w5.cell? ((⟨g, off + j * 2, none⟩ : Addr).add k) = some u) := spa_src2 ((HSp.out.below HB5.out).droppedS j)
              clear z1 z2 hdy
              go_wp2_with (at_builtin; refine wpList_append_own_at _ rfl _ _ 22 rfl w0.heap.size 24 i0 (.agg #[.int .i64 0, .int .i64 0]) 2 16 Try.underlying22 hi hz0 hz1 hz2 rfl (by decide) _ _ _ rfl HO5.out ⟨g, off + j * 2, none⟩ (l.length - j) (c - j) ((l.drop j).flatMap spc) rfl (by rw [spc_len, HDl.out]) ?d1 ?d2 ?d3 ?d4 ?d5 ?_)
              case d1 => exact HSr.out
              case d2 => intro v hv; first | (simp at hv; done) | (obtain ⟨p, _, hp⟩ := List.mem_flatMap.mp hv; simp [spc] at hp; rcases hp with rfl | rfl <;> rfl)
              case d3 => unfold maxLen; omega
              case d4 => omega
              case d5 => omega
              intro v6 w6 hown6 hgrow6 _ _
              have HS6 : Hid (SOwn w6 w0.heap.size v6 (l.take i ++ ((u1, u2) :: l.drop j))) := by
                unfold Hid SOwn
                rw [List.length_append, List.length_cons, HTi.out, HDl.out, List.flatMap_append, List.flatMap_cons, show i + (l.length - j + 1) = i + 1 + (l.length - j) from by omega]; simpa [spc] using hown6
              have HB6 : Hid (Below w.heap.size w w6) := HB5.out.grown hgrow6 HB5.out.size (fun k hk => by have := (HO5.out.lt k hk).1; omega)
              clear hown6 hgrow6
              go_wp2
              go_ret
              exact ⟨_, _, rfl, HS6.out.base (by omega), HU.out, HB6.out⟩
            · have hj3 : j = l.length := by omega
              subst hj3
              have HDn : Hid (l.drop l.length = []) := List.drop_length
              clear hstop2
              have HSx : Hid (∀ n, (wr.drewN n).ownsRow w0.heap.size 24 2 (.slice ao i co) i ((l.take i).flatMap spc)) := fun n => by have := HSo2.out; unfold SOwn at this; rw [HTi.out] at this; exact this
              go_wp2_with fail
              go_quiet (fail)
              go_wp2_with (at_builtin; refine wpList_append_own_at _ rfl _ _ 22 rfl w0.heap.size 24 i0 (.agg #[.int .i64 0, .int .i64 0]) 2 16 Try.underlying22 hi hz0 hz1 hz2 rfl (by decide) _ _ _ rfl ((HSx.out _).alloc _) ⟨wr.heap.size, 0, none⟩ 1 1 [.int .i64 u1, .int .i64 u2] rfl rfl ?c1 ?c2 ?c3 ?c4 ?c5 ?_)
              case c1 => exact cell_two_at _ _ _ _ _ (by first | rfl | simp)
              case c2 => intro u hu; simp at hu; rcases hu with rfl | rfl <;> rfl
              case c3 => unfold maxLen; omega
              case c4 => omega
              case c5 => first | omega | (simp; omega)
              intro v' w5 hown5 hgrow5 _ _
              have HO5 : Hid (w5.ownsRow w0.heap.size 24 2 v' (i + 1) ((l.take i).flatMap spc ++ [.int .i64 u1, .int .i64 u2])) := hown5
              have HB5 : Hid (Below w.heap.size w w5) := (((below_drewN HBe2.out _).alloc (by simp; omega) _).grown hgrow5 (by simp; omega) (fun j hj => by have := ((HSx.out 0).lt j hj).1; omega))
              have hz5 : w0.heap.size ≤ w5.heap.size := by have := hgrow5.size; simp at this; omega
              obtain ⟨g5, c5, rfl⟩ := ownsRow_succ hown5
              clear hown5 hgrow5 HSx k0 k1 f0 f1 HSo2 HBe2 HBx
              by_cases hcj : c = l.length
              · subst hcj
                go_wp2_with (at_builtin; refine wpList_append_own_at _ rfl _ _ 22 rfl w0.heap.size 24 i0 (.agg #[.int .i64 0, .int .i64 0]) 2 16 Try.underlying22 hi hz0 hz1 hz2 rfl (by decide) _ _ _ rfl HO5.out _ 0 _ [] rfl rfl ?d1 ?d2 ?d3 ?d4 ?d5 ?_)
                case d1 => intro k u hk; simp at hk
                case d2 => intro v hv; first | (simp at hv; done) | (obtain ⟨p, _, hp⟩ := List.mem_flatMap.mp hv; simp [spc] at hp; rcases hp with rfl | rfl <;> rfl)
                case d3 => unfold maxLen; omega
                case d4 => omega
                case d5 => omega
                intro v6 w6 hown6 hgrow6 _ _
                have HS6 : Hid (SOwn w6 w0.heap.size v6 (l.take i ++ ((u1, u2) :: l.drop l.length))) := by
                  unfold Hid SOwn
                  rw [HDn.out, List.length_append, HTi.out, List.flatMap_append]; simpa [spc] using hown6
                have HB6 : Hid (Below w.heap.size w w6) := HB5.out.grown hgrow6 HB5.out.size (fun k hk => by have := (HO5.out.lt k hk).1; omega)
                clear hown6 hgrow6
                go_wp2
                go_ret
                exact ⟨_, _, rfl, HS6.out.base (by omega), HU.out, HB6.out⟩
              · skip
                go_wp2_with (at_builtin; refine wpList_append_own_at _ rfl _ _ 22 rfl w0.heap.size 24 i0 (.agg #[.int .i64 0, .int .i64 0]) 2 16 Try.underlying22 hi hz0 hz1 hz2 rfl (by decide) _ _ _ rfl HO5.out _ 0 _ [] rfl rfl ?d1 ?d2 ?d3 ?d4 ?d5 ?_)
                case d1 => intro k u hk; simp at hk
                case d2 => intro v hv; first | (simp at hv; done) | (obtain ⟨p, _, hp⟩ := List.mem_flatMap.mp hv; simp [spc] at hp; rcases hp with rfl | rfl <;> rfl)
                case d3 => unfold maxLen; omega
                case d4 => omega
                case d5 => omega
                intro v6 w6 hown6 hgrow6 _ _
                have HS6 : Hid (SOwn w6 w0.heap.size v6 (l.take i ++ ((u1, u2) :: l.drop l.length))) := by
                  unfold Hid SOwn
                  rw [HDn.out, List.length_append, HTi.out, List.flatMap_append]; simpa [spc] using hown6
                have HB6 : Hid (Below w.heap.size w w6) := HB5.out.grown hgrow6 HB5.out.size (fun k hk => by have := (HO5.out.lt k hk).1; omega)
                clear hown6 hgrow6
                go_wp2
                go_ret
                exact ⟨_, _, rfl, HS6.out.base (by omega), HU.out, HB6.out⟩
      · have hi1' : ¬ (i : Int) < (l.length : Int) := by omega
        have hdn : decide (i < l.length) = false := decide_eq_false (by omega)
        clear hstop
        go_wp2_with fail
        go_quiet (fail)
        go_wp2_with fail
        clear hdn k0 k1
        go_loopw [6] (fun x wr' => ∃ (j : Nat) (u1 u2 : Int), x = .int .i64 j ∧ Pt l (f, t) i j (u1, u2) ∧ wr'.heap[w.heap.size]? = some (.cells #[.int .i64 u1, .int .i64 u2] 24 (0, 0)) ∧ SOwn wr' w0.heap.size (.slice ao i co) (l.take i) ∧ Below w.heap.size w wr' ∧ w0.heap.size ≤ wr'.heap.size) (fun x _ => l.length - (intOf x).toNat)
        case atStart => exact ⟨i, f, t, rfl, HP0.out, HBk0.out _, (HSo.out).drewN _, below_drewN (HF.out wr HBe.out) _, hwr⟩
        case round =>
          obtain ⟨j, u1, u2, rfl, hpt, hbk, hso, hbe, hsz⟩ := hrel
          have HPt : Hid (Pt l (f, t) i j (u1, u2)) := hpt
          have HBx : Hid (wr.heap[w.heap.size]? = some (.cells #[.int .i64 u1, .int .i64 u2] 24 (0, 0))) := hbk
          have HSo2 : Hid (SOwn wr w0.heap.size (.slice ao i co) (l.take i)) := hso
          have HBe2 : Hid (Below w.heap.size w wr) := hbe
          have hjl := hpt.jl
          have hij := hpt.ij
          have k0 := two_c0 hbk
          have k1 := two_c1 hbk
          have f0 := two_fz hbk 0
          have f1 := two_fz hbk 1
          clear hpt hbk hso hbe HSo HBe HP0 HBk0
          have hgo : (∃ p, l[j]? = some p ∧ p.1 ≤ u2) ∨ Hid (∀ p, l[j]? = some p → u2 < p.1) := by
            by_cases h1 : j < l.length
            · obtain ⟨p, hp⟩ := get_some l j h1
              by_cases h2 : p.1 ≤ u2
              · exact .inl ⟨p, hp, h2⟩
              · exact .inr (fun p' hp' => by rw [hp] at hp'; cases hp'; omega)
            · exact .inr (fun p' hp' => absurd (List.getElem?_eq_some_iff.mp hp').1 h1)
          rcases hgo with ⟨⟨p1, p2⟩, hp, hpu⟩ | hstop2
          · exact absurd (List.getElem?_eq_some_iff.mp hp).1 (by omega)
          · have hU := HPt.out.done HSl.out.2 HFt.out.2.1 hstop2.out
            have HU : Hid (Uni l [(f, t)] (l.take i ++ ((u1, u2) :: l.drop j))) := hU
            clear hU HPt
            have hj3 : j = l.length := by omega
            subst hj3
            have HDn : Hid (l.drop l.length = []) := List.drop_length
            clear hstop2
            have HSx : Hid (∀ n, (wr.drewN n).ownsRow w0.heap.size 24 2 (.slice ao i co) i ((l.take i).flatMap spc)) := fun n => by have := HSo2.out; unfold SOwn at this; rw [HTi.out] at this; exact this
            go_wp2_with fail
            go_quiet (fail)
            go_wp2_with (at_builtin; refine wpList_append_own_at _ rfl _ _ 22 rfl w0.heap.size 24 i0 (.agg #[.int .i64 0, .int .i64 0]) 2 16 Try.underlying22 hi hz0 hz1 hz2 rfl (by decide) _ _ _ rfl ((HSx.out _).alloc _) ⟨wr.heap.size, 0, none⟩ 1 1 [.int .i64 u1, .int .i64 u2] rfl rfl ?c1 ?c2 ?c3 ?c4 ?c5 ?_)
            case c1 => exact cell_two_at _ _ _ _ _ (by first | rfl | simp)
            case c2 => intro u hu; simp at hu; rcases hu with rfl | rfl <;> rfl
            case c3 => unfold maxLen; omega
            case c4 => omega
            case c5 => first | omega | (simp; omega)
            intro v' w5 hown5 hgrow5 _ _
            have HO5 : Hid (w5.ownsRow w0.heap.size 24 2 v' (i + 1) ((l.take i).flatMap spc ++ [.int .i64 u1, .int .i64 u2])) := hown5
            have HB5 : Hid (Below w.heap.size w w5) := (((below_drewN HBe2.out _).alloc (by simp; omega) _).grown hgrow5 (by simp; omega) (fun j hj => by have := ((HSx.out 0).lt j hj).1; omega))
            have hz5 : w0.heap.size ≤ w5.heap.size := by have := hgrow5.size; simp at this; omega
            obtain ⟨g5, c5, rfl⟩ := ownsRow_succ hown5
            clear hown5 hgrow5 HSx k0 k1 f0 f1 HSo2 HBe2 HBx
            cases a with
            | none =>
              have hl0 : l = [] := by rcases HSp.out with h | ⟨_, _, h, _⟩; exact h; cases h
              have hll : l.length = 0 := by rw [hl0]; rfl
              have hc0 := HN.out rfl
              subst hc0
              have HE : Hid (l = []) := hl0
              clear hl0
              rw [hll]
              go_wp2_with (at_builtin; refine wpList_append_own_none rfl _ _ 22 rfl w0.heap.size 24 i0 2 Try.underlying22 hi _ _ _ rfl HO5.out rfl ?_)
              have HS6 : Hid (SOwn w5 w0.heap.size (.slice (some ⟨g5, 0, none⟩) (i + 1) c5) (l.take i ++ ((u1, u2) :: l.drop l.length))) := by
                unfold Hid SOwn
                rw [HDn.out, List.length_append, HTi.out, List.flatMap_append]; simpa [spc] using HO5.out
              go_wp2
              go_ret
              exact ⟨_, _, rfl, HS6.out.base (by omega), HU.out, HB5.out⟩
            | some ad =>
              by_cases hcj : c = l.length
              · subst hcj
                go_wp2_with (at_builtin; refine wpList_append_own_at _ rfl _ _ 22 rfl w0.heap.size 24 i0 (.agg #[.int .i64 0, .int .i64 0]) 2 16 Try.underlying22 hi hz0 hz1 hz2 rfl (by decide) _ _ _ rfl HO5.out _ 0 _ [] rfl rfl ?d1 ?d2 ?d3 ?d4 ?d5 ?_)
                case d1 => intro k u hk; simp at hk
                case d2 => intro v hv; first | (simp at hv; done) | (obtain ⟨p, _, hp⟩ := List.mem_flatMap.mp hv; simp [spc] at hp; rcases hp with rfl | rfl <;> rfl)
                case d3 => unfold maxLen; omega
                case d4 => omega
                case d5 => omega
                intro v6 w6 hown6 hgrow6 _ _
                have HS6 : Hid (SOwn w6 w0.heap.size v6 (l.take i ++ ((u1, u2) :: l.drop l.length))) := by
                  unfold Hid SOwn
                  rw [HDn.out, List.length_append, HTi.out, List.flatMap_append]; simpa [spc] using hown6
                have HB6 : Hid (Below w.heap.size w w6) := HB5.out.grown hgrow6 HB5.out.size (fun k hk => by have := (HO5.out.lt k hk).1; omega)
                clear hown6 hgrow6
                go_wp2
                go_ret
                exact ⟨_, _, rfl, HS6.out.base (by omega), HU.out, HB6.out⟩
              · skip
                go_wp2_with (at_builtin; refine wpList_append_own_at _ rfl _ _ 22 rfl w0.heap.size 24 i0 (.agg #[.int .i64 0, .int .i64 0]) 2 16 Try.underlying22 hi hz0 hz1 hz2 rfl (by decide) _ _ _ rfl HO5.out _ 0 _ [] rfl rfl ?d1 ?d2 ?d3 ?d4 ?d5 ?_)
                case d1 => intro k u hk; simp at hk
                case d2 => intro v hv; first | (simp at hv; done) | (obtain ⟨p, _, hp⟩ := List.mem_flatMap.mp hv; simp [spc] at hp; rcases hp with rfl | rfl <;> rfl)
                case d3 => unfold maxLen; omega
                case d4 => omega
                case d5 => omega
                intro v6 w6 hown6 hgrow6 _ _
                have HS6 : Hid (SOwn w6 w0.heap.size v6 (l.take i ++ ((u1, u2) :: l.drop l.length))) := by
                  unfold Hid SOwn
                  rw [HDn.out, List.length_append, HTi.out, List.flatMap_append]; simpa [spc] using hown6
                have HB6 : Hid (Below w.heap.size w w6) := HB5.out.grown hgrow6 HB5.out.size (fun k hk => by have := (HO5.out.lt k hk).1; omega)
                clear hown6 hgrow6
                go_wp2
                go_ret
                exact ⟨_, _, rfl, HS6.out.base (by omega), HU.out, HB6.out⟩
end Go.Proofs.Ytlagadpfnkidjac
