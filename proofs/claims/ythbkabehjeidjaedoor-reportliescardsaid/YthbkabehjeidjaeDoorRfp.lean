import Derived.Test.YthbkabehjeidjaeDoorGrp
namespace Go.Proofs.YthbkabehjeidjaeDoor.C
open Go.RowKit

abbrev Pz' := Sp × Bool
def pzc (x : Sp × Bool) : List Value := [.int .i64 x.1.1, .int .i64 x.1.2, .bool x.2]
theorem Tryd.info_piece : (Tryd.prog.info? 131).map (fun i => (i.zero, i.size, i.bytes)) = some (some (.agg #[.int .i64 0, .int .i64 0, .bool false]), 3, 24) := by kernel_rfl
/-- A row of pieces of the call's own. -/
def POwn (w : World) (base : Nat) (v : Value) (l : List (Sp × Bool)) : Prop := w.ownsRow base 131 3 v l.length (l.flatMap pzc)
theorem POwn.lt {w : World} {base : Nat} {v : Value} {l : List (Sp × Bool)} (h : POwn w base v l) : ∀ k, v.ownBlock = some k → base ≤ k ∧ k < w.heap.size := World.ownsRow.lt h
theorem POwn.shape {w : World} {base : Nat} {v : Value} {l : List (Sp × Bool)} (h : POwn w base v l) : ∃ a c, v = .slice a l.length c := own_shape h
theorem POwn.below {w w' : World} {base : Nat} {v : Value} {l : List (Sp × Bool)} (h : POwn w base v l) (hb : Below w.heap.size w w') : POwn w' base v l := by
  refine ⟨h.1, ?_⟩
  rcases h.2 with hn | ⟨g, cap, cur, hv, h1, h2, h3⟩
  · exact .inl hn
  · have hg : g < w.heap.size := (h.lt g (by rw [hv]; rfl)).2
    exact .inr ⟨g, cap, cur, hv, h1, (hb.block g hg).trans h2, h3⟩
theorem pzc_len (l : List (Sp × Bool)) : (l.flatMap pzc).length = l.length * 3 := by
  induction l with
  | nil => rfl
  | cons s r ih => simp [pzc, ih]; omega
theorem pzc_get (l : List (Sp × Bool)) (i : Nat) (p : Sp × Bool) (h : l[i]? = some p) : (l.flatMap pzc)[i * 3]? = some (.int .i64 p.1.1) ∧ (l.flatMap pzc)[i * 3 + 1]? = some (.int .i64 p.1.2) ∧ (l.flatMap pzc)[i * 3 + 2]? = some (.bool p.2) := by
  induction l generalizing i with
  | nil => simp at h
  | cons s r ih =>
    cases i with
    | zero => simp at h; subst h; simp [pzc]
    | succ i =>
      simp at h
      have := ih i h
      rw [List.flatMap_cons, List.getElem?_append_right (by simp [pzc]; omega), List.getElem?_append_right (by simp [pzc]; omega), List.getElem?_append_right (by simp [pzc]; omega)]
      simp only [pzc, List.length_cons, List.length_nil]
      rw [show (i + 1) * 3 - (0 + 1 + 1 + 1) = i * 3 from by omega, show (i + 1) * 3 + 1 - (0 + 1 + 1 + 1) = i * 3 + 1 from by omega, show (i + 1) * 3 + 2 - (0 + 1 + 1 + 1) = i * 3 + 2 from by omega]
      exact this
theorem POwn.cells {W : World} {base n c k : Nat} {a : Option Addr} {L : List (Sp × Bool)} {p : Sp × Bool} (h : POwn W base (.slice a n c) L) (hk : L[k]? = some p) : ∃ g, a = some ⟨g, 0, none⟩ ∧ W.cell? ⟨g, k * 3, none⟩ = some (.int .i64 p.1.1) ∧ W.cell? ⟨g, k * 3 + 1, none⟩ = some (.int .i64 p.1.2) ∧ W.cell? ⟨g, k * 3 + 2, none⟩ = some (.bool p.2) := by
  have hkl : k < L.length := (List.getElem?_eq_some_iff.mp hk).1
  obtain ⟨g, cap, hv⟩ := own_some h (by omega)
  simp only [Value.slice.injEq] at hv
  obtain ⟨rfl, rfl, rfl⟩ := hv
  obtain ⟨q1, q2, q3⟩ := pzc_get L k p hk
  exact ⟨g, rfl, (World.ownsRow.cellAt h _ (by omega)).trans q1, (World.ownsRow.cellAt h _ (by omega)).trans q2, (World.ownsRow.cellAt h _ (by omega)).trans q3⟩
theorem cell_three_at (w : World) (x y z : Value) (t : TypeId) (n : Nat) (hn : n = w.heap.size) : ∀ j u, [x, y, z][j]? = some u → (w.alloc (.cells #[x, y, z] t)).cell? ((⟨n, 0, none⟩ : Addr).add j) = some u := by
  subst hn
  intro j u hj
  match j, hj with
  | 0, hj => simp at hj; subst hj; simp [Addr.add]
  | 1, hj => simp at hj; subst hj; simp [Addr.add]
  | 2, hj => simp at hj; subst hj; simp [Addr.add]
theorem POwn.snoc {w : World} {base : Nat} {v : Value} {l : List (Sp × Bool)} {x : Sp × Bool} (h : w.ownsRow base 131 3 v (l.length + 1) (l.flatMap pzc ++ [.int .i64 x.1.1, .int .i64 x.1.2, .bool x.2])) : POwn w base v (l ++ [x]) := by
  unfold POwn; rw [List.flatMap_append, List.length_append]; exact h

def PcPost (w : World) (ps : List (Sp × Bool)) (e : Ending) (w' : World) : Prop := ∃ v, e = .returned v ∧ POwn w' w.heap.size v ps ∧ Below w.heap.size w w'

set_option maxHeartbeats 16000000 in
set_option maxRecDepth 100000 in
theorem refpieces_in (a : Option Addr) (c : Nat) (l : List Sp) (w : World) (f t : Int) (h : Ls w (.slice a l.length c) l) (sl : IsSet l) (has' : Asked (f, t)) :
    Calls Tryd.prog 83 #[.slice a l.length c, .agg #[.int .i64 f, .int .i64 t]] w (PcPost w (pc t f l)) := by
  obtain ⟨i0, hi, hz0, hz1, hz2⟩ := info_parts Tryd.info_piece
  have HSp : Hid (Spa w a l) := by obtain ⟨a', c', hv, hs, _⟩ := h.shape; simp only [Value.slice.injEq] at hv; obtain ⟨rfl, _, _⟩ := hv; exact hs
  have HRt : Hid (∀ x ∈ l, x.1 < x.2) := fun x hx => (sl.2.mem x hx).2.1
  have hl2 := sl.1
  have hpc : (pc t f l).length ≤ 2 * l.length + 1 := len_pc
  have hb0 := below_box w f t
  have d0 := box0 w (.int .i64 f) (.int .i64 t) 36
  have d1 := box1 w (.int .i64 f) (.int .i64 t) 36
  have hR := refright_ls (h.below hb0)
  rw [setB_iff.mpr sl] at hR
  have HAs : Hid (askB (f, t) = true) := askB_iff.mpr has'
  clear h sl has'
  go_enter Tryd.func83, Tryd.ntmps83
  go_wp2_with fail
  obtain ⟨w0, hw0⟩ : ∃ w0, w.alloc (.cells #[.int .i64 f, .int .i64 t] 36) = w0 := ⟨_, rfl⟩
  rw [hw0] at hb0 d0 d1 hR ⊢
  clear hw0
  have HF : Hid (∀ W, Below w0.heap.size w0 W → Below w.heap.size w W) := fun W hW => hb0.trans (hW.mono hb0.size)
  have HD : Hid (∀ W, Below w0.heap.size w0 W → W.cell? ⟨w.heap.size, 0, none⟩ = some (.int .i64 f) ∧ W.cell? ⟨w.heap.size, 1, none⟩ = some (.int .i64 t)) := fun W hW => ⟨cell_below d0 hW, cell_below d1 hW⟩
  have hwz : w.heap.size < w0.heap.size := World.block_lt_of_cell? w0 ⟨w.heap.size, 0, none⟩ d0
  clear hb0 d0 d1
  refine hR.mono ?_
  rintro e w1 ⟨rfl, hb1⟩
  have HB1 : Hid (Below w0.heap.size w0 w1) := hb1
  obtain ⟨k0, k1⟩ := HD.out w1 hb1
  have hA := refasked_any f t w1
  rw [HAs.out] at hA
  clear hR hb1
  go_wp2_with fail
  refine hA.mono ?_
  rintro e w2 ⟨rfl, hb2⟩
  have HB2 : Hid (Below w0.heap.size w0 w2) := HB1.out.trans (hb2.mono HB1.out.size)
  clear hA hb2 HB1 k0 k1
  obtain ⟨k0, k1⟩ := HD.out w2 HB2.out
  go_wp2_with fail
  go_loopw [7, 8, 9] (fun v x y wr => ∃ (i : Nat) (q : Int) (ps : List (Sp × Bool)) (ao : Option Addr) (co : Nat), i ≤ l.length ∧ y = .int .i64 i ∧ x = .int .i64 q ∧ v = .slice ao ps.length co ∧ POwn wr w0.heap.size v ps ∧ ps ++ pc t q (l.drop i) = pc t f l ∧ Below w0.heap.size w0 wr) (fun _ _ y _ => l.length - (intOf y).toNat)
  case atStart => exact ⟨0, f, [], none, 0, by omega, rfl, rfl, rfl, World.ownsRow_nil _ _ _ _, rfl, HB2.out⟩
  case round =>
    obtain ⟨i, q, ps, ao, co, hil, rfl, rfl, rfl, hso, hpc2, hbe⟩ := hrel
    have HSo : Hid (POwn wr w0.heap.size (.slice ao ps.length co) ps) := hso
    have HP : Hid (ps ++ pc t q (l.drop i) = pc t f l) := hpc2
    have HBe : Hid (Below w0.heap.size w0 wr) := hbe
    have hpl : ps.length ≤ 2 * l.length + 1 := by have := congrArg List.length hpc2; simp at this; omega
    have hwr := hbe.size
    clear hso hpc2 hbe HB2 k0 k1
    obtain ⟨k0, k1⟩ := HD.out wr HBe.out
    by_cases hqt : q < t
    · by_cases hi1 : i < l.length
      · have hi1' : (i : Int) < (l.length : Int) := by omega
        obtain ⟨x, hx⟩ := get_some l i hi1
        obtain ⟨g, off, rfl, x1, x2⟩ := (HSp.out.below (HF.out wr HBe.out)).at hx
        have hxx := HRt.out x (List.mem_of_getElem? hx)
        rw [drop_get l i x hx] at HP
        obtain ⟨p1, p2⟩ := x
        simp only at x1 x2 hxx
        have HX0 : Hid (l[i]? = some (p1, p2)) := hx
        clear hx
        by_cases hs1 : p2 ≤ q
        · have HP2 : Hid (ps ++ pc t q (l.drop (i + 1)) = pc t f l) := by have := HP.out; rw [pc_skip (by simp only; omega)] at this; exact this
          clear HP
          go_wp2_with fail
          go_quiet (fail)
          go_wp2
          go_roundw
          case rel => exact ⟨i + 1, q, ps, ao, co, by omega, by go_num, rfl, rfl, HSo.out, HP2.out, below_drewN HBe.out _⟩
          case measure => simp [intOf]; omega
        · by_cases hs2 : t ≤ p1
          · have HP2 : Hid (ps ++ pc t q (l.drop (i + 1)) = pc t f l) := by have := HP.out; rw [pc_skip (by simp only; omega)] at this; exact this
            have hdc : decide (p2 ≤ q) = false := decide_eq_false hs1
            clear HP
            go_wp2_with fail
            go_quiet (fail)
            go_wp2
            go_roundw
            case rel => exact ⟨i + 1, q, ps, ao, co, by omega, by go_num, rfl, rfl, HSo.out, HP2.out, below_drewN HBe.out _⟩
            case measure => simp [intOf]; omega
          · have hdc : decide (p2 ≤ q) = false := decide_eq_false hs1
            have hdd : decide (t ≤ p1) = false := decide_eq_false hs2
            have HX : Hid (l[i]? = some (p1, p2)) := HX0.out
            obtain ⟨mn, hmn⟩ : ∃ mn, min p2 t = mn := ⟨_, rfl⟩
            have hmq : q < mn ∧ p1 < mn := by omega
            rcases Int.lt_or_le q p1 with hg | hg
            · rcases Int.lt_or_le t p2 with hmt | hmt
              · have HP2 : Hid (ps ++ (((q, p1), false) :: ((p1, t), true) :: pc t t (l.drop (i + 1))) = pc t f l) := by
                  have := HP.out; rw [pc_gap (by simp only; omega) (by simp only; omega)] at this; simp only at this; rw [show min p2 t = t from by omega] at this; exact this
                have HP3 : Hid (ps ++ [((q, p1), false)] ++ [((p1, t), true)] ++ pc t t (l.drop (i + 1)) = pc t f l) := by have := HP2.out; unfold Hid; simpa using this
                clear HP HP2
                have HSx : Hid (∀ n, (wr.drewN n).ownsRow w0.heap.size 131 3 (.slice ao ps.length co) ps.length (ps.flatMap pzc)) := fun n => HSo.out
                have HBx : Hid (∀ n, Below w0.heap.size w0 (wr.drewN n)) := fun n => below_drewN HBe.out n
                clear HSo HBe
                go_wp2_with fail
                go_quiet (fail)
                go_wp2_with (at_builtin; refine wpList_append_own_at _ rfl _ _ 128 rfl w0.heap.size 131 i0 (.agg #[.int .i64 0, .int .i64 0, .bool false]) 3 24 Tryd.underlying128 hi hz0 hz1 hz2 rfl (by decide) _ _ _ rfl ((HSx.out _).alloc _) ⟨wr.heap.size, 0, none⟩ 1 1 [.int .i64 q, .int .i64 p1, .bool false] rfl rfl ?c1 ?c2 ?c3 ?c4 ?c5 ?_)
                case c1 => exact cell_three_at _ _ _ _ _ _ (by first | rfl | simp)
                case c2 => intro x hx; simp at hx; rcases hx with rfl | rfl | rfl <;> rfl
                case c3 => unfold maxLen; omega
                case c4 => omega
                case c5 => first | omega | (simp; omega)
                intro v' w5 hown5 hgrow5 _ _
                have HS5 : Hid (POwn w5 w0.heap.size v' (ps ++ [((q, p1), false)])) := POwn.snoc (x := ((q, p1), false)) hown5
                have HB5 : Hid (Below w0.heap.size w0 w5) := (((HBx.out _).alloc (by simp; omega) _).grown hgrow5 (by simp; omega) (fun j hj => ((HSx.out 0).lt j hj).1))
                obtain ⟨a5, c5, hv5⟩ := HS5.out.shape
                have HL5 : Hid ((ps ++ [((q, p1), false)]).length = ps.length + 1) := by unfold Hid; simp
                rw [HL5.out] at hv5
                subst hv5
                clear hown5 hgrow5 HSx HBx x1 x2 k0 k1
                obtain ⟨k0, k1⟩ := HD.out w5 HB5.out
                obtain ⟨gz, oz, hez, x1, x2⟩ := (HSp.out.below (HF.out w5 HB5.out)).at HX.out
                simp only [Option.some.injEq, Addr.mk.injEq, and_true] at hez
                obtain ⟨rfl, rfl⟩ := hez
                simp only at x1 x2
                obtain ⟨X, hX⟩ : ∃ X, (ps ++ [((q, p1), false)]).flatMap pzc = X := ⟨_, rfl⟩
                have HXX : Hid ((ps ++ [((q, p1), false)]).flatMap pzc = X) := hX
                have HSy : Hid (∀ n, (w5.drewN n).ownsRow w0.heap.size 131 3 (.slice a5 (ps.length + 1) c5) (ps.length + 1) X) := fun n => by have := HS5.out; unfold POwn at this; rw [HL5.out, hX] at this; exact this
                clear hX
                have HBy : Hid (∀ n, Below w0.heap.size w0 (w5.drewN n)) := fun n => below_drewN HB5.out n
                have sw5 := HB5.out.size
                clear HS5 HB5
                go_wp2_with fail
                go_quiet (fail)
                go_wp2_with (at_builtin; refine wpList_append_own_at _ rfl _ _ 128 rfl w0.heap.size 131 i0 (.agg #[.int .i64 0, .int .i64 0, .bool false]) 3 24 Tryd.underlying128 hi hz0 hz1 hz2 rfl (by decide) _ _ _ rfl ((HSy.out _).alloc _) ⟨w5.heap.size, 0, none⟩ 1 1 [.int .i64 p1, .int .i64 t, .bool true] rfl rfl ?c1 ?c2 ?c3 ?c4 ?c5 ?_)
                case c1 => exact cell_three_at _ _ _ _ _ _ (by first | rfl | simp)
                case c2 => intro x hx; simp at hx; rcases hx with rfl | rfl | rfl <;> rfl
                case c3 => unfold maxLen; omega
                case c4 => omega
                case c5 => first | omega | (simp; omega)
                intro v' w6 hown6 hgrow6 _ _
                have HS6 : Hid (POwn w6 w0.heap.size v' (ps ++ [((q, p1), false)] ++ [((p1, t), true)])) := POwn.snoc (x := ((p1, t), true)) (by rw [HXX.out, HL5.out]; exact hown6)
                have HB6 : Hid (Below w0.heap.size w0 w6) := (((HBy.out _).alloc (by simp; omega) _).grown hgrow6 (by simp; omega) (fun j hj => ((HSy.out 0).lt j hj).1))
                obtain ⟨a6, c6, hv6⟩ := HS6.out.shape
                subst hv6
                clear hown6 hgrow6 HSy HBy x1 x2 k0 k1
                go_wp2
                go_roundw
                case rel => exact ⟨i + 1, t, _, a6, c6, by omega, by go_num, rfl, rfl, HS6.out, HP3.out, HB6.out⟩
                case measure => simp [intOf]; omega
              · have HP2 : Hid (ps ++ (((q, p1), false) :: ((p1, p2), true) :: pc t p2 (l.drop (i + 1))) = pc t f l) := by
                  have := HP.out; rw [pc_gap (by simp only; omega) (by simp only; omega)] at this; simp only at this; rw [show min p2 t = p2 from by omega] at this; exact this
                have HP3 : Hid (ps ++ [((q, p1), false)] ++ [((p1, p2), true)] ++ pc t p2 (l.drop (i + 1)) = pc t f l) := by have := HP2.out; unfold Hid; simpa using this
                clear HP HP2
                have HSx : Hid (∀ n, (wr.drewN n).ownsRow w0.heap.size 131 3 (.slice ao ps.length co) ps.length (ps.flatMap pzc)) := fun n => HSo.out
                have HBx : Hid (∀ n, Below w0.heap.size w0 (wr.drewN n)) := fun n => below_drewN HBe.out n
                clear HSo HBe
                go_wp2_with fail
                go_quiet (fail)
                go_wp2_with (at_builtin; refine wpList_append_own_at _ rfl _ _ 128 rfl w0.heap.size 131 i0 (.agg #[.int .i64 0, .int .i64 0, .bool false]) 3 24 Tryd.underlying128 hi hz0 hz1 hz2 rfl (by decide) _ _ _ rfl ((HSx.out _).alloc _) ⟨wr.heap.size, 0, none⟩ 1 1 [.int .i64 q, .int .i64 p1, .bool false] rfl rfl ?c1 ?c2 ?c3 ?c4 ?c5 ?_)
                case c1 => exact cell_three_at _ _ _ _ _ _ (by first | rfl | simp)
                case c2 => intro x hx; simp at hx; rcases hx with rfl | rfl | rfl <;> rfl
                case c3 => unfold maxLen; omega
                case c4 => omega
                case c5 => first | omega | (simp; omega)
                intro v' w5 hown5 hgrow5 _ _
                have HS5 : Hid (POwn w5 w0.heap.size v' (ps ++ [((q, p1), false)])) := POwn.snoc (x := ((q, p1), false)) hown5
                have HB5 : Hid (Below w0.heap.size w0 w5) := (((HBx.out _).alloc (by simp; omega) _).grown hgrow5 (by simp; omega) (fun j hj => ((HSx.out 0).lt j hj).1))
                obtain ⟨a5, c5, hv5⟩ := HS5.out.shape
                have HL5 : Hid ((ps ++ [((q, p1), false)]).length = ps.length + 1) := by unfold Hid; simp
                rw [HL5.out] at hv5
                subst hv5
                clear hown5 hgrow5 HSx HBx x1 x2 k0 k1
                obtain ⟨k0, k1⟩ := HD.out w5 HB5.out
                obtain ⟨gz, oz, hez, x1, x2⟩ := (HSp.out.below (HF.out w5 HB5.out)).at HX.out
                simp only [Option.some.injEq, Addr.mk.injEq, and_true] at hez
                obtain ⟨rfl, rfl⟩ := hez
                simp only at x1 x2
                obtain ⟨X, hX⟩ : ∃ X, (ps ++ [((q, p1), false)]).flatMap pzc = X := ⟨_, rfl⟩
                have HXX : Hid ((ps ++ [((q, p1), false)]).flatMap pzc = X) := hX
                have HSy : Hid (∀ n, (w5.drewN n).ownsRow w0.heap.size 131 3 (.slice a5 (ps.length + 1) c5) (ps.length + 1) X) := fun n => by have := HS5.out; unfold POwn at this; rw [HL5.out, hX] at this; exact this
                clear hX
                have HBy : Hid (∀ n, Below w0.heap.size w0 (w5.drewN n)) := fun n => below_drewN HB5.out n
                have sw5 := HB5.out.size
                clear HS5 HB5
                go_wp2_with fail
                go_quiet (fail)
                go_wp2_with (at_builtin; refine wpList_append_own_at _ rfl _ _ 128 rfl w0.heap.size 131 i0 (.agg #[.int .i64 0, .int .i64 0, .bool false]) 3 24 Tryd.underlying128 hi hz0 hz1 hz2 rfl (by decide) _ _ _ rfl ((HSy.out _).alloc _) ⟨w5.heap.size, 0, none⟩ 1 1 [.int .i64 p1, .int .i64 p2, .bool true] rfl rfl ?c1 ?c2 ?c3 ?c4 ?c5 ?_)
                case c1 => exact cell_three_at _ _ _ _ _ _ (by first | rfl | simp)
                case c2 => intro x hx; simp at hx; rcases hx with rfl | rfl | rfl <;> rfl
                case c3 => unfold maxLen; omega
                case c4 => omega
                case c5 => first | omega | (simp; omega)
                intro v' w6 hown6 hgrow6 _ _
                have HS6 : Hid (POwn w6 w0.heap.size v' (ps ++ [((q, p1), false)] ++ [((p1, p2), true)])) := POwn.snoc (x := ((p1, p2), true)) (by rw [HXX.out, HL5.out]; exact hown6)
                have HB6 : Hid (Below w0.heap.size w0 w6) := (((HBy.out _).alloc (by simp; omega) _).grown hgrow6 (by simp; omega) (fun j hj => ((HSy.out 0).lt j hj).1))
                obtain ⟨a6, c6, hv6⟩ := HS6.out.shape
                subst hv6
                clear hown6 hgrow6 HSy HBy x1 x2 k0 k1
                go_wp2
                go_roundw
                case rel => exact ⟨i + 1, p2, _, a6, c6, by omega, by go_num, rfl, rfl, HS6.out, HP3.out, HB6.out⟩
                case measure => simp [intOf]; omega
            · rcases Int.lt_or_le t p2 with hmt | hmt
              · have HP2 : Hid (ps ++ (((q, t), true) :: pc t t (l.drop (i + 1))) = pc t f l) := by
                  have := HP.out; rw [pc_on (by simp only; omega) (by simp only; omega)] at this; simp only at this; rw [show min p2 t = t from by omega] at this; exact this
                have HP3 : Hid (ps ++ [((q, t), true)] ++ pc t t (l.drop (i + 1)) = pc t f l) := by have := HP2.out; unfold Hid; simpa using this
                clear HP HP2
                have HSy : Hid (∀ n, (wr.drewN n).ownsRow w0.heap.size 131 3 (.slice ao ps.length co) ps.length (ps.flatMap pzc)) := fun n => HSo.out
                have HBy : Hid (∀ n, Below w0.heap.size w0 (wr.drewN n)) := fun n => below_drewN HBe.out n
                clear HSo HBe
                go_wp2_with fail
                go_quiet (fail)
                go_wp2_with fail
                go_quiet (fail)
                go_wp2_with (at_builtin; refine wpList_append_own_at _ rfl _ _ 128 rfl w0.heap.size 131 i0 (.agg #[.int .i64 0, .int .i64 0, .bool false]) 3 24 Tryd.underlying128 hi hz0 hz1 hz2 rfl (by decide) _ _ _ rfl ((HSy.out _).alloc _) ⟨wr.heap.size, 0, none⟩ 1 1 [.int .i64 q, .int .i64 t, .bool true] rfl rfl ?c1 ?c2 ?c3 ?c4 ?c5 ?_)
                case c1 => exact cell_three_at _ _ _ _ _ _ (by first | rfl | simp)
                case c2 => intro x hx; simp at hx; rcases hx with rfl | rfl | rfl <;> rfl
                case c3 => unfold maxLen; omega
                case c4 => omega
                case c5 => first | omega | (simp; omega)
                intro v' w6 hown6 hgrow6 _ _
                have HS6 : Hid (POwn w6 w0.heap.size v' (ps ++ [((q, t), true)])) := POwn.snoc (x := ((q, t), true)) hown6
                have HB6 : Hid (Below w0.heap.size w0 w6) := (((HBy.out _).alloc (by simp; omega) _).grown hgrow6 (by simp; omega) (fun j hj => ((HSy.out 0).lt j hj).1))
                obtain ⟨a6, c6, hv6⟩ := HS6.out.shape
                subst hv6
                clear hown6 hgrow6 HSy HBy x1 x2 k0 k1
                go_wp2
                go_roundw
                case rel => exact ⟨i + 1, t, _, a6, c6, by omega, by go_num, rfl, rfl, HS6.out, HP3.out, HB6.out⟩
                case measure => simp [intOf]; omega
              · have HP2 : Hid (ps ++ (((q, p2), true) :: pc t p2 (l.drop (i + 1))) = pc t f l) := by
                  have := HP.out; rw [pc_on (by simp only; omega) (by simp only; omega)] at this; simp only at this; rw [show min p2 t = p2 from by omega] at this; exact this
                have HP3 : Hid (ps ++ [((q, p2), true)] ++ pc t p2 (l.drop (i + 1)) = pc t f l) := by have := HP2.out; unfold Hid; simpa using this
                clear HP HP2
                have HSy : Hid (∀ n, (wr.drewN n).ownsRow w0.heap.size 131 3 (.slice ao ps.length co) ps.length (ps.flatMap pzc)) := fun n => HSo.out
                have HBy : Hid (∀ n, Below w0.heap.size w0 (wr.drewN n)) := fun n => below_drewN HBe.out n
                clear HSo HBe
                go_wp2_with fail
                go_quiet (fail)
                go_wp2_with fail
                go_quiet (fail)
                go_wp2_with (at_builtin; refine wpList_append_own_at _ rfl _ _ 128 rfl w0.heap.size 131 i0 (.agg #[.int .i64 0, .int .i64 0, .bool false]) 3 24 Tryd.underlying128 hi hz0 hz1 hz2 rfl (by decide) _ _ _ rfl ((HSy.out _).alloc _) ⟨wr.heap.size, 0, none⟩ 1 1 [.int .i64 q, .int .i64 p2, .bool true] rfl rfl ?c1 ?c2 ?c3 ?c4 ?c5 ?_)
                case c1 => exact cell_three_at _ _ _ _ _ _ (by first | rfl | simp)
                case c2 => intro x hx; simp at hx; rcases hx with rfl | rfl | rfl <;> rfl
                case c3 => unfold maxLen; omega
                case c4 => omega
                case c5 => first | omega | (simp; omega)
                intro v' w6 hown6 hgrow6 _ _
                have HS6 : Hid (POwn w6 w0.heap.size v' (ps ++ [((q, p2), true)])) := POwn.snoc (x := ((q, p2), true)) hown6
                have HB6 : Hid (Below w0.heap.size w0 w6) := (((HBy.out _).alloc (by simp; omega) _).grown hgrow6 (by simp; omega) (fun j hj => ((HSy.out 0).lt j hj).1))
                obtain ⟨a6, c6, hv6⟩ := HS6.out.shape
                subst hv6
                clear hown6 hgrow6 HSy HBy x1 x2 k0 k1
                go_wp2
                go_roundw
                case rel => exact ⟨i + 1, p2, _, a6, c6, by omega, by go_num, rfl, rfl, HS6.out, HP3.out, HB6.out⟩
                case measure => simp [intOf]; omega
      · have hin : i = l.length := by omega
        subst hin
        have HP2 : Hid (ps ++ [((q, t), false)] = pc t f l) := by have := HP.out; rw [List.drop_length, pc, if_pos hqt] at this; exact this
        clear HP
        have HSz : Hid (wr.ownsRow w0.heap.size 131 3 (.slice ao ps.length co) ps.length (ps.flatMap pzc)) := HSo.out
        go_wp2_with (at_builtin; refine wpList_append_own_at _ rfl _ _ 128 rfl w0.heap.size 131 i0 (.agg #[.int .i64 0, .int .i64 0, .bool false]) 3 24 Tryd.underlying128 hi hz0 hz1 hz2 rfl (by decide) _ _ _ rfl (HSz.out.alloc _) ⟨wr.heap.size, 0, none⟩ 1 1 [.int .i64 q, .int .i64 t, .bool false] rfl rfl ?c1 ?c2 ?c3 ?c4 ?c5 ?_)
        case c1 => exact cell_three_at _ _ _ _ _ _ (by first | rfl | simp)
        case c2 => intro x hx; simp at hx; rcases hx with rfl | rfl | rfl <;> rfl
        case c3 => unfold maxLen; omega
        case c4 => omega
        case c5 => first | omega | (simp; omega)
        intro v' w6 hown6 hgrow6 _ _
        have HS6 : Hid (POwn w6 w0.heap.size v' (pc t f l)) := by rw [← HP2.out]; exact POwn.snoc (x := ((q, t), false)) hown6
        have HB6 : Hid (Below w0.heap.size w0 w6) := ((HBe.out.alloc (by omega) _).grown hgrow6 (by simp; omega) (fun j hj => (HSo.out.lt j hj).1))
        clear hown6 hgrow6 k0 k1
        go_wp2
        go_ret
        exact ⟨_, rfl, ⟨HS6.out.1, by
          rcases HS6.out.2 with q | ⟨g, cap, cur, hv, h1, h2⟩
          · exact .inl q
          · exact .inr ⟨g, cap, cur, hv, by omega, h2⟩⟩, HF.out _ HB6.out⟩
    · have HP2 : Hid (ps = pc t f l) := by have := HP.out; rw [pc_over (by omega), List.append_nil] at this; exact this
      clear HP
      have HS6 : Hid (POwn wr w.heap.size (.slice ao ps.length co) (pc t f l)) := by
        rw [← HP2.out]
        exact ⟨HSo.out.1, by
          rcases HSo.out.2 with q | ⟨g, cap, cur, hv, h1, h2⟩
          · exact .inl q
          · exact .inr ⟨g, cap, cur, hv, by omega, h2⟩⟩
      clear HP2 HSo
      by_cases hi1 : i < l.length
      · have hi1' : (i : Int) < (l.length : Int) := by omega
        go_wp2
        go_ret
        exact ⟨_, rfl, HS6.out, HF.out _ HBe.out⟩
      · have hi1' : ¬ (i : Int) < (l.length : Int) := by omega
        go_wp2
        go_ret
        exact ⟨_, rfl, HS6.out, HF.out _ HBe.out⟩

end Go.Proofs.YthbkabehjeidjaeDoor.C
