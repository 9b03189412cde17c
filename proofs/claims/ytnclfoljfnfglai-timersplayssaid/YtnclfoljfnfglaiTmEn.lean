import Derived.Test.YtnclfoljfnfglaiTmKm
import Derived.Test.YtnclfoljfnfglaiTmStD
namespace Go.Proofs.Ytnclfoljfnfglai
open Go.RowKit Go.Maps
set_option linter.unusedVariables false
attribute [local go_sem ↓] wp_store_key
attribute [local go_sem] pBlk_ptr pOff_ptr pAgg_agg

theorem all_marks {l : List Kx} {n : Nat} {y : Kx} (hl : l.length = n) (h : ∀ q, q < n → l[q]? = some y) : l = List.replicate n y := by
  apply List.ext_getElem?
  intro q
  rw [List.getElem?_replicate]
  by_cases e : q < n
  · rw [if_pos e]; exact h q e
  · rw [if_neg e]; exact List.getElem?_eq_none (by omega)

theorem two_new10 (w : World) (a b : Value) (t : TypeId) : ∀ j u, [a, b][j]? = some u → (w.alloc (.cells #[a, b] t)).cell? ((⟨w.heap.size, 0, none⟩ : Addr).add j) = some u := by
  intro j u hj
  match j, hj with
  | 0, hj => simp at hj; subst hj; simp [Addr.add]
  | 1, hj => simp at hj; subst hj; simp [Addr.add]

set_option maxHeartbeats 32000000 in
set_option maxRecDepth 100000 in
theorem ends_any (base pw b : Nat) (w : World) (h : Ws base w pw b) (hb : b + 8 < 2199023255552) :
    Calls Try.prog 23 #[.pointer (some ⟨pw, 0, none⟩)] w fun e w' => e = .returned (.bool true) ∧ Below base w w' := by
  obtain ⟨own, T, vo, vw, os, ws, ls, hW, hR, hl, hls, h0, hbs⟩ := h
  obtain ⟨ao, co, rfl⟩ := hW.ro.shape
  obtain ⟨aw, cw, rfl⟩ := hW.rw.shape
  obtain ⟨m, hm⟩ : ∃ m, os.length = m := ⟨_, rfl⟩
  have hmw : ws.length = m := by rw [hW.lw, ← hW.lo]; exact hm
  have hbx := hW.box
  rw [hm, hmw] at hW hbx
  have E4 : Hid (w.cell? ⟨pw, 4, none⟩ = some (.slice ao m co)) := by show _ = _; simp [World.cell?, hbx]
  have E5 : Hid (w.cell? ⟨pw, 5, none⟩ = some (.slice aw m cw)) := by show _ = _; simp [World.cell?, hbx]
  have HW : Hid (Wo own w pw T (.slice ao m co) (.slice aw m cw) os ws ls ls) := hW
  have HM : Hid (os.length = m ∧ ws.length = m ∧ ls.length = m) := ⟨hm, hmw, by rw [← hW.lo]; exact hm⟩
  have hmb : m ≤ b := by have := HM.out.2.2; omega
  have HLs : Hid (∀ l ∈ ls, l.length ≤ b ∧ ∀ y ∈ l, kW y) := hls
  have H0 : Hid ((∀ g, g < base → own g = 0) ∧ base ≤ w.heap.size) := ⟨h0, hbs⟩
  have hmf : Try.prog.follows .mixedOrders = true := by kernel_rfl
  obtain ⟨len, hlen⟩ : ∃ f : Nat → Nat, (fun j => ((ls[j]?).getD []).length) = f := ⟨_, rfl⟩
  have HLen : Hid (∀ j, ((ls[j]?).getD []).length = len j) := fun j => by rw [← hlen]
  have hlb : ∀ j, len j ≤ b := fun j => by
    rw [← hlen]
    show ((ls[j]?).getD []).length ≤ b
    cases e : ls[j]? with
    | none => simp
    | some l => exact (hls l (List.mem_of_getElem? e)).1
  have HLb : Hid (∀ j, len j ≤ b) := hlb
  clear hW hR hl hls h0 hbs hm hmw hbx hlen hlb
  go_enter Try.func23, Try.ntmps23
  go_wp2
  go_loopw [3] (fun v wr => ∃ i : Nat, v = .int .i64 i ∧ i ≤ m ∧ Below w.heap.size w wr) (fun v _ => m - (intOf v).toNat)
  case atStart => exact ⟨0, rfl, by omega, Below.refl _ _⟩
  case round =>
    obtain ⟨i, rfl, hi, hbr⟩ := hrel
    have HBr : Hid (Below w.heap.size w wr) := hbr
    have hW1 := HW.out.same hbr
    have HW1 : Hid (Wo own wr pw T (.slice ao m co) (.slice aw m cw) os ws ls ls) := hW1
    have e4 := tm_cell E4.out hbr
    have e5 := tm_cell E5.out hbr
    clear hbr hW1
    by_cases him : i = m
    · subst him
      have hz : ¬ (i : Int) < (i : Int) := by omega
      obtain ⟨X, hX⟩ : ∃ X, wr = X := ⟨_, rfl⟩
      have HLw : Hid (Lw own X pw (.slice ao i co) os (fun j => (ls[j]?).getD [])) := by rw [← hX]; exact HW1.out.toLw
      have HBX : Hid (Below base w X ∧ base ≤ X.heap.size) := by rw [← hX]; exact ⟨below_dn HBr.out H0.out.2, Nat.le_trans H0.out.2 HBr.out.size⟩
      have e4' : X.cell? ⟨pw, 4, none⟩ = some (.slice ao i co) := by rw [← hX]; exact e4
      rw [hX]
      clear e4 e5 hX HBr HW1
      go_wp2
      clear e4'
      go_loopw [5] (fun v5 wr => ∃ (j : Nat) (Cs : Nat → List Kx), v5 = .int .i64 j ∧ j ≤ i ∧ Lw own wr pw (.slice ao i co) os Cs ∧ (∀ q, (Cs q).length = len q) ∧ (∀ q, q < j → Cs q = List.replicate (len q) (mkK q)) ∧ Below base w wr ∧ base ≤ wr.heap.size) (fun v _ => i - (intOf v).toNat)
      case atStart => exact ⟨0, _, rfl, by omega, HLw.out, HLen.out, fun q hq => by omega, HBX.out.1, HBX.out.2⟩
      case round =>
        clear HLw HBX
        obtain ⟨j, Cs, rfl, hj, hLw, hCl, hCm, hB, hBs⟩ := hrel
        have HLw : Hid (Lw own wr pw (.slice ao i co) os Cs) := hLw
        have HCl : Hid (∀ q, (Cs q).length = len q) := hCl
        have HCm : Hid (∀ q, q < j → Cs q = List.replicate (len q) (mkK q)) := hCm
        have HBw : Hid (Below base w wr ∧ base ≤ wr.heap.size) := ⟨hB, hBs⟩
        have e4 := hLw.bx
        clear hLw hCl hCm hB hBs
        by_cases hji : j = i
        · subst hji
          have hz : ¬ (j : Int) < (j : Int) := by omega
          have HLg : Hid (Lg own wr pw (.slice ao j co) os len 0 (.slice none 0 0) []) := by
            have hh := HLw.out
            refine ⟨hh.bx, hh.lt, hh.opw, hh.ro, hh.too, fun q v _ hq => ?_, fun q v g _ => hh.tko q v g, World.ownsRow_nil _ _ _ _, fun g hg => by simp [Value.ownBlock] at hg, fun p u hu => by simp at hu⟩
            have := hh.kr q v hq
            rw [HCm.out q (by have := (List.getElem?_eq_some_iff.mp hq).1; have := HM.out.1; omega)] at this
            exact this
          have HBz : Hid (Below base w wr ∧ base ≤ wr.heap.size) := HBw.out
          clear HLw HCl HCm HBw
          go_wp2
          clear e4
          go_loopw [7, 8] (fun v7 v8 wr => ∃ (i4 : Nat) (VL : List Value) (own4 : Nat → Nat), v8 = .int .i64 i4 ∧ i4 ≤ j ∧ VL.length = 2 * i4 ∧ Lg own4 wr pw (.slice ao j co) os len i4 v7 VL ∧ Below base w wr ∧ base ≤ wr.heap.size ∧ (∀ g, g < base → own4 g = 0)) (fun _ v _ => j - (intOf v).toNat)
          case atStart => exact ⟨0, [], own, rfl, by omega, rfl, HLg.out, HBz.out.1, HBz.out.2, H0.out.1⟩
          case round =>
            clear HLg HBz
            obtain ⟨i4, VL, own4, rfl, hi4, hVl, hLg, hB, hBs, hz4⟩ := hrel
            have HVl : Hid (VL.length = 2 * i4) := hVl
            obtain ⟨aL, cL, hu7⟩ := hLg.vl.shape
            obtain ⟨mL, hmL⟩ : ∃ n, VL.length = n := ⟨_, rfl⟩
            have HmL : Hid (VL.length = mL ∧ mL = 2 * i4) := ⟨hmL, by omega⟩
            have hmLb : mL ≤ 4398046511104 := by omega
            rw [hmL] at hu7
            subst hu7
            have HLg : Hid (Lg own4 wr pw (.slice ao j co) os len i4 (.slice aL mL cL) VL) := hLg
            have HB4 : Hid (Below base w wr ∧ base ≤ wr.heap.size ∧ (∀ g, g < base → own4 g = 0)) := ⟨hB, hBs, hz4⟩
            have e4 := hLg.bx
            clear hVl hLg hB hBs hz4 hmL
            by_cases hij : i4 = j
            · subst hij
              have hzz : ¬ (i4 : Int) < (i4 : Int) := by omega
              obtain ⟨Z, hZ⟩ : ∃ Z, wr = Z := ⟨_, rfl⟩
              rw [hZ] at HLg HB4 e4 ⊢
              clear hZ
              go_wp2
              clear e4
              go_loopw [11] (fun v11 wr => ∃ p : Nat, v11 = .int .i64 p ∧ p ≤ mL ∧ wr = Z) (fun v _ => mL - (intOf v).toNat)
              case atStart => exact ⟨0, rfl, by omega, rfl⟩
              case round =>
                obtain ⟨p, rfl, hp, rfl⟩ := hrel
                by_cases hpm : p = mL
                · subst hpm
                  have hz8 : ¬ (p : Int) < (p : Int) := by omega
                  go_wp2
                  go_ret
                  exact ⟨rfl, HB4.out.1⟩
                · have hz8 : (p : Int) < (mL : Int) := by omega
                  have hwp : IntKind.i64.wrap ((p : Int) + 1) = (p : Int) + 1 := by rw [IntKind.wrap_i64]; omega
                  obtain ⟨u, hu⟩ : ∃ v, VL[p]? = some v := ⟨_, List.getElem?_eq_getElem (by rw [HmL.out.1]; omega)⟩
                  obtain ⟨n, hnb, a8, c8, rfl, hki⟩ := HLg.out.ki p u hu
                  obtain ⟨gL, cL', eL, _⟩ := HLg.out.vl.some (by rw [HmL.out.1]; omega)
                  obtain ⟨rfl, hmm, rfl⟩ : aL = some ⟨gL, 0, none⟩ ∧ mL = VL.length ∧ cL = cL' := by simpa using eL
                  have e8 : wr.cell? ⟨gL, p, none⟩ = some (.slice a8 n c8) := HLg.out.vl.cell hu
                  obtain ⟨P2, hP2⟩ : ∃ z : Int, ((p / 2 : Nat) : Int) = z := ⟨_, rfl⟩
                  have hq1 : Int.tdiv (p : Int) 2 = P2 := by rw [← hP2, Int.tdiv_eq_ediv_of_nonneg (by omega)]; rfl
                  have hq2 : 0 ≤ P2 ∧ P2 ≤ 4398046511104 := by omega
                  have hkey : kW (-1 - P2, 0, 0, 0, 0) := ⟨kI_of (by simp only; omega), kI_of (by simp), kI_of (by simp), kI_of (by simp), kI_of (by simp)⟩
                  have HKi : Hid (n = 0 ∨ ∃ g, a8 = some ⟨g, 0, none⟩ ∧ ∀ q, q < n → wr.cell? ⟨g, q * 5, none⟩ = some (.int .i64 (-1 - P2)) ∧ wr.cell? ⟨g, q * 5 + 1, none⟩ = some (.int .i64 0) ∧ wr.cell? ⟨g, q * 5 + 2, none⟩ = some (.int .i64 0) ∧ wr.cell? ⟨g, q * 5 + 3, none⟩ = some (.int .i64 0) ∧ wr.cell? ⟨g, q * 5 + 4, none⟩ = some (.int .i64 0)) := by
                    rcases hki with h1 | ⟨g, h1, _, _, h4⟩
                    · exact .inl h1
                    · refine .inr ⟨g, h1, fun q hq => ?_⟩
                      have := h4 q hq
                      simp only [mkK, hP2] at this
                      exact this
                  have hwP : IntKind.i64.wrap P2 = P2 := by rw [IntKind.wrap_i64]; omega
                  have hwM : IntKind.i64.wrap (-1 - P2) = -1 - P2 := by rw [IntKind.wrap_i64]; omega
                  have heq := fun w => neq_key hkey hkey w
                  simp only [decide_true, Bool.not_true] at heq
                  have hg51 := eqGuard51
                  have HHq : Hid (Int.tdiv (p : Int) 2 = P2) := hq1
                  clear hu hki eL hmm hP2 hq2 hkey
                  go_wp2
                  go_loopw [12] (fun v12 wr' => ∃ q : Nat, v12 = .int .i64 q ∧ q ≤ n ∧ wr' = wr) (fun v _ => n - (intOf v).toNat)
                  case atStart => exact ⟨0, rfl, by omega, rfl⟩
                  case round =>
                    obtain ⟨q, rfl, hq, hwr⟩ := hrel
                    subst hwr
                    by_cases hqn : q = n
                    · subst hqn
                      have hz9 : ¬ (q : Int) < (q : Int) := by omega
                      go_wp2
                      exact ⟨⟨p + 1, by simp, by omega, by first | rfl | trivial⟩, by simp [intOf]; omega⟩
                    · have hz9 : (q : Int) < (n : Int) := by omega
                      have hwq : IntKind.i64.wrap ((q : Int) + 1) = (q : Int) + 1 := by rw [IntKind.wrap_i64]; omega
                      rcases HKi.out with h1 | ⟨g9, rfl, h4⟩
                      · omega
                      · obtain ⟨t0, t1, t2, t3, t4⟩ := h4 q (by omega)
                        clear h4
                        go_wp2
                        exact ⟨⟨q + 1, by simp, by omega, by first | rfl | trivial⟩, by simp [intOf]; omega⟩
            · have hzz : (i4 : Int) < (j : Int) := by omega
              have hwi : IntKind.i64.wrap ((i4 : Int) + 1) = (i4 : Int) + 1 := by rw [IntKind.wrap_i64]; omega
              obtain ⟨vi, hvi⟩ : ∃ v, os[i4]? = some v := ⟨_, List.getElem?_eq_getElem (by rw [HM.out.1]; omega)⟩
              obtain ⟨go, co', eo, _⟩ := HLg.out.ro.some (by rw [HM.out.1]; omega)
              obtain ⟨rfl, hmm, rfl⟩ : ao = some ⟨go, 0, none⟩ ∧ j = os.length ∧ co = co' := by simpa using eo
              have hkr := HLg.out.kr i4 vi (Nat.le_refl _) hvi
              have htk := fun g => HLg.out.tko i4 vi g (Nat.le_refl _) hvi
              obtain ⟨ai, ci, rfl⟩ := hkr.shape
              obtain ⟨ni, hni⟩ : ∃ n, len i4 = n := ⟨_, rfl⟩
              have hnb : ni ≤ b := by rw [← hni]; exact HLb.out i4
              rw [List.length_replicate, hni] at hvi hkr htk
              have HVi : Hid (os[i4]? = some (.slice ai ni ci)) := hvi
              have e6 : wr.cell? ⟨go, i4, none⟩ = some (.slice ai ni ci) := HLg.out.ro.cell hvi
              have HKr : Hid (KR wr 0 (.slice ai ni ci) (List.replicate ni (mkK i4))) := hkr
              have HTi : Hid (∀ g, (Value.slice ai ni ci).ownBlock = some g → own4 g = 10 + i4) := htk
              have HKi : Hid (KI own4 wr (10 + i4) (.slice ai ni ci) ni (mkK i4)) := ki_of hkr htk
              have HLn : Hid (Lg own4 wr pw (.slice (some ⟨go, 0, none⟩) j co) os len (i4 + 1) (.slice aL mL cL) VL) := HLg.out.next
              have hwm : IntKind.i64.wrap (-1 - (i4 : Int)) = -1 - (i4 : Int) := by rw [IntKind.wrap_i64]; omega
              obtain ⟨i1, hi1, hy0, hy1, hy2⟩ := info_parts Try.pinfo_sl
              clear HLg hkr htk hvi eo hmm hni
              go_wp2
              clear e4 e6
              go_loopw [9, 10] (fun v9 v10 wr => ∃ (k : Nat) (own5 : Nat → Nat), v10 = .int .i64 k ∧ k ≤ 40 ∧ Lg own5 wr pw (.slice (some ⟨go, 0, none⟩) j co) os len (i4 + 1) (.slice aL mL cL) VL ∧ KR wr 0 v9 (List.replicate (ni + k) (mkK i4)) ∧ (∀ g, v9.ownBlock = some g → own5 g = 10 + i4) ∧ KI own5 wr (10 + i4) (.slice ai ni ci) ni (mkK i4) ∧ Below base w wr ∧ base ≤ wr.heap.size ∧ (∀ g, g < base → own5 g = 0)) (fun _ v _ => 40 - (intOf v).toNat)
              case atStart => exact ⟨0, own4, rfl, by omega, HLn.out, HKr.out, HTi.out, HKi.out, HB4.out.1, HB4.out.2.1, HB4.out.2.2⟩
              case round =>
                clear HLn HKr HTi HKi HB4
                obtain ⟨k, own5, rfl, hk, hLg, hK9, hT9, hKi, hB, hBs, hz5⟩ := hrel
                obtain ⟨a9, c9, hu9⟩ := hK9.shape
                obtain ⟨n9, hn9⟩ : ∃ n, ni + k = n := ⟨_, rfl⟩
                rw [List.length_replicate, hn9] at hu9
                subst hu9
                have HN9 : Hid (ni + k = n9 ∧ n9 < 2199023255600) := ⟨hn9, by omega⟩
                have HLg : Hid (Lg own5 wr pw (.slice (some ⟨go, 0, none⟩) j co) os len (i4 + 1) (.slice aL mL cL) VL) := hLg
                have HK9 : Hid (KR wr 0 (.slice a9 n9 c9) (List.replicate (ni + k) (mkK i4))) := hK9
                have HT9 : Hid (∀ g, (Value.slice a9 n9 c9).ownBlock = some g → own5 g = 10 + i4) := hT9
                have HKi : Hid (KI own5 wr (10 + i4) (.slice ai ni ci) ni (mkK i4)) := hKi
                have HB5 : Hid (Below base w wr ∧ base ≤ wr.heap.size ∧ (∀ g, g < base → own5 g = 0)) := ⟨hB, hBs, hz5⟩
                have e4 := hLg.bx
                have e6 : wr.cell? ⟨go, i4, none⟩ = some (.slice ai ni ci) := hLg.ro.cell HVi.out
                clear hLg hK9 hT9 hKi hB hBs hz5 hn9
                by_cases hk40 : k = 40
                · subst hk40
                  go_wp2_with (first
                    | (at_builtin; refine wpList_append_own_at _ rfl _ _ 42 rfl 0 58 i1 (.slice none 0 0) 1 24 Try.underlying42 hi1 hy0 hy1 hy2 rfl (by decide) (.slice aL mL cL) VL.length VL rfl (World.ownsRow.alloc HLg.out.vl _) ⟨wr.heap.size, 0, none⟩ 2 2 [.slice a9 n9 c9, .slice ai ni ci] rfl rfl (two_new10 _ _ _ _) (by simp [Value.oneCell']) (by unfold maxLen; have := HmL.out.1; omega) (by have := HmL.out.1; omega) (by simp) ?_
                       intro v6 w6 hown6 hgrow6 hnil6 hat6; clear hnil6
                       have HG6 : Hid (wr.grownBy w6 (Value.slice aL mL cL).ownBlock) := (World.grownBy_alloc wr _ _).trans hgrow6
                       have HO6 : Hid (VR w6 v6 (VL ++ [.slice a9 n9 c9, .slice ai ni ci])) := by unfold Hid VR; rw [List.length_append]; exact hown6
                       have HA6 : Hid (v6.ownBlock = (Value.slice aL mL cL).ownBlock ∨ ∃ g, v6.ownBlock = some g ∧ wr.heap.size ≤ g) := hat6.imp id (fun e => ⟨_, e, by simp⟩)
                       clear hown6 hgrow6 hat6)
                    | go_in)
                  have hKn : KI own5 wr (10 + i4) (.slice a9 n9 c9) n9 (mkK i4) := by
                    have := ki_of HK9.out HT9.out
                    rw [HN9.out.1] at this
                    exact this
                  have hpu := HLg.out.push HG6.out HO6.out HA6.out HVl.out hKn (by have := HN9.out.2; omega) HKi.out (by omega)
                  have hBa : Below base wr w6 := Kq.bas HB5.out.2.2 HB5.out.2.1 ((Kq.refl (fun g => (Value.slice aL mL cL).ownBlock = some g) wr).grown HG6.out (fun g hg => .inl hg)) (fun g hg _ => by rw [HLg.out.tvl g hg]; omega)
                  exact ⟨⟨i4 + 1, _, _, by simp, by omega, by rw [List.length_append, HVl.out]; simp; omega, hpu, HB5.out.1.trans hBa, Nat.le_trans HB5.out.2.1 HG6.out.size, fun g hg => by show (if g < wr.heap.size then own5 g else 5) = 0; rw [if_pos (by have := HB5.out.2.1; omega)]; exact HB5.out.2.2 g hg⟩, by simp [intOf]; omega⟩
                · have hz40 : (k : Int) < 40 := by omega
                  have hwk : IntKind.i64.wrap ((k : Int) + 1) = (k : Int) + 1 := by rw [IntKind.wrap_i64]; omega
                  have HRl : Hid ((List.replicate (ni + k) (mkK i4)).length = ni + k) := List.length_replicate
                  have HCo : Hid (∀ (obj : Obj) g q, (Value.slice a9 n9 c9).ownBlock = some g → (wr.alloc obj).cell? ⟨g, q, none⟩ = wr.cell? ⟨g, q, none⟩) := fun obj g q hg => World.cell?_of_block (a := ⟨g, q, none⟩) ((World.grownBy_alloc wr obj none).block g (World.ownsRow.lt HK9.out g hg).2 (by simp))
                  go_wp2_with (first
                    | (at_builtin; refine wpl_append_key _ rfl _ _ rfl (.slice a9 n9 c9) (List.replicate (ni + k) (mkK i4)) rfl (World.ownsRow.alloc HK9.out _) ⟨wr.heap.size, 0, none⟩ 1 (mkK i4) rfl (five_new _ _ _ _ _ _ _) (by rw [List.length_replicate]; have := HN9.out; omega) ?_
                       intro v6 w6 hK6 hg6 hat6 hc6
                       have HG6 : Hid (wr.grownBy w6 (Value.slice a9 n9 c9).ownBlock) := (World.grownBy_alloc wr _ _).trans hg6
                       have HK6 : Hid (KR w6 0 v6 (List.replicate (ni + k) (mkK i4) ++ [mkK i4])) := hK6
                       have HA6 : Hid (v6.ownBlock = (Value.slice a9 n9 c9).ownBlock ∨ ∃ g, v6.ownBlock = some g ∧ wr.heap.size ≤ g) := hat6.imp id (fun ⟨g, e, h⟩ => ⟨g, e, by simp at h; omega⟩)
                       have HC6 : Hid (∀ g q, (Value.slice a9 n9 c9).ownBlock = some g → q < (ni + k) * 5 → w6.cell? ⟨g, q, none⟩ = wr.cell? ⟨g, q, none⟩) := fun g q hg hq => (hc6 g q hg (by have h77 := HRl.out; omega)).trans (HCo.out _ g q hg)
                       clear hK6 hg6 hat6 hc6)
                    | go_in)
                  have ho6 : ∀ g, g < wr.heap.size → (if g < wr.heap.size then own5 g else 10 + i4) = own5 g := fun g hg => if_pos hg
                  have hKq : Kq (fun g => (Value.slice a9 n9 c9).ownBlock = some g) wr w6 := (Kq.refl _ wr).grown HG6.out (fun g hg => .inl hg)
                  have hL6 := HLg.out.keep (own' := fun g => if g < wr.heap.size then own5 g else 10 + i4) hKq ho6 (10 + i4) (fun g hg _ => HT9.out g hg) (by omega) (by omega) (by omega) (fun q hq => by omega) (fun p hp => by have := HVl.out; omega)
                  refine ⟨⟨k + 1, _, by simp, by omega, hL6, ?_, fun g hg => ?_, HKi.out.grown HG6.out HC6.out (by omega) ho6, HB5.out.1.trans (Kq.bas HB5.out.2.2 HB5.out.2.1 hKq (fun g hg _ => by rw [HT9.out g hg]; omega)), Nat.le_trans HB5.out.2.1 HG6.out.size, fun g hg => ?_⟩, by simp [intOf]; omega⟩
                  · have := HK6.out
                    rw [← List.replicate_succ'] at this
                    exact this
                  · show (if g < wr.heap.size then own5 g else 10 + i4) = 10 + i4
                    rcases HA6.out with q | ⟨g', q, q2⟩
                    · rw [if_pos (World.ownsRow.lt HK9.out g (q ▸ hg)).2]; exact HT9.out g (q ▸ hg)
                    · have e2 : g' = g := Option.some.inj (q.symm.trans hg)
                      rw [if_neg (by omega)]
                  · show (if g < wr.heap.size then own5 g else 10 + i4) = 0
                    rw [if_pos (by have := HB5.out.2.1; omega)]; exact HB5.out.2.2 g hg
        · have hz : (j : Int) < (i : Int) := by omega
          have hwj : IntKind.i64.wrap ((j : Int) + 1) = (j : Int) + 1 := by rw [IntKind.wrap_i64]; omega
          obtain ⟨vj, hvj⟩ : ∃ v, os[j]? = some v := ⟨_, List.getElem?_eq_getElem (by rw [HM.out.1]; omega)⟩
          obtain ⟨go, co', eo, _⟩ := HLw.out.ro.some (by rw [HM.out.1]; omega)
          obtain ⟨rfl, hmm, rfl⟩ : ao = some ⟨go, 0, none⟩ ∧ i = os.length ∧ co = co' := by simpa using eo
          obtain ⟨aj, cj, rfl⟩ := (HLw.out.kr j vj hvj).shape
          obtain ⟨nj, hnj⟩ : ∃ n, len j = n := ⟨_, rfl⟩
          have HNj : Hid (len j = nj) := hnj
          have hnb : nj ≤ b := by rw [← hnj]; exact HLb.out j
          rw [HCl.out j, hnj] at hvj
          have HVj : Hid (os[j]? = some (.slice aj nj cj)) := hvj
          clear hvj eo hmm hnj
          go_wp2
          go_loopw [6] (fun v6 wr => ∃ (k : Nat) (Cs : Nat → List Kx), v6 = .int .i64 k ∧ k ≤ nj ∧ Lw own wr pw (.slice (some ⟨go, 0, none⟩) i co) os Cs ∧ (∀ q, (Cs q).length = len q) ∧ (∀ q, q < j → Cs q = List.replicate (len q) (mkK q)) ∧ (∀ q, q < k → (Cs j)[q]? = some (mkK j)) ∧ Below base w wr ∧ base ≤ wr.heap.size) (fun v _ => nj - (intOf v).toNat)
          case atStart => exact ⟨0, Cs, rfl, by omega, HLw.out, HCl.out, HCm.out, fun q hq => by omega, HBw.out.1, HBw.out.2⟩
          case round =>
            clear HLw HCl HCm HBw e4
            obtain ⟨k, Cs2, rfl, hk, hLw, hCl, hCm, hCk, hB, hBs⟩ := hrel
            have HLw : Hid (Lw own wr pw (.slice (some ⟨go, 0, none⟩) i co) os Cs2) := hLw
            have HCl : Hid (∀ q, (Cs2 q).length = len q) := hCl
            have HCm : Hid (∀ q, q < j → Cs2 q = List.replicate (len q) (mkK q)) := hCm
            have HCk : Hid (∀ q, q < k → (Cs2 j)[q]? = some (mkK j)) := hCk
            have HBw : Hid (Below base w wr ∧ base ≤ wr.heap.size) := ⟨hB, hBs⟩
            have e4 := hLw.bx
            have e6 : wr.cell? ⟨go, j, none⟩ = some (.slice aj nj cj) := hLw.ro.cell HVj.out
            clear hLw hCl hCm hCk hB hBs
            by_cases hkn : k = nj
            · subst hkn
              have hz2 : ¬ (k : Int) < (k : Int) := by omega
              go_wp2
              refine ⟨⟨j + 1, Cs2, by simp, by omega, HLw.out, HCl.out, fun q hq => ?_, HBw.out.1, HBw.out.2⟩, by simp [intOf]; omega⟩
              by_cases e : q = j
              · subst e
                rw [HNj.out]
                exact all_marks (by rw [HCl.out q, HNj.out]) HCk.out
              · exact HCm.out q (by omega)
            · have hz2 : (k : Int) < (nj : Int) := by omega
              have hwk : IntKind.i64.wrap ((k : Int) + 1) = (k : Int) + 1 := by rw [IntKind.wrap_i64]; omega
              have hwm : IntKind.i64.wrap (-1 - (j : Int)) = -1 - (j : Int) := by rw [IntKind.wrap_i64]; omega
              have hkr := HLw.out.kr j _ HVj.out
              obtain ⟨gj, capj, ej, _, _, _⟩ := hkr.some (by rw [HCl.out j, HNj.out]; omega)
              obtain ⟨rfl, hmm, rfl⟩ : aj = some ⟨gj, 0, none⟩ ∧ nj = (Cs2 j).length ∧ cj = capj := by simpa using ej
              have hst : StOk wr (.pointer (some ⟨gj, k * 5, none⟩)) (kA (mkK j)) := hkr.stOk (by omega) (mkK j)
              have hnew := HLw.out.store (k := k) HVj.out (by omega) (mkK j)
              have HNew : Hid _ := hnew
              have K1 : Kq (· = gj) wr (wr.setCells gj (k * 5) (kV (mkK j))) := kq_setCells _ _ _
              have hgt : own gj = 10 + j := HLw.out.tko j _ gj HVj.out rfl
              have HB2 : Hid (Below base w (wr.setCells gj (k * 5) (kV (mkK j))) ∧ base ≤ (wr.setCells gj (k * 5) (kV (mkK j))).heap.size) := ⟨HBw.out.1.trans (Kq.bas H0.out.1 HBw.out.2 K1 (fun g hg _ => by rw [show g = gj from hg, hgt]; omega)), Nat.le_trans HBw.out.2 K1.size⟩
              simp only [mkK, kA] at hst
              clear hkr ej hmm hnew K1 hgt
              go_wp2
              refine ⟨⟨k + 1, _, by simp, by omega, HNew.out, fun q => ?_, fun q hq => ?_, fun q hq => ?_, HB2.out.1, HB2.out.2⟩, by simp [intOf]; omega⟩
              · by_cases e : q = j
                · subst e; rw [if_pos rfl, List.length_set]; exact HCl.out q
                · rw [if_neg e]; exact HCl.out q
              · rw [if_neg (by omega)]; exact HCm.out q hq
              · rw [if_pos rfl, List.getElem?_set]
                by_cases e : k = q
                · rw [if_pos e, if_pos (by rw [HCl.out j, HNj.out]; omega)]
                · rw [if_neg e]; exact HCk.out q (by omega)
    · have hz : (i : Int) < (m : Int) := by omega
      have hwi : IntKind.i64.wrap ((i : Int) + 1) = (i : Int) + 1 := by rw [IntKind.wrap_i64]; omega
      obtain ⟨u, hu⟩ : ∃ v, os[i]? = some v := ⟨_, List.getElem?_eq_getElem (by rw [HM.out.1]; omega)⟩
      obtain ⟨x, hx⟩ : ∃ v, ws[i]? = some v := ⟨_, List.getElem?_eq_getElem (by rw [HM.out.2.1]; omega)⟩
      obtain ⟨l, hl⟩ : ∃ v, ls[i]? = some v := ⟨_, List.getElem?_eq_getElem (by rw [HM.out.2.2]; omega)⟩
      obtain ⟨go, co', eo, _⟩ := HW1.out.ro.some (by rw [HM.out.1]; omega)
      obtain ⟨rfl, hmm, rfl⟩ : ao = some ⟨go, 0, none⟩ ∧ m = os.length ∧ co = co' := by simpa using eo
      obtain ⟨gw, cw', ew, _⟩ := HW1.out.rw.some (by rw [HM.out.2.1]; omega)
      obtain ⟨rfl, hmm2, rfl⟩ : aw = some ⟨gw, 0, none⟩ ∧ m = ws.length ∧ cw = cw' := by simpa using ew
      have e6 : wr.cell? ⟨go, i, none⟩ = some u := HW1.out.ro.cell hu
      have e7 : wr.cell? ⟨gw, i, none⟩ = some x := HW1.out.rw.cell hx
      have hk1 := HW1.out.ko i u l hu hl
      have hk2 := HW1.out.kw i x l hx hl
      have hS := sameKeys_eq 0 0 l u x wr.drew (hk1.keep (S := fun _ => False) (Kq.refl _ _).drew (fun _ _ h => h)) (hk2.keep (S := fun _ => False) (Kq.refl _ _).drew (fun _ _ h => h)) (HLs.out l (List.mem_of_getElem? hl)).2 (by have := (HLs.out l (List.mem_of_getElem? hl)).1; omega)
      obtain ⟨a1, c1, rfl⟩ := hk1.shape
      obtain ⟨a2, c2, rfl⟩ := hk2.shape
      obtain ⟨nl, hnl⟩ : ∃ n, l.length = n := ⟨_, rfl⟩
      rw [hnl] at e6 e7 hS
      clear hu hx hl eo ew hmm hmm2 hk1 hk2 hnl
      go_wp2_with fail
      refine wp_region_still_tail 14 hmf (by kernel_rfl) ?_
      simp only [List.take_succ_cons, List.take_zero, List.drop_succ_cons, List.drop_zero]
      iterate 14 still_step
      refine wpStill_nil ?_
      show wpList _ _ _ _ _ wr.drew
      clear e4 e5 e6 e7
      go_wp2_with fail
      refine hS.mono ?_
      rintro e w3 ⟨rfl, q, hw3⟩
      have HB3 : Hid (Below w.heap.size w w3) := by rw [hw3]; exact below_drewN HBr.out.drew q
      clear hw3 hS
      go_wp2
      exact ⟨⟨i + 1, by simp, by omega, HB3.out⟩, by simp [intOf]; omega⟩

end Go.Proofs.Ytnclfoljfnfglai
