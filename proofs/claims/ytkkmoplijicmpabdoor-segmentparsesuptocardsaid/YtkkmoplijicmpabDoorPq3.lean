import Derived.Test.YtkkmoplijicmpabDoorPq2
namespace Go.Proofs.YtkkmoplijicmpabDoor
open Go.RowKit
set_option linter.unusedVariables false
set_option linter.unusedSimpArgs false

def ExtQ (b : Nat) (a : Option Addr) (len cap : Nat) (zs : List Int) (st : St) (n : Nat) (w : World) (e : Ending) (w' : World) : Prop :=
  ∃ a' c xs st', e = .returned (.slice a' xs.length c) ∧ xs.length ≤ n ∧ XOwn w' w.heap.size (.slice a' xs.length c) xs ∧ Aq w' b a len cap zs st' ∧ w.grownBy w' (some b) ∧ Step zs (extsp n []) st (xs.map Xr.ex) st' ∧ (st'.1 = 0 → st.1 = 0)

set_option maxRecDepth 100000 in
set_option maxHeartbeats 4000000 in
theorem extq_any {b len cap : Nat} {a : Option Addr} {zs : List Int} {st : St} {w : World} (n : Nat) (hn : n ≤ 15) (hne : st.1 = 0 → a ≠ none) (h : Aq w b a len cap zs st) :
    Calls Tryd.prog 39 #[.pointer (some ⟨b, 0, none⟩), .int .i64 n] w (ExtQ b a len cap zs st n w) := by
  obtain ⟨i0, hi, hz0, hz1, hz2⟩ := info_parts Tryd.info_ext
  have HA : Hid (Aq w b a len cap zs st) := h
  have HNe : Hid (st.1 = 0 → a ≠ none) := hne
  have hbw := h.lt
  clear h hne
  go_enter Tryd.func39, Tryd.ntmps39
  go_wp2_with fail
  go_loopw [5, 6] (fun l i wr => ∃ (k : Nat) (xs : List Xr) (st' : St), k ≤ n ∧ i = .int .i64 k ∧ xs.length = k ∧ XOwn wr w.heap.size l xs ∧ Aq wr b a len cap zs st' ∧ w.grownBy wr (some b) ∧ (st'.1 = 0 → st.1 = 0) ∧ (∀ (β : Type) (K : List Ex → Pr β), fin ((extsp n []).bind K) zs st = fin ((extsp (n - k) (xs.map Xr.ex)).bind K) zs st')) (fun _ i _ => n - (intOf i).toNat)
  case atStart => exact ⟨0, [], st, by omega, rfl, rfl, XOwn.nil _ _, HA.out, World.grownBy.refl _ _, id, fun _ _ => rfl⟩
  case round =>
    obtain ⟨k, xs, st', hk, rfl, hxl, hxo, hat, hgr, hmo, hfin⟩ := hrel
    have c2 := hat.cur.c2
    have HX : Hid (XOwn wr w.heap.size _ xs) := hxo
    have HT : Hid (Aq wr b a len cap zs st') := hat
    have HG : Hid (w.grownBy wr (some b)) := hgr
    have HF : Hid (∀ (β : Type) (K : List Ex → Pr β), fin ((extsp n []).bind K) zs st = fin ((extsp (n - k) (xs.map Xr.ex)).bind K) zs st') := hfin
    have HXL : Hid (xs.length = k) := hxl
    have HMo : Hid (st'.1 = 0 → st.1 = 0) := hmo
    have hsz := hgr.size
    clear hxo hat hgr hfin hxl hmo
    obtain ⟨f, p⟩ := st'
    simp only at c2
    by_cases hlt : k < n
    · have hlt' : (k : Int) < (n : Int) := by omega
      by_cases hf : f = 0
      · subst hf
        have hbg : b < wr.heap.size := by omega
        have HNa : Hid (a ≠ none) := HNe.out (HMo.out rfl)
        go_wp2_with fail
        refine (octq_any HT.out).mono ?_
        rintro e w1 ⟨t, s1, rfl, ha, hg, hs, ht0, ht1, hm, _⟩
        have H1 : Hid (Aq w1 b a len cap zs s1) := ha
        have G1 : Hid (wr.grownBy w1 (some b)) := hg
        have S1 : Hid (Step zs oct (0, p) t s1) := hs
        clear ha hg hs hm c2
        go_wp2_with fail
        refine (numq_any H1.out).mono ?_
        rintro e w2 ⟨m, s2, rfl, ha, hg, hs, hm0, hm1⟩
        have H2 : Hid (Aq w2 b a len cap zs s2) := ha
        have G2 : Hid (wr.grownBy w2 (some b)) := grown_trans G1.out hg
        have S2 : Hid (Step zs (numb 0 200) s1 m (wst (decide (m ≤ 200)) s2)) := numR_step hs (fun _ => by simp; omega)
        clear ha hg hs H1 G1
        go_wp2_with fail
        refine (wantq_any _ H2.out).mono ?_
        rintro e w3 ⟨rfl, ha, hg⟩
        have H3 : Hid (Aq w3 b a len cap zs (wst (decide (m ≤ 200)) s2)) := ha
        have G3 : Hid (wr.grownBy w3 (some b)) := grown_trans G2.out hg
        clear ha hg H2 G2
        generalize wst (decide (m ≤ 200)) s2 = s3 at *
        go_wp2_with fail
        refine (bytq_any m hm0 hm1 (fun _ => HNa.out) H3.out).mono ?_
        rintro e w4 ⟨ad, cd, d, s4, rfl, hown, hd, hby, ha, hg, hs, hm⟩
        have H4 : Hid (Aq w4 b a len cap zs s4) := ha
        have G4 : Hid (wr.grownBy w4 (some b)) := grown_trans G3.out hg
        have hs34 : wr.heap.size ≤ w3.heap.size := G3.out.size
        have HF2 : Hid (∀ (β : Type) (K : List Ex → Pr β), fin ((extsp n []).bind K) zs st = fin ((extsp (n - (k + 1)) (xs.map Xr.ex ++ [⟨t, d⟩])).bind K) zs s4) := extsp_step zs n k hlt _ HF.out S1.out S2.out hs
        have hxo4 := HX.out.keep G4.out (by simp; omega)
        have hxnew : (Xr.mk t ad cd d).Own w4 w.heap.size := ⟨own_base hown (by omega), hby, hd, ht0, ht1⟩
        have HNE : Hid ((∀ k, (Xr.mk t ad cd d).val.ownBlock = some k → w3.heap.size ≤ k) ∧ (∀ y ∈ xs, ∀ k, y.val.ownBlock = some k → k < wr.heap.size) ∧ (∀ k, u5.ownBlock = some k → w.heap.size ≤ k ∧ k < wr.heap.size) ∧ wr.heap.size ≤ w3.heap.size) := ⟨fun k hk => (hown.lt k hk).1, fun y hy k hk => ((HX.out.data y hy).row.lt k hk).2, fun k hk => HX.out.row.lt k hk, hs34⟩
        have HX4 : Hid (XOwn w4 w.heap.size u5 xs) := hxo4
        have HN4 : Hid ((Xr.mk t ad cd d).Own w4 w.heap.size) := hxnew
        have HGW : Hid (w.grownBy w4 (some b)) := grown_trans HG.out G4.out
        have hsz4 : w.heap.size ≤ w4.heap.size := HGW.out.size
        have hkl := HXL.out
        clear ha hg hs hm hown hd hby hxo4 hxnew H3 G3 S1 S2 HX HT HF
        go_wp2_with (at_builtin; refine wpList_append_own_at _ rfl _ _ 24 rfl w.heap.size 81 i0 (.agg #[.int .i64 0, .slice none 0 0]) 2 32 Tryd.underlying24 hi hz0 hz1 hz2 rfl (by decide) _ _ _ rfl (HX4.out.row.alloc _) ⟨w4.heap.size, 0, none⟩ 1 1 [.int .i64 t, .slice ad d.length cd] rfl rfl ?c1 ?c2 ?c3 ?c4 ?c5 ?_)
        case c1 => exact cell_two_new _ _ _ _
        case c2 => intro u hu; simp at hu; rcases hu with rfl | rfl <;> rfl
        case c3 => unfold maxLen; omega
        case c4 => omega
        case c5 => simp; omega
        intro v' w5 hown5 hgrow5 _ hat5
        obtain ⟨hne1, hne2, hne3, hne4⟩ := HNE.out
        have HX5 : Hid (XOwn w5 w.heap.size v' (xs ++ [⟨t, ad, cd, d⟩])) := by
          refine XOwn.snoc (HX4.out.keep (grown_alloc _ (.cells #[.int .i64 t, .slice ad d.length cd] 81) none) (by simp)) ⟨HN4.out.row.alloc _, HN4.out.bytes, HN4.out.small, HN4.out.tag⟩ ?_ ?_ ?_ hgrow5 (by simpa using hat5)
          · intro k hk e
            have := hne1 k hk; have := hne3 k e; omega
          · intro y hy k hk e
            have := hne1 k hk; have := hne2 y hy k e; omega
          · rw [List.length_append, List.flatMap_append, HXL.out]
            exact hown5
        have HT5 : Hid (Aq w5 b a len cap zs s4) := H4.out.keep (((Below.refl _ _).alloc (by omega) _).grown hgrow5 (by simp; omega) (fun k hk => by have := hne3 k hk; omega))
        have HG5 : Hid (w.grownBy w5 (some b)) := grown_step (grown_trans HGW.out (grown_alloc _ _ _)) hgrow5 (fun k hk => (hne3 k hk).1)
        clear hne1 hne2 hne3 hne4 HNE hown5 hgrow5 hat5 HX4 HN4 H4 HGW
        go_wp2
        go_roundw
        case rel =>
          refine ⟨k + 1, xs ++ [⟨t, ad, cd, d⟩], s4, by omega, by go_num, by simp; omega, HX5.out, HT5.out, HG5.out, fun _ => HMo.out (by first | rfl | trivial), ?_⟩
          intro β K
          rw [List.map_append]
          exact HF2.out β K
        case measure => simp [intOf]; omega
      · have hfb : (f == 0) = false := by simp [hf]
        have HFn : Hid (f ≠ 0) := hf
        clear hf
        obtain ⟨av, cv, hv⟩ := own_shape HX.out.row
        subst hv
        go_wp2
        go_ret
        refine ⟨av, cv, xs, (f, p), rfl, by have := HXL.out; omega, HX.out, HT.out, HG.out, fun β K => ?_, HMo.out⟩
        rw [HF.out β K]
        simp [fin, HFn.out]
    · have hkn : k = n := by omega
      have hlt' : ¬ (k : Int) < (n : Int) := by omega
      obtain ⟨av, cv, hv⟩ := own_shape HX.out.row
      subst hv
      go_wp2
      go_ret
      refine ⟨av, cv, xs, (f, p), rfl, by have := HXL.out; omega, HX.out, HT.out, HG.out, fun β K => ?_, HMo.out⟩
      have := HF.out β K
      rw [hkn, Nat.sub_self] at this; exact this

end Go.Proofs.YtkkmoplijicmpabDoor
