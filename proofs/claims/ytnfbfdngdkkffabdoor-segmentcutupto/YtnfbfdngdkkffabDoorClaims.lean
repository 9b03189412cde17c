import Derived.Test.YtnfbfdngdkkffabDoorBody
namespace Go.Proofs.YtnfbfdngdkkffabDoor
open Go.RowKit

def spc (p : Int × Int) : List Value := [.int .i64 p.1, .int .i64 p.2]
theorem Tryd.info_span : (Tryd.prog.info? 37).map (fun i => (i.zero, i.size, i.bytes)) = some (some (.agg #[.int .i64 0, .int .i64 0]), 2, 16) := by kernel_rfl

def ClaimsAt (b : Nat) (a : Option Addr) (len cap : Nat) (zs : List Int) (st : St) (g : Value → List Value) (n : Nat) (lo up : Int) (w : World) (e : Ending) (w' : World) : Prop :=
  ∃ a' c' cl st', e = .returned (.tuple #[]) ∧ At w' b a len cap zs st' (g (.slice a' cl.length c')) ∧ w'.ownsRow w.heap.size 37 2 (.slice a' cl.length c') cl.length (cl.flatMap spc) ∧ cl.length ≤ 1000 ∧ w.grownBy w' (some b) ∧ Step zs (claimsp lo up n 0 []) st cl st'

theorem claimsp_step (zs : List Int) (n k : Nat) (hk : k < n) (lo up least : Int) (acc : List (Int × Int)) {st st1 st2 st0 : St} {f m : Int} (h : ∀ (β : Type) (K : List (Int × Int) → Pr β), fin ((claimsp lo up n 0 []).bind K) zs st0 = fin ((claimsp lo up (n - k) least acc).bind K) zs st)
    (h1 : Step zs (numb least (up - lo - 1)) st f st1) (h2 : Step zs (numb 1 (up - (lo + f))) st1 m st2) : ∀ (β : Type) (K : List (Int × Int) → Pr β), fin ((claimsp lo up n 0 []).bind K) zs st0 = fin ((claimsp lo up (n - (k + 1)) (lo + f + m - lo + 1) (acc ++ [(lo + f, lo + f + m)])).bind K) zs st2 := by
  intro β K
  rw [h, show n - k = (n - (k + 1)) + 1 from by omega, claimsp, Pr.bind_assoc, h1, Pr.bind_assoc, h2]

set_option maxHeartbeats 2000000 in
theorem claims_at {b len cap : Nat} {a : Option Addr} {zs : List Int} {st : St} {w : World} {hh t o nn : Int} {hd tv : Value} {sv oo : Int} {dv : Value} {ck rp up lo : Int} {rs : Int} (n : Nat) (hn : n ≤ 1000) (hlo : 0 ≤ lo ∧ lo ≤ 65536) (hup : 0 ≤ up ∧ up ≤ 65536) (h : At w b a len cap zs st (gl hh t o nn hd tv sv oo dv ck rp up lo (.slice none 0 0) rs)) :
    Calls Tryd.prog 83 #[.pointer (some ⟨b, 0, none⟩), .int .i64 n] w (ClaimsAt b a len cap zs st (fun v => gl hh t o nn hd tv sv oo dv ck rp up lo v rs) n lo up w) := by
  obtain ⟨i0, hi, hz0, hz1, hz2⟩ := info_parts Tryd.info_span
  have HA : Hid (At w b a len cap zs st (gl hh t o nn hd tv sv oo dv ck rp up lo (.slice none 0 0) rs)) := h
  have l12 := h.cell 12 rfl
  have l11 := h.cell 11 rfl
  have hbw := h.lt
  clear h
  go_enter Tryd.func83, Tryd.ntmps83
  go_wp2_with fail
  go_quiet (fail)
  go_wp2_with fail
  clear l12 l11
  go_loopw [6, 20] (fun q i wr => ∃ (k : Nat) (least : Int) (cl : List (Int × Int)) (cv : Value) (st' : St), k ≤ n ∧ i = .int .i64 k ∧ q = .int .i64 least ∧ 0 ≤ least ∧ least ≤ 200000 ∧ cl.length = k ∧ At wr b a len cap zs st' (gl hh t o nn hd tv sv oo dv ck rp up lo cv rs) ∧ wr.ownsRow w.heap.size 37 2 cv cl.length (cl.flatMap spc) ∧ w.grownBy wr (some b) ∧ (∀ (β : Type) (K : List (Int × Int) → Pr β), fin ((claimsp lo up n 0 []).bind K) zs st = fin ((claimsp lo up (n - k) least cl).bind K) zs st')) (fun _ i _ => n - (intOf i).toNat)
  case atStart => exact ⟨0, 0, [], .slice none 0 0, st, by omega, rfl, rfl, by omega, by omega, rfl, HA.out.keep ⟨rfl, rfl, rfl, Nat.le_refl _, fun _ _ => rfl⟩, World.ownsRow_nil _ _ _ _, ⟨rfl, rfl, rfl, Nat.le_refl _, fun _ _ _ => rfl⟩, fun _ _ => rfl⟩
  case round =>
    obtain ⟨k, least, cl, cv, st', hk, rfl, rfl, hq0, hq1, hcl, hat, hown, hgr, hfin⟩ := hrel
    have HT : Hid (At wr b a len cap zs st' (gl hh t o nn hd tv sv oo dv ck rp up lo cv rs)) := hat
    have HO : Hid (wr.ownsRow w.heap.size 37 2 cv cl.length (cl.flatMap spc)) := hown
    have HG : Hid (w.grownBy wr (some b)) := hgr
    have HF : Hid (∀ (β : Type) (K : List (Int × Int) → Pr β), fin ((claimsp lo up n 0 []).bind K) zs st = fin ((claimsp lo up (n - k) least cl).bind K) zs st') := hfin
    have HL : Hid (cl.length = k) := hcl
    clear hat hown hgr hfin hcl
    by_cases hlt : k < n
    · have hlt' : (k : Int) < (n : Int) := by omega
      go_wp2_with fail
      refine (number_at least (up - lo - 1) HT.out).mono ?_
      rintro e w1 ⟨f, s1, rfl, ha, hg, hs, p0, q0, r0⟩
      have hf : 0 ≤ f ∧ f ≤ 65536 := by omega
      have H1 : Hid (At w1 b a len cap zs s1 (gl hh t o nn hd tv sv oo dv ck rp up lo cv rs)) := ha
      have G1 : Hid (wr.grownBy w1 (some b)) := hg
      have S1 : Hid (Step zs (numb least (up - lo - 1)) st' f s1) := hs
      clear ha hg hs p0 q0 r0
      go_wp2_with fail
      refine (number_at 1 (up - (lo + f)) H1.out).mono ?_
      rintro e w2 ⟨m, s2, rfl, ha, hg, hs, p0, q0, r0⟩
      have hm : 0 ≤ m ∧ m ≤ 65536 := by omega
      have l13 := ha.cell 13 rfl
      have H2 : Hid (At w2 b a len cap zs s2 (gl hh t o nn hd tv sv oo dv ck rp up lo cv rs)) := ha
      have G2 : Hid (wr.grownBy w2 (some b)) := grown_trans G1.out hg
      have HF2 : Hid (∀ (β : Type) (K : List (Int × Int) → Pr β), fin ((claimsp lo up n 0 []).bind K) zs st = fin ((claimsp lo up (n - (k + 1)) (lo + f + m - lo + 1) (cl ++ [(lo + f, lo + f + m)])).bind K) zs s2) := claimsp_step zs n k hlt lo up least cl HF.out S1.out hs
      have HO2 : Hid (w2.ownsRow w.heap.size 37 2 cv cl.length (cl.flatMap spc)) := own_keep HO.out G2.out (fun j hj e => by have := (HO.out.lt j hj).1; simp at e; omega)
      have HGW : Hid (w.grownBy w2 (some b)) := grown_trans HG.out G2.out
      have hsz : w.heap.size ≤ w2.heap.size := HGW.out.size
      have hblk : Hid (∀ j, cv.ownBlock = some j → w.heap.size ≤ j ∧ j < w2.heap.size) := HO2.out.lt
      have z16 := H2.out.fz 16
      clear ha hg hs p0 q0 r0 HT HO HG HF H1 G1 S1 G2
      obtain ⟨av, cc, hv⟩ := own_shape HO2.out
      subst hv
      go_wp2_with (at_builtin; refine wpList_append_own_at _ rfl _ _ 26 rfl w.heap.size 37 i0 (.agg #[.int .i64 0, .int .i64 0]) 2 16 Tryd.underlying26 hi hz0 hz1 hz2 rfl (by decide) _ _ _ rfl (HO2.out.alloc _) ⟨w2.heap.size, 0, none⟩ 1 1 [.int .i64 (lo + f), .int .i64 (lo + f + m)] rfl rfl ?c1 ?c2 ?c3 ?c4 ?c5 ?_)
      case c1 => exact cell_two_new _ _ _ _
      case c2 => intro u hu; simp at hu; rcases hu with rfl | rfl <;> rfl
      case c3 => have := HL.out; unfold maxLen; omega
      case c4 => have := HL.out; omega
      case c5 => simp; omega
      intro v' w3 hown3 hgrow3 _ hat3
      have hat4 : At w3 b a len cap zs s2 (gl hh t o nn hd tv sv oo dv ck rp up lo (.slice av cl.length cc) rs) := H2.out.keep (((Below.refl _ _).alloc (by omega) _).grown hgrow3 (by simp; omega) (fun j hj => by have := hblk.out j hj; omega))
      have c16 := hat4.cell 13 rfl
      have z16' := hat4.fz 16
      have H3 : Hid (At (w3.setCell ⟨b, 16, none⟩ v') b a len cap zs s2 (gl hh t o nn hd tv sv oo dv ck rp up lo v' rs)) := hat4.put 13 _ 16 rfl
      have G3 : Hid (w.grownBy (w3.setCell ⟨b, 16, none⟩ v') (some b)) := grown_trans (grown_step (grown_trans HGW.out (grown_alloc _ _ _)) hgrow3 (fun j hj => (hblk.out j hj).1)) (grown_set _ _ _ _)
      have hown4 : w3.ownsRow w.heap.size 37 2 v' (cl ++ [(lo + f, lo + f + m)]).length ((cl ++ [(lo + f, lo + f + m)]).flatMap spc) := by
        rw [List.length_append, List.flatMap_append]; exact hown3
      have HO3 : Hid ((w3.setCell ⟨b, 16, none⟩ v').ownsRow w.heap.size 37 2 v' (cl ++ [(lo + f, lo + f + m)]).length ((cl ++ [(lo + f, lo + f + m)]).flatMap spc)) := own_keep hown4 (grown_set _ _ _ _) (fun j hj e => by have := (hown4.lt j hj).1; simp at e; omega)
      clear hat4 hown4 hown3 hgrow3 hat3 H2 HO2 HGW hblk z16 l13
      obtain ⟨av', cc', hv'⟩ := own_shape HO3.out
      rw [show (cl ++ [(lo + f, lo + f + m)]).length = cl.length + 1 from by simp] at hv'
      subst hv'
      go_wp2
      go_roundw
      case rel =>
        exact ⟨k + 1, lo + f + m - lo + 1, cl ++ [(lo + f, lo + f + m)], _, s2, by omega, by go_num, rfl, by omega, by omega, by have := HL.out; simp; omega, H3.out, HO3.out, G3.out, HF2.out⟩
      case measure => simp [intOf]; omega
    · have hkn : k = n := by omega
      subst hkn
      have hkl := HL.out
      obtain ⟨av, cv', hv⟩ := own_shape HO.out
      subst hv
      go_wp2
      go_end0
      refine ⟨av, cv', cl, st', rfl, HT.out, HO.out, by omega, HG.out, fun β K => ?_⟩
      have := HF.out β K
      rw [Nat.sub_self] at this; exact this

end Go.Proofs.YtnfbfdngdkkffabDoor
