import Derived.Test.YtdfdaambfihjaaaDoorLnOw
import Derived.Test.YtdfdaambfihjaaaDoorLnRc
import Derived.Test.YtdfdaambfihjaaaDoorRx2
namespace Go.Proofs.YtdfdaambfihjaaaDoor.L
open Go.RowKit
set_option linter.unusedVariables false
set_option linter.unusedSimpArgs false

/-! ## A call of the program's, and one of the document's, on one side -/
theorem npl (wr : World) (pl : Nat → Plc) (F : Nat → Prop) (t lo hi : Nat) (tag : Plc) : ∃ pl' : Nat → Plc, (∀ g, g < wr.heap.size → pl' g = pl g) ∧ (∀ g, wr.heap.size ≤ g → F g → pl' g = (t, 0, 0)) ∧ (∀ g, wr.heap.size ≤ g → ¬ F g → lo ≤ g → g < hi → pl' g = tag) ∧ (∀ g, wr.heap.size ≤ g → ¬ F g → ¬ (lo ≤ g ∧ g < hi) → pl' g = (7, 0, 0)) := by
  classical
  refine ⟨fun g => if g < wr.heap.size then pl g else if F g then (t, 0, 0) else if lo ≤ g ∧ g < hi then tag else (7, 0, 0), fun g h => ?_, fun g h1 h2 => ?_, fun g h1 h2 h3 h4 => ?_, fun g h1 h2 h3 => ?_⟩
  · simp [h]
  · have : ¬ g < wr.heap.size := by omega
    simp [this, h2]
  · have : ¬ g < wr.heap.size := by omega
    simp [this, h2, h3, h4]
  · have : ¬ g < wr.heap.size := by omega
    simp only [this, h2, h3, if_false]
theorem SdI.prog {w0 wr wn : World} {t M M' : Nat} {pl pl' : Nat → Plc} {A : Sde} {S' : Pm} {c' : Nat} {E' : List En} {G' : Int → Nat → List Sz} (h : SdI w0 wr pl t M A) (h6 : 1 ≤ t ∧ t < 6) (hM : M ≤ M') (hk : Kl (FL A.m A.S) wr wn) (hlg : Lg wn A.p A.m A.lim S' M' c' E') (hfo : ∀ g, FL A.m S' g → FL A.m A.S g ∨ wr.heap.size ≤ g) (hs : Same wr t pl pl') (hpl : ∀ g, FL A.m S' g → wr.heap.size ≤ g → (pl' g).1 = t) (hG : ∀ K i, i < 3 → Wt (S' K) i = (G' K i).map Sz.y) (hsg : ∀ K i z, i < 3 → z ∈ G' K i → SzI w0 wn pl' (t + 10, K, i) z) (hpw : ∀ K i, i < 3 → (G' K i).Pairwise Sz.D) : SdI w0 wn pl' t M' { A with S := S', c := c', E := E', G := G' } := by
  have hTm : ∀ g, g < wr.heap.size → FL A.m A.S g → mtb pl g := fun g _ e => by have := h.fl g e; unfold mtb; omega
  have hr := (Array.getElem?_eq_some_iff.1 h.rl.box).1
  have nr : ∀ g, FL A.m A.S g → (pl g).1 ≠ t + 1 := fun g e => by have := h.fl g e; omega
  refine ⟨hlg, ⟨(hk.block _ hr (fun e => nr _ e h.fr)).trans h.rl.box, hk.own h.rl.row (fun g hg e => nr g e (h.fv g hg))⟩, fun g hg => ?_, ?_, fun g hg => ?_, ?_, hG, hsg, hpw, fun x hx => ⟨(h.sr x hx).1.keep hk hTm hs, (h.sr x hx).2⟩, Nat.le_trans h.few hM⟩
  · rcases hfo g hg with e | e
    · rw [hs.eq (h.lg.lt e) (by rw [h.fl g e]; omega)]; exact h.fl g e
    · exact hpl g hg e
  · rw [hs.eq hr (by rw [h.fr]; omega)]; exact h.fr
  · rw [hs.eq (h.rl.row.lt g hg).2 (by rw [h.fv g hg]; omega)]; exact h.fv g hg
  · rw [hs.eq h.lg.plt (by rw [h.fp]; omega)]; exact h.fp
theorem SdI.refc {w0 wr wn : World} {t M M' : Nat} {pl pl' : Nat → Plc} {A : Sde} {v' : Value} {ws' : List Wa} (h : SdI w0 wr pl t M A) (h6 : 1 ≤ t ∧ t < 6) (hM : M ≤ M') (hk : Kl (fun g => g = A.r ∨ A.v.ownBlock = some g) wr wn) (hrl : Rl wn A.r A.lim v' ws') (hat : ∀ g, v'.ownBlock = some g → A.v.ownBlock = some g ∨ wr.heap.size ≤ g) (hs : Same wr t pl pl') (hpl : ∀ g, v'.ownBlock = some g → wr.heap.size ≤ g → (pl' g).1 = t + 1) (hsg : ∀ g, g < wr.heap.size → pl' g = pl g) (hsr : ∀ x ∈ ws', x ∈ A.ws ∨ (RsI wn pl' x.y ∧ x.y.Sl ∧ SgB x.y.s ∧ 0 ≤ x.y.s.typ)) (hfew : ws'.length ≤ M') : SdI w0 wn pl' t M' { A with v := v', ws := ws' } := by
  have hTt : ∀ g, (g = A.r ∨ A.v.ownBlock = some g) → (pl g).1 = t + 1 := fun g e => e.elim (fun e => by rw [e]; exact h.fr) (fun e => h.fv g e)
  have hTm : ∀ g, g < wr.heap.size → (g = A.r ∨ A.v.ownBlock = some g) → mtb pl g := fun g _ e => by have := hTt g e; unfold mtb; omega
  refine ⟨(h.lg.keep hk (fun g hg e => by have := hTt g e; have := h.fl g hg; omega) (fun e => by have := hTt _ e; have := h.fp; omega)).mono hM, hrl, fun g hg => ?_, ?_, fun g hg => ?_, ?_, h.gw, fun K i z hi hz => ?_, h.pw, fun x hx => ?_, hfew⟩
  · rw [hsg g (h.lg.lt hg)]; exact h.fl g hg
  · rw [hsg _ (Array.getElem?_eq_some_iff.1 h.rl.box).1]; exact h.fr
  · rcases hat g hg with e | e
    · rw [hsg g (h.rl.row.lt g e).2]; exact h.fv g e
    · exact hpl g hg e
  · rw [hsg _ h.lg.plt]; exact h.fp
  · have hz := h.sg K i z hi hz
    exact hz.keep2 hk hTm hs (fun g h1 h2 => by rw [hsg g (by have := hz.hi; omega)]; exact hz.tg g h1 h2)
  · rcases hsr x hx with e | e
    · exact ⟨(h.sr x e).1.keep hk hTm hs, (h.sr x e).2⟩
    · exact e
theorem same_of {wr : World} {t : Nat} {pl pl' : Nat → Plc} (h : ∀ g, g < wr.heap.size → pl' g = pl g) : Same wr t pl pl' := fun g hg => .inl (h g hg)

/-! ## Drop -/
def drG (S1 S2 : Int) (all : Bool) (G : Int → Nat → List Sz) : Int → Nat → List Sz := fun K i => if i = 0 then G K 0 else (G K i).filter (fun z => !mnt S1 S2 all z.y.s)
theorem Py.pdrop {w0 wr wn : World} {pl : Nat → Plc} {M k bl br : Nat} {X : Nat → Sde} {hvl wvl : Value} {H : List Sz} {Wr Hr : List Sv} {S' : Pm} {E' : List En} {v : List Int} {S1 S2 : Int} {all : Bool} (h : Py w0 wr pl M X hvl Hr H wvl Wr bl br) (hk2 : k < 2) (hd : DpG wr wn (X k).p (X k).m (X k).lim (X k).S S' M (X k).c E' v S1 S2 all) : ∃ pl', Py w0 wn pl' M (upX X k { (X k) with S := S', c := (X k).c, E := E', G := drG S1 S2 all (X k).G }) hvl Hr H wvl Wr bl br ∧ (∀ g, g < wr.heap.size → pl' g = pl g) := by
  have hA := h.sd k hk2
  obtain ⟨pl', p1, p2, _⟩ := npl wr pl (FL (X k).m S') (1 + 2 * k) 0 0 (0, 0, 0)
  have hs : Same wr (1 + 2 * k) pl pl' := same_of p1
  have hTm : ∀ g, g < wr.heap.size → FL (X k).m (X k).S g → mtb pl g := fun g _ e => by have := hA.fl g e; unfold mtb; omega
  refine ⟨pl', h.call hk2 (Nat.le_refl _) hd.kl (fun g _ e => .inl (hA.fl g e)) hs ?_ rfl rfl, p1⟩
  refine hA.prog (by omega) (Nat.le_refl _) hd.kl hd.lg hd.fo hs (fun g h1 h2 => by rw [p2 g h2 h1]) (fun K i hi => ?_) (fun K i z hi hz => ?_) (fun K i hi => ?_)
  · have g := hA.gw K i hi
    rcases three hi with rfl | rfl | rfl
    · rw [hd.w0 K, g]; rfl
    · rw [hd.w1 K, g, kp_filter, List.filter_map]; rfl
    · rw [hd.w2 K, g, kp_filter, List.filter_map]; rfl
  · have hz' : z ∈ (X k).G K i := by
      unfold drG at hz
      split at hz
      · next e => subst e; exact hz
      · exact (List.mem_filter.mp hz).1
    have hi' := hA.sg K i z hi hz'
    exact hi'.keep2 hd.kl hTm hs (fun g h1 h2 => by rw [p1 g (by have := hi'.hi; omega)]; exact hi'.tg g h1 h2)
  · show (drG S1 S2 all (X k).G K i).Pairwise Sz.D
    unfold drG
    split
    · next e => subst e; exact hA.pw K 0 (by omega)
    · exact (hA.pw K i hi).filter _
theorem Py.rdrop {w0 wr wn : World} {pl : Nat → Plc} {M k bl br : Nat} {X : Nat → Sde} {hvl wvl : Value} {H : List Sz} {Wr Hr : List Sv} {v' : Value} {ws' : List Wa} (h : Py w0 wr pl M X hvl Hr H wvl Wr bl br) (hk2 : k < 2) (hrl : Rl wn (X k).r (X k).lim v' ws') (hnv : ∀ g, v'.ownBlock = some g → wr.heap.size ≤ g) (hkl : Kl (fun g => g = (X k).r) wr wn) (hm : ∀ x ∈ ws', x ∈ (X k).ws) (hlen : ws'.length ≤ (X k).ws.length) : ∃ pl', Py w0 wn pl' M (upX X k { (X k) with v := v', ws := ws' }) hvl Hr H wvl Wr bl br ∧ (∀ g, g < wr.heap.size → pl' g = pl g) ∧ (∀ g, wr.heap.size ≤ g → v'.ownBlock ≠ some g → (pl' g).1 = 7) := by
  have hA := h.sd k hk2
  obtain ⟨pl', p1, p2, _, p4⟩ := npl wr pl (fun g => v'.ownBlock = some g) (2 + 2 * k) 0 0 (0, 0, 0)
  have hs : Same wr (1 + 2 * k) pl pl' := same_of p1
  refine ⟨pl', h.call hk2 (Nat.le_refl _) hkl (fun g _ e => .inr (.inl (by rw [e, hA.fr]; omega))) hs ?_ rfl rfl, p1, fun g h1 h2 => by rw [p4 g h1 h2 (by omega)]⟩
  exact hA.refc (by omega) (Nat.le_refl _) (hkl.mono (fun g _ e => .inl e)) hrl (fun g hg => .inr (hnv g hg)) hs (fun g h1 h2 => by rw [p2 g h2 h1]; show 2 + 2 * k = _; omega) p1 (fun x hx => .inl (hm x hx)) (Nat.le_trans hlen hA.few)
theorem rel_drop {A : Sde} (hr : RelS A) (h0 : ∀ x ∈ A.ws, 0 ≤ x.y.s.typ) (S1 S2 : Int) (all : Bool) {A' : Sde} (hG : A'.G = drG S1 S2 all A.G) (hw : A'.ws = wkp S1 S2 all A.ws) : RelS A' := fun K i hi => by
  rw [hG, hw, Fk_wkp h0 K hi]
  unfold drG
  by_cases e : i = 0
  · subst e
    rw [if_pos rfl, if_pos rfl]
    exact hr K 0 hi
  · rw [if_neg e, if_neg e]
    have h1 := hr K i hi
    have h2 : ((A.G K i).map Sz.y).map Sv.s = (Fk K i A.ws).map Sv.s := by rw [List.map_map]; exact h1
    have h3 := filt_s (p := fun s => !mnt S1 S2 all s) h2
    rw [← h3, List.filter_map, List.map_map]
    rfl

/-! ## Put -/
def ptG (G : Int → Nat → List Sz) (K : Int) (k : Nat) (z : Sz) : Int → Nat → List Sz := fun K' i => if K' = K ∧ i = k then G K i ++ [z] else G K' i
theorem pw_snoc {l : List Sz} {z : Sz} (h : l.Pairwise Sz.D) (hz : ∀ x ∈ l, x.hi ≤ z.lo) : (l ++ [z]).Pairwise Sz.D := by
  rw [List.pairwise_append]
  exact ⟨h, by simp, fun a ha b hb g h1 h2 h3 h4 => by simp at hb; subst hb; have := hz a ha; omega⟩
theorem Py.pput {w0 wr wn : World} {pl : Nat → Plc} {M k bl br : Nat} {X : Nat → Sde} {hvl wvl : Value} {H : List Sz} {Wr Hr : List Sv} {S' : Pm} {c' : Nat} {E' : List En} {K : Int} {s : Sg} {y : Sv} {hx' tx' : List Xr} {lo hi : Nat} (h : Py w0 wr pl M X hvl Hr H wvl Wr bl br) (hk2 : k < 2) (hd : PtG wr wn (X k).p (X k).m (X k).lim K (X k).S S' M c' E' s y hx' tx' lo hi) : ∃ pl', Py w0 wn pl' (M + 1) (upX X k { (X k) with S := S', c := c', E := E', G := ptG (X k).G K (kdn s.typ) ⟨y, hx', tx', lo, hi⟩ }) hvl Hr H wvl Wr bl br ∧ (∀ g, g < wr.heap.size → pl' g = pl g) := by
  have hA := h.sd k hk2
  obtain ⟨pl', p1, p2, p3, _⟩ := npl wr pl (FL (X k).m S') (1 + 2 * k) lo hi (1 + 2 * k + 10, K, kdn s.typ)
  have hs : Same wr (1 + 2 * k) pl pl' := same_of p1
  have hTm : ∀ g, g < wr.heap.size → FL (X k).m (X k).S g → mtb pl g := fun g _ e => by have := hA.fl g e; unfold mtb; omega
  have h3 := (kd_n s.typ).2
  have tgz : ∀ g, lo ≤ g → g < hi → pl' g = (1 + 2 * k + 10, K, kdn s.typ) := fun g h1 h2 => p3 g (by have := hd.l0; omega) (fun e => hd.nf g e ⟨h1, h2⟩) h1 h2
  have hz : SzI w0 wn pl' (1 + 2 * k + 10, K, kdn s.typ) ⟨y, hx', tx', lo, hi⟩ := by
    refine ⟨fun W hW => hd.st W (fun g h1 h2 => hW.block g (by have := hd.h0; omega) (fun e => ?_)), ?_, hd.h0, tgz⟩
    · unfold mtb at e
      rw [tgz g h1 h2] at e
      have := e.2
      simp only at this
      omega
    · have := h.bw.size; have := hd.l0; show w0.heap.size ≤ lo; omega
  refine ⟨pl', h.call hk2 (by omega) hd.kl (fun g _ e => .inl (hA.fl g e)) hs ?_ rfl rfl, p1⟩
  refine hA.prog (by omega) (by omega) hd.kl hd.lg hd.fo hs (fun g h1 h2 => by rw [p2 g h2 h1]) (fun K' i hi3 => ?_) (fun K' i z hi3 hzz => ?_) (fun K' i hi3 => ?_)
  · unfold ptG
    by_cases e : K' = K
    · subst e
      rw [hd.wt i hi3, hA.gw K' i hi3]
      by_cases e2 : i = kdn s.typ
      · rw [if_pos e2, if_pos ⟨rfl, e2⟩, List.map_append]; rfl
      · rw [if_neg e2, if_neg (fun h => e2 h.2), List.append_nil]
    · rw [hd.ot K' e, if_neg (fun h => e h.1)]
      exact hA.gw K' i hi3
  · have old : z ∈ (X k).G K' i → SzI w0 wn pl' (1 + 2 * k + 10, K', i) z := fun hz' => by
      have hi' := hA.sg K' i z hi3 hz'
      exact hi'.keep2 hd.kl hTm hs (fun g h1 h2 => by rw [p1 g (by have := hi'.hi; omega)]; exact hi'.tg g h1 h2)
    have hzz' : z ∈ ptG (X k).G K (kdn s.typ) ⟨y, hx', tx', lo, hi⟩ K' i := hzz
    unfold ptG at hzz'
    split at hzz'
    · next e =>
      obtain ⟨e1, e2⟩ := e
      subst e1 e2
      rcases List.mem_append.mp hzz' with hz1 | hz1
      · exact old hz1
      · simp at hz1
        subst hz1
        exact hz
    · exact old hzz'
  · show (ptG (X k).G K (kdn s.typ) ⟨y, hx', tx', lo, hi⟩ K' i).Pairwise Sz.D
    unfold ptG
    split
    · next e =>
      obtain ⟨e1, e2⟩ := e
      subst e1 e2
      exact pw_snoc (hA.pw _ _ h3) (fun x hx => by have := (hA.sg _ _ x h3 hx).hi; have := hd.l0; show x.hi ≤ lo; omega)
    · exact hA.pw K' i hi3
theorem Py.rput {w0 wr wn : World} {pl : Nat → Plc} {M M' k bl br : Nat} {X : Nat → Sde} {hvl wvl : Value} {H : List Sz} {Wr Hr : List Sv} {K : Int} {s : Sg} {y : Sv} {v' : Value} {lo hi : Nat} (h : Py w0 wr pl M X hvl Hr H wvl Wr bl br) (hk2 : k < 2) (hd : RpP wr wn (X k).r (X k).lim K (X k).v v' (X k).ws s y lo hi) (hB : SgB s) (h0 : 0 ≤ s.typ) (hf : (X k).ws.length + 1 ≤ M) : ∃ pl', Py w0 wn pl' M (upX X k { (X k) with v := v', ws := (X k).ws ++ [⟨K, y⟩] }) hvl Hr H wvl Wr bl br ∧ (∀ g, g < wr.heap.size → pl' g = pl g) := by
  have hA := h.sd k hk2
  obtain ⟨pl', p1, p2, p3, _⟩ := npl wr pl (fun g => v'.ownBlock = some g) (2 + 2 * k) lo hi (0, 0, 0)
  have hs : Same wr (1 + 2 * k) pl pl' := same_of p1
  refine ⟨pl', h.call hk2 (Nat.le_refl _) hd.kl (fun g _ e => .inr (.inl (e.elim (fun e => by rw [e, hA.fr]; omega) (fun e => by rw [hA.fv g e]; omega)))) hs ?_ rfl rfl, p1⟩
  refine hA.refc (by omega) (Nat.le_refl _) hd.kl hd.rl hd.at' hs (fun g h1 h2 => by rw [p2 g h2 h1]; show 2 + 2 * k = _; omega) p1 (fun x hx => ?_) (by rw [List.length_append]; exact hf)
  rcases List.mem_append.mp hx with e | e
  · exact .inl e
  · simp at e
    subst e
    refine .inr ⟨fun W hW => hd.st W (fun g h1 h2 => hW.block g (by have := hd.h0; omega) (fun e => ?_)), hd.sl, by rw [hd.ys]; exact hB, by rw [hd.ys]; exact h0⟩
    unfold mtb at e
    rw [p3 g (by have := hd.l0; omega) (fun e2 => hd.nf g e2 ⟨h1, h2⟩) h1 h2] at e
    simp at e
theorem rel_put {A A' : Sde} {K : Int} {s : Sg} {z : Sz} {y : Sv} (hr : RelS A) (hG : A'.G = ptG A.G K (kdn s.typ) z) (hw : A'.ws = A.ws ++ [⟨K, y⟩]) (hz : z.y.s = s) (hy : y.s = s) : RelS A' := fun K' i hi => by
  rw [hG, hw, Fk_app, Fk_one, List.map_append, ← hr K' i hi]
  unfold ptG isK
  simp only [hy]
  by_cases e : K' = K
  · subst e
    by_cases e2 : i = kdn s.typ
    · subst e2
      simp [hz, hy]
    · have e3 : ¬ kdn s.typ = i := fun e => e2 e.symm
      simp [e2, e3]
  · have e3 : ¬ K = K' := fun e2 => e e2.symm
    simp [e, e3]

end Go.Proofs.YtdfdaambfihjaaaDoor.L

namespace Go.Proofs.YtdfdaambfihjaaaDoor.L
open Go.RowKit
set_option linter.unusedVariables false
set_option linter.unusedSimpArgs false

/-! ## Take -/
def gP (G : Int → Nat → List Sz) (K : Int) : Nat → List Sz
  | 0 => []
  | i + 1 => gP G K i ++ G K i
def tkG (G : Int → Nat → List Sz) (K : Int) (most : Nat) : Int → Nat → List Sz := fun K' i => if K' = K then (G K i).drop (most - (gP G K i).length) else G K' i
theorem gP_y {A : Sde} (hg : ∀ K i, i < 3 → Wt (A.S K) i = (A.G K i).map Sz.y) (K : Int) : ∀ i, i ≤ 3 → Pk (A.S K) i = (gP A.G K i).map Sz.y
  | 0, _ => rfl
  | i + 1, h => by
    show Pk (A.S K) i ++ Wt (A.S K) i = (gP A.G K i ++ A.G K i).map Sz.y
    rw [gP_y hg K i (by omega), hg K i (by omega), List.map_append]
theorem gP_s {A : Sde} (hr : RelS A) (K : Int) : ∀ i, i ≤ 3 → (gP A.G K i).map (fun z => z.y.s) = (Pf K A.ws i).map Sv.s
  | 0, _ => rfl
  | i + 1, h => by
    show (gP A.G K i ++ A.G K i).map _ = (Pf K A.ws i ++ Fk K i A.ws).map Sv.s
    rw [List.map_append, List.map_append, gP_s hr K i (by omega), hr K i (by omega)]
theorem gP_mem {G : Int → Nat → List Sz} {K : Int} {z : Sz} : ∀ {i : Nat}, z ∈ gP G K i → ∃ j, j < i ∧ z ∈ G K j
  | 0, h => by cases h
  | i + 1, h => by
    rcases List.mem_append.mp h with h | h
    · obtain ⟨j, hj, hz⟩ := gP_mem h
      exact ⟨j, by omega, hz⟩
    · exact ⟨i, by omega, h⟩
/-- No two of them share a block. -/
theorem gP_pw {w0 wr : World} {pl : Nat → Plc} {t M : Nat} {A : Sde} (h : SdI w0 wr pl t M A) (K : Int) : ∀ i, i ≤ 3 → (gP A.G K i).Pairwise Sz.D
  | 0, _ => List.Pairwise.nil
  | i + 1, hi => by
    show (gP A.G K i ++ A.G K i).Pairwise Sz.D
    rw [List.pairwise_append]
    refine ⟨gP_pw h K i (by omega), h.pw K i (by omega), fun a ha b hb g h1 h2 h3 h4 => ?_⟩
    obtain ⟨j, hj, hja⟩ := gP_mem ha
    have e1 := (h.sg K j a (by omega) hja).tg g h1 h2
    have e2 := (h.sg K i b (by omega) hb).tg g h3 h4
    rw [e1] at e2
    simp only [Prod.mk.injEq] at e2
    omega
theorem Py.add {w0 wr : World} {pl : Nat → Plc} {M bl br : Nat} {X : Nat → Sde} {hvl wvl : Value} {H : List Sz} {Wr Hr : List Sv} (h : Py w0 wr pl M X hvl Hr H wvl Wr bl br) {tz : List Sz} (h1 : ∀ z ∈ tz, SzI w0 wr pl (15, 0, 0) z) (h2 : (H ++ tz).Pairwise Sz.D) : Py w0 wr pl M X hvl Hr (H ++ tz) wvl Wr bl br :=
  ⟨h.sd, h.bw, h.nn, h.hr, h.wr', h.fh, h.fw, fun z hz => (List.mem_append.mp hz).elim (h.hs z) (h1 z), h2, h.hws, h.lb, h.rb, h.pb⟩
/-- The places of what was taken. -/
theorem npt (wr : World) (pl : Nat → Plc) (F T : Nat → Prop) (t : Nat) : ∃ pl' : Nat → Plc, (∀ g, g < wr.heap.size → T g → pl' g = (15, 0, 0)) ∧ (∀ g, g < wr.heap.size → ¬ T g → pl' g = pl g) ∧ (∀ g, wr.heap.size ≤ g → F g → pl' g = (t, 0, 0)) ∧ (∀ g, wr.heap.size ≤ g → ¬ F g → pl' g = (7, 0, 0)) := by
  classical
  refine ⟨fun g => if g < wr.heap.size then (if T g then (15, 0, 0) else pl g) else if F g then (t, 0, 0) else (7, 0, 0), fun g h1 h2 => ?_, fun g h1 h2 => ?_, fun g h1 h2 => ?_, fun g h1 h2 => ?_⟩
  · simp [h1, h2]
  · simp [h1, h2]
  · have : ¬ g < wr.heap.size := by omega
    simp [this, h2]
  · have : ¬ g < wr.heap.size := by omega
    simp [this, h2]
theorem Py.ptake {w0 wr wn : World} {pl : Nat → Plc} {M k bl br most : Nat} {X : Nat → Sde} {hvl wvl ov : Value} {H : List Sz} {Wr Hr : List Sv} {S' : Pm} {E' : List En} {K : Int} (h : Py w0 wr pl M X hvl Hr H wvl Wr bl br) (hk2 : k < 2) (hd : TkG wr wn (X k).p (X k).m (X k).lim K (X k).S S' M (X k).c (X k).E E' most ov) : ∃ pl', Py w0 wn pl' M (upX X k { (X k) with S := S', c := (X k).c, E := E', G := tkG (X k).G K most }) hvl Hr (H ++ (gP (X k).G K 3).take most) wvl Wr bl br ∧ (∀ g, g < wr.heap.size → (pl g).1 = 7 → (pl' g).1 = 7) ∧ (∀ g, ov.ownBlock = some g → (pl' g).1 = 7) ∧ wn.ownsRow 0 37 14 ov ((gP (X k).G K 3).take most).length (seg (((gP (X k).G K 3).take most).map Sz.y)) := by
  have hA := h.sd k hk2
  obtain ⟨tz, htz⟩ : ∃ tz, (gP (X k).G K 3).take most = tz := ⟨_, rfl⟩
  obtain ⟨pl', p1, p2, p3, p4⟩ := npt wr pl (FL (X k).m S') (fun g => ∃ z ∈ tz, z.lo ≤ g ∧ g < z.hi) (1 + 2 * k)
  have tzm : ∀ z ∈ tz, ∃ j, j < 3 ∧ z ∈ (X k).G K j := fun z hz => by
    rw [← htz] at hz
    exact gP_mem (List.mem_of_mem_take hz)
  have hs : Same wr (1 + 2 * k) pl pl' := fun g hg => by
    by_cases e : ∃ z ∈ tz, z.lo ≤ g ∧ g < z.hi
    · obtain ⟨z, hz, h1, h2⟩ := e
      obtain ⟨j, hj, hzj⟩ := tzm z hz
      exact .inr ⟨by rw [(hA.sg K j z hj hzj).tg g h1 h2], by rw [p1 g hg ⟨z, hz, h1, h2⟩]⟩
    · exact .inl (p2 g hg e)
  have hTm : ∀ g, g < wr.heap.size → FL (X k).m (X k).S g → mtb pl g := fun g _ e => by have := hA.fl g e; unfold mtb; omega
  have hpy : Py w0 wn pl' M (upX X k { (X k) with S := S', c := (X k).c, E := E', G := tkG (X k).G K most }) hvl Hr H wvl Wr bl br := by
    refine h.call hk2 (Nat.le_refl _) hd.kl (fun g _ e => .inl (hA.fl g e)) hs ?_ rfl rfl
    have pl3 : ∀ i, i ≤ 3 → (Pk ((X k).S K) i).length = (gP (X k).G K i).length := fun i hi => by rw [gP_y hA.gw K i hi, List.length_map]
    refine hA.prog (by omega) (Nat.le_refl _) hd.kl hd.lg hd.fo hs (fun g h1 h2 => by rw [p3 g h2 h1]) (fun K' i hi => ?_) (fun K' i z hi hz => ?_) (fun K' i hi => ?_)
    · unfold tkG
      by_cases e : K' = K
      · subst e
        rw [if_pos rfl, hd.rem i hi, hA.gw K' i hi, pl3 i (by omega), List.map_drop]
      · rw [if_neg e, hd.ot K' e]
        exact hA.gw K' i hi
    · have hz' : z ∈ (X k).G K' i := by
        have : z ∈ tkG (X k).G K most K' i := hz
        unfold tkG at this
        split at this
        · next e => subst e; exact List.mem_of_mem_drop this
        · exact this
      have hi' := hA.sg K' i z hi hz'
      refine hi'.keep2 hd.kl hTm hs (fun g h1 h2 => ?_)
      have hgl : g < wr.heap.size := by have := hi'.hi; omega
      rw [p2 g hgl ?_]
      · exact hi'.tg g h1 h2
      · rintro ⟨z2, hz2, h3, h4⟩
        obtain ⟨j, hj, hzj⟩ := tzm z2 hz2
        have e1 := hi'.tg g h1 h2
        have e2 := (hA.sg K j z2 hj hzj).tg g h3 h4
        rw [e1] at e2
        simp only [Prod.mk.injEq, true_and] at e2
        obtain ⟨e3, e4⟩ := e2
        subst e3 e4
        have hz3 : z ∈ ((X k).G K' i).drop (most - (gP (X k).G K' i).length) := by
          have : z ∈ tkG (X k).G K' most K' i := hz
          unfold tkG at this
          rwa [if_pos rfl] at this
        have hpw := gP_pw hA K' 3 (Nat.le_refl _)
        have hsp : gP (X k).G K' 3 = (gP (X k).G K' 3).take most ++ (gP (X k).G K' 3).drop most := (List.take_append_drop _ _).symm
        rw [hsp, List.pairwise_append] at hpw
        refine hpw.2.2 z2 (by rw [htz]; exact hz2) z ?_ g h3 h4 h1 h2
        rcases three hi with rfl | rfl | rfl
        · show z ∈ (((([] : List Sz) ++ (X k).G K' 0) ++ (X k).G K' 1) ++ (X k).G K' 2).drop most
          rw [List.nil_append, List.append_assoc, List.drop_append]
          exact List.mem_append.mpr (.inl (by simpa [gP] using hz3))
        · show z ∈ (((([] : List Sz) ++ (X k).G K' 0) ++ (X k).G K' 1) ++ (X k).G K' 2).drop most
          rw [List.nil_append, List.append_assoc, List.drop_append, List.drop_append]
          exact List.mem_append.mpr (.inr (List.mem_append.mpr (.inl (by simpa [gP] using hz3))))
        · show z ∈ (((([] : List Sz) ++ (X k).G K' 0) ++ (X k).G K' 1) ++ (X k).G K' 2).drop most
          rw [List.nil_append, List.drop_append]
          exact List.mem_append.mpr (.inr (by simpa [gP] using hz3))
    · show (tkG (X k).G K most K' i).Pairwise Sz.D
      unfold tkG
      split
      · next e => exact (hA.pw K i hi).drop
      · exact hA.pw K' i hi
  have h15 : ∀ z ∈ tz, SzI w0 wn pl' (15, 0, 0) z := fun z hz => by
    obtain ⟨j, hj, hzj⟩ := tzm z hz
    have hi' := hA.sg K j z hj hzj
    exact hi'.keep2 hd.kl hTm hs (fun g h1 h2 => p1 g (by have := hi'.hi; omega) ⟨z, hz, h1, h2⟩)
  have hpw : (H ++ tz).Pairwise Sz.D := by
    rw [List.pairwise_append]
    refine ⟨h.hp, ?_, fun a ha b hb g h1 h2 h3 h4 => ?_⟩
    · rw [← htz]
      exact (gP_pw hA K 3 (Nat.le_refl _)).take
    · obtain ⟨j, hj, hzj⟩ := tzm b hb
      have e1 := (h.hs a ha).tg g h1 h2
      have e2 := (hA.sg K j b hj hzj).tg g h3 h4
      rw [e1] at e2
      simp only [Prod.mk.injEq] at e2
      omega
  rw [htz]
  refine ⟨pl', hpy.add h15 hpw, fun g hg h7 => by rw [hs.eq hg (by omega)]; exact h7, fun g hg => ?_, ?_⟩
  · obtain ⟨n1, n2⟩ := hd.new g hg
    rw [p4 g n1 n2]
  · have ho := hd.out
    have e : (Cc ((X k).S K)).take most = tz.map Sz.y := by
      show (Pk ((X k).S K) 3).take most = _
      rw [gP_y hA.gw K 3 (Nat.le_refl _), ← htz, List.map_take]
    rw [e, List.length_map] at ho
    exact ho
theorem rel_take {A A' : Sde} {K : Int} {most : Nat} (hr : RelS A) (hG : A'.G = tkG A.G K most) (hl : LfI K most A.ws A.ws.length A'.ws) : RelS A' := fun K' i hi => by
  rw [hG]
  unfold tkG
  by_cases e : K' = K
  · subst e
    rw [if_pos rfl, hl.me i hi, List.take_length, List.map_drop, List.map_drop, hr K' i hi]
    have := congrArg List.length (gP_s hr K' i (by omega))
    rw [List.length_map, List.length_map] at this
    rw [this]
  · rw [if_neg e, hl.ot K' i e, List.take_length]
    exact hr K' i hi
/-- The row of what was taken, or that of what they are, has grown. -/
theorem Py.rows {w0 wr wn : World} {pl : Nat → Plc} {M bl br : Nat} {X : Nat → Sde} {hvl wvl hv' wv' : Value} {H : List Sz} {Wr Hr Hr' Wr' : List Sv} {T : Nat → Prop} (h : Py w0 wr pl M X hvl Hr H wvl Wr bl br) (hk : Kl T wr wn) (hT : ∀ g, g < wr.heap.size → T g → (pl g).1 = 5 ∨ (pl g).1 = 6 ∨ (pl g).1 = 7) {pl' : Nat → Plc} (hpl : ∀ g, g < wr.heap.size → pl' g = pl g) (h1 : wn.ownsRow 0 37 14 hv' Hr'.length (seg Hr')) (h2 : wn.ownsRow 0 37 14 wv' Wr'.length (seg Wr')) (f1 : ∀ g, hv'.ownBlock = some g → (pl' g).1 = 5) (f2 : ∀ g, wv'.ownBlock = some g → (pl' g).1 = 6) (hw : ∀ y ∈ Wr', y ∈ Wr ∨ RsI wn pl' y) : Py w0 wn pl' M X hv' Hr' H wv' Wr' bl br := by
  have hTm : ∀ g, g < wr.heap.size → T g → mtb pl g := fun g hg e => by have := hT g hg e; unfold mtb; omega
  have hs : Same wr 90 pl pl' := same_of hpl
  have hbl := (Array.getElem?_eq_some_iff.1 h.lb).1
  have hbr := (Array.getElem?_eq_some_iff.1 h.rb).1
  have hs0 : ∀ j, Same wr (if j = 0 then 4 else 2) pl pl' := fun j => same_of hpl
  refine ⟨fun j hj => ?_, ?_, fun g hg hm => ?_, h1, h2, f1, f2, fun z hz => (h.hs z hz).keep hk hTm hs (by show (15 : Nat) ≠ 90 + 10; omega), h.hp, fun y hy => ?_, ?_, ?_, ?_, ?_⟩
  · refine (h.sd j hj).keep (t := if j = 0 then 4 else 2) hk (fun g hg e => ⟨hTm g hg e, by have := hT g hg e; omega, by have := hT g hg e; omega⟩) (hs0 j) ?_ ?_ (Nat.le_refl _)
    · split <;> omega
    · split <;> omega
  · have k1 := (Kl.of_below (S := T) h.bw).then hk (fun _ _ e => e)
    exact ⟨k1.os, k1.tape, k1.output, k1.size, fun g hg => k1.block g hg (fun e => by have hl := Nat.lt_of_lt_of_le hg h.bw.size; have := h.nn g hl (hTm g hl e); omega)⟩
  · by_cases hg2 : g < wr.heap.size
    · exact h.nn g hg2 (hs.mtb hg2 hm)
    · have := h.bw.size; omega
  · rcases hw y hy with e | e
    · exact (h.hws y e).keep hk hTm hs
    · exact e
  · exact (hk.block bl hbl (fun e => by have := hT bl hbl e; have := h.pb.1; omega)).trans h.lb
  · exact (hk.block br hbr (fun e => by have := hT br hbr e; have := h.pb.2; omega)).trans h.rb
  · rw [hpl bl hbl]; exact h.pb.1
  · rw [hpl br hbr]; exact h.pb.2

end Go.Proofs.YtdfdaambfihjaaaDoor.L

namespace Go.Proofs.YtdfdaambfihjaaaDoor.L
open Go.RowKit
set_option linter.unusedVariables false
set_option linter.unusedSimpArgs false

def xsE (l : List Go.Proofs.YtdfdaambfihjaaaDoor.Ex) : Bool := decide (l.length ≤ 15) && l.all (fun e => btw e.tag 0 255 && decide (e.data.length ≤ 200))
theorem xsOk_ex (xs : List Xr) : xsOk xs = xsE (xs.map Xr.ex) := by
  unfold xsOk xsE
  rw [List.length_map, List.all_map]
  rfl
theorem may_ex {h : Int} {s : Sg} {hx tx hy ty : List Xr} (e1 : hx.map Xr.ex = hy.map Xr.ex) (e2 : tx.map Xr.ex = ty.map Xr.ex) : may h s hx tx = may h s hy ty := by
  unfold may
  rw [xsOk_ex hx, xsOk_ex tx, e1, e2, ← xsOk_ex, ← xsOk_ex]
/-- What is printed hangs on what the extensions say alone. -/
theorem prt_ex {s : Sg} {hx tx hy ty : List Xr} (e1 : hx.map Xr.ex = hy.map Xr.ex) (e2 : tx.map Xr.ex = ty.map Xr.ex) : prt s hx tx = prt s hy ty := by
  unfold prt
  rw [may_ex e1 e2]

set_option maxRecDepth 100000 in
set_option maxHeartbeats 4000000 in
theorem rightR_any (s : Sg) (hv tv dv cv : Value) (hx tx : List Xr) (w : World) (hs : SIn w s hv tv dv cv hx tx) :
    Calls Tryd.prog 44 #[.agg (svC s hv tv dv cv)] w fun e w' => e = .returned (.int .i64 (prt s hx tx).1) ∧ Below w.heap.size w w' := by
  obtain ⟨W, hW⟩ : ∃ W, w.alloc (.cells (svC s hv tv dv cv) 37) = W := ⟨_, rfl⟩
  have HWe : Hid (w.alloc (.cells (svC s hv tv dv cv) 37) = W) := hW
  have hbW : Below w.heap.size w W := by rw [← hW]; exact (Below.refl _ _).alloc (Nat.le_refl _) _
  have HBW : Hid (Below w.heap.size w W) := hbW
  have hr : W.heap[w.heap.size]? = some (.cells (svC s hv tv dv cv) 37 (0, 0)) := by rw [← hW]; exact heap_alloc_new' _ _
  obtain ⟨y0, y1, y2, y3, y4, y5, y6, y7, y8, y9, y10, y11, y12, y13⟩ := s14_cells hr
  have hP := rqPrint_any s hv tv dv cv hx tx W (hs.below hbW)
  obtain ⟨z, hz⟩ : ∃ z, (prt s hx tx).1 = z := ⟨_, rfl⟩
  have HZ : Hid ((prt s hx tx).1 = z) := hz
  rw [hz]
  clear hW hbW hr hs hz
  go_enter Tryd.func44, Tryd.ntmps44
  go_wp2_with fail
  rw [HWe.out]
  refine hP.mono ?_
  rintro e w1 ⟨a, c, rfl, _, hb⟩
  rw [HZ.out]
  have HF : Hid (Below w.heap.size w w1) := HBW.out.trans (hb.mono HBW.out.size)
  clear hb hP y0 y1 y2 y3 y4 y5 y6 y7 y8 y9 y10 y11 y12 y13
  go_wp2
  go_ret
  exact ⟨rfl, HF.out⟩

end Go.Proofs.YtdfdaambfihjaaaDoor.L
