import Derived.Test.YtdfdaambfihjaaaDoorLnSp
namespace Go.Proofs.YtdfdaambfihjaaaDoor.L
open Go.RowKit
set_option linter.unusedVariables false
set_option linter.unusedSimpArgs false

/-! ## The ends of the law's steps -/
theorem Py.belZ {w0 wr wn : World} {pl : Nat → Plc} {M bl br : Nat} {X : Nat → Sde} {hvl wvl : Value} {H : List Sz} {Wr Hr : List Sv} (h : Py w0 wr pl M X hvl Hr H wvl Wr bl br) (hb : Below wr.heap.size wr wn) (Z : Nat → Prop) : ∃ pl', Py w0 wn pl' M X hvl Hr H wvl Wr bl br ∧ (∀ g, g < wr.heap.size → pl' g = pl g) ∧ (∀ g, wr.heap.size ≤ g → Z g → pl' g = (0, 0, 0)) ∧ (∀ g, wr.heap.size ≤ g → ¬ Z g → pl' g = (7, 0, 0)) := by
  obtain ⟨pl', p1, p2, p3, p4⟩ := npl wr pl Z 0 0 0 (0, 0, 0)
  refine ⟨pl', ?_, p1, p2, fun g h1 h2 => p4 g h1 h2 (by omega)⟩
  exact h.rows (T := fun _ => False) (Kl.of_below hb) (fun _ _ e => e.elim) p1 (own_blk h.hr (fun g hg => hb.block g (h.hr.lt g hg).2)) (own_blk h.wr' (fun g hg => hb.block g (h.wr'.lt g hg).2)) (fun g hg => by rw [p1 g (h.hr.lt g hg).2]; exact h.fh g hg) (fun g hg => by rw [p1 g (h.wr'.lt g hg).2]; exact h.fw g hg) (fun y hy => .inl hy)
theorem grown_kl {w w' : World} {row : Option Nat} (h : w.grownBy w' row) : Kl (fun g => row = some g) w w' := (Kl.refl _ _).grown h (fun k hk => .inl hk)
theorem Py.heldApp {w0 wr wn : World} {pl : Nat → Plc} {M bl br : Nat} {X : Nat → Sde} {hvl wvl hv' : Value} {H : List Sz} {Wr Hr Y : List Sv} (h : Py w0 wr pl M X hvl Hr H wvl Wr bl br) (ho : wn.ownsRow 0 37 14 hv' (Hr.length + Y.length) (seg Hr ++ seg Y)) (hg : wr.grownBy wn hvl.ownBlock) (hat : hv'.ownBlock = hvl.ownBlock ∨ hv'.ownBlock = some wr.heap.size) : ∃ pl', Py w0 wn pl' M X hv' (Hr ++ Y) H wvl Wr bl br ∧ (∀ g, g < wr.heap.size → pl' g = pl g) := by
  obtain ⟨pl', p1, p2, p3, p4⟩ := npl wr pl (fun g => hv'.ownBlock = some g) 5 0 0 (0, 0, 0)
  refine ⟨pl', ?_, p1⟩
  refine h.rows (T := fun g => hvl.ownBlock = some g) (grown_kl hg) (fun g _ e => .inl (h.fh g e)) p1 (by rw [List.length_append, seg_app]; exact ho) ((grown_kl hg).own h.wr' (fun g h1 h2 => by have := h.fh g h2; have := h.fw g h1; omega)) (fun g e => ?_) (fun g e => by rw [p1 g (h.wr'.lt g e).2]; exact h.fw g e) (fun y hy => .inl hy)
  by_cases hg2 : g < wr.heap.size
  · rw [p1 g hg2]
    rcases hat with e2 | e2
    · exact h.fh g (by rw [← e2]; exact e)
    · rw [e] at e2; simp at e2; omega
  · rw [p2 g (by omega) e]
theorem Py.wereApp {w0 wr wn : World} {pl : Nat → Plc} {M bl br : Nat} {X : Nat → Sde} {hvl wvl wv' : Value} {H : List Sz} {Wr Hr Y : List Sv} (h : Py w0 wr pl M X hvl Hr H wvl Wr bl br) (ho : wn.ownsRow 0 37 14 wv' (Wr.length + Y.length) (seg Wr ++ seg Y)) (hg : wr.grownBy wn wvl.ownBlock) (hat : wv'.ownBlock = wvl.ownBlock ∨ wv'.ownBlock = some wr.heap.size) (hY : ∀ y ∈ Y, RsI wr pl y) : ∃ pl', Py w0 wn pl' M X hvl Hr H wv' (Wr ++ Y) bl br ∧ (∀ g, g < wr.heap.size → pl' g = pl g) := by
  obtain ⟨pl', p1, p2, p3, p4⟩ := npl wr pl (fun g => wv'.ownBlock = some g) 6 0 0 (0, 0, 0)
  have hTm : ∀ g, g < wr.heap.size → wvl.ownBlock = some g → mtb pl g := fun g _ e => by have := h.fw g e; unfold mtb; omega
  refine ⟨pl', ?_, p1⟩
  refine h.rows (T := fun g => wvl.ownBlock = some g) (grown_kl hg) (fun g _ e => .inr (.inl (h.fw g e))) p1 ((grown_kl hg).own h.hr (fun g h1 h2 => by have := h.fw g h2; have := h.fh g h1; omega)) (by rw [List.length_append, seg_app]; exact ho) (fun g e => by rw [p1 g (h.hr.lt g e).2]; exact h.fh g e) (fun g e => ?_) (fun y hy => ?_)
  · by_cases hg2 : g < wr.heap.size
    · rw [p1 g hg2]
      rcases hat with e2 | e2
      · exact h.fw g (by rw [← e2]; exact e)
      · rw [e] at e2; simp at e2; omega
    · rw [p2 g (by omega) e]
  · rcases List.mem_append.mp hy with e | e
    · exact .inl e
    · exact .inr ((hY y e).keep (t := 90) (grown_kl hg) hTm (same_of p1))
theorem zst_rsi {wr : World} {pl : Nat → Plc} {Z : Nat → Prop} {y : Sv} (h : Zst Z wr y) (h1 : ∀ g, Z g → g < wr.heap.size ∧ pl g = (0, 0, 0)) : RsI wr pl y := fun W hW => h W (fun g hg => hW.block g (h1 g hg).1 (fun e => by unfold mtb at e; rw [(h1 g hg).2] at e; simp at e))
theorem LS.keepT {w w' : World} {base top B1 B2 B3 : Nat} {s : Sg} {hx tx hR tR : List Xr} {gh gt gd gc : Nat} (h : LS w base B1 B2 B3 s hx tx hR tR gh gt gd gc) (hgc : gc < top) (h3 : B3 ≤ top) (hb : ∀ k, base ≤ k → k < top → w'.heap[k]? = w.heap[k]?) : LS w' base B1 B2 B3 s hx tx hR tR gh gt gd gc := by
  have hc := (h.clm.lt gc rfl)
  have hd := h.gdb
  have h1 := h.head.g0
  have h2 := h.tail.g0
  exact ⟨h.head.keep fun k _ hk => hb k (by omega) (by omega), h.tail.keep fun k _ hk => hb k (by omega) (by omega), (hb gd (by omega) (by omega)).trans h.data, h.gdb, own_blk h.clm (fun g hg => by
    have e : gc = g := by simpa [Value.ownBlock] using hg
    subst e
    exact hb gc (by omega) (by omega))⟩

/-! ### Drop -/
theorem ws_up {X : Nat → Sde} {k : Nat} {A : Sde} (h : A.ws.length ≤ (X k).ws.length) (j : Nat) : (upX X k A j).ws.length ≤ (X j).ws.length := by
  by_cases e : j = k
  · subst e; rw [upX_same]; exact h
  · rw [upX_other X A e]; exact Nat.le_refl _
theorem li_drop {w W1 U1 U2 : World} {pl1 : Nat → Plc} {i bl br kk : Nat} {X : Nat → Sde} {hvl wvl v' : Value} {H : List Sz} {Wr : List Sv} {S' : Pm} {E' : List En} {v : List Int} {S1 S2 : Int} {all : Bool} (hk2 : kk < 2) (h : Py w W1 pl1 i X hvl (H.map Sz.y) H wvl Wr bl br) (hrel : ∀ k, k < 2 → RelS (X k)) (hHW : H.map (fun z => z.y.s) = Wr.map Sv.s) (hcnt : H.length + (X 0).ws.length + (X 1).ws.length ≤ i) (hd : DpG W1 U1 (X kk).p (X kk).m (X kk).lim (X kk).S S' i (X kk).c E' v S1 S2 all) (hr : Rl U2 (X kk).r (X kk).lim v' (wkp S1 S2 all (X kk).ws)) (hnv : ∀ g, v'.ownBlock = some g → U1.heap.size ≤ g) (hkl : Kl (fun g => g = (X kk).r) U1 U2) : LI w U2 bl br (i + 1) hvl wvl := by
  obtain ⟨pl2, h2, _⟩ := h.pdrop hk2 hd
  obtain ⟨X1, hX1⟩ : ∃ X1, upX X kk { (X kk) with S := S', c := (X kk).c, E := E', G := drG S1 S2 all (X kk).G } = X1 := ⟨_, rfl⟩
  have e1 : X1 kk = { (X kk) with S := S', c := (X kk).c, E := E', G := drG S1 S2 all (X kk).G } := by rw [← hX1, upX_same]
  have e2 : ∀ j, j ≠ kk → X1 j = X j := fun j hj => by rw [← hX1, upX_other X _ hj]
  rw [hX1] at h2
  have f : (wkp S1 S2 all (X kk).ws).length ≤ (X kk).ws.length := List.length_filter_le _ _
  obtain ⟨pl3, h3, _⟩ := h2.rdrop (wn := U2) (v' := v') (ws' := wkp S1 S2 all (X kk).ws) hk2 (by rw [e1]; exact hr) hnv (by rw [e1]; exact hkl) (fun x hx => by rw [e1]; exact (List.mem_filter.mp hx).1) (by rw [e1]; exact f)
  refine ⟨pl3, _, H, Wr, fun k hk => ?_, h3.up (by omega), hHW, ?_⟩
  · by_cases e : k = kk
    · subst e
      rw [upX_same]
      refine rel_drop (hrel k hk) (fun x hx => ((h.sd k hk).sr x hx).2.2.2) S1 S2 all (by rw [e1]) rfl
    · rw [upX_other X1 _ e, e2 k e]
      exact hrel k hk
  · have q0 : (upX X1 kk { (X1 kk) with v := v', ws := wkp S1 S2 all (X kk).ws } 0).ws.length ≤ (X 0).ws.length := by
      refine Nat.le_trans (ws_up (by rw [e1]; exact f) 0) ?_
      rw [← hX1]; refine ws_up ?_ 0; exact Nat.le_refl _
    have q1 : (upX X1 kk { (X1 kk) with v := v', ws := wkp S1 S2 all (X kk).ws } 1).ws.length ≤ (X 1).ws.length := by
      refine Nat.le_trans (ws_up (by rw [e1]; exact f) 1) ?_
      rw [← hX1]; refine ws_up ?_ 1; exact Nat.le_refl _
    omega

/-! ### Put -/
def ocm (K z : Int) (kd : Nat) (lim : Int) (c : Nat) : Int := if 1 ≤ K ∧ K ≤ 4611686018427387903 then (if z = 0 then (if kd = 0 ∧ lim ≤ (c : Int) then 110 else 0) else z) else 1
def PO (W2 U3 : World) (A : Sde) (K : Int) (i : Nat) (s : Sg) (q : Int) : Prop := (q ≠ 0 ∧ Below W2.heap.size W2 U3) ∨ (q = 0 ∧ ∃ S' c' E' y hx' tx' lo hi, PtG W2 U3 A.p A.m A.lim K A.S S' i c' E' s y hx' tx' lo hi)
def RO (U3 U4 : World) (A : Sde) (K : Int) (s : Sg) (q : Int) : Prop := (q ≠ 0 ∧ Below U3.heap.size U3 U4) ∨ (q = 0 ∧ ∃ v' y lo hi, RpP U3 U4 A.r A.lim K A.v v' A.ws s y lo hi)
theorem PO.kl {W2 U3 : World} {A : Sde} {K : Int} {i : Nat} {s : Sg} {q : Int} (h : PO W2 U3 A K i s q) : Kl (FL A.m A.S) W2 U3 := by
  rcases h with ⟨_, h⟩ | ⟨_, _, _, _, _, _, _, _, _, h⟩
  · exact Kl.of_below h
  · exact h.kl
theorem RO.kl {U3 U4 : World} {A : Sde} {K : Int} {s : Sg} {q : Int} (h : RO U3 U4 A K s q) : Kl (fun g => g = A.r ∨ A.v.ownBlock = some g) U3 U4 := by
  rcases h with ⟨_, h⟩ | ⟨_, _, _, _, _, h⟩
  · exact Kl.of_below h
  · exact h.kl
theorem putO {W : World} {A : Sde} {i : Nat} {K : Int} (h : Lg W A.p A.m A.lim A.S i A.c A.E) (hM : i ≤ 1048576) (s : Sg) (hv tv dv cv : Value) (hx tx : List Xr) (hs : ∀ V, Kl (FL A.m A.S) W V → SIn V s hv tv dv cv hx tx) (hT : Tab W) (q : Int) (hq : ocm K (prt s hx tx).1 (kdn s.typ) A.lim (Wt (A.S K) 0).length = q) :
    Calls Tryd.prog 17 #[.pointer (some ⟨A.p, 0, none⟩), .int .i64 K, .agg (svC s hv tv dv cv)] W fun e w' => e = .returned (.int .i64 q) ∧ PO W w' A K i s q := by
  unfold ocm at hq
  by_cases hK : 1 ≤ K ∧ K ≤ 4611686018427387903
  · rw [if_pos hK] at hq
    refine (putG W A.p A.m A.lim K A.S i A.c A.E h (by omega) hK.1 hK.2 s hv tv dv cv hx tx hs hT _ rfl).mono ?_
    rintro e w' (⟨r, hr0, rfl, hl, hb, ⟨hz, hr⟩ | ⟨hz, hk, hl2, hr⟩⟩ | ⟨hz, hk, rfl, S', c', E', y, hx', tx', lo, hi, hP⟩)
    · rw [if_neg hz] at hq
      rw [hr, ← hq]
      exact ⟨rfl, .inl ⟨hz, hb⟩⟩
    · rw [if_pos hz, if_pos ⟨hk, hl2⟩] at hq
      rw [hr, ← hq]
      exact ⟨rfl, .inl ⟨by decide, hb⟩⟩
    · rw [if_pos hz, if_neg (fun e => by have := hk e.1; omega)] at hq
      rw [← hq]
      exact ⟨rfl, .inr ⟨rfl, S', c', E', y, hx', tx', lo, hi, hP⟩⟩
  · rw [if_neg hK] at hq
    refine (putNo W A.p K hK s hv tv dv cv).mono ?_
    rintro e w' ⟨rfl, hb⟩
    rw [← hq]
    exact ⟨rfl, .inl ⟨by decide, hb⟩⟩
theorem rputNo (w : World) (p : Nat) (K : Int) (hK : ¬ (1 ≤ K ∧ K ≤ 4611686018427387903)) (s : Sg) (hv tv dv cv : Value) :
    Calls Tryd.prog 18 #[.pointer (some ⟨p, 0, none⟩), .int .i64 K, .agg (svC s hv tv dv cv)] w fun e w' => e = .returned (.int .i64 1) ∧ Below w.heap.size w w' := by
  have HB : Hid (Below w.heap.size w (w.alloc (.cells (svC s hv tv dv cv) 37))) := (Below.refl _ _).alloc (Nat.le_refl _) _
  by_cases h1 : K < 1
  · clear hK
    go_enter Tryd.func18, Tryd.ntmps18
    go_wp2
    go_ret
    exact ⟨rfl, HB.out⟩
  · have h2 : 4611686018427387903 < K := by omega
    clear hK
    go_enter Tryd.func18, Tryd.ntmps18
    go_wp2
    go_ret
    exact ⟨rfl, HB.out⟩
theorem putRO {W : World} {A : Sde} {K : Int} (h : Rl W A.r A.lim A.v A.ws) (hM : A.ws.length ≤ 1048576) (s : Sg) (hv tv dv cv : Value) (hx tx : List Xr) (hs : SIn W s hv tv dv cv hx tx) (q : Int) (hq : ocm K (prt s hx tx).1 (kdn s.typ) A.lim (wan K A.ws) = q) :
    Calls Tryd.prog 18 #[.pointer (some ⟨A.r, 0, none⟩), .int .i64 K, .agg (svC s hv tv dv cv)] W fun e w' => e = .returned (.int .i64 q) ∧ RO W w' A K s q := by
  unfold ocm at hq
  by_cases hK : 1 ≤ K ∧ K ≤ 4611686018427387903
  · rw [if_pos hK] at hq
    refine (rput_any W A.r A.lim K A.v A.ws h _ rfl (by omega) hK.1 hK.2 s hv tv dv cv hx tx hs _ rfl (fun V hV => rightR_any s hv tv dv cv hx tx V hV)).mono ?_
    rintro e w' (⟨r, hr0, rfl, hb, ⟨hz, hr⟩ | ⟨hz, hk, hl2, hr⟩⟩ | ⟨hz, hk, rfl, v', y, lo, hi, hP⟩)
    · rw [if_neg hz] at hq
      rw [hr, ← hq]
      exact ⟨rfl, .inl ⟨hz, hb⟩⟩
    · rw [if_pos hz, if_pos ⟨hk, hl2⟩] at hq
      rw [hr, ← hq]
      exact ⟨rfl, .inl ⟨by decide, hb⟩⟩
    · rw [if_pos hz, if_neg (fun e => by have := hk e.1; omega)] at hq
      rw [← hq]
      exact ⟨rfl, .inr ⟨rfl, v', y, lo, hi, hP⟩⟩
  · rw [if_neg hK] at hq
    refine (rputNo W A.r K hK s hv tv dv cv).mono ?_
    rintro e w' ⟨rfl, hb⟩
    rw [← hq]
    exact ⟨rfl, .inl ⟨by decide, hb⟩⟩
theorem ocm_ok {K z : Int} {kd : Nat} {lim : Int} {c : Nat} (h : ocm K z kd lim c = 0) : z = 0 := by
  unfold ocm at h
  split at h
  · split at h
    · next e => exact e
    · exact h
  · cases h
theorem Py.putP {w0 wr wn : World} {pl : Nat → Plc} {M k bl br : Nat} {X : Nat → Sde} {hvl wvl : Value} {H : List Sz} {Wr Hr : List Sv} {K : Int} {s : Sg} {q : Int} (h : Py w0 wr pl M X hvl Hr H wvl Wr bl br) (hk2 : k < 2) (hp : PO wr wn (X k) K M s q) : ∃ pl' X1, Py w0 wn pl' (M + 1) X1 hvl Hr H wvl Wr bl br ∧ (∀ g, g < wr.heap.size → pl' g = pl g) ∧ (∀ j, j ≠ k → X1 j = X j) ∧ ((X1 k).r = (X k).r ∧ (X1 k).lim = (X k).lim ∧ (X1 k).v = (X k).v ∧ (X1 k).ws = (X k).ws) ∧ ((q ≠ 0 ∧ (X1 k).G = (X k).G) ∨ (q = 0 ∧ ∃ z : Sz, z.y.s = s ∧ (X1 k).G = ptG (X k).G K (kdn s.typ) z)) := by
  rcases hp with ⟨hq, hb⟩ | ⟨hq, S', c', E', y, hx', tx', lo, hi, hP⟩
  · exact ⟨_, X, (h.below hb).up (by omega), fun g hg => trash_old hg, fun j _ => rfl, ⟨rfl, rfl, rfl, rfl⟩, .inl ⟨hq, rfl⟩⟩
  · obtain ⟨pl', h2, h3⟩ := h.pput hk2 hP
    refine ⟨pl', _, h2, h3, fun j hj => upX_other X _ hj, by rw [upX_same]; exact ⟨rfl, rfl, rfl, rfl⟩, .inr ⟨hq, _, hP.ys, by rw [upX_same]⟩⟩
theorem Py.putR {w0 wr wn : World} {pl : Nat → Plc} {M k bl br : Nat} {X : Nat → Sde} {hvl wvl : Value} {H : List Sz} {Wr Hr : List Sv} {K : Int} {s : Sg} {q : Int} (h : Py w0 wr pl M X hvl Hr H wvl Wr bl br) (hk2 : k < 2) (hp : RO wr wn (X k) K s q) (hB : q = 0 → SgB s ∧ 0 ≤ s.typ) (hf : (X k).ws.length + 1 ≤ M) : ∃ pl' X1, Py w0 wn pl' M X1 hvl Hr H wvl Wr bl br ∧ (∀ g, g < wr.heap.size → pl' g = pl g) ∧ (∀ j, j ≠ k → X1 j = X j) ∧ (X1 k).G = (X k).G ∧ ((q ≠ 0 ∧ (X1 k).ws = (X k).ws) ∨ (q = 0 ∧ ∃ y : Sv, y.s = s ∧ (X1 k).ws = (X k).ws ++ [⟨K, y⟩])) := by
  rcases hp with ⟨hq, hb⟩ | ⟨hq, v', y, lo, hi, hP⟩
  · exact ⟨_, X, h.below hb, fun g hg => trash_old hg, fun j _ => rfl, rfl, .inl ⟨hq, rfl⟩⟩
  · obtain ⟨pl', h2, h3⟩ := h.rput (M' := M) hk2 hP (hB hq).1 (hB hq).2 hf
    exact ⟨pl', _, h2, h3, fun j hj => upX_other X _ hj, by rw [upX_same], .inr ⟨hq, y, hP.ys, by rw [upX_same]⟩⟩
/-- Both puts, and what follows. -/
theorem li_put {w W2 U3 U4 U5 : World} {pl1 : Nat → Plc} {i bl br kk : Nat} {X : Nat → Sde} {hvl wvl : Value} {H : List Sz} {Wr : List Sv} {K : Int} {s : Sg} {q : Int} {T : Nat → Prop} (hk2 : kk < 2) (h : Py w W2 pl1 i X hvl (H.map Sz.y) H wvl Wr bl br) (hrel : ∀ k, k < 2 → RelS (X k)) (hHW : H.map (fun z => z.y.s) = Wr.map Sv.s) (hcnt : H.length + (X 0).ws.length + (X 1).ws.length ≤ i) (hp : PO W2 U3 (X kk) K i s q) (hr : RO U3 U4 (X kk) K s q) (hB : q = 0 → SgB s ∧ 0 ≤ s.typ) (hk : Kl T U4 U5) (hT : ∀ g, g < U4.heap.size → T g → g < W2.heap.size ∧ (pl1 g).1 = 7) : LI w U5 bl br (i + 1) hvl wvl := by
  obtain ⟨pl2, X1, h2, s2, o2, ⟨r1, r2, r3, r4⟩, g2⟩ := h.putP hk2 hp
  have hr' : RO U3 U4 (X1 kk) K s q := by unfold RO at *; rw [r1, r2, r3, r4]; exact hr
  have hl : (X kk).ws.length ≤ i := (h.sd kk hk2).few
  obtain ⟨pl3, X2, h3, s3, o3, g3, w3⟩ := h2.putR hk2 hr' hB (by rw [r4]; omega)
  have hsz := hp.kl.size
  have h4 := h3.law hk (fun g hg e => by
    obtain ⟨e1, e2⟩ := hT g hg e
    rw [s3 g (by omega), s2 g e1]
    exact e2)
  have hw : ∀ j, j < 2 → (X2 j).ws.length ≤ (X j).ws.length + (if j = kk then 1 else 0) := fun j hj => by
    by_cases e : j = kk
    · subst e
      rw [if_pos rfl]
      rcases w3 with ⟨_, e⟩ | ⟨_, y, _, e⟩
      · rw [e, r4]; omega
      · rw [e, r4, List.length_append]; simp
    · rw [if_neg e, o3 j e, o2 j e]; exact Nat.le_refl _
  refine ⟨_, X2, H, Wr, fun k hk => ?_, h4, hHW, ?_⟩
  · by_cases e : k = kk
    · subst e
      rcases g2 with ⟨q1, eg⟩ | ⟨q1, z, hz, eg⟩
      · rcases w3 with ⟨_, ew⟩ | ⟨q2, _⟩
        · intro K' i' hi'
          rw [g3, eg, ew, r4]
          exact hrel k hk K' i' hi'
        · exact absurd q2 q1
      · rcases w3 with ⟨q2, _⟩ | ⟨_, y, hy, ew⟩
        · exact absurd q1 q2
        · exact rel_put (hrel k hk) (by rw [g3, eg]) (by rw [ew, r4]) hz hy
    · rw [o3 k e, o2 k e]
      exact hrel k hk
  · have q0 := hw 0 (by omega)
    have q1 := hw 1 (by omega)
    have e : kk = 0 ∨ kk = 1 := by omega
    rcases e with rfl | rfl <;> simp at q0 q1 <;> omega

/-! ### The calls, as the law's walk takes them -/
theorem SdI.rlk {w0 W U : World} {pl : Nat → Plc} {t M : Nat} {A : Sde} (h : SdI w0 W pl t M A) (hk : Kl (FL A.m A.S) W U) : Rl U A.r A.lim A.v A.ws := by
  have hr := (Array.getElem?_eq_some_iff.1 h.rl.box).1
  have nr : ∀ g, FL A.m A.S g → (pl g).1 ≠ t + 1 := fun g e => by have := h.fl g e; omega
  exact ⟨(hk.block _ hr (fun e => nr _ e h.fr)).trans h.rl.box, hk.own h.rl.row (fun g hg e => nr g e (h.fv g hg))⟩
theorem Py.nc {w0 wr : World} {pl : Nat → Plc} {M bl br : Nat} {X : Nat → Sde} {hvl wvl : Value} {H : List Sz} {Wr Hr : List Sv} (h : Py w0 wr pl M X hvl Hr H wvl Wr bl br) {k : Nat} (hk : k < 2) : (¬ FL (X k).m (X k).S bl ∧ ¬ FL (X k).m (X k).S br) ∧ (¬ (bl = (X k).r ∨ (X k).v.ownBlock = some bl) ∧ ¬ (br = (X k).r ∨ (X k).v.ownBlock = some br)) := by
  have hA := h.sd k hk
  have h1 := h.pb.1
  have h2 := h.pb.2
  refine ⟨⟨fun e => ?_, fun e => ?_⟩, fun e => e.elim (fun e => ?_) (fun e => ?_), fun e => e.elim (fun e => ?_) (fun e => ?_)⟩
  · have := hA.fl _ e; omega
  · have := hA.fl _ e; omega
  · have := hA.fr; rw [← e] at this; omega
  · have := hA.fv _ e; omega
  · have := hA.fr; rw [← e] at this; omega
  · have := hA.fv _ e; omega
def DrO (W U : World) (A : Sde) (i : Nat) (S1 S2 : Int) (all : Bool) : Prop := ∃ v S' E', DpG W U A.p A.m A.lim A.S S' i A.c E' v S1 S2 all
theorem DrO.kl {W U : World} {A : Sde} {i : Nat} {S1 S2 : Int} {all : Bool} (h : DrO W U A i S1 S2 all) : Kl (FL A.m A.S) W U := by obtain ⟨_, _, _, h⟩ := h; exact h.kl
def RdO (W U : World) (A : Sde) (S1 S2 : Int) (all : Bool) : Prop := ∃ v', Rl U A.r A.lim v' (wkp S1 S2 all A.ws) ∧ (∀ g, v'.ownBlock = some g → W.heap.size ≤ g) ∧ Kl (fun g => g = A.r) W U
theorem RdO.kl {W U : World} {A : Sde} {S1 S2 : Int} {all : Bool} (h : RdO W U A S1 S2 all) : Kl (fun g => g = A.r) W U := by obtain ⟨_, _, _, h⟩ := h; exact h
theorem dropO {w0 W : World} {pl : Nat → Plc} {t i P : Nat} {A : Sde} (h : SdI w0 W pl t i A) (hP : A.p = P) (hr : RelS A) (hi : i ≤ 1048576) (S1 S2 : Int) (all : Bool) {q : Nat} (hq : A.ws.length - (wkp S1 S2 all A.ws).length = q) :
    Calls Tryd.prog 12 #[.pointer (some ⟨P, 0, none⟩), .agg #[.int .i64 S1, .int .i64 S2], .bool all] W.drew fun e w' => e = .returned (.int .i64 (q : Nat)) ∧ DrO W w' A i S1 S2 all := by
  rw [← hP]
  refine (dropG W.drew A.p A.m A.lim A.S i A.c A.E S1 S2 all A.ws.length (h.lg.below (bel_dr W)) (by omega) (tot_rel h.gw hr) (by have := h.few; omega)).mono ?_
  rintro e w' ⟨v, S', E', rfl, hd⟩
  exact ⟨by rw [drop_rel h.gw hr (fun x hx => (h.sr x hx).2.2.2) S1 S2 all hd.nd hd.cov, hq], v, S', E', hd.un⟩
theorem rdropO {W : World} {A : Sde} {R : Nat} (h : Rl W A.r A.lim A.v A.ws) (hR : A.r = R) (hs : ∀ x ∈ A.ws, x.y.Sl) (hl : A.ws.length ≤ 1048576) (S1 S2 : Int) (all : Bool) {q : Nat} (hq : A.ws.length - (wkp S1 S2 all A.ws).length = q) :
    Calls Tryd.prog 13 #[.pointer (some ⟨R, 0, none⟩), .agg #[.int .i64 S1, .int .i64 S2], .bool all] W.drew fun e w' => e = .returned (.int .i64 (q : Nat)) ∧ RdO W w' A S1 S2 all := by
  rw [← hR]
  refine (rdrop_any W.drew A.r A.lim A.v A.ws S1 S2 all (h.below (bel_dr W)) hs _ rfl (by omega)).mono ?_
  rintro e w' ⟨rfl, v', h1, h2, h3⟩
  exact ⟨by rw [hq], v', h1, h2, kl_un h3⟩
def TkO (W U : World) (A : Sde) (K : Int) (i most : Nat) (ov : Value) : Prop := ∃ S' E', TkG W U A.p A.m A.lim K A.S S' i A.c A.E E' most ov
theorem TkO.kl {W U : World} {A : Sde} {K : Int} {i most : Nat} {ov : Value} (h : TkO W U A K i most ov) : Kl (FL A.m A.S) W U := by obtain ⟨_, _, h⟩ := h; exact h.kl
def RtO (W U : World) (A : Sde) (K : Int) (most : Nat) (ov : Value) : Prop := ∃ ws' v', RtP W U A.r A.lim K A.ws ws' most v' ov
theorem RtO.kl {W U : World} {A : Sde} {K : Int} {most : Nat} {ov : Value} (h : RtO W U A K most ov) : Kl (fun g => g = A.r) W U := by obtain ⟨_, _, h⟩ := h; exact h.kl
theorem takeO {w0 W : World} {pl : Nat → Plc} {t i P : Nat} {A : Sde} (h : SdI w0 W pl t i A) (hP : A.p = P) (hi : i ≤ 1048576) (K mi : Int) (hm1 : -9223372036854775808 ≤ mi) (hm2 : mi ≤ 9223372036854775807) {N : Nat} (hN : ((gP A.G K 3).take mi.toNat).length = N) :
    Calls Tryd.prog 8 #[.pointer (some ⟨P, 0, none⟩), .int .i64 K, .int .i64 mi] W.drew fun e w' => ∃ oa oc, e = .returned (.slice oa N oc) ∧ TkO W w' A K i mi.toNat (.slice oa N oc) := by
  rw [← hP]
  refine (takeG W.drew A.p A.m A.lim K A.S i A.c A.E mi _ rfl hm1 hm2 (h.lg.below (bel_dr W)) (by omega)).mono ?_
  rintro e w' ⟨ov, S', E', rfl, hd⟩
  obtain ⟨oa, oc, hov⟩ := own_sl hd.out
  have e1 : ((Cc (A.S K)).take mi.toNat).length = N := by
    rw [← hN]
    show ((Pk (A.S K) 3).take mi.toNat).length = _
    rw [gP_y h.gw K 3 (Nat.le_refl _), ← List.map_take, List.length_map]
  rw [e1] at hov
  subst hov
  exact ⟨oa, oc, rfl, S', E', hd.un⟩
theorem rtakeO {W : World} {A : Sde} {R : Nat} (h : Rl W A.r A.lim A.v A.ws) (hR : A.r = R) (hr : RelS A) (hs : ∀ x ∈ A.ws, x.y.Sl) (hl : A.ws.length ≤ 1048576) (K mi : Int) {N : Nat} (hN : ((gP A.G K 3).take mi.toNat).length = N) :
    Calls Tryd.prog 9 #[.pointer (some ⟨R, 0, none⟩), .int .i64 K, .int .i64 mi] W.drew fun e w' => ∃ oa oc, e = .returned (.slice oa N oc) ∧ RtO W w' A K mi.toNat (.slice oa N oc) := by
  rw [← hR]
  refine (rtake_any W.drew A.r A.lim K A.v A.ws mi _ rfl (h.below (bel_dr W)) hs _ rfl (by omega)).mono ?_
  rintro e w' ⟨ws', v', ov, rfl, hd⟩
  obtain ⟨oa, oc, hov⟩ := own_sl hd.out
  have e1 : ((Pf K A.ws 3).take mi.toNat).length = N := by
    rw [← hN]
    have := congrArg List.length (gP_s hr K 3 (Nat.le_refl _))
    rw [List.length_map, List.length_map] at this
    rw [List.length_take, List.length_take, this]
  rw [e1] at hov
  subst hov
  exact ⟨oa, oc, rfl, ws', v', hd.un⟩
/-- Behind both Takes: what was taken is nobody's any more but the law's. -/
structure Tk2P (w U2 : World) (pl : Nat → Plc) (X2 : Nat → Sde) (i bl br : Nat) (hvl : Value) (Hr : List Sv) (Hz : List Sz) (wvl : Value) (Wr : List Sv) (ov ov2 : Value) (tz : List Sz) (Y : List Sv) : Prop where
  py : Py w U2 pl i X2 hvl Hr Hz wvl Wr bl br
  zt : ∀ z ∈ tz, z ∈ Hz
  rel : ∀ k, k < 2 → RelS (X2 k)
  cnt : Hz.length + (X2 0).ws.length + (X2 1).ws.length ≤ i
  a : U2.ownsRow 0 37 14 ov tz.length (seg (tz.map Sz.y))
  b : U2.ownsRow 0 37 14 ov2 Y.length (seg Y)
  ta : ∀ g, ov.ownBlock = some g → (pl g).1 = 7
  tb : ∀ g, ov2.ownBlock = some g → (pl g).1 = 7
  ab : ∀ g, ov.ownBlock = some g → ov2.ownBlock ≠ some g
  ss : tz.map (fun z => z.y.s) = Y.map Sv.s
  ys : ∀ y ∈ Y, RsI U2 pl y ∧ SgB y.s
theorem mem_pf {K : Int} {ws : List Wa} {y : Sv} : ∀ {k : Nat}, y ∈ Pf K ws k → ∃ x ∈ ws, x.y = y
  | 0, h => by cases h
  | k + 1, h => by
    rcases List.mem_append.mp h with h | h
    · exact mem_pf h
    · obtain ⟨x, hx, e⟩ := List.mem_map.mp h
      exact ⟨x, (List.mem_filter.mp hx).1, e⟩
theorem tk_two {w W1 U1 U2 : World} {pl1 : Nat → Plc} {i bl br kk most B : Nat} {X : Nat → Sde} {hvl wvl ov ov2 : Value} {H : List Sz} {Wr : List Sv} {K : Int} (hk2 : kk < 2) (h : Py w W1 pl1 i X hvl (H.map Sz.y) H wvl Wr bl br) (hrel : ∀ k, k < 2 → RelS (X k)) (hcnt : H.length + (X 0).ws.length + (X 1).ws.length ≤ i) (hp : TkO W1 U1 (X kk) K i most ov) (hr : RtO U1 U2 (X kk) K most ov2) : ∃ pl X2 tz Y, Tk2P w U2 pl X2 i bl br hvl (H.map Sz.y) (H ++ tz) wvl Wr ov ov2 tz Y ∧ tz.length = ((gP (X kk).G K 3).take most).length := by
  obtain ⟨S', E', hd⟩ := hp
  obtain ⟨ws', v', hr⟩ := hr
  obtain ⟨pl2, h2, k7, t7, ho⟩ := h.ptake hk2 hd
  obtain ⟨tz, htz⟩ : ∃ tz, (gP (X kk).G K 3).take most = tz := ⟨_, rfl⟩
  rw [htz] at h2 ho
  obtain ⟨X1, hX1⟩ : ∃ X1, upX X kk { (X kk) with S := S', c := (X kk).c, E := E', G := tkG (X kk).G K most } = X1 := ⟨_, rfl⟩
  have e1 : X1 kk = { (X kk) with S := S', c := (X kk).c, E := E', G := tkG (X kk).G K most } := by rw [← hX1, upX_same]
  have e2 : ∀ j, j ≠ kk → X1 j = X j := fun j hj => by rw [← hX1, upX_other X _ hj]
  rw [hX1] at h2
  have hll := lf_len hr.lf
  obtain ⟨pl3, h3, s3, n3⟩ := h2.rdrop (wn := U2) (v' := v') (ws' := ws') hk2 (by rw [e1]; exact hr.rl) hr.nv (by rw [e1]; exact hr.kl) (fun x hx => by rw [e1]; exact hr.lf.mem x hx) (by rw [e1]; show ws'.length ≤ (X kk).ws.length; omega)
  obtain ⟨X2, hX2⟩ : ∃ X2, upX X1 kk { (X1 kk) with v := v', ws := ws' } = X2 := ⟨_, rfl⟩
  have e3 : X2 kk = { (X1 kk) with v := v', ws := ws' } := by rw [← hX2, upX_same]
  have e4 : ∀ j, j ≠ kk → X2 j = X1 j := fun j hj => by rw [← hX2, upX_other X1 _ hj]
  rw [hX2] at h3
  have hA := h.sd kk hk2
  have hA2 := h2.sd kk hk2
  rw [e1] at hA2
  have ssz : tz.map (fun z => z.y.s) = ((Pf K (X kk).ws 3).take most).map Sv.s := by
    rw [← htz, List.map_take, List.map_take, gP_s (hrel kk hk2) K 3 (Nat.le_refl _)]
  have hlt : ∀ g, ov.ownBlock = some g → g < U1.heap.size := fun g hg => (ho.lt g hg).2
  have hTm : ∀ g, g < U1.heap.size → g = (X kk).r → mtb pl2 g := fun g _ e => by rw [e]; have := hA2.fr; unfold mtb; simp only at this; omega
  refine ⟨pl3, X2, tz, (Pf K (X kk).ws 3).take most, ⟨h3, fun z hz => List.mem_append.mpr (.inr hz), fun k hk => ?_, ?_, ?_, hr.out, fun g hg => ?_, fun g hg => ?_, fun g h1 h2' => ?_, ssz, fun y hy => ?_⟩, by rw [htz]⟩
  · by_cases e : k = kk
    · subst e
      exact rel_take (hrel k hk) (by rw [e3, e1]) (by rw [e3]; exact hr.lf)
    · rw [e4 k e, e2 k e]
      exact hrel k hk
  · have hl : tz.length = ((Pf K (X kk).ws 3).take most).length := by have := congrArg List.length ssz; rw [List.length_map, List.length_map] at this; exact this
    have hw : ∀ j, j < 2 → (X2 j).ws.length + (if j = kk then tz.length else 0) = (X j).ws.length := fun j hj => by
      by_cases e : j = kk
      · subst e
        rw [e3, if_pos rfl]
        show ws'.length + _ = _
        omega
      · rw [e4 j e, if_neg e, e2 j e]
        rfl
    have q0 := hw 0 (by omega)
    have q1 := hw 1 (by omega)
    rw [List.length_append]
    have e : kk = 0 ∨ kk = 1 := by omega
    rcases e with rfl | rfl <;> simp at q0 q1 <;> omega
  · exact hr.kl.own ho (fun g hg e => by have h7 := t7 g hg; rw [e] at h7; have := hA2.fr; simp only at this; omega)
  · rw [s3 g (hlt g hg)]; exact t7 g hg
  · obtain ⟨n1, n2⟩ := hr.no g hg
    exact n3 g n1 n2
  · have := hlt g h1
    have := (hr.no g h2').1
    omega
  · obtain ⟨x, hx, rfl⟩ := mem_pf (List.mem_of_mem_take hy)
    have hs := hA2.sr x hx
    exact ⟨hs.1.keep (t := 90) hr.kl hTm (same_of s3), hs.2.2.1⟩

theorem Tk2P.step {w wr wn : World} {pl pl' : Nat → Plc} {X2 : Nat → Sde} {i bl br : Nat} {hvl wvl hv' wv' ov ov2 : Value} {Hr Hr' Wr Wr' Y : List Sv} {Hz tz : List Sz} {T : Nat → Prop} (h : Tk2P w wr pl X2 i bl br hvl Hr Hz wvl Wr ov ov2 tz Y) (hk : Kl T wr wn) (hT : ∀ g, g < wr.heap.size → T g → (pl g).1 = 5 ∨ (pl g).1 = 6) (hpl : ∀ g, g < wr.heap.size → pl' g = pl g) (hp : Py w wn pl' i X2 hv' Hr' Hz wv' Wr' bl br) : Tk2P w wn pl' X2 i bl br hv' Hr' Hz wv' Wr' ov ov2 tz Y :=
  ⟨hp, h.zt, h.rel, h.cnt, hk.own h.a (fun g h1 h2 => by have := hT g (h.a.lt g h1).2 h2; have := h.ta g h1; omega), hk.own h.b (fun g h1 h2 => by have := hT g (h.b.lt g h1).2 h2; have := h.tb g h1; omega), fun g hg => by rw [hpl g (h.a.lt g hg).2]; exact h.ta g hg, fun g hg => by rw [hpl g (h.b.lt g hg).2]; exact h.tb g hg, h.ab, h.ss, fun y hy => ⟨(h.ys y hy).1.keep (t := 90) hk (fun g hg e => by have := hT g hg e; unfold mtb; omega) (same_of hpl), (h.ys y hy).2⟩⟩
theorem Tk2P.below {w wr wn : World} {pl : Nat → Plc} {X2 : Nat → Sde} {i bl br : Nat} {hvl wvl ov ov2 : Value} {Hr Wr Y : List Sv} {Hz tz : List Sz} (h : Tk2P w wr pl X2 i bl br hvl Hr Hz wvl Wr ov ov2 tz Y) (hb : Below wr.heap.size wr wn) : ∃ pl', Tk2P w wn pl' X2 i bl br hvl Hr Hz wvl Wr ov ov2 tz Y := ⟨_, h.step (T := fun _ => False) (Kl.of_below hb) (fun _ _ e => e.elim) (fun g hg => trash_old hg) (h.py.below hb)⟩
theorem Tk2P.held {w wr wn : World} {pl : Nat → Plc} {X2 : Nat → Sde} {i bl br : Nat} {hvl wvl hv' ov ov2 : Value} {Hr Wr Y : List Sv} {Hz tz : List Sz} (h : Tk2P w wr pl X2 i bl br hvl Hr Hz wvl Wr ov ov2 tz Y) (ho : wn.ownsRow 0 37 14 hv' (Hr.length + tz.length) (seg Hr ++ seg (tz.map Sz.y))) (hg : wr.grownBy wn hvl.ownBlock) (hat : hv'.ownBlock = hvl.ownBlock ∨ hv'.ownBlock = some wr.heap.size) : ∃ pl', Tk2P w wn pl' X2 i bl br hv' (Hr ++ tz.map Sz.y) Hz wvl Wr ov ov2 tz Y := by
  obtain ⟨pl', h1, h2⟩ := h.py.heldApp (Y := tz.map Sz.y) (by rw [List.length_map]; exact ho) hg hat
  exact ⟨pl', h.step (grown_kl hg) (fun g _ e => .inl (h.py.fh g e)) h2 h1⟩
theorem Tk2P.copies {w wr wn : World} {pl : Nat → Plc} {X2 : Nat → Sde} {i bl br n : Nat} {hvl wvl ov ov2 cv : Value} {Hr Wr Y O l : List Sv} {Hz tz : List Sz} {Z : Nat → Prop} (h : Tk2P w wr pl X2 i bl br hvl Hr Hz wvl Wr ov ov2 tz Y) (hc : CpS wr wn l n cv O Z) : ∃ pl', Tk2P w wn pl' X2 i bl br hvl Hr Hz wvl Wr ov ov2 tz Y ∧ (∀ y ∈ O, RsI wn pl' y) ∧ (∀ g, cv.ownBlock = some g → (pl' g).1 = 7) := by
  obtain ⟨pl', h1, h2, h3, h4⟩ := h.py.belZ hc.bl Z
  refine ⟨pl', h.step (T := fun _ => False) (Kl.of_below hc.bl) (fun _ _ e => e.elim) h2 h1, fun y hy => zst_rsi (hc.zs y hy) (fun g hg => ⟨(hc.zn g hg).2.1, h3 g (hc.zn g hg).1 hg⟩), fun g hg => ?_⟩
  rw [h4 g (hc.ow.lt g hg).1 (fun e => (hc.zn g e).2.2 hg)]
theorem Tk2P.were {w wr wn : World} {pl : Nat → Plc} {X2 : Nat → Sde} {i bl br : Nat} {hvl wvl wv' ov ov2 : Value} {Hr Wr Y O : List Sv} {Hz tz : List Sz} (h : Tk2P w wr pl X2 i bl br hvl Hr Hz wvl Wr ov ov2 tz Y) (hO : ∀ y ∈ O, RsI wr pl y) (ho : wn.ownsRow 0 37 14 wv' (Wr.length + O.length) (seg Wr ++ seg O)) (hg : wr.grownBy wn wvl.ownBlock) (hat : wv'.ownBlock = wvl.ownBlock ∨ wv'.ownBlock = some wr.heap.size) : ∃ pl', Tk2P w wn pl' X2 i bl br hvl Hr Hz wv' (Wr ++ O) ov ov2 tz Y := by
  obtain ⟨pl', h1, h2⟩ := h.py.wereApp ho hg hat hO
  exact ⟨pl', h.step (grown_kl hg) (fun g _ e => .inr (h.py.fw g e)) h2 h1⟩
/-- The end of a Take: the answer's own row is written over, and grown. -/
theorem Tk2P.li {w wr wn : World} {pl : Nat → Plc} {X2 : Nat → Sde} {i bl br : Nat} {hvl wvl ov ov2 : Value} {Wr O Y : List Sv} {H tz : List Sz} {T : Nat → Prop} (h : Tk2P w wr pl X2 i bl br hvl (H.map Sz.y ++ tz.map Sz.y) (H ++ tz) wvl (Wr ++ O) ov ov2 tz Y) (hHW : H.map (fun z => z.y.s) = Wr.map Sv.s) (hO : O.map Sv.s = Y.map Sv.s) (hk : Kl T wr wn) (hT : ∀ g, g < wr.heap.size → T g → ov.ownBlock = some g) : LI w wn bl br (i + 1) hvl wvl := by
  have h1 := h.py.law hk (fun g hg e => h.ta g (hT g hg e))
  rw [← List.map_append] at h1
  refine ⟨_, X2, H ++ tz, Wr ++ O, h.rel, h1.up (by omega), ?_, by have := h.cnt; omega⟩
  rw [List.map_append, List.map_append, hHW, h.ss, hO]
theorem Tk2P.sats {w wr : World} {pl : Nat → Plc} {X2 : Nat → Sde} {i bl br : Nat} {hvl wvl ov ov2 : Value} {Hr Wr Y : List Sv} {Hz tz : List Sz} (h : Tk2P w wr pl X2 i bl br hvl Hr Hz wvl Wr ov ov2 tz Y) : (∀ y ∈ tz.map Sz.y, SAt wr y) ∧ (∀ y ∈ Y, SAt wr y ∧ SgB y.s) ∧ (tz.map Sz.y).map Sv.s = Y.map Sv.s ∧ Rw wr ov (tz.map Sz.y) ∧ Rw wr ov2 Y := by
  refine ⟨fun y hy => ?_, fun y hy => ⟨(h.ys y hy).1 wr (Kl.refl _ _), (h.ys y hy).2⟩, by rw [List.map_map]; exact h.ss, own_rw (by rw [List.length_map]; exact h.a), own_rw h.b⟩
  obtain ⟨z, hz, rfl⟩ := List.mem_map.mp hy
  exact SgO.at ((h.py.hs z (h.zt z hz)).at' wr (Kl.refl _ _))

end Go.Proofs.YtdfdaambfihjaaaDoor.L

namespace Go.Proofs.YtdfdaambfihjaaaDoor.L
open Go.RowKit
set_option linter.unusedVariables false
set_option linter.unusedSimpArgs false

/-! ## A segment that is lent to the program's Put -/
structure LnO (V : World) (base top : Nat) (s : Sg) (hx tx : List Xr) (gh gt gd gc : Nat) : Prop where
  ls : ∃ B1 B2 B3 hR tR, LS V base B1 B2 B3 s hx tx hR tR gh gt gd gc ∧ gc < top ∧ B3 ≤ top
theorem LnO.keep {V V' : World} {base top : Nat} {s : Sg} {hx tx : List Xr} {gh gt gd gc : Nat} (h : LnO V base top s hx tx gh gt gd gc) (hb : ∀ g, base ≤ g → g < top → V'.heap[g]? = V.heap[g]?) : LnO V' base top s hx tx gh gt gd gc := by
  obtain ⟨B1, B2, B3, hR, tR, h1, h2, h3⟩ := h.ls
  exact ⟨B1, B2, B3, hR, tR, LS.keepT h1 h2 h3 hb, h2, h3⟩
def LeO (s : Sg) (hx tx : List Xr) (W : World) (nh nt nd nc : Nat) (e : Ending) (w' : World) : Prop := ∃ gh gt gd gc, e = .returned (.agg (svC s (lV gh nh) (lV gt nt) (lV gd nd) (lV gc nc))) ∧ LnO w' W.heap.size w'.heap.size s hx tx gh gt gd gc ∧ Below W.heap.size W w'
theorem lentO (s : Sg) (hv tv dv cv : Value) (hx tx : List Xr) (W : World) (hs : SIn W s hv tv dv cv hx tx) {nh nt nd nc : Nat} (h1 : hx.length = nh) (h2 : tx.length = nt) (h3 : s.data.length = nd) (h4 : s.clm.length = nc) :
    Calls Tryd.prog 16 #[.agg (svC s hv tv dv cv)] W (LeO s hx tx W nh nt nd nc) := by
  subst h1 h2 h3 h4
  refine (lent_seg s hv tv dv cv hx tx W hs).mono ?_
  rintro e w' ⟨B1, B2, B3, hR, tR, gh, gt, gd, gc, rfl, hl, hb⟩
  have hc := hl.clm.lt gc rfl
  exact ⟨gh, gt, gd, gc, rfl, ⟨B1, B2, B3, hR, tR, hl, hc.2, by omega⟩, hb⟩
theorem PO.un {W U : World} {A : Sde} {K : Int} {i : Nat} {s : Sg} {q : Int} (h : PO W.drew U A K i s q) : PO W U A K i s q := by
  rcases h with ⟨h1, h2⟩ | ⟨h1, S', c', E', y, hx', tx', lo, hi, h2⟩
  · exact .inl ⟨h1, bel_un h2⟩
  · exact .inr ⟨h1, S', c', E', y, hx', tx', lo, hi, h2.un⟩
theorem RO.un {W U : World} {A : Sde} {K : Int} {s : Sg} {q : Int} (h : RO W.drew U A K s q) : RO W U A K s q := by
  rcases h with ⟨h1, h2⟩ | ⟨h1, v', y, lo, hi, h2⟩
  · exact .inl ⟨h1, bel_un h2⟩
  · exact .inr ⟨h1, v', y, lo, hi, h2.un⟩
/-- What stands between the lent segment and the lines. -/
theorem Py.lent {w0 W : World} {pl : Nat → Plc} {M bl br : Nat} {X : Nat → Sde} {hvl wvl : Value} {H : List Sz} {Wr Hr : List Sv} (h : Py w0 W pl M X hvl Hr H wvl Wr bl br) {k base top : Nat} (hk : k < 2) (h7 : ∀ g, base ≤ g → g < top → g < W.heap.size ∧ (pl g).1 = 7) {s : Sg} {hx tx : List Xr} {gh gt gd gc : Nat} (hl : LnO W base top s hx tx gh gt gd gc) {V : World} (hv : Kl (FL (X k).m (X k).S) W V) : LnO V base top s hx tx gh gt gd gc :=
  hl.keep (fun g h1 h2 => hv.block g (h7 g h1 h2).1 (fun e => by have := (h.sd k hk).fl g e; have := (h7 g h1 h2).2; omega))
theorem Py.lent2 {w0 W : World} {pl : Nat → Plc} {M bl br : Nat} {X : Nat → Sde} {hvl wvl : Value} {H : List Sz} {Wr Hr : List Sv} (h : Py w0 W pl M X hvl Hr H wvl Wr bl br) {k base top : Nat} (hk : k < 2) (h7 : ∀ g, base ≤ g → g < top → g < W.heap.size ∧ (pl g).1 = 7) {s : Sg} {hx tx : List Xr} {gh gt gd gc : Nat} {U V : World} (hs : W.heap.size ≤ U.heap.size) (hl : LnO U base top s hx tx gh gt gd gc) (hv : Kl (fun g => g = (X k).r ∨ (X k).v.ownBlock = some g) U V) : LnO V base top s hx tx gh gt gd gc :=
  hl.keep (fun g h1 h2 => hv.block g (by have := (h7 g h1 h2).1; omega) (fun e => by
    have h3 := (h7 g h1 h2).2
    rcases e with e | e
    · have := (h.sd k hk).fr; rw [← e] at this; omega
    · have := (h.sd k hk).fv g e; omega))
theorem putL {w0 W W0 : World} {pl : Nat → Plc} {i bl br P : Nat} {X : Nat → Sde} {hvl wvl : Value} {H : List Sz} {Wr Hr : List Sv} (h : Py w0 W pl i X hvl Hr H wvl Wr bl br) {k base top : Nat} (hk : k < 2) (hP : (X k).p = P) (hi : i ≤ 1048576) (h7 : ∀ g, base ≤ g → g < top → g < W.heap.size ∧ (pl g).1 = 7) {s : Sg} {hv tv dv cv : Value} {hx tx : List Xr} {gh gt gd gc : Nat} (hl : LnO W base top s hx tx gh gt gd gc) (hs : SIn W0 s hv tv dv cv hx tx) (hT : Tab W) {K : Int} {q : Int} (hq : ocm K (prt s hx tx).1 (kdn s.typ) (X k).lim (Wt ((X k).S K) 0).length = q) {nh nt nd nc : Nat} (e1 : hx.length = nh) (e2 : tx.length = nt) (e3 : s.data.length = nd) (e4 : s.clm.length = nc) :
    Calls Tryd.prog 17 #[.pointer (some ⟨P, 0, none⟩), .int .i64 K, .agg (svC s (lV gh nh) (lV gt nt) (lV gd nd) (lV gc nc))] W.drew fun e w' => e = .returned (.int .i64 q) ∧ PO W w' (X k) K i s q := by
  rw [← hP]
  subst e1 e2 e3 e4
  obtain ⟨B1, B2, B3, hR, tR, l1, l2, l3⟩ := hl.ls
  have hw : ∀ V, Kl (FL (X k).m (X k).S) W.drew V → SIn V s (lV gh hx.length) (lV gt tx.length) (lV gd s.data.length) (lV gc s.clm.length) (hR.take hx.length) (tR.take tx.length) := fun V hV => by
    have hb : ∀ g, base ≤ g → g < top → V.heap[g]? = W.heap[g]? := fun g h1 h2 => (kl_un hV).block g (h7 g h1 h2).1 (fun e => by have := (h.sd k hk).fl g e; have := (h7 g h1 h2).2; omega)
    exact LS.sin (LS.keepT l1 l2 l3 hb) hs
  have hz : prt s (hR.take hx.length) (tR.take tx.length) = prt s hx tx := prt_ex (LX.ex (w0 := W0) (v := hv) l1.head) (LX.ex (w0 := W0) (v := tv) l1.tail)
  refine (putO (A := X k) ((h.sd k hk).lg.below (bel_dr W)) hi s _ _ _ _ _ _ hw hT q (by rw [hz]; exact hq)).mono ?_
  rintro e w' ⟨rfl, h1⟩
  exact ⟨rfl, h1.un⟩
theorem ocm_rel {w0 W : World} {pl : Nat → Plc} {t i : Nat} {A : Sde} (h : SdI w0 W pl t i A) (hr : RelS A) (K z : Int) (kd : Nat) : ocm K z kd A.lim (Wt (A.S K) 0).length = ocm K z kd A.lim (wan K A.ws) := by
  rw [wan_fk, len_rel h.gw hr K (by omega)]
theorem sgb_of {s : Sg} {hx tx : List Xr} (h1 : s.head = hx.map Xr.ex) (h2 : s.tail = tx.map Xr.ex) (h : (prt s hx tx).1 = 0) : SgB s ∧ 0 ≤ s.typ := by
  obtain ⟨a, b⟩ := prt_ok h
  exact ⟨⟨by rw [h1]; exact xsB_esB a, by rw [h2]; exact xsB_esB b⟩, prt_typ h⟩

end Go.Proofs.YtdfdaambfihjaaaDoor.L

namespace Go.Proofs.YtdfdaambfihjaaaDoor.L
open Go.RowKit
set_option linter.unusedVariables false
set_option linter.unusedSimpArgs false

/-! ## The law's end: what was taken is its owner's -/
theorem take0 (w : World) (pr : Nat) (a : Option Addr) (c : Nat) : Calls Tryd.prog 21 #[.pointer (some ⟨pr, 0, none⟩), .slice a 0 c] w fun e w' => e = .returned (.tuple #[]) ∧ w' = w := by
  go_enter Tryd.func21, Tryd.ntmps21
  go_wp2_with fail
  go_loopw [4] (fun i wr => i = .int .i64 0 ∧ w = wr) (fun _ _ => 0)
  case atStart => exact ⟨rfl, rfl⟩
  case round =>
    obtain ⟨rfl, hwr⟩ := hrel
    subst hwr
    go_wp2
    go_end0
    exact ⟨rfl, rfl⟩
theorem end_take {w U : World} {pl : Nat → Plc} {M bl br pr : Nat} {X : Nat → Sde} {hvl wvl : Value} {H : List Sz} {Wr : List Sv} (h : Py w U pl M X hvl (H.map Sz.y) H wvl Wr bl br) (hb : U.heap[pr]? = some (.cells #[nlX, nlX, nlX] 55 (0, 0))) (hz : ∀ z ∈ H, z.hi ≤ pr) (hN : H.length ≤ 1048576) :
    Calls Tryd.prog 21 #[.pointer (some ⟨pr, 0, none⟩), hvl] U fun e w' => e = .returned (.tuple #[]) ∧ ∃ bv sv ev, TkX U w' pr ((H.map Sz.q).flatMap tB) ((H.map Sz.q).map SvX.cv) ((H.map Sz.q).flatMap tE) bv sv ev := by
  rcases Nat.eq_zero_or_pos H.length with h0 | h0
  · have e : H = [] := List.eq_nil_of_length_eq_zero h0
    subst e
    obtain ⟨a, c, hv⟩ := own_sl h.hr
    rw [hv]
    refine (take0 U pr a c).mono ?_
    rintro e w' ⟨rfl, rfl⟩
    exact ⟨rfl, nlX, nlX, nlX, hb, World.ownsRow_nil _ _ _ _, World.ownsRow_nil _ _ _ _, World.ownsRow_nil _ _ _ _, rfl, rfl, rfl, Nat.le_refl _, fun _ _ _ => rfl, (fun g hg => by cases hg), (fun g hg => by cases hg), (fun g hg => by cases hg)⟩
  · have hl : (H.map Sz.y).length = H.length := List.length_map _
    obtain ⟨gl, c, hv⟩ := own_nz h.hr (by omega)
    have hgl : gl ≠ pr := fun e => own_hpX h.hr hb (by decide) (by rw [hv, e]; rfl)
    have hrow := h.hr
    rw [hv] at hrow
    obtain ⟨a', c', e1, e2⟩ := own_rw hrow
    simp only [Value.slice.injEq] at e1
    obtain ⟨rfl, _, rfl⟩ := e1
    have hsd : ∀ i y, (H.map Sz.y)[i]? = some y → ∀ j u, y.L[j]? = some u → U.cell? ⟨gl, i * 14 + j, none⟩ = some u := by
      rcases e2 with e2 | ⟨g, off, e3, e4⟩
      · rw [e2] at hl; simp at hl; omega
      · cases e3
        intro i y hi j u hj
        have := e4 i y hi j u hj
        rwa [Nat.zero_add] at this
    rw [hv, hl]
    refine Go.Proofs.YtdfdaambfihjaaaDoor.take_any pr gl (H.map Sz.q) H.length U hb (List.length_map _) hN hgl (fun k q hq => ?_)
    rw [List.getElem?_map] at hq
    cases hz2 : H[k]? with
    | none => rw [hz2] at hq; cases hq
    | some z =>
      rw [hz2] at hq
      simp only [Option.map_some, Option.some.injEq] at hq
      subst hq
      have hzm := List.mem_of_getElem? hz2
      have hat := (h.hs z hzm).at' U (Kl.refl _ _)
      have hy : (H.map Sz.y)[k]? = some z.y := by rw [List.getElem?_map, hz2]; rfl
      have c := hsd k z.y hy
      obtain ⟨x1, x2⟩ := Sz.xcell (pr := pr) hat (.inl (hz z hzm))
      obtain ⟨s1, s2, s3, s4⟩ := SAt.sl (SgO.at hat)
      exact ⟨c 3 _ rfl, c 4 _ rfl, c 7 _ rfl, c 12 _ rfl, s3, s4, x1, x2⟩
theorem end_owned {w U W3 : World} {pl : Nat → Plc} {M bl br pr : Nat} {X : Nat → Sde} {hvl wvl bv sv ev : Value} {H : List Sz} {Wr : List Sv} (h : Py w U pl M X hvl (H.map Sz.y) H wvl Wr bl br) (hpr : (pl pr).1 = 7) (hpl : pr < U.heap.size) (hT : TkX U W3 pr ((H.map Sz.q).flatMap tB) ((H.map Sz.q).map SvX.cv) ((H.map Sz.q).flatMap tE) bv sv ev) (hN : H.length ≤ 1048576) :
    Calls Tryd.prog 22 #[.pointer (some ⟨pr, 0, none⟩)] W3 fun e w' => e = .returned (.bool true) ∧ Below w.heap.size w w' := by
  have hk : Kl (mtb pl) U W3 := ⟨hT.os, hT.tape, hT.output, hT.size, fun g hg hn => hT.block g hg (fun e => hn (by unfold mtb; rw [e]; omega))⟩
  obtain ⟨oB, oS, oE, ab, asp, ae, cb, cS, ce, Cb, Cs, Ce, hr, hz⟩ := rws_list (L := w.heap.size) hT (fun z hz => (h.hs z hz).at' W3 hk) h.hp hN (fun z hz => (h.hs z hz).lo)
  refine (ownedRows_any hr).mono ?_
  rintro e w' ⟨rfl, k2⟩
  have hb := h.bw
  have hp0 : w.heap.size ≤ pr := h.nn pr hpl (by unfold mtb; omega)
  refine ⟨rfl, k2.os.trans (hT.os.trans hb.os), k2.tape.trans (hT.tape.trans hb.tape), k2.output.trans (hT.output.trans hb.output), Nat.le_trans hb.size (Nat.le_trans hT.size k2.size), fun g hg => ?_⟩
  obtain ⟨z1, z2, z3⟩ := hz g hg
  exact (k2.block g (by have := hb.size; have := hT.size; omega) (by show oB g + oS g + oE g = 0; omega)).trans ((hT.block g (by have := hb.size; omega) (by omega)).trans (hb.block g hg))

end Go.Proofs.YtdfdaambfihjaaaDoor.L
