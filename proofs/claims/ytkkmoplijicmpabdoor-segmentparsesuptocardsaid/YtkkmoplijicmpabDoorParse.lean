import Derived.Test.YtkkmoplijicmpabDoorSeg
import Derived.Deep.MidRow
import Derived.Laws.Tables
import Derived.BigRegion
namespace Go.Proofs.YtkkmoplijicmpabDoor
open Go.RowKit

/-- A segment as a value. -/
def sv (s : Sg) (hv tv dv cv : Value) : Value := .agg #[.int .i64 s.typ, .int .i64 s.org, .int .i64 s.num, hv, tv, .int .i64 s.srv, .int .i64 s.off, dv, .int .i64 s.chk, .int .i64 s.rep, .int .i64 s.upp, .int .i64 s.low, cv, .int .i64 s.rsn]

def ParsePost (zs : List Int) (w : World) (e : Ending) (w' : World) : Prop :=
  ∃ (hv tv dv cv : Value) (hx tx : List Xr) (B1 B2 : Nat), e = .returned (.tuple #[sv (prs zs).2 hv tv dv cv, .int .i64 (prs zs).1]) ∧ SOwn w' w.heap.size (prs zs).2 hv tv dv cv hx tx B1 B2 ∧ Below w.heap.size w w'

theorem sown_zero (w : World) (base : Nat) : SOwn w base sg0 (.slice none 0 0) (.slice none 0 0) (.slice none 0 0) (.slice none 0 0) [] [] base base :=
  ⟨Nat.le_refl _, Nat.le_refl _, XOwn.nil _ _, (by rintro k (h | ⟨x, hx, _⟩); cases h; cases hx), rfl, World.ownsRow_nil _ _ _ _, (fun _ h => by cases h), (fun _ h => by cases h), by simp [sg0], World.ownsRow_nil _ _ _ _, (fun _ h => by cases h), by simp [sg0], .inl rfl, XOwn.nil _ _, rfl, by simp⟩

/-- The answer's variable, and the reader, as they begin. -/
abbrev zO : Obj := .cells #[.int .i64 0, .int .i64 0, .int .i64 0, .slice none 0 0, .slice none 0 0, .int .i64 0, .int .i64 0, .slice none 0 0, .int .i64 0, .int .i64 0, .int .i64 0, .int .i64 0, .slice none 0 0, .int .i64 0] 28
abbrev rO (a : Option Addr) (len cap : Nat) : Obj := .cells #[.slice a len cap, .int .i64 0, .int .i64 0, .int .u8 0, .int .i64 0, .int .i64 0, .int .i64 0, .slice none 0 0, .slice none 0 0, .int .i64 0, .int .i64 0, .slice none 0 0, .int .i64 0, .int .i64 0, .int .i64 0, .int .i64 0, .slice none 0 0, .int .i64 0] 77

theorem at_start (a : Option Addr) (zs : List Int) (len cap : Nat) (w : World) (hb : Bytey zs) (hl : zs.length = len) (hs : len ≤ 8192) (hlc : len ≤ cap) (hcm : cap ≤ 9223372036854775807) (hc : Lies .u8 w a zs) (hn : a = none → len = 0 ∧ cap = 0) :
    At ((w.alloc zO).alloc (rO a len cap)) (w.heap.size + 1) a len cap zs (0, 0) (gl 0 0 0 0 (.slice none 0 0) (.slice none 0 0) 0 0 (.slice none 0 0) 0 0 0 0 (.slice none 0 0) 0) := by
  have hbel : Below w.heap.size w ((w.alloc zO).alloc (rO a len cap)) := ((Below.refl _ w).alloc (Nat.le_refl _) _).alloc (by simp) _
  refine ⟨?_, ⟨hb, hl, hs, hlc, hcm, hc.below hbel, hn, fun hz x hx => ?_⟩, by simp, by simp⟩
  · have := heap_alloc_new' (w.alloc zO) (rO a len cap)
    simp only [World.size_alloc] at this
    exact this
  · rcases hc with h | ⟨g, off, rfl, h⟩
    · exact absurd h hz
    · simp at hx; subst hx
      have := Lies.block h hz
      simp; omega

theorem Tryd.size_seg : (Tryd.prog.info? 28).map (·.size) = some 14 := by kernel_rfl

theorem grown_setRow (w : World) (g : Nat) (cs : Array Value) : w.grownBy (w.setRow g cs) (some g) :=
  ⟨rfl, rfl, rfl, by simp, fun k _ hne => by
    unfold World.setRow
    simp only [Array.getElem?_modify]
    rw [if_neg (fun e => hne (by rw [e]))]⟩
theorem below_drewN (B : Nat) (w : World) (n : Nat) : Below B w (w.drewN n) := ⟨rfl, rfl, rfl, Nat.le_refl _, fun _ _ => rfl⟩

theorem SOwn.keep {w w' : World} {base base' : Nat} {s : Sg} {hv tv dv cv : Value} {hx tx : List Xr} {B1 B2 : Nat} {row : Option Nat} (h : SOwn w base s hv tv dv cv hx tx B1 B2) (hg : w.grownBy w' row) (hr : ∀ k, row = some k → k < base) (hb : base' ≤ base) : SOwn w' base' s hv tv dv cv hx tx B1 B2 := by
  have l1 := h.le1
  have l2 := h.le2
  have hh := h.head.keep hg hr
  have ht := h.tail.keep hg (fun k hk => by have := hr k hk; omega)
  refine ⟨by omega, l2, ⟨own_base hh.row hb, fun x hx => ⟨own_base (hh.data x hx).row hb, (hh.data x hx).bytes, (hh.data x hx).small, (hh.data x hx).tag⟩, hh.apart, hh.nodup⟩, h.headLt, h.headEq, own_keep h.data hg (fun k hk e => ?_), h.dataLt, h.dataB, h.dataS, own_keep h.clm hg (fun k hk e => ?_), h.clmLt, h.clmS, h.only, ht, h.tailEq, h.few⟩
  · have := (h.data.lt k hk).1; have := hr k e; omega
  · have := (h.clm.lt k hk).1; have := hr k e; omega
theorem sown_step {w2 w' : World} {n k : Nat} {s : Sg} {hv tv dv cv : Value} {hx tx : List Xr} {B1 B2 : Nat} (h : SOwn w2 (n + 2) s hv tv dv cv hx tx B1 B2) (hg : (w2.drewN k).grownBy w' (some n)) : SOwn w' n s hv tv dv cv hx tx B1 B2 :=
  h.keep ⟨hg.os, hg.tape, hg.output, hg.size, hg.block⟩ (by simp) (by omega)

/-- The zero segment stored over the zero segment. -/
def chz (W : World) (g : Nat) : World := ((((((((((((((W.setCell ⟨g, 0, none⟩ (.int .i64 0)).setCell ⟨g, 1, none⟩ (.int .i64 0)).setCell ⟨g, 2, none⟩ (.int .i64 0)).setCell ⟨g, 3, none⟩ (.slice none 0 0)).setCell ⟨g, 4, none⟩ (.slice none 0 0)).setCell ⟨g, 5, none⟩ (.int .i64 0)).setCell ⟨g, 6, none⟩ (.int .i64 0)).setCell ⟨g, 7, none⟩ (.slice none 0 0)).setCell ⟨g, 8, none⟩ (.int .i64 0)).setCell ⟨g, 9, none⟩ (.int .i64 0)).setCell ⟨g, 10, none⟩ (.int .i64 0)).setCell ⟨g, 11, none⟩ (.int .i64 0)).setCell ⟨g, 12, none⟩ (.slice none 0 0)).setCell ⟨g, 13, none⟩ (.int .i64 0))
theorem chz_heap (W : World) (g : Nat) (h : W.heap[g]? = some zO) : (chz W g).heap[g]? = some zO := by
  unfold chz
  simp [World.setCell, Array.getElem?_modify, h]
theorem chz_grown (W : World) (g : Nat) : W.grownBy (chz W g) (some g) := by
  unfold chz
  iterate 13 refine grown_trans ?_ (grown_set _ _ _ _)
  exact grown_set _ _ _ _

theorem prs_bad {zs : List Int} {s : Sg} {st : St} (hl : zs.length ≤ 8192) (h : Step zs segp (0, 0) s st) (hf : st.1 ≠ 0) : prs zs = (st.1, sg0) := by
  have h1 := h Sg Pr.ret
  rw [Pr.bind_ret] at h1
  simp only [fin] at h1
  rw [if_neg (by simp), if_pos hf] at h1
  simp only [List.drop_zero] at h1
  unfold prs
  rw [if_neg (by omega), h1]
theorem prs_good {zs : List Int} {s : Sg} {st : St} (hl : zs.length ≤ 8192) (h : Step zs segp (0, 0) s st) (hf : st.1 = 0) : prs zs = if zs.drop st.2 = [] then (0, s) else (24, sg0) := by
  have h1 := h Sg Pr.ret
  rw [Pr.bind_ret] at h1
  simp only [fin] at h1
  rw [if_neg (by simp), if_neg (by simpa using hf)] at h1
  simp only [List.drop_zero, Pr.ret] at h1
  unfold prs
  rw [if_neg (by omega), h1]
  cases zs.drop st.2 with
  | nil => simp
  | cons c r => simp

set_option maxRecDepth 100000 in
set_option maxHeartbeats 4000000 in
theorem parse_any (a : Option Addr) (zs : List Int) (len cap : Nat) (w : World) (hb : Bytey zs) (hl : zs.length = len) (hlc : len ≤ cap) (hcm : cap ≤ 9223372036854775807) (hc : Lies .u8 w a zs) (hn : a = none → len = 0 ∧ cap = 0) (hT : Tab w) :
    Calls Tryd.prog 17 #[.slice a len cap] w (ParsePost zs w) := by
  have HT : Hid (Tab w) := hT
  have hw0 : 0 < w.heap.size := World.block_lt_of_cell? w ⟨0, 0, none⟩ (hT 0 (by omega))
  clear hT
  by_cases hbig : 8192 < len
  · have HP : Hid (prs zs = (2, sg0)) := by unfold Hid prs; rw [if_pos (by omega)]
    have hbig' : (8192 : Int) < (len : Int) := by omega
    go_enter Tryd.func17, Tryd.ntmps17
    go_wp2
    refine bodyPost_ret (v := .tuple #[sv sg0 (.slice none 0 0) (.slice none 0 0) (.slice none 0 0) (.slice none 0 0), .int .i64 2]) (by simp [results, Tryd.results17, go_sem, sv, sg0]) rfl ?_
    have hp := HP.out
    refine ⟨_, _, _, _, [], [], _, _, by rw [hp], by rw [hp]; exact sown_zero _ _, (Below.refl _ _).alloc (Nat.le_refl _) _⟩
  · have HA : Hid (At ((w.alloc zO).alloc (rO a len cap)) (w.heap.size + 1) a len cap zs (0, 0) (gl 0 0 0 0 (.slice none 0 0) (.slice none 0 0) 0 0 (.slice none 0 0) 0 0 0 0 (.slice none 0 0) 0)) := at_start a zs len cap w hb hl (by omega) hlc hcm hc hn
    have HT2 : Hid (Tab ((w.alloc zO).alloc (rO a len cap))) := HT.out.below (((Below.refl _ w).alloc (Nat.le_refl _) _).alloc (by simp) _) hw0
    have HL : Hid (zs.length ≤ 8192) := by unfold Hid; omega
    clear hb hl hlc hcm hc hn HT
    go_enter Tryd.func17, Tryd.ntmps17
    go_wp2_with fail
    refine (segment_at HA.out HT2.out (by omega)).mono ?_
    rintro e w2 ⟨s, hv, tv, dv, cv, hx, tx, B1, B2, h, st, rfl, ha, hso, hg, hs⟩
    have HA2 : Hid (At w2 (w.heap.size + 1) a len cap zs st (gl h s.typ s.org s.num hv tv s.srv s.off dv s.chk s.rep s.upp s.low cv s.rsn)) := ha
    have HSO : Hid (SOwn w2 (w.heap.size + 2) s hv tv dv cv hx tx B1 B2) := by
      have : ((w.alloc zO).alloc (rO a len cap)).heap.size = w.heap.size + 2 := by simp
      rw [this] at hso; exact hso
    have HG : Hid (((w.alloc zO).alloc (rO a len cap)).grownBy w2 (some (w.heap.size + 1))) := hg
    have HS : Hid (Step zs segp (0, 0) s st) := hs
    have hR : w2.heap[w.heap.size]? = some zO := by
      rw [hg.block w.heap.size (by simp; omega) (by simp)]
      rw [Below.heap_alloc _ _ _ (by simp)]
      exact heap_alloc_new' _ _
    clear ha hso hg hs HA HT2
    go_wp2_with fail
    refine (rest_any _ len cap a st _ zs _ HA2.out.cur HA2.out.src HA2.out.place).mono ?_
    rintro e w3 ⟨a', c, k, rfl, rfl, hlies, hnil, hlc, hcm, hap⟩
    clear hlies hnil hlc hcm hap
    by_cases hf : st.1 = 0
    · by_cases hz : zs.drop st.2 = []
      · have hlen : (left zs st).length = 0 := by unfold left; rw [if_pos hf, hz]; rfl
        have HP : Hid (prs zs = (0, s)) := by unfold Hid; rw [prs_good HL.out HS.out hf, if_pos hz]
        rw [hlen]
        have hfb : (st.1 != 0) = false := by simp [hf]
        clear hf
        go_wp2_with fail
        refine (failed_any _ len cap a st _ _ (cur_drewN HA2.out.cur k)).mono ?_
        rintro e w3 ⟨rfl, rfl⟩
        rw [hfb]
        have HRG : Hid ((w2.drewN k).rangeAt (w.heap.size + 1) 4 [.int .i64 s.typ, .int .i64 s.org, .int .i64 s.num, hv, tv, .int .i64 s.srv, .int .i64 s.off, dv, .int .i64 s.chk, .int .i64 s.rep, .int .i64 s.upp, .int .i64 s.low, cv, .int .i64 s.rsn]) := by
          intro j v hv
          have h1 := HA2.out.cell (j + 1) (u := v) (by simpa [gl] using hv)
          rw [show 4 + j = j + 1 + 3 from by omega]; exact h1
        have HRR : Hid ((w2.drewN k).heap[w.heap.size]? = some zO) := hR
        have HR2 : Hid (((w2.drewN k).setRow w.heap.size ([.int .i64 s.typ, .int .i64 s.org, .int .i64 s.num, hv, tv, .int .i64 s.srv, .int .i64 s.off, dv, .int .i64 s.chk, .int .i64 s.rep, .int .i64 s.upp, .int .i64 s.low, cv, .int .i64 s.rsn]).toArray).heap[w.heap.size]? = some (.cells ([.int .i64 s.typ, .int .i64 s.org, .int .i64 s.num, hv, tv, .int .i64 s.srv, .int .i64 s.off, dv, .int .i64 s.chk, .int .i64 s.rep, .int .i64 s.upp, .int .i64 s.low, cv, .int .i64 s.rsn]).toArray 28 (0, 0))) := setRow_heap _ _ _ _ _ _ hR
        obtain ⟨ah, ch, rfl⟩ := own_shape HSO.out.head.row
        obtain ⟨at', ct, rfl⟩ := own_shape HSO.out.tail.row
        obtain ⟨ad, cd, rfl⟩ := own_shape HSO.out.data
        obtain ⟨ac, cc, rfl⟩ := own_shape HSO.out.clm
        clear hR
        go_wp2_with (refine wpList_load_mid rfl 28 _ rfl (w.heap.size + 1) 4 rfl _ _ HRG.out Tryd.underlying28 rfl Tryd.size_seg ?_; refine wpList_store_row rfl 28 _ _ rfl w.heap.size _ rfl rfl 28 _ HRR.out Tryd.size_seg rfl (by simp [Value.oneCell']) ?_)
        have hlv := fun j => cell_of_row _ w.heap.size j _ _ _ HR2.out
        refine bodyPost_ret (v := .tuple #[sv s (.slice ah hx.length ch) (.slice at' tx.length ct) (.slice ad s.data.length cd) (.slice ac s.clm.length cc), .int .i64 0]) (by simp [results, Tryd.results17, go_sem, sv, hlv]) rfl ?_
        have hbel : Below w.heap.size w w2 := by
          refine (((Below.refl _ w).alloc (Nat.le_refl _) zO).alloc (by simp) (rO a len cap)).grown HG.out (by simp; omega) (by simp)
        have hgr : (w2.drewN k).grownBy ((w2.drewN k).setRow w.heap.size ([.int .i64 s.typ, .int .i64 s.org, .int .i64 s.num, .slice ah hx.length ch, .slice at' tx.length ct, .int .i64 s.srv, .int .i64 s.off, .slice ad s.data.length cd, .int .i64 s.chk, .int .i64 s.rep, .int .i64 s.upp, .int .i64 s.low, .slice ac s.clm.length cc, .int .i64 s.rsn]).toArray) (some w.heap.size) := grown_setRow _ _ _
        have hp := HP.out
        refine ⟨_, _, _, _, hx, tx, B1, B2, by rw [hp], ?_, ?_⟩
        · rw [hp]
          exact sown_step HSO.out hgr
        · exact (hbel.trans (below_drewN _ _ _)).grown hgr hbel.size (by simp)
      · have hlen : ((left zs st).length : Int) > 0 := by
          have : left zs st = zs.drop st.2 := by unfold left; rw [if_pos hf]
          rw [this]
          have := List.length_pos_iff.mpr hz
          omega
        have HP : Hid (prs zs = (24, sg0)) := by unfold Hid; rw [prs_good HL.out HS.out hf, if_neg hz]
        obtain ⟨q, hq⟩ : ∃ q, (left zs st).length = q + 1 := ⟨(left zs st).length - 1, by omega⟩
        rw [hq]
        have hq0 : (0 : Int) < (q : Int) + 1 := by omega
        go_wp2_with fail
        refine (fail_at (w := w2.drewN k) 24 (by omega) (HA2.out.keep (below_drewN _ _ _))).mono ?_
        rintro e w3 ⟨rfl, ha3, hg3⟩
        rw [if_pos hf] at ha3
        have HA3 : Hid (At w3 (w.heap.size + 1) a len cap zs (24, st.2) (gl h s.typ s.org s.num hv tv s.srv s.off dv s.chk s.rep s.upp s.low cv s.rsn)) := ha3
        have HG3 : Hid ((w2.drewN k).grownBy w3 (some (w.heap.size + 1))) := hg3
        have hR3 : w3.heap[w.heap.size]? = some zO := by
          rw [hg3.block w.heap.size ?_ (by simp)]
          · exact hR
          · rcases Nat.lt_or_ge w.heap.size w2.heap.size with q | q
            · exact q
            · rw [Array.getElem?_eq_none q] at hR; cases hR
        have c2 := ha3.cur.c2
        have r0 : w3.cell? ⟨w.heap.size, 0, none⟩ = some (.int .i64 0) := by simp [World.cell?, hR3]
        have f0 : w3.frozen? ⟨w.heap.size, 0, none⟩ = false := by simp [World.frozen?, hR3]
        have r1 : w3.cell? ⟨w.heap.size, 1, none⟩ = some (.int .i64 0) := by simp [World.cell?, hR3]
        have f1 : w3.frozen? ⟨w.heap.size, 1, none⟩ = false := by simp [World.frozen?, hR3]
        have r2 : w3.cell? ⟨w.heap.size, 2, none⟩ = some (.int .i64 0) := by simp [World.cell?, hR3]
        have f2 : w3.frozen? ⟨w.heap.size, 2, none⟩ = false := by simp [World.frozen?, hR3]
        have r3 : w3.cell? ⟨w.heap.size, 3, none⟩ = some (.slice none 0 0) := by simp [World.cell?, hR3]
        have f3 : w3.frozen? ⟨w.heap.size, 3, none⟩ = false := by simp [World.frozen?, hR3]
        have r4 : w3.cell? ⟨w.heap.size, 4, none⟩ = some (.slice none 0 0) := by simp [World.cell?, hR3]
        have f4 : w3.frozen? ⟨w.heap.size, 4, none⟩ = false := by simp [World.frozen?, hR3]
        have r5 : w3.cell? ⟨w.heap.size, 5, none⟩ = some (.int .i64 0) := by simp [World.cell?, hR3]
        have f5 : w3.frozen? ⟨w.heap.size, 5, none⟩ = false := by simp [World.frozen?, hR3]
        have r6 : w3.cell? ⟨w.heap.size, 6, none⟩ = some (.int .i64 0) := by simp [World.cell?, hR3]
        have f6 : w3.frozen? ⟨w.heap.size, 6, none⟩ = false := by simp [World.frozen?, hR3]
        have r7 : w3.cell? ⟨w.heap.size, 7, none⟩ = some (.slice none 0 0) := by simp [World.cell?, hR3]
        have f7 : w3.frozen? ⟨w.heap.size, 7, none⟩ = false := by simp [World.frozen?, hR3]
        have r8 : w3.cell? ⟨w.heap.size, 8, none⟩ = some (.int .i64 0) := by simp [World.cell?, hR3]
        have f8 : w3.frozen? ⟨w.heap.size, 8, none⟩ = false := by simp [World.frozen?, hR3]
        have r9 : w3.cell? ⟨w.heap.size, 9, none⟩ = some (.int .i64 0) := by simp [World.cell?, hR3]
        have f9 : w3.frozen? ⟨w.heap.size, 9, none⟩ = false := by simp [World.frozen?, hR3]
        have r10 : w3.cell? ⟨w.heap.size, 10, none⟩ = some (.int .i64 0) := by simp [World.cell?, hR3]
        have f10 : w3.frozen? ⟨w.heap.size, 10, none⟩ = false := by simp [World.frozen?, hR3]
        have r11 : w3.cell? ⟨w.heap.size, 11, none⟩ = some (.int .i64 0) := by simp [World.cell?, hR3]
        have f11 : w3.frozen? ⟨w.heap.size, 11, none⟩ = false := by simp [World.frozen?, hR3]
        have r12 : w3.cell? ⟨w.heap.size, 12, none⟩ = some (.slice none 0 0) := by simp [World.cell?, hR3]
        have f12 : w3.frozen? ⟨w.heap.size, 12, none⟩ = false := by simp [World.frozen?, hR3]
        have r13 : w3.cell? ⟨w.heap.size, 13, none⟩ = some (.int .i64 0) := by simp [World.cell?, hR3]
        have f13 : w3.frozen? ⟨w.heap.size, 13, none⟩ = false := by simp [World.frozen?, hR3]
        clear ha3 hg3 hR
        go_wp2_with fail
        refine (failed_any _ len cap a (24, st.2) _ _ HA3.out.cur).mono ?_
        rintro e w4 ⟨rfl, rfl⟩
        rw [show (((24 : Int), st.2).1 != 0) = true from rfl]
        go_wp2_with fail
        go_region
        go_wp2
        change bodyPost _ _ _ _ _ (chz w3 w.heap.size).drew
        have hlv := fun j => cell_of_row _ w.heap.size j _ _ _ (chz_heap w3 w.heap.size hR3)
        have hcg := chz_grown w3 w.heap.size
        generalize chz w3 w.heap.size = W9 at *
        clear r0 f0 r1 f1 r2 f2 r3 f3 r4 f4 r5 f5 r6 f6 r7 f7 r8 f8 r9 f9 r10 f10 r11 f11 r12 f12 r13 f13
        refine bodyPost_ret (v := .tuple #[sv sg0 (.slice none 0 0) (.slice none 0 0) (.slice none 0 0) (.slice none 0 0), .int .i64 24]) (by simp [results, Tryd.results17, go_sem, sv, sg0, hlv]) rfl ?_
        have hbel : Below w.heap.size w w2 := by
          refine (((Below.refl _ w).alloc (Nat.le_refl _) zO).alloc (by simp) (rO a len cap)).grown HG.out (by simp; omega) (by simp)
        have hp := HP.out
        refine ⟨_, _, _, _, [], [], _, _, by rw [hp], by rw [hp]; exact sown_zero _ _, ?_⟩
        exact ((hbel.trans (below_drewN _ _ _)).grown HG3.out hbel.size (by simp)).trans (((Below.refl _ _).grown hcg (by have := hbel.size; have := HG3.out.size; exact Nat.le_trans ‹_› ‹_›) (by simp)).drew)
    · have hlen : (left zs st).length = 0 := by unfold left; rw [if_neg hf]; rfl
      have HP : Hid (prs zs = (st.1, sg0)) := prs_bad HL.out HS.out hf
      rw [hlen]
      have hfb : (st.1 != 0) = true := by simp [hf]
      have c2 := HA2.out.cur.c2
      clear hf
      have r0 : w2.cell? ⟨w.heap.size, 0, none⟩ = some (.int .i64 0) := by simp [World.cell?, hR]
      have f0 : w2.frozen? ⟨w.heap.size, 0, none⟩ = false := by simp [World.frozen?, hR]
      have r1 : w2.cell? ⟨w.heap.size, 1, none⟩ = some (.int .i64 0) := by simp [World.cell?, hR]
      have f1 : w2.frozen? ⟨w.heap.size, 1, none⟩ = false := by simp [World.frozen?, hR]
      have r2 : w2.cell? ⟨w.heap.size, 2, none⟩ = some (.int .i64 0) := by simp [World.cell?, hR]
      have f2 : w2.frozen? ⟨w.heap.size, 2, none⟩ = false := by simp [World.frozen?, hR]
      have r3 : w2.cell? ⟨w.heap.size, 3, none⟩ = some (.slice none 0 0) := by simp [World.cell?, hR]
      have f3 : w2.frozen? ⟨w.heap.size, 3, none⟩ = false := by simp [World.frozen?, hR]
      have r4 : w2.cell? ⟨w.heap.size, 4, none⟩ = some (.slice none 0 0) := by simp [World.cell?, hR]
      have f4 : w2.frozen? ⟨w.heap.size, 4, none⟩ = false := by simp [World.frozen?, hR]
      have r5 : w2.cell? ⟨w.heap.size, 5, none⟩ = some (.int .i64 0) := by simp [World.cell?, hR]
      have f5 : w2.frozen? ⟨w.heap.size, 5, none⟩ = false := by simp [World.frozen?, hR]
      have r6 : w2.cell? ⟨w.heap.size, 6, none⟩ = some (.int .i64 0) := by simp [World.cell?, hR]
      have f6 : w2.frozen? ⟨w.heap.size, 6, none⟩ = false := by simp [World.frozen?, hR]
      have r7 : w2.cell? ⟨w.heap.size, 7, none⟩ = some (.slice none 0 0) := by simp [World.cell?, hR]
      have f7 : w2.frozen? ⟨w.heap.size, 7, none⟩ = false := by simp [World.frozen?, hR]
      have r8 : w2.cell? ⟨w.heap.size, 8, none⟩ = some (.int .i64 0) := by simp [World.cell?, hR]
      have f8 : w2.frozen? ⟨w.heap.size, 8, none⟩ = false := by simp [World.frozen?, hR]
      have r9 : w2.cell? ⟨w.heap.size, 9, none⟩ = some (.int .i64 0) := by simp [World.cell?, hR]
      have f9 : w2.frozen? ⟨w.heap.size, 9, none⟩ = false := by simp [World.frozen?, hR]
      have r10 : w2.cell? ⟨w.heap.size, 10, none⟩ = some (.int .i64 0) := by simp [World.cell?, hR]
      have f10 : w2.frozen? ⟨w.heap.size, 10, none⟩ = false := by simp [World.frozen?, hR]
      have r11 : w2.cell? ⟨w.heap.size, 11, none⟩ = some (.int .i64 0) := by simp [World.cell?, hR]
      have f11 : w2.frozen? ⟨w.heap.size, 11, none⟩ = false := by simp [World.frozen?, hR]
      have r12 : w2.cell? ⟨w.heap.size, 12, none⟩ = some (.slice none 0 0) := by simp [World.cell?, hR]
      have f12 : w2.frozen? ⟨w.heap.size, 12, none⟩ = false := by simp [World.frozen?, hR]
      have r13 : w2.cell? ⟨w.heap.size, 13, none⟩ = some (.int .i64 0) := by simp [World.cell?, hR]
      have f13 : w2.frozen? ⟨w.heap.size, 13, none⟩ = false := by simp [World.frozen?, hR]
      go_wp2_with fail
      refine (failed_any _ len cap a st _ _ (cur_drewN HA2.out.cur k)).mono ?_
      rintro e w3 ⟨rfl, rfl⟩
      rw [hfb]
      go_wp2_with fail
      go_region
      go_wp2
      change bodyPost _ _ _ _ _ (chz (w2.drewN (k + 1)) w.heap.size)
      have hlv := fun j => cell_of_row _ w.heap.size j _ _ _ (chz_heap (w2.drewN (k + 1)) w.heap.size hR)
      have hcg := chz_grown (w2.drewN (k + 1)) w.heap.size
      generalize chz (w2.drewN (k + 1)) w.heap.size = W9 at *
      clear r0 f0 r1 f1 r2 f2 r3 f3 r4 f4 r5 f5 r6 f6 r7 f7 r8 f8 r9 f9 r10 f10 r11 f11 r12 f12 r13 f13
      refine bodyPost_ret (v := .tuple #[sv sg0 (.slice none 0 0) (.slice none 0 0) (.slice none 0 0) (.slice none 0 0), .int .i64 st.1]) (by simp [results, Tryd.results17, go_sem, sv, sg0, hlv]) rfl ?_
      have hbel : Below w.heap.size w w2 := by
        refine (((Below.refl _ w).alloc (Nat.le_refl _) zO).alloc (by simp) (rO a len cap)).grown HG.out (by simp; omega) (by simp)
      have hp := HP.out
      refine ⟨_, _, _, _, [], [], _, _, by rw [hp], by rw [hp]; exact sown_zero _ _, ?_⟩
      exact (hbel.trans (below_drewN _ _ _)).grown hcg hbel.size (by simp)

end Go.Proofs.YtkkmoplijicmpabDoor
