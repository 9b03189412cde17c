import Derived.Test.YtlagadpfnkidjadDoorBkRfA
import Derived.Test.YtlagadpfnkidjadDoorLnt
import Derived.Test.YtlagadpfnkidjadDoorBkSap
namespace Go.Proofs.YtlagadpfnkidjadDoor
open Go.RowKit

abbrev gpC (k : Pk) (a : Option Addr) (n cap : Nat) (c r : Int) : Array Value := #[.int .i64 k.org, .int .i64 k.num, .int .i64 k.srv, .int .i64 k.size, .int .i64 k.red, .int .i64 k.mtu, .int .i64 k.every, .slice a n cap, .int .i64 c, .int .i64 r]

def mk3 (l : List (Int × Int)) : List (Int × Int) := l ++ [(-71, -72), (-71, -72), (-71, -72)]
theorem mk3_len (l : List (Int × Int)) : (mk3 l).length = l.length + 3 := by simp [mk3]
def dcr (t : Int) : Int := IntKind.i64.wrap (t - 1)
def dec1 (l : List (Int × Int)) : List (Int × Int) := l.map fun p => (p.1, dcr p.2)
theorem dec1_len (l : List (Int × Int)) : (dec1 l).length = l.length := by simp [dec1]
theorem dec1_take (l : List (Int × Int)) : (dec1 (mk3 l)).take l.length = dec1 l := by
  unfold dec1 mk3; rw [List.map_append, List.take_left' (by simp)]
theorem mk3_lo {l : List (Int × Int)} {i : Nat} (h : i < l.length) : (mk3 l)[i]? = l[i]? := by unfold mk3; rw [List.getElem?_append_left h]
theorem mk3_hi {l : List (Int × Int)} {i : Nat} (h : l.length ≤ i) (h2 : i < l.length + 3) : (mk3 l)[i]? = some (-71, -72) := by
  unfold mk3; rw [List.getElem?_append_right h]
  have : i - l.length = 0 ∨ i - l.length = 1 ∨ i - l.length = 2 := by omega
  rcases this with e | e | e <;> rw [e] <;> rfl

/-- The head of a row of one's own, as a list. -/
theorem ls_hd {W : World} {base g cap N n c : Nat} {L : List (Int × Int)} (h : C.SOwn W base (.slice (some ⟨g, 0, none⟩) N cap) L) (hc : n ≤ c) (hc2 : c ≤ 9223372036854775807) {l : List (Int × Int)} (hl : L.take n = l) (hln : l.length = n) : C.Ls W (.slice (some ⟨g, 0, none⟩) l.length c) l := by
  refine ⟨⟨some ⟨g, 0, none⟩, c, rfl, ?_, by omega, hc2⟩, by omega⟩
  rcases h.spa with h0 | ⟨g', off, ha, hcell⟩
  · left; rw [← hl, h0]; simp
  · right
    refine ⟨g', off, ha, fun i p hp => ?_⟩
    rw [← hl, List.getElem?_take] at hp
    split at hp
    · exact hcell i p hp
    · cases hp
theorem sput {W : World} {base g cap n k : Nat} {L : List (Int × Int)} {x y t : Int} (h : C.SOwn W base (.slice (some ⟨g, 0, none⟩) n cap) L) (hk : L[k]? = some (x, y)) : C.SOwn (W.setCell ⟨g, k * 2 + 1, none⟩ (.int .i64 t)) base (.slice (some ⟨g, 0, none⟩) n cap) (L.set k (x, t)) := by
  have hkl : k < L.length := (List.getElem?_eq_some_iff.mp hk).1
  have hn := h.lenEq
  subst hn
  have h2 := (World.ownsRow.stored h (k * 2 + 1) (.int .i64 t)).1
  have e : (L.flatMap C.spc).set (k * 2 + 1) (.int .i64 t) = (L.set k (x, t)).flatMap C.spc := by
    rw [← C.spc_put]
    congr 1
    obtain ⟨hj, ej⟩ := List.getElem?_eq_some_iff.mp (C.spc_get L k _ hk).1
    rw [← ej]; exact (List.set_getElem_self hj).symm
  rw [e] at h2
  unfold C.SOwn
  rw [List.length_set]
  exact h2

theorem POwn.same {w w' : World} {base : Nat} {v : Value} {l : List Pc} (h : POwn w base v l) (hb : ∀ g, base ≤ g → g < w.heap.size → w'.heap[g]? = w.heap[g]?) : POwn w' base v l := by
  refine ⟨h.1, ?_⟩
  rcases h.2 with q | ⟨g, cap, cur, hv, h1, h2, h3⟩
  · exact .inl q
  · exact .inr ⟨g, cap, cur, hv, h1, (hb g h1 (World.ownsRow.lt h g (by rw [hv]; rfl)).2).trans h2, h3⟩

set_option maxRecDepth 100000 in
set_option maxHeartbeats 32000000 in
theorem agains_walk (k : Pk) (gs : List (Int × Int)) (c r : Int) (a : Option Addr) (n cap : Nat) (w : World) (hT : Tab w) (hn : gs.length = n) (hs : C.Ls w (.slice a gs.length cap) gs) (hm : n ≤ 1048576) :
    Calls Tryd.prog 5 #[.agg (gpC k a n cap c r)] w fun e w' => e = .returned (.bool true) ∧ Below w.heap.size w w' := by
  obtain ⟨i0, hi, hz0, hz1, hz2⟩ := info_parts C.Tryd.info_span
  have HT : Hid (∀ W, Below w.heap.size w W → Tab W) := fun W hW => hT.below hW (tab_pos hT)
  have HNN : Hid (gs.length = n) := hn
  have HS : Hid (∀ W, Below w.heap.size w W → C.Ls W (.slice a n cap) gs) := fun W hW => by have := hs.below hW; rw [hn] at this; exact this
  have HW0 : Hid (Below w.heap.size w (w.alloc (.cells (gpC k a n cap c r) 40))) := (Below.refl _ _).alloc (Nat.le_refl _) _
  have hA := awake4_any (w.alloc (.cells (gpC k a n cap c r) 40)) (HT.out _ HW0.out)
  have HX0 : Hid ((w.alloc (.cells (gpC k a n cap c r) 40)).heap[w.heap.size]? = some (.cells (gpC k a n cap c r) 40)) := heap_alloc_new' w _
  have HM3 : Hid ((mk3 gs).length = n + 3) := by unfold Hid; rw [mk3_len, hn]
  have HAG : Hid (∀ (l : List (Int × Int)) (aa : Option Addr) (cc : Nat) W, Below w.heap.size w W → l.length = n → C.Ls W (.slice aa l.length cc) l → Calls Tryd.prog 15 #[.agg #[.int .i64 k.org, .int .i64 k.num], .agg #[.int .i64 k.srv, .int .i64 k.size, .int .i64 k.red, .int .i64 k.mtu, .int .i64 k.every], .slice aa n cc, .int .i64 c, .int .i64 r] W (CutPost (ag k l c r) W)) := fun l aa cc W hW hl h => by
    have := again_any k l c r aa cc W (HT.out W hW) h
    rw [hl] at this; exact this
  have HAR : Hid (∀ (l : List (Int × Int)) (aa : Option Addr) (cc : Nat) W, l.length = n → C.Ls W (.slice aa l.length cc) l → Calls Tryd.prog 16 #[.agg #[.int .i64 k.org, .int .i64 k.num], .agg #[.int .i64 k.srv, .int .i64 k.size, .int .i64 k.red, .int .i64 k.mtu, .int .i64 k.every], .slice aa n cc, .int .i64 c, .int .i64 r] W (CutPost (ag k l c r) W)) := fun l aa cc W hl h => by
    have := again2_any k l c r aa cc W h
    rw [hl] at this; exact this
  have HC1 := HAG.out gs
  have HC2 := HAG.out (dec1 gs)
  have HD1 := HAR.out gs
  have HD2 := HAR.out (dec1 gs)
  have L1 := ag_len k gs c r
  have L2 := ag_len k (dec1 gs) c r
  generalize ag k gs c r = R1 at *
  generalize ag k (dec1 gs) c r = R2 at *
  obtain ⟨l, er⟩ := R1
  obtain ⟨l', er'⟩ := R2
  simp only at L1 L2
  have HC1' : Hid (∀ (aa : Option Addr) (cc : Nat) W, Below w.heap.size w W → gs.length = n → C.Ls W (.slice aa gs.length cc) gs → Calls Tryd.prog 15 #[.agg #[.int .i64 k.org, .int .i64 k.num], .agg #[.int .i64 k.srv, .int .i64 k.size, .int .i64 k.red, .int .i64 k.mtu, .int .i64 k.every], .slice aa n cc, .int .i64 c, .int .i64 r] W (CutPost (l, er) W)) := HC1
  have HC2' : Hid (∀ (aa : Option Addr) (cc : Nat) W, Below w.heap.size w W → (dec1 gs).length = n → C.Ls W (.slice aa (dec1 gs).length cc) (dec1 gs) → Calls Tryd.prog 15 #[.agg #[.int .i64 k.org, .int .i64 k.num], .agg #[.int .i64 k.srv, .int .i64 k.size, .int .i64 k.red, .int .i64 k.mtu, .int .i64 k.every], .slice aa n cc, .int .i64 c, .int .i64 r] W (CutPost (l', er') W)) := HC2
  have HD1' : Hid (∀ (aa : Option Addr) (cc : Nat) W, gs.length = n → C.Ls W (.slice aa gs.length cc) gs → Calls Tryd.prog 16 #[.agg #[.int .i64 k.org, .int .i64 k.num], .agg #[.int .i64 k.srv, .int .i64 k.size, .int .i64 k.red, .int .i64 k.mtu, .int .i64 k.every], .slice aa n cc, .int .i64 c, .int .i64 r] W (CutPost (l, er) W)) := HD1
  have HD2' : Hid (∀ (aa : Option Addr) (cc : Nat) W, (dec1 gs).length = n → C.Ls W (.slice aa (dec1 gs).length cc) (dec1 gs) → Calls Tryd.prog 16 #[.agg #[.int .i64 k.org, .int .i64 k.num], .agg #[.int .i64 k.srv, .int .i64 k.size, .int .i64 k.red, .int .i64 k.mtu, .int .i64 k.every], .slice aa n cc, .int .i64 c, .int .i64 r] W (CutPost (l', er') W)) := HD2
  clear HC1 HC2 HD1 HD2 HAG HAR
  clear hT hs hn
  go_enter Tryd.func5, Tryd.ntmps5
  go_wp2_with fail
  refine hA.mono ?_
  rintro e w1 ⟨rfl, hb1⟩
  have HW1 : Hid (Below w.heap.size w w1) := HW0.out.trans (hb1.mono HW0.out.size)
  have HX1 : Hid (w1.heap[w.heap.size]? = some (.cells (gpC k a n cap c r) 40)) := (hb1.block _ (by simp)).trans HX0.out
  have HZ1 : Hid (w.heap.size < w1.heap.size) := (Array.getElem?_eq_some_iff.mp HX1.out).1
  clear hA hb1 HX0 HW0
  have a7 : w1.cell? ⟨w.heap.size, 7, none⟩ = some (.slice a n cap) := cell_of_row _ _ 7 _ _ _ HX1.out
  obtain ⟨N3, hN3⟩ : ∃ N3, N3 = n + 3 := ⟨_, rfl⟩
  rw [← hN3] at HM3
  have hN3a : n + 3 ≤ N3 := by omega
  have hN3b : N3 ≤ n + 3 := by omega
  have hN3c : ((n : Nat) : Int) ≤ (N3 : Int) := by omega
  clear hN3
  have HX : Hid (∀ W, Below w1.heap.size w1 W → W.heap[w.heap.size]? = some (.cells (gpC k a n cap c r) 40)) := fun W hW => (hW.block _ HZ1.out).trans HX1.out
  go_wp2_with (first
    | (at_make
       refine wpList_make_full _ rfl _ _ 38 rfl w1.heap.size 42 i0 (.agg #[.int .i64 0, .int .i64 0]) 2 Tryd.underlying38 hi hz0 hz1 .i64 .i64 _ _ N3 rfl rfl (by omega) (by omega) (by rw [hz2]; omega) (by unfold maxLen; omega) (Nat.le_refl _) ?_
       intro w2 hown2 hgrow2
       have HY2 : Hid (Below w1.heap.size w1 w2) := (Below.refl _ _).grown hgrow2 (Nat.le_refl _) (by intro j hj; cases hj)
       have HO2 : Hid (C.SOwn w2 w1.heap.size (.slice (some ⟨w1.heap.size, 0, none⟩) N3 N3) (List.replicate N3 (0, 0))) := by
         rw [C.made_spans] at hown2; unfold Hid C.SOwn; rw [List.length_replicate]; exact hown2
       have b7 : w2.cell? ⟨w.heap.size, 7, none⟩ = some (.slice a n cap) := cell_of_row _ _ 7 _ _ _ (HX.out w2 HY2.out)
       clear hown2 hgrow2)
    | (refine C.wpList_copy_spans rfl (.tmp 29) (.tmp 31) 38 38 rfl Tryd.underlying38 (by kernel_rfl) w1.heap.size N3 N3 w1.heap.size (List.replicate N3 (0, 0)) gs (.slice a n cap) rfl rfl HO2.out (HS.out w2 (HW1.out.trans (HY2.out.mono HW1.out.size))) (by rw [HNN.out]; omega) ?_
       intro w3 ho3 hg3
       have HO3 : Hid (C.SOwn w3 w1.heap.size (.slice (some ⟨w1.heap.size, 0, none⟩) N3 N3) ((mk3 gs).take n ++ (List.replicate N3 ((0 : Int), (0 : Int))).drop n)) := by
         have := ho3
         rw [HNN.out] at this
         rw [show (mk3 gs).take n = gs by unfold mk3; rw [List.take_left' HNN.out]]
         exact this
       have HY3 : Hid (Below w1.heap.size w1 w3) := HY2.out.grown hg3 HY2.out.size (fun j hj => by simp at hj; omega)
       have HZ3 : Hid (w1.heap.size < w3.heap.size) := (C.SOwn.lt ho3 _ rfl).2
       have c7 : (w3.alloc (.cells #[.int .i64 (-71), .int .i64 (-72)] 42)).cell? ⟨w.heap.size, 7, none⟩ = some (.slice a n cap) := cell_of_row _ _ 7 _ _ _ (heapA (HX.out w3 HY3.out) _)
       clear ho3 hg3 HO2 b7 HY2))
  have HMK3 : Hid ((w3.alloc (.cells #[.int .i64 (-71), .int .i64 (-72)] 42)).heap[w3.heap.size]? = some (.cells #[.int .i64 (-71), .int .i64 (-72)] 42)) := heap_alloc_new' _ _
  have HS3 : Hid (C.SOwn (w3.alloc (.cells #[.int .i64 (-71), .int .i64 (-72)] 42)) w1.heap.size (.slice (some ⟨w1.heap.size, 0, none⟩) N3 N3) ((mk3 gs).take n ++ (List.replicate N3 ((0 : Int), (0 : Int))).drop n)) := HO3.out.below ((Below.refl _ _).alloc (Nat.le_refl _) _)
  have HY3' : Hid (Below w1.heap.size w1 (w3.alloc (.cells #[.int .i64 (-71), .int .i64 (-72)] 42))) := HY3.out.alloc HY3.out.size _
  have hz13 : w1.heap.size ≠ w3.heap.size := by have := HZ3.out; omega
  clear HO3 HY3 c7
  go_loopw [6] (fun i wr => ∃ q : Nat, n ≤ q ∧ q ≤ N3 ∧ i = .int .i64 q ∧ C.SOwn wr w1.heap.size (.slice (some ⟨w1.heap.size, 0, none⟩) N3 N3) ((mk3 gs).take q ++ (List.replicate N3 ((0 : Int), (0 : Int))).drop q) ∧ (w3.alloc (.cells #[.int .i64 (-71), .int .i64 (-72)] 42)).grownBy wr (some w1.heap.size)) (fun i _ => N3 - (intOf i).toNat)
  case atStart => exact ⟨n, by omega, by omega, rfl, HS3.out, World.grownBy.refl _ _⟩
  case round =>
    obtain ⟨q, hq1, hq2, rfl, hso, hgr⟩ := hrel
    have HSo : Hid (C.SOwn wr w1.heap.size (.slice (some ⟨w1.heap.size, 0, none⟩) N3 N3) ((mk3 gs).take q ++ (List.replicate N3 ((0 : Int), (0 : Int))).drop q)) := hso
    have HG : Hid ((w3.alloc (.cells #[.int .i64 (-71), .int .i64 (-72)] 42)).grownBy wr (some w1.heap.size)) := hgr
    have HMK : Hid (wr.heap[w3.heap.size]? = some (.cells #[.int .i64 (-71), .int .i64 (-72)] 42)) := (hgr.block _ (by simp) (by simp; omega)).trans HMK3.out
    have HYw : Hid (Below w1.heap.size w1 wr) := HY3'.out.grown hgr HY3'.out.size (fun j hj => by simp at hj; omega)
    clear hso hgr HS3
    by_cases hlt : q < N3
    · have hlt' : (q : Int) < (N3 : Int) := by omega
      have hat : ((mk3 gs).take q ++ (List.replicate N3 ((0 : Int), (0 : Int))).drop q)[q]? = some (0, 0) := by
        rw [C.fill_at _ _ q (by rw [HM3.out]; exact hlt) (by rw [HM3.out]; simp), List.getElem?_replicate, if_pos hlt]
      obtain ⟨q1, q2, q3, q4⟩ := HSo.out.cells hat
      simp only at q1 q2
      have h2 := HSo.out.put (k := q) (-71) (-72)
      rw [C.fill_set (mk3 gs) _ q (-71, -72) (mk3_hi (by rw [HNN.out]; exact hq1) (by rw [HNN.out]; omega)) (by rw [HM3.out]; simp)] at h2
      have HS2 : Hid (C.SOwn ((wr.setCell ⟨w1.heap.size, q * 2, none⟩ (.int .i64 (-71))).setCell ⟨w1.heap.size, q * 2 + 1, none⟩ (.int .i64 (-72))) w1.heap.size (.slice (some ⟨w1.heap.size, 0, none⟩) N3 N3) ((mk3 gs).take (q + 1) ++ (List.replicate N3 ((0 : Int), (0 : Int))).drop (q + 1))) := h2
      have HG2 : Hid ((w3.alloc (.cells #[.int .i64 (-71), .int .i64 (-72)] 42)).grownBy ((wr.setCell ⟨w1.heap.size, q * 2, none⟩ (.int .i64 (-71))).setCell ⟨w1.heap.size, q * 2 + 1, none⟩ (.int .i64 (-72))) (some w1.heap.size)) := C.grown_trans HG.out (C.grown_put _ _ _ _ _)
      have m0 : wr.cell? ⟨w3.heap.size, 0, none⟩ = some (.int .i64 (-71)) := cell_of_row _ _ 0 _ _ _ HMK.out
      have m1 : wr.cell? ⟨w3.heap.size, 1, none⟩ = some (.int .i64 (-72)) := cell_of_row _ _ 1 _ _ _ HMK.out
      clear h2 hat HSo HG HMK HYw
      go_wp2
      go_roundw
      case rel => exact ⟨q + 1, by omega, by omega, by go_num, HS2.out, HG2.out⟩
      case measure => simp [intOf]; omega
    have hqe : q = N3 := by omega
    have HO4 : Hid (C.SOwn wr w1.heap.size (.slice (some ⟨w1.heap.size, 0, none⟩) N3 N3) (mk3 gs)) := by
      have := HSo.out
      rw [List.take_of_length_le (by rw [HM3.out]; omega), List.drop_eq_nil_of_le (by simp; omega), List.append_nil] at this
      exact this
    have hlt' : ¬ (q : Int) < (N3 : Int) := by omega
    obtain ⟨w4, hw4⟩ : ∃ x, x = wr := ⟨_, rfl⟩
    subst hw4
    have HW4 : Hid (Below w.heap.size w w4) := HW1.out.trans (HYw.out.mono HW1.out.size)
    have HY4 : Hid (Below w1.heap.size w1 w4) := HYw.out
    have HM4 : Hid (w4.heap[w3.heap.size]? = some (.cells #[.int .i64 (-71), .int .i64 (-72)] 42)) := HMK.out
    have hz3 : w3.heap.size < w4.heap.size := (Array.getElem?_eq_some_iff.mp HM4.out).1
    have HL4 : Hid (∀ W, C.SOwn W w1.heap.size (.slice (some ⟨w1.heap.size, 0, none⟩) N3 N3) (mk3 gs) → C.Ls W (.slice (some ⟨w1.heap.size, 0, none⟩) gs.length N3) gs) := fun W h => ls_hd h (by omega) (by omega) (by unfold mk3; rw [List.take_left' HNN.out]) HNN.out
    clear HSo HG HYw HMK HMK3 HY3'

    have a0 : w4.cell? ⟨w.heap.size, 0, none⟩ = some (.int .i64 k.org) := cell_of_row _ _ 0 _ _ _ (HX.out w4 HY4.out)
    have a1 : w4.cell? ⟨w.heap.size, 1, none⟩ = some (.int .i64 k.num) := cell_of_row _ _ 1 _ _ _ (HX.out w4 HY4.out)
    have a2 : w4.cell? ⟨w.heap.size, 2, none⟩ = some (.int .i64 k.srv) := cell_of_row _ _ 2 _ _ _ (HX.out w4 HY4.out)
    have a3 : w4.cell? ⟨w.heap.size, 3, none⟩ = some (.int .i64 k.size) := cell_of_row _ _ 3 _ _ _ (HX.out w4 HY4.out)
    have a4 : w4.cell? ⟨w.heap.size, 4, none⟩ = some (.int .i64 k.red) := cell_of_row _ _ 4 _ _ _ (HX.out w4 HY4.out)
    have a5 : w4.cell? ⟨w.heap.size, 5, none⟩ = some (.int .i64 k.mtu) := cell_of_row _ _ 5 _ _ _ (HX.out w4 HY4.out)
    have a6 : w4.cell? ⟨w.heap.size, 6, none⟩ = some (.int .i64 k.every) := cell_of_row _ _ 6 _ _ _ (HX.out w4 HY4.out)
    have a7 : w4.cell? ⟨w.heap.size, 7, none⟩ = some (.slice a n cap) := cell_of_row _ _ 7 _ _ _ (HX.out w4 HY4.out)
    have a8 : w4.cell? ⟨w.heap.size, 8, none⟩ = some (.int .i64 c) := cell_of_row _ _ 8 _ _ _ (HX.out w4 HY4.out)
    have a9 : w4.cell? ⟨w.heap.size, 9, none⟩ = some (.int .i64 r) := cell_of_row _ _ 9 _ _ _ (HX.out w4 HY4.out)
    go_wp2_with fail
    refine (HC1'.out (some ⟨w1.heap.size, 0, none⟩) N3 w4 HW4.out HNN.out (HL4.out w4 HO4.out)).mono ?_
    rintro e w5 ⟨v5, rfl, ho, hb⟩
    have HW5 : Hid (Below w.heap.size w w5) := HW4.out.trans (hb.mono HW4.out.size)
    have HY5 : Hid (Below w1.heap.size w1 w5) := HY4.out.trans (hb.mono HY4.out.size)
    have s5 : w4.heap.size ≤ w5.heap.size := hb.size
    have HO5 : Hid (C.SOwn w5 w1.heap.size (.slice (some ⟨w1.heap.size, 0, none⟩) N3 N3) (mk3 gs)) := HO4.out.below hb
    have HM5 : Hid (w5.heap[w3.heap.size]? = some (.cells #[.int .i64 (-71), .int .i64 (-72)] 42)) := (hb.block _ (Array.getElem?_eq_some_iff.mp HM4.out).1).trans HM4.out
    have p5 : Hid (∀ g, v5.ownBlock = some g → g < w5.heap.size) := fun g hg => (World.ownsRow.lt ho g hg).2
    have O5 : Hid (POwn w5 w4.heap.size v5 l) := ho
    clear ho a0 a1 a2 a3 a4 a5 a6 a7 a8 a9
    clear hb HW4 HY4 HO4 HM4
    have a0 : w5.cell? ⟨w.heap.size, 0, none⟩ = some (.int .i64 k.org) := cell_of_row _ _ 0 _ _ _ (HX.out w5 HY5.out)
    have a1 : w5.cell? ⟨w.heap.size, 1, none⟩ = some (.int .i64 k.num) := cell_of_row _ _ 1 _ _ _ (HX.out w5 HY5.out)
    have a2 : w5.cell? ⟨w.heap.size, 2, none⟩ = some (.int .i64 k.srv) := cell_of_row _ _ 2 _ _ _ (HX.out w5 HY5.out)
    have a3 : w5.cell? ⟨w.heap.size, 3, none⟩ = some (.int .i64 k.size) := cell_of_row _ _ 3 _ _ _ (HX.out w5 HY5.out)
    have a4 : w5.cell? ⟨w.heap.size, 4, none⟩ = some (.int .i64 k.red) := cell_of_row _ _ 4 _ _ _ (HX.out w5 HY5.out)
    have a5 : w5.cell? ⟨w.heap.size, 5, none⟩ = some (.int .i64 k.mtu) := cell_of_row _ _ 5 _ _ _ (HX.out w5 HY5.out)
    have a6 : w5.cell? ⟨w.heap.size, 6, none⟩ = some (.int .i64 k.every) := cell_of_row _ _ 6 _ _ _ (HX.out w5 HY5.out)
    have a7 : w5.cell? ⟨w.heap.size, 7, none⟩ = some (.slice a n cap) := cell_of_row _ _ 7 _ _ _ (HX.out w5 HY5.out)
    have a8 : w5.cell? ⟨w.heap.size, 8, none⟩ = some (.int .i64 c) := cell_of_row _ _ 8 _ _ _ (HX.out w5 HY5.out)
    have a9 : w5.cell? ⟨w.heap.size, 9, none⟩ = some (.int .i64 r) := cell_of_row _ _ 9 _ _ _ (HX.out w5 HY5.out)
    go_wp2_with fail
    refine (HC1'.out (some ⟨w1.heap.size, 0, none⟩) N3 w5 HW5.out HNN.out (HL4.out w5 HO5.out)).mono ?_
    rintro e w6 ⟨v6, rfl, ho, hb⟩
    have HW6 : Hid (Below w.heap.size w w6) := HW5.out.trans (hb.mono HW5.out.size)
    have HY6 : Hid (Below w1.heap.size w1 w6) := HY5.out.trans (hb.mono HY5.out.size)
    have s6 : w5.heap.size ≤ w6.heap.size := hb.size
    have HO6 : Hid (C.SOwn w6 w1.heap.size (.slice (some ⟨w1.heap.size, 0, none⟩) N3 N3) (mk3 gs)) := HO5.out.below hb
    have HM6 : Hid (w6.heap[w3.heap.size]? = some (.cells #[.int .i64 (-71), .int .i64 (-72)] 42)) := (hb.block _ (Array.getElem?_eq_some_iff.mp HM5.out).1).trans HM5.out
    replace O5 : Hid (POwn w6 w4.heap.size v5 l) := O5.out.below hb
    have p6 : Hid (∀ g, v6.ownBlock = some g → g < w6.heap.size) := fun g hg => (World.ownsRow.lt ho g hg).2
    have O6 : Hid (POwn w6 w5.heap.size v6 l) := ho
    clear ho a0 a1 a2 a3 a4 a5 a6 a7 a8 a9
    clear hb HW5 HY5 HO5 HM5
    have a0 : w6.cell? ⟨w.heap.size, 0, none⟩ = some (.int .i64 k.org) := cell_of_row _ _ 0 _ _ _ (HX.out w6 HY6.out)
    have a1 : w6.cell? ⟨w.heap.size, 1, none⟩ = some (.int .i64 k.num) := cell_of_row _ _ 1 _ _ _ (HX.out w6 HY6.out)
    have a2 : w6.cell? ⟨w.heap.size, 2, none⟩ = some (.int .i64 k.srv) := cell_of_row _ _ 2 _ _ _ (HX.out w6 HY6.out)
    have a3 : w6.cell? ⟨w.heap.size, 3, none⟩ = some (.int .i64 k.size) := cell_of_row _ _ 3 _ _ _ (HX.out w6 HY6.out)
    have a4 : w6.cell? ⟨w.heap.size, 4, none⟩ = some (.int .i64 k.red) := cell_of_row _ _ 4 _ _ _ (HX.out w6 HY6.out)
    have a5 : w6.cell? ⟨w.heap.size, 5, none⟩ = some (.int .i64 k.mtu) := cell_of_row _ _ 5 _ _ _ (HX.out w6 HY6.out)
    have a6 : w6.cell? ⟨w.heap.size, 6, none⟩ = some (.int .i64 k.every) := cell_of_row _ _ 6 _ _ _ (HX.out w6 HY6.out)
    have a7 : w6.cell? ⟨w.heap.size, 7, none⟩ = some (.slice a n cap) := cell_of_row _ _ 7 _ _ _ (HX.out w6 HY6.out)
    have a8 : w6.cell? ⟨w.heap.size, 8, none⟩ = some (.int .i64 c) := cell_of_row _ _ 8 _ _ _ (HX.out w6 HY6.out)
    have a9 : w6.cell? ⟨w.heap.size, 9, none⟩ = some (.int .i64 r) := cell_of_row _ _ 9 _ _ _ (HX.out w6 HY6.out)
    go_wp2_with fail
    refine (HD1'.out a cap w6 HNN.out (by have := HS.out w6 HW6.out; rw [HNN.out]; exact this)).mono ?_
    rintro e w7 ⟨v7, rfl, ho, hb⟩
    have HW7 : Hid (Below w.heap.size w w7) := HW6.out.trans (hb.mono HW6.out.size)
    have HY7 : Hid (Below w1.heap.size w1 w7) := HY6.out.trans (hb.mono HY6.out.size)
    have s7 : w6.heap.size ≤ w7.heap.size := hb.size
    have HO7 : Hid (C.SOwn w7 w1.heap.size (.slice (some ⟨w1.heap.size, 0, none⟩) N3 N3) (mk3 gs)) := HO6.out.below hb
    have HM7 : Hid (w7.heap[w3.heap.size]? = some (.cells #[.int .i64 (-71), .int .i64 (-72)] 42)) := (hb.block _ (Array.getElem?_eq_some_iff.mp HM6.out).1).trans HM6.out
    replace O5 : Hid (POwn w7 w4.heap.size v5 l) := O5.out.below hb
    replace O6 : Hid (POwn w7 w5.heap.size v6 l) := O6.out.below hb
    have O7 : Hid (POwn w7 w6.heap.size v7 l) := ho
    clear ho a0 a1 a2 a3 a4 a5 a6 a7 a8 a9
    clear hb HW6 HY6 HO6 HM6
    go_wp2_with fail
    refine (samepc_eq O5.out O7.out (by omega)).mono ?_
    rintro e w8 ⟨rfl, hb⟩
    have HW8 : Hid (Below w.heap.size w w8) := HW7.out.trans (hb.mono HW7.out.size)
    have HY8 : Hid (Below w1.heap.size w1 w8) := HY7.out.trans (hb.mono HY7.out.size)
    have s8 : w7.heap.size ≤ w8.heap.size := hb.size
    have HO8 : Hid (C.SOwn w8 w1.heap.size (.slice (some ⟨w1.heap.size, 0, none⟩) N3 N3) (mk3 gs)) := HO7.out.below hb
    have HM8 : Hid (w8.heap[w3.heap.size]? = some (.cells #[.int .i64 (-71), .int .i64 (-72)] 42)) := (hb.block _ (Array.getElem?_eq_some_iff.mp HM7.out).1).trans HM7.out
    replace O5 : Hid (POwn w8 w4.heap.size v5 l) := O5.out.below hb
    replace O6 : Hid (POwn w8 w5.heap.size v6 l) := O6.out.below hb
    replace O7 : Hid (POwn w8 w6.heap.size v7 l) := O7.out.below hb
    clear hb HW7 HY7 HO7 HM7
    go_wp2_with fail
    refine (samepc_eq O6.out O7.out (by omega)).mono ?_
    rintro e w9 ⟨rfl, hb⟩
    have HW9 : Hid (Below w.heap.size w w9) := HW8.out.trans (hb.mono HW8.out.size)
    have HY9 : Hid (Below w1.heap.size w1 w9) := HY8.out.trans (hb.mono HY8.out.size)
    have s9 : w8.heap.size ≤ w9.heap.size := hb.size
    have HO9 : Hid (C.SOwn w9 w1.heap.size (.slice (some ⟨w1.heap.size, 0, none⟩) N3 N3) (mk3 gs)) := HO8.out.below hb
    have HM9 : Hid (w9.heap[w3.heap.size]? = some (.cells #[.int .i64 (-71), .int .i64 (-72)] 42)) := (hb.block _ (Array.getElem?_eq_some_iff.mp HM8.out).1).trans HM8.out
    replace O5 : Hid (POwn w9 w4.heap.size v5 l) := O5.out.below hb
    replace O6 : Hid (POwn w9 w5.heap.size v6 l) := O6.out.below hb
    replace O7 : Hid (POwn w9 w6.heap.size v7 l) := O7.out.below hb
    clear hb HW8 HY8 HO8 HM8
    clear O7
    go_wp2_with fail
    go_loopw [16] (fun i wr => ∃ q : Nat, q ≤ N3 ∧ i = .int .i64 q ∧ C.SOwn wr w1.heap.size (.slice (some ⟨w1.heap.size, 0, none⟩) N3 N3) ((dec1 (mk3 gs)).take q ++ (mk3 gs).drop q) ∧ Below w1.heap.size w1 wr ∧ w9.heap.size ≤ wr.heap.size ∧ (∀ j, j < w9.heap.size → j ≠ w1.heap.size → wr.heap[j]? = w9.heap[j]?)) (fun i _ => N3 - (intOf i).toNat)
    case atStart => exact ⟨0, by omega, rfl, by simpa using HO9.out, HY9.out, Nat.le_refl _, fun _ _ _ => rfl⟩
    case round =>
      obtain ⟨q, hq2, rfl, hso, hyw, hsz, hbk⟩ := hrel
      have HSo : Hid (C.SOwn wr w1.heap.size (.slice (some ⟨w1.heap.size, 0, none⟩) N3 N3) ((dec1 (mk3 gs)).take q ++ (mk3 gs).drop q)) := hso
      have HYw : Hid (Below w1.heap.size w1 wr) := hyw
      have HBK : Hid (∀ j, j < w9.heap.size → j ≠ w1.heap.size → wr.heap[j]? = w9.heap[j]?) := hbk
      have HWw : Hid (Below w.heap.size w wr) := HW1.out.trans (hyw.mono HW1.out.size)
      clear hso hyw hbk
      have hlen : (dec1 (mk3 gs)).length = (mk3 gs).length := dec1_len _
      have HLen : Hid ((dec1 (mk3 gs)).length = (mk3 gs).length) := hlen
      by_cases hlt : q < N3
      · have hlt' : (q : Int) < (N3 : Int) := by omega
        obtain ⟨⟨p1, p2⟩, hp⟩ : ∃ p, (mk3 gs)[q]? = some p := ⟨_, List.getElem?_eq_getElem (by rw [HM3.out]; exact hlt)⟩
        have hat : ((dec1 (mk3 gs)).take q ++ (mk3 gs).drop q)[q]? = some (p1, p2) := by
          rw [C.fill_at _ _ q (by rw [hlen, HM3.out]; exact hlt) hlen]; exact hp
        obtain ⟨q1, q2, q3, q4⟩ := HSo.out.cells hat
        simp only at q1 q2
        have hA : (dec1 (mk3 gs))[q]? = some (p1, dcr p2) := by unfold dec1; rw [List.getElem?_map, hp]; rfl
        have HS2 : Hid (∀ nq, C.SOwn ((wr.drewN nq).setCell ⟨w1.heap.size, q * 2 + 1, none⟩ (.int .i64 (dcr p2))) w1.heap.size (.slice (some ⟨w1.heap.size, 0, none⟩) N3 N3) ((dec1 (mk3 gs)).take (q + 1) ++ (mk3 gs).drop (q + 1))) := fun nq => by
          have h2 := sput (t := dcr p2) (HSo.out.drewN nq) hat
          rw [C.fill_set _ _ q (p1, dcr p2) hA hlen] at h2
          exact h2
        have HB2 : Hid (∀ nq, Below w1.heap.size w1 ((wr.drewN nq).setCell ⟨w1.heap.size, q * 2 + 1, none⟩ (.int .i64 (dcr p2))) ∧ w9.heap.size ≤ ((wr.drewN nq).setCell ⟨w1.heap.size, q * 2 + 1, none⟩ (.int .i64 (dcr p2))).heap.size ∧ (∀ j, j < w9.heap.size → j ≠ w1.heap.size → ((wr.drewN nq).setCell ⟨w1.heap.size, q * 2 + 1, none⟩ (.int .i64 (dcr p2))).heap[j]? = w9.heap[j]?)) := fun nq =>
          ⟨(below_drewN HYw.out nq).setCell (Nat.le_refl _) _, by simp only [World.setCell, Array.size_modify]; exact hsz, fun j hj hne => (Below.heap_setCell _ _ _ _ (by simpa using hne)).trans (HBK.out j hj hne)⟩
        have hu : IntKind.i64.wrap (p2 - 1) = dcr p2 := rfl
        have hBX := HX.out wr HYw.out
        by_cases hqn : q < n
        · have hqn' : (q : Int) < (n : Int) := by omega
          have hge : decide ((n : Int) ≤ (q : Int)) = false := decide_eq_false (by omega)
          have hge2 : decide (n ≤ q) = false := decide_eq_false (by omega)
          have hgq : gs[q]? = some (p1, p2) := by rw [← mk3_lo (by rw [HNN.out]; exact hqn)]; exact hp
          obtain ⟨a', c', hv, hspa, _⟩ := (HS.out wr HWw.out).shape
          simp only [Value.slice.injEq] at hv
          obtain ⟨hv1, hvn, hv2⟩ := hv
          obtain ⟨G, off, ha, r1, r2⟩ := hspa.at hgq
          rw [ha] at hv1
          simp only at r1 r2
          have b7 : wr.cell? ⟨w.heap.size, 7, none⟩ = some (.slice (some ⟨G, off, none⟩) n cap) := by rw [← hv1]; exact cell_of_row _ _ 7 _ _ _ hBX
          clear hp hat hA HSo HYw HBK HWw hBX hgq hspa ha hv1 hv2 hvn hlen
          go_wp2_with fail
          go_quiet (fail)
          go_wp2
          go_roundw
          case rel => exact ⟨q + 1, by omega, by go_num, HS2.out _, (HB2.out _).1, (HB2.out _).2.1, (HB2.out _).2.2⟩
          case measure => simp [intOf]; omega
        · have hqn' : ¬ (q : Int) < (n : Int) := by omega
          have hqd : decide ((q : Int) < (n : Int)) = false := decide_eq_false hqn'
          have hqd2 : decide (q < n) = false := decide_eq_false (by omega)
          have hge : decide ((n : Int) ≤ (q : Int)) = true := decide_eq_true (by omega)
          have hpp := mk3_hi (l := gs) (i := q) (by rw [HNN.out]; omega) (by rw [HNN.out]; omega)
          rw [hp] at hpp
          simp only [Option.some.injEq, Prod.mk.injEq] at hpp
          obtain ⟨rfl, rfl⟩ := hpp
          have hmk := (HBK.out w3.heap.size (Array.getElem?_eq_some_iff.mp HM9.out).1 (fun e => hz13 e.symm)).trans HM9.out
          have m0 : wr.cell? ⟨w3.heap.size, 0, none⟩ = some (.int .i64 (-71)) := cell_of_row _ _ 0 _ _ _ hmk
          have m1 : wr.cell? ⟨w3.heap.size, 1, none⟩ = some (.int .i64 (-72)) := cell_of_row _ _ 1 _ _ _ hmk
          have b7 : wr.cell? ⟨w.heap.size, 7, none⟩ = some (.slice a n cap) := cell_of_row _ _ 7 _ _ _ hBX
          clear hp hat hA HSo HYw HBK HWw hBX hmk hlen
          go_wp2_with fail
          go_quiet (fail)
          go_wp2
          go_roundw
          case rel => exact ⟨q + 1, by omega, by go_num, HS2.out _, (HB2.out _).1, (HB2.out _).2.1, (HB2.out _).2.2⟩
          case measure => simp [intOf]; omega
      have hlt' : ¬ (q : Int) < (N3 : Int) := by omega
      obtain ⟨w10, hw10⟩ : ∃ x, x = wr := ⟨_, rfl⟩
      subst hw10
      have HO10 : Hid (C.SOwn w10 w1.heap.size (.slice (some ⟨w1.heap.size, 0, none⟩) N3 N3) (dec1 (mk3 gs))) := by
        have := HSo.out
        rw [List.take_of_length_le (by rw [hlen, HM3.out]; omega), List.drop_eq_nil_of_le (by rw [HM3.out]; omega), List.append_nil] at this
        exact this
      have HW10 : Hid (Below w.heap.size w w10) := HWw.out
      have HY10 : Hid (Below w1.heap.size w1 w10) := HYw.out
      have s10 : w9.heap.size ≤ w10.heap.size := hsz
      replace O5 : Hid (POwn w10 w4.heap.size v5 l) := O5.out.same (fun g h1 h2 => HBK.out g h2 (by have := HZ3.out; omega))
      replace O6 : Hid (POwn w10 w5.heap.size v6 l) := O6.out.same (fun g h1 h2 => HBK.out g h2 (by have := HZ3.out; omega))
      have HDL : Hid ((dec1 gs).length = n) := by unfold Hid; rw [dec1_len]; exact HNN.out
      have HL10 : Hid (∀ W, C.SOwn W w1.heap.size (.slice (some ⟨w1.heap.size, 0, none⟩) N3 N3) (dec1 (mk3 gs)) → C.Ls W (.slice (some ⟨w1.heap.size, 0, none⟩) (dec1 gs).length N3) (dec1 gs)) := fun W h => ls_hd h (by omega) (by omega) (by have := dec1_take gs; rw [HNN.out] at this; exact this) HDL.out
      clear HSo HYw HWw HBK HM9 HO9 HW9 HY9 hlen HLen hsz
      have a0 : w10.cell? ⟨w.heap.size, 0, none⟩ = some (.int .i64 k.org) := cell_of_row _ _ 0 _ _ _ (HX.out w10 HY10.out)
      have a1 : w10.cell? ⟨w.heap.size, 1, none⟩ = some (.int .i64 k.num) := cell_of_row _ _ 1 _ _ _ (HX.out w10 HY10.out)
      have a2 : w10.cell? ⟨w.heap.size, 2, none⟩ = some (.int .i64 k.srv) := cell_of_row _ _ 2 _ _ _ (HX.out w10 HY10.out)
      have a3 : w10.cell? ⟨w.heap.size, 3, none⟩ = some (.int .i64 k.size) := cell_of_row _ _ 3 _ _ _ (HX.out w10 HY10.out)
      have a4 : w10.cell? ⟨w.heap.size, 4, none⟩ = some (.int .i64 k.red) := cell_of_row _ _ 4 _ _ _ (HX.out w10 HY10.out)
      have a5 : w10.cell? ⟨w.heap.size, 5, none⟩ = some (.int .i64 k.mtu) := cell_of_row _ _ 5 _ _ _ (HX.out w10 HY10.out)
      have a6 : w10.cell? ⟨w.heap.size, 6, none⟩ = some (.int .i64 k.every) := cell_of_row _ _ 6 _ _ _ (HX.out w10 HY10.out)
      have a7 : w10.cell? ⟨w.heap.size, 7, none⟩ = some (.slice a n cap) := cell_of_row _ _ 7 _ _ _ (HX.out w10 HY10.out)
      have a8 : w10.cell? ⟨w.heap.size, 8, none⟩ = some (.int .i64 c) := cell_of_row _ _ 8 _ _ _ (HX.out w10 HY10.out)
      have a9 : w10.cell? ⟨w.heap.size, 9, none⟩ = some (.int .i64 r) := cell_of_row _ _ 9 _ _ _ (HX.out w10 HY10.out)
      go_wp2_with fail
      refine (HD2'.out (some ⟨w1.heap.size, 0, none⟩) N3 w10 HDL.out (HL10.out w10 HO10.out)).mono ?_
      rintro e w11 ⟨v11, rfl, ho, hb⟩
      have HW11 : Hid (Below w.heap.size w w11) := HW10.out.trans (hb.mono HW10.out.size)
      have HY11 : Hid (Below w1.heap.size w1 w11) := HY10.out.trans (hb.mono HY10.out.size)
      have s11 : w10.heap.size ≤ w11.heap.size := hb.size
      have HO11 : Hid (C.SOwn w11 w1.heap.size (.slice (some ⟨w1.heap.size, 0, none⟩) N3 N3) (dec1 (mk3 gs))) := HO10.out.below hb
      replace O5 : Hid (POwn w11 w4.heap.size v5 l) := O5.out.below hb
      replace O6 : Hid (POwn w11 w5.heap.size v6 l) := O6.out.below hb
      have O11 : Hid (POwn w11 w10.heap.size v11 l') := ho
      clear ho a0 a1 a2 a3 a4 a5 a6 a7 a8 a9
      clear hb HW10 HY10 HO10
      have a0 : w11.cell? ⟨w.heap.size, 0, none⟩ = some (.int .i64 k.org) := cell_of_row _ _ 0 _ _ _ (HX.out w11 HY11.out)
      have a1 : w11.cell? ⟨w.heap.size, 1, none⟩ = some (.int .i64 k.num) := cell_of_row _ _ 1 _ _ _ (HX.out w11 HY11.out)
      have a2 : w11.cell? ⟨w.heap.size, 2, none⟩ = some (.int .i64 k.srv) := cell_of_row _ _ 2 _ _ _ (HX.out w11 HY11.out)
      have a3 : w11.cell? ⟨w.heap.size, 3, none⟩ = some (.int .i64 k.size) := cell_of_row _ _ 3 _ _ _ (HX.out w11 HY11.out)
      have a4 : w11.cell? ⟨w.heap.size, 4, none⟩ = some (.int .i64 k.red) := cell_of_row _ _ 4 _ _ _ (HX.out w11 HY11.out)
      have a5 : w11.cell? ⟨w.heap.size, 5, none⟩ = some (.int .i64 k.mtu) := cell_of_row _ _ 5 _ _ _ (HX.out w11 HY11.out)
      have a6 : w11.cell? ⟨w.heap.size, 6, none⟩ = some (.int .i64 k.every) := cell_of_row _ _ 6 _ _ _ (HX.out w11 HY11.out)
      have a7 : w11.cell? ⟨w.heap.size, 7, none⟩ = some (.slice a n cap) := cell_of_row _ _ 7 _ _ _ (HX.out w11 HY11.out)
      have a8 : w11.cell? ⟨w.heap.size, 8, none⟩ = some (.int .i64 c) := cell_of_row _ _ 8 _ _ _ (HX.out w11 HY11.out)
      have a9 : w11.cell? ⟨w.heap.size, 9, none⟩ = some (.int .i64 r) := cell_of_row _ _ 9 _ _ _ (HX.out w11 HY11.out)
      go_wp2_with fail
      refine (HC2'.out (some ⟨w1.heap.size, 0, none⟩) N3 w11 HW11.out HDL.out (HL10.out w11 HO11.out)).mono ?_
      rintro e w12 ⟨v12, rfl, ho, hb⟩
      have HW12 : Hid (Below w.heap.size w w12) := HW11.out.trans (hb.mono HW11.out.size)
      have HY12 : Hid (Below w1.heap.size w1 w12) := HY11.out.trans (hb.mono HY11.out.size)
      have s12 : w11.heap.size ≤ w12.heap.size := hb.size
      have HO12 : Hid (C.SOwn w12 w1.heap.size (.slice (some ⟨w1.heap.size, 0, none⟩) N3 N3) (dec1 (mk3 gs))) := HO11.out.below hb
      replace O5 : Hid (POwn w12 w4.heap.size v5 l) := O5.out.below hb
      replace O6 : Hid (POwn w12 w5.heap.size v6 l) := O6.out.below hb
      replace O11 : Hid (POwn w12 w10.heap.size v11 l') := O11.out.below hb
      have p12 : Hid (∀ g, v12.ownBlock = some g → g < w12.heap.size) := fun g hg => (World.ownsRow.lt ho g hg).2
      have O12 : Hid (POwn w12 w11.heap.size v12 l') := ho
      clear ho a0 a1 a2 a3 a4 a5 a6 a7 a8 a9
      clear hb HW11 HY11 HO11
      go_wp2_with fail
      refine (samepc_eq O12.out O11.out (by omega)).mono ?_
      rintro e w13 ⟨rfl, hb⟩
      have HW13 : Hid (Below w.heap.size w w13) := HW12.out.trans (hb.mono HW12.out.size)
      have HY13 : Hid (Below w1.heap.size w1 w13) := HY12.out.trans (hb.mono HY12.out.size)
      have s13 : w12.heap.size ≤ w13.heap.size := hb.size
      have HO13 : Hid (C.SOwn w13 w1.heap.size (.slice (some ⟨w1.heap.size, 0, none⟩) N3 N3) (dec1 (mk3 gs))) := HO12.out.below hb
      replace O5 : Hid (POwn w13 w4.heap.size v5 l) := O5.out.below hb
      replace O6 : Hid (POwn w13 w5.heap.size v6 l) := O6.out.below hb
      replace O11 : Hid (POwn w13 w10.heap.size v11 l') := O11.out.below hb
      replace O12 : Hid (POwn w13 w11.heap.size v12 l') := O12.out.below hb
      clear hb HW12 HY12 HO12
      clear HC1' HC2' HD1' HD2' HX O11 HO13
      obtain ⟨r2, hv2, hn2, hl2, hh2⟩ := rw_of O5.out
      obtain ⟨r3, hv3, hn3, hl3, hh3⟩ := rw_of O6.out
      obtain ⟨r4, hv4, hn4, hl4, hh4⟩ := rw_of O12.out
      have z2 : ∀ g, r2.blk = some g → w4.heap.size ≤ g ∧ g < w5.heap.size := fun g hg => ⟨(hl2 g hg).1, p5.out g (by rw [hv2]; simp [M.sv, M.adr, hg, Value.ownBlock])⟩
      have z3 : ∀ g, r3.blk = some g → w5.heap.size ≤ g ∧ g < w6.heap.size := fun g hg => ⟨(hl3 g hg).1, p6.out g (by rw [hv3]; simp [M.sv, M.adr, hg, Value.ownBlock])⟩
      have z4 : ∀ g, r4.blk = some g → w6.heap.size ≤ g ∧ g < w12.heap.size := fun g hg => ⟨by have := (hl4 g hg).1; omega, p12.out g (by rw [hv4]; simp [M.sv, M.adr, hg, Value.ownBlock])⟩
      have hG := given_three (W := w13) (B := w.heap.size) z2 z3 z4 (by omega) (by omega) (by omega) (by omega) (by have := HZ1.out; have := HZ3.out; omega) hh2 hh3 hh4
      have hM := M.mine_any _ 3 w13.heap.size 3 w.heap.size (three r2 r3 r4) hG (by decide) (by decide) (fun i hi => by
        match i, hi with
        | 0, _ => show r2.n ≤ 2097152; omega
        | 1, _ => show r3.n ≤ 2097152; omega
        | 2, _ => show r4.n ≤ 2097152; omega)
      unfold M.sv at hv2 hv3 hv4 hM
      subst hv2 hv3 hv4
      clear hG O5 O6 O12 hh2 hh3 hh4 z2 z3 z4 hl2 hl3 hl4 hn2 hn3 hn4 p5 p6 p12
      go_wp2_with fail
      refine hM.mono ?_
      rintro e w14 ⟨rfl, hb⟩
      have HW14 : Hid (Below w.heap.size w w14) := (HW13.out.alloc HW13.out.size _).trans hb
      clear hM hb
      go_wp2
      go_ret
      exact ⟨rfl, HW14.out⟩

end Go.Proofs.YtlagadpfnkidjadDoor
