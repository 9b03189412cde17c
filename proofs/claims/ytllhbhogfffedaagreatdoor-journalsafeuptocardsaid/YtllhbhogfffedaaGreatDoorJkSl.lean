import Derived.Test.YtllhbhogfffedaaGreatDoorJkSo
import Derived.Test.YtllhbhogfffedaaGreatDoorJkMy
import Derived.Deep.DeepCutAuto
import Derived.Deep.CutBlock
namespace Go.Proofs.YtllhbhogfffedaaGreatDoor.K
open Go.RowKit
set_option linter.unusedVariables false
set_option linter.unusedSimpArgs false

/-- A batch, as it came in. -/
structure Bx where
  a : Option Addr
  n : Nat
  c : Nat
  sync : Bool
  anew : Bool
  l : List Rc
structure BxOk (W : World) (b : Bx) : Prop where
  len : b.l.length = b.n
  lin : RLin W b.a b.l
  nil : b.a = none → b.n = 0 ∧ b.c = 0
  byt : ∀ r ∈ b.l, Bytey r.data
def Bl (W : World) (a : Option Addr) (bs : List Bx) : Prop :=
  bs = [] ∨ ∃ g off, a = some ⟨g, off, none⟩ ∧ ∀ (i : Nat) b, bs[i]? = some b → W.cell? ⟨g, off + i * 3, none⟩ = some (.slice b.a b.n b.c) ∧ W.cell? ⟨g, off + i * 3 + 1, none⟩ = some (.bool b.sync) ∧ W.cell? ⟨g, off + i * 3 + 2, none⟩ = some (.bool b.anew) ∧ BxOk W b
theorem BxOk.below {W V : World} {b : Bx} (h : BxOk W b) (hb : Below W.heap.size W V) : BxOk V b := ⟨h.len, h.lin.below hb, h.nil, h.byt⟩
theorem Bl.below {W V : World} {a : Option Addr} {bs : List Bx} (h : Bl W a bs) (hb : Below W.heap.size W V) : Bl V a bs := by
  rcases h with h | ⟨g, off, ha, h⟩
  · exact .inl h
  · exact .inr ⟨g, off, ha, fun i b hi => ⟨bel_cell hb (h i b hi).1, bel_cell hb (h i b hi).2.1, bel_cell hb (h i b hi).2.2.1, (h i b hi).2.2.2.below hb⟩⟩
def cn (bs : List Bx) (i : Nat) : Nat := ((bs.take i).map Bx.n).sum
theorem cn_succ {bs : List Bx} {i : Nat} {b : Bx} (h : bs[i]? = some b) : cn bs (i + 1) = cn bs i + b.n := by
  unfold cn
  have hi := (List.getElem?_eq_some_iff.mp h)
  rw [List.take_succ_eq_append_getElem hi.1, List.map_append, List.sum_append, hi.2]
  simp
theorem cn_le {bs : List Bx} (i : Nat) : cn bs i ≤ (bs.map Bx.n).sum := by
  unfold cn
  have : bs.map Bx.n = (bs.take i).map Bx.n ++ (bs.drop i).map Bx.n := by rw [← List.map_append, List.take_append_drop]
  rw [this, List.sum_append]
  omega
theorem opx0 (M : Int) : opX (dk0 M) = ⟨dk0 M, 0, [], 0, 0⟩ := by
  have e1 : rmD (dk0 M) = (dk0 M, 3) := rfl
  unfold opX
  rw [e1, if_pos (by simp [rmE])]
  have e2 : rdN (dk0 M) jN = 3 := rfl
  have e3 : rdB (dk0 M) jN = [] := rfl
  unfold opB
  rw [e2, e3, if_pos (by simp [rmE])]
  unfold opC
  have : scR [] = ([], 0) := rfl
  rw [this]
  simp
theorem known0 (w : World) : (w.alloc (.cells #[.slice none 0 0, .slice none 0 0, .slice none 0 0, .bool false, .bool false] 51)).heap[w.heap.size]? = some (.cells #[.slice none 0 0, .slice none 0 0, .slice none 0 0, .bool false, .bool false] 51 (0, 0)) := heap_new6 w _

/-- How things stand behind the batches, the journal gone. -/
def Aft (W : World) (kb : Nat) (wx : World) : Prop := ∃ (X : Nat → Prop) (D : Dk) (S M : List Ro) (A : List Rc) (dead an : Bool), Sd W X wx D ∧ Kn W wx X kb S M A dead an ∧ D.room = 4611686018427387904 ∧ D.Ok 274877906944 ∧ Vd (rcs S ++ rcs M) ∧ S.length + M.length ≤ 1048576 ∧ (Dd (rcs S) (rcs M) D.fs ∨ dead = true ∧ an = true ∧ Vd A ∧ A.length ≤ 1048576 ∧ Dd A [] D.fs)
theorem wr_dead {D : Dk} (sync : Bool) (l : List Rc) : wrX D ⟨0, 0, true⟩ l sync = (D, ⟨0, 0, true⟩, 70) := rfl
theorem rw_dead {D : Dk} (l : List Rc) : rwX D ⟨0, 0, true⟩ l = (D, ⟨0, 0, true⟩, 70) := rfl

theorem rl_rio {w : World} {lo : Nat} {v : Value} {os : List Ro} (h : Rl w lo v os) : ∀ o ∈ os, RIo w o := by
  intro o ho
  obtain ⟨i, hi, e⟩ := List.getElem_of_mem ho
  have hd := h.fam.own (3 + 2 * i) (by omega)
  have hs := h.fam.own (4 + 2 * i) (by omega)
  rw [rlF_d] at hd
  rw [rlF_s] at hs
  have hsm := h.sml i hi
  have hoi : oAt os i = o := by rw [oAt_get hi, e]
  rw [hoi] at hd hs hsm
  exact own_rin hs hd (by omega)
theorem rl_sp {w : World} {lo : Nat} {v : Value} {os : List Ro} (h : Rl w lo v os) : ∀ r ∈ os.map Ro.r, r.spans.length ≤ 4611686018427387903 := by
  intro r hr
  obtain ⟨o, ho, rfl⟩ := List.mem_map.mp hr
  obtain ⟨i, hi, e⟩ := List.getElem_of_mem ho
  have h3 := (h.sml i hi).2
  rw [oAt_get hi, e] at h3
  omega
/-- What the Open behind the batches tells. -/
structure Oa (S M : List Ro) (A : List Rc) (dead an : Bool) (O : Opn) : Prop where
  r : O.r = 0
  told : Told S M A dead an O.l
  n : O.n = (fr O.l).length
  k : O.k ≤ O.n
  up : Up O.l O.d
  room : O.d.room = 4611686018427387904
  val : Vd O.l
  len : O.l.length ≤ 1048576
theorem aft_open {S M : List Ro} {A : List Rc} {dead an : Bool} {D : Dk} (keep : Int) (hroom : D.room = 4611686018427387904) (hvd : Vd (rcs S ++ rcs M)) (hcb : S.length + M.length ≤ 1048576) (hdd : Dd (rcs S) (rcs M) D.fs ∨ dead = true ∧ an = true ∧ Vd A ∧ A.length ≤ 1048576 ∧ Dd A [] D.fs) : Oa S M A dead an (opX (crD D keep)) := by
  rcases hdd with h | ⟨h1, h2, h3, h4, h5⟩
  · obtain ⟨r, ⟨K, k1, k2, k3⟩, n, k, up, room⟩ := open_dd hvd h keep
    rw [List.length_map] at k1
    rw [List.length_append, List.length_map, List.length_map] at k2
    refine ⟨r, .inl ⟨K, k1, k2, k3⟩, n, k, up, room.trans hroom, ?_, ?_⟩
    · rw [k3]; exact hvd.take K
    · rw [k3, List.length_take, List.length_append, List.length_map, List.length_map]; omega
  · obtain ⟨r, ⟨K, k1, k2, k3⟩, n, k, up, room⟩ := open_dd (sure := A) (more := []) (by rw [List.append_nil]; exact h3) h5 keep
    rw [List.append_nil] at k2 k3
    have : (opX (crD D keep)).l = A := by rw [k3, List.take_of_length_le (by omega)]
    exact ⟨r, .inr ⟨h1, h2, this⟩, n, k, up, room.trans hroom, by rw [this]; exact h3, by rw [this]; exact h4⟩

set_option maxRecDepth 20000 in
theorem jsize_jb (w : World) (j d : Nat) (J : Jl) (h : Jb w j d J) : Calls Tryz.prog 19 #[.pointer (some ⟨j, 0, none⟩)] w fun e w' => e = .returned (.int .i64 J.n) ∧ w' = w := by
  have h1 : w.cell? ⟨j, 1, none⟩ = some (.int .i64 J.n) := h.c 1
  go_enter Tryz.func19, Tryz.ntmps19
  go_wp2
  go_ret
  exact ⟨rfl, rfl⟩
set_option maxRecDepth 20000 in
theorem jloose_jb (w : World) (j d : Nat) (J : Jl) (h : Jb w j d J) : Calls Tryz.prog 20 #[.pointer (some ⟨j, 0, none⟩)] w fun e w' => e = .returned (.int .i64 J.k) ∧ w' = w := by
  have h1 : w.cell? ⟨j, 2, none⟩ = some (.int .i64 J.k) := h.c 2
  go_enter Tryz.func20, Tryz.ntmps20
  go_wp2
  go_ret
  exact ⟨rfl, rfl⟩

set_option maxHeartbeats 32000000 in
set_option maxRecDepth 100000 in
/-- JOURNAL SAFE, of any batches. -/
theorem safe_walk (al aL : Option Addr) (nl cl nL cL : Nat) (bs : List Bx) (last : List Rc) (act keep : Int) (done : Bool) (w : World) (aD aF aN : Addr) (hS : S0 w aD aF aN) (hE : Et w) (h5 : 5 ≤ w.heap.size)
    (hbl : Bl w al bs) (hll : bs.length = nl) (hnl : nl ≤ 1048576) (hcn : (bs.map Bx.n).sum ≤ 1048576) (hla : RLin w aL last) (hln : last.length = nL) (hnL : nL ≤ 1048576) (hlb : ∀ r ∈ last, Bytey r.data) (hlz : aL = none → nL = 0 ∧ cL = 0) (hact : act ≤ 9223372036854775807) :
    Calls Tryz.prog 4 #[.slice al nl cl, .agg #[.int .i64 act, .int .i64 keep, .bool done], .slice aL nL cL] w fun e w' => e = .returned (.bool true) ∧ Below w.heap.size w w' := by
  obtain ⟨w0, hw0⟩ : ∃ V, w.alloc (.cells #[.int .i64 act, .int .i64 keep, .bool done] 41) = V := ⟨_, rfl⟩
  have hb0 : Below w.heap.size w w0 := by rw [← hw0]; exact (Below.refl _ _).alloc (Nat.le_refl _) _
  have hg0 := heap_new6 w (.cells #[.int .i64 act, .int .i64 keep, .bool done] 41)
  rw [hw0] at hg0
  have hS0 := hS.later hb0
  have HA := awake7_any w0 aN aD hS0.tb (Nat.le_trans h5 hb0.size) hS0.er.n hS0.er.d
  have H0 : Hid (S0 w0 aD aF aN ∧ Et w0 ∧ Below w.heap.size w w0 ∧ w0.heap[w.heap.size]? = some (.cells #[.int .i64 act, .int .i64 keep, .bool done] 41 (0, 0)) ∧ Bl w0 al bs ∧ RLin w0 aL last) := ⟨hS0, hE.below hb0, hb0, hg0, hbl.below hb0, hla.below hb0⟩
  have HP : Hid (bs.length = nl ∧ (bs.map Bx.n).sum ≤ 1048576 ∧ last.length = nL ∧ (∀ r ∈ last, Bytey r.data) ∧ (aL = none → nL = 0 ∧ cL = 0)) := ⟨hll, hcn, hln, hlb, hlz⟩
  clear hS hE h5 hbl hll hcn hla hln hlb hlz hb0 hg0 hS0
  go_enter Tryz.func4, Tryz.ntmps4
  go_wp2_with fail
  refine HA.mono ?_
  clear HA hw0
  rintro e W ⟨rfl, hbW⟩
  have H1 : Hid (S0 W aD aF aN ∧ Et W ∧ Below w.heap.size w W ∧ (W.cell? ⟨w.heap.size, 0, none⟩ = some (.int .i64 act) ∧ W.cell? ⟨w.heap.size, 1, none⟩ = some (.int .i64 keep) ∧ W.cell? ⟨w.heap.size, 2, none⟩ = some (.bool done)) ∧ Bl W al bs ∧ RLin W aL last) := by
    have hg := (hbW.block w.heap.size (Array.getElem?_eq_some_iff.1 H0.out.2.2.2.1).1).trans H0.out.2.2.2.1
    exact ⟨H0.out.1.later hbW, H0.out.2.1.below hbW, H0.out.2.2.1.trans (hbW.mono H0.out.2.2.1.size), ⟨cell_of_row _ _ 0 _ _ _ hg, cell_of_row _ _ 1 _ _ _ hg, cell_of_row _ _ 2 _ _ _ hg⟩, H0.out.2.2.2.2.1.below hbW, H0.out.2.2.2.2.2.below hbW⟩
  clear hbW H0
  have HNW := dNew_any W 4611686018427387904
  rw [show nn0 4611686018427387904 = 4611686018427387904 from rfl] at HNW
  go_wp2_with fail
  refine HNW.mono ?_
  clear HNW
  rintro e V1 ⟨rfl, hd1, hc1, hs1, hb1⟩
  have HDK := dDisk_any V1 (W.heap.size + 1) W.heap.size hc1
  rw [hs1] at HDK
  obtain ⟨V2, hV2⟩ : ∃ V, V1.alloc (.cells #[.pointer (some ⟨W.heap.size, 0, none⟩)] 102) = V := ⟨_, rfl⟩
  have hb2 : Below V1.heap.size V1 V2 := by rw [← hV2]; exact (Below.refl _ _).alloc (Nat.le_refl _) _
  have hs2 : V2.heap.size = W.heap.size + 3 := by rw [← hV2]; simp [hs1]
  have hc2 : V2.cell? ⟨W.heap.size + 2, 0, none⟩ = some (.pointer (some ⟨W.heap.size, 0, none⟩)) := by
    have := cell_of_row _ V1.heap.size 0 _ _ _ (heap_new6 V1 (.cells #[.pointer (some ⟨W.heap.size, 0, none⟩)] 102))
    rw [hs1, hV2] at this
    exact this
  rw [hV2] at HDK
  have hsd : Sd W (fun k => k = W.heap.size + 2) V2 (dk0 4611686018427387904) := ⟨hb1.trans (hb2.mono (by omega)), bel_cell hb2 hc1, fun k q => by subst q; omega, fun g => g = W.heap.size, hd1.below hb2, fun k q => by subst q; omega⟩
  have HOP := hsd.opn H1.out.1 (ok_dk0 (M := 4611686018427387904) ⟨by omega, by omega⟩) (by omega) (W.heap.size + 2) rfl hc2 (by rw [opx0])
  rw [opx0] at HOP
  unfold OK2 at HOP
  simp only at HOP
  clear hd1 hc1 hs1 hb1 hV2 hb2 hc2 hsd
  go_wp2_with fail
  refine HDK.mono ?_
  clear HDK
  rintro e V2' ⟨rfl, rfl⟩
  go_wp2_with fail
  refine HOP.mono ?_
  clear HOP
  rintro e V3 ⟨j, v3, os3, rfl, hsk3, -, -, hrl3, hom3⟩
  have hos3 : os3 = [] := List.map_eq_nil_iff.mp hom3
  subst hos3
  obtain ⟨a3, c3, hv3, -⟩ := hrl3.rlin
  rw [List.length_nil] at hv3
  subst hv3
  obtain ⟨X3, hX3⟩ : ∃ X : Nat → Prop, (fun k => (k = W.heap.size + 2 ∧ k ≠ W.heap.size + 2) ∨ (V2'.heap.size ≤ k ∧ k < V3.heap.size ∧ ∃ p, p < 3 + 2 * ([] : List Ro).length ∧ (rlF (.slice a3 0 c3) [] p).v.ownBlock = some k)) = X := ⟨_, rfl⟩
  rw [hX3] at hsk3
  have HS3 : Hid (Sk W (W.heap.size + 2) j X3 V3 (dk0 4611686018427387904) ⟨0, 0, false⟩) := hsk3
  clear hX3 hsk3 hrl3 hom3
  have f0 : V3.cell? ⟨w.heap.size, 0, none⟩ = some (.int .i64 act) := bel_cell HS3.out.bel H1.out.2.2.2.1.1
  have f2 : V3.cell? ⟨w.heap.size, 2, none⟩ = some (.bool done) := bel_cell HS3.out.bel H1.out.2.2.2.1.2.2
  go_upto_if 51 with fail
  go_cut [7] from 49 (fun q wx => q = .bool true ∧ ∃ D, Hid (Sk W (W.heap.size + 2) j X3 wx D ⟨0, 0, false⟩ ∧ D.fs = [] ∧ D.dw = false ∧ D.room = 4611686018427387904 ∧ D.Ok 0))
  case first =>
    by_cases ha : 0 ≤ act
    · have HAR := HS3.out.armed act done
      go_wp2_with fail
      refine HAR.mono ?_
      clear HAR
      rintro e V4 ⟨⟨v4, rfl⟩, hs4, -⟩
      go_wp2_with fail
      go_meet
      exact ⟨rfl, _, hs4, rfl, rfl, rfl, ok_arm (ok_dk0 ⟨by omega, by omega⟩) hact⟩
    · have ha' : ¬ (0 : Int) ≤ act := ha
      go_wp2_with fail
      go_meet
      exact ⟨rfl, _, HS3.out, rfl, rfl, rfl, ok_dk0 ⟨by omega, by omega⟩⟩
  case rest =>
    obtain ⟨rfl, D4, HS4⟩ := hcut
    clear HS3 f0 f2
    obtain ⟨w5, hw5⟩ : ∃ V, wc.alloc (.cells #[.slice none 0 0, .slice none 0 0, .slice none 0 0, .bool false, .bool false] 51) = V := ⟨_, rfl⟩
    have hb5 : Below wc.heap.size wc w5 := by rw [← hw5]; exact (Below.refl _ _).alloc (Nat.le_refl _) _
    have hs5 : w5.heap.size = wc.heap.size + 1 := by rw [← hw5]; simp
    have hg5 := known0 wc
    rw [hw5] at hg5
    have HB5 : Hid (Bst W (W.heap.size + 2) j wc.heap.size 0 w5 [] [] false) := by
      refine ⟨⟨_, D4, ⟨0, 0, false⟩, [], false, HS4.out.1.law (Kd.below hb5), ⟨.inr ⟨Nat.le_refl _, by omega⟩, ⟨_, _, none, 0, 0, hg5, Rr.nil _ _, Rr.nil _ _, (fun g e => (by cases e)), (fun g e => (by cases e)), (fun g e => (by cases e)), rfl, Or.inl rfl⟩, (fun o ho => (by cases ho))⟩, HS4.out.2.2.2.1, HS4.out.2.2.2.2.up (by omega), (fun r hr => (by cases hr)), Or.inl ⟨rfl, ?_⟩⟩, Nat.le_refl _⟩
      exact ⟨(fun r hr => (by cases hr)), rfl, rfl, rfl, HS4.out.2.2.1, Or.inl ⟨rfl, rfl, HS4.out.2.1⟩⟩
    obtain ⟨kb, hkb⟩ : ∃ kb, wc.heap.size = kb := ⟨_, rfl⟩
    rw [hkb] at HB5
    clear hg5 hb5 HS4
    go_upto_block 0 with fail
    clear hkb hw5 hs5
    go_cut [7] from 13 (fun q wx => q = .bool true ∧ Hid (∃ (i : Nat) (S M : List Ro) (dead : Bool), Bst W (W.heap.size + 2) j kb (cn bs i) wx S M dead))
    case first =>
      go_wp2_with fail
      go_loopw [13, 14] (fun v _ wr => ∃ (i : Nat) (S M : List Ro) (dead : Bool), v = .int .i64 i ∧ i ≤ nl ∧ Hid (Bst W (W.heap.size + 2) j kb (cn bs i) wr S M dead)) (fun v _ _ => nl - (intOf v).toNat)
      case atStart => exact ⟨0, [], [], false, rfl, Nat.zero_le _, HB5.out⟩
      case round =>
        obtain ⟨i, S, M, dead, rfl, hi, HB⟩ := hrel
        clear HB5
        obtain ⟨⟨X, D, J, A, an, hsk, hkn, hroom, hok, hvd, hst⟩, hcnt⟩ := HB.out
        obtain ⟨sv, mv, a0, n0, c0, q1, -⟩ := hkn.mem
        have g3 : wr.cell? ⟨kb, 3, none⟩ = some (.bool dead) := cell_of_row _ _ 3 _ _ _ q1
        have hbw := hsk.bel
        by_cases hgo : i < nl ∧ dead = false
        · obtain ⟨hlt, rfl⟩ := hgo
          have hlt' : (i : Int) < (nl : Int) := by omega
          obtain ⟨b, hbi⟩ : ∃ b, bs[i]? = some b := ⟨_, List.getElem?_eq_getElem (by rw [HP.out.1]; exact hlt)⟩
          obtain ⟨g, off, hal, hbl⟩ : ∃ g off, al = some ⟨g, off, none⟩ ∧ ∀ (i : Nat) b, bs[i]? = some b → W.cell? ⟨g, off + i * 3, none⟩ = some (.slice b.a b.n b.c) ∧ W.cell? ⟨g, off + i * 3 + 1, none⟩ = some (.bool b.sync) ∧ W.cell? ⟨g, off + i * 3 + 2, none⟩ = some (.bool b.anew) ∧ BxOk W b := by
            rcases H1.out.2.2.2.2.1 with q | q
            · rw [q] at hbi; simp at hbi
            · exact q
          subst hal
          obtain ⟨m0, m1, m2, hbo⟩ := hbl i b hbi
          have l0 := bel_cell hbw m0
          have l1 := bel_cell hbw m1
          have l2 := bel_cell hbw m2
          have hcs := cn_succ hbi
          have hcl := cn_le (bs := bs) (i + 1)
          have hBA := batch_any W wr (W.heap.size + 2) j kb (cn bs i) S M aD aF aN H1.out.1 H1.out.2.1 b.a b.n b.c b.sync b.anew b.l HB.out hbo.len hbo.lin hbo.nil hbo.byt (by have := HP.out.2.1; omega)
          rw [← hcs] at hBA
          have hwi : IntKind.i64.wrap ((i : Int) + 1) = (i : Int) + 1 := by rw [IntKind.wrap_i64]; omega
          clear hsk hkn hroom hok hvd hst hcnt q1 hbw hbl hbi m0 m1 m2 hbo hcs hcl HB
          generalize b.a = ba at *
          generalize b.n = bn at *
          generalize b.c = bc at *
          generalize b.sync = bsy at *
          generalize b.anew = ban at *
          go_wp2_with fail
          refine hBA.mono ?_
          clear hBA l0 l1 l2 g3
          rintro e w6 ⟨rfl, S', M', dead', hB6⟩
          have HB6 : Hid (Bst W (W.heap.size + 2) j kb (cn bs (i + 1)) w6 S' M' dead') := hB6
          clear hB6
          go_wp2
          go_roundw
          case rel => exact ⟨i + 1, S', M', dead', by go_num, by omega, HB6.out⟩
          case measure => simp [intOf]; omega
        · clear hsk hkn hroom hok hvd hst hcnt q1 hbw
          have HBX : Hid (∃ (i : Nat) (S M : List Ro) (dead : Bool), Bst W (W.heap.size + 2) j kb (cn bs i) wr S M dead) := ⟨i, S, M, dead, HB.out⟩
          clear HB
          by_cases h1 : (i : Int) < (nl : Int)
          · have hdt : dead = true := by by_cases h2 : dead = false; exact absurd ⟨by omega, h2⟩ hgo; simpa using h2
            rw [hdt] at g3
            clear hgo hdt
            go_wp2_with fail
            go_meet
            exact ⟨rfl, HBX.out⟩
          · clear hgo
            go_wp2_with fail
            go_meet
            exact ⟨rfl, HBX.out⟩
    case rest =>
      obtain ⟨rfl, HBX⟩ := hcut
      clear HB5
      obtain ⟨i, S, M, dead, hB⟩ := HBX.out
      obtain ⟨⟨X, D, J, A, an, hsk, hkn, hroom, hok, hvd, hst⟩, hcnt⟩ := hB
      obtain ⟨sv, mv, a0, n0, c0, q1, -⟩ := hkn.mem
      have g3 : wc.cell? ⟨kb, 3, none⟩ = some (.bool dead) := cell_of_row _ _ 3 _ _ _ q1
      have hJd : dead = true → J = ⟨0, 0, true⟩ := fun hd => by rcases hst with ⟨q, _⟩ | ⟨_, q, _⟩; (rw [q] at hd; cases hd); exact q
      have hcb : S.length + M.length ≤ 1048576 := by have := cn_le (bs := bs) i; have := HP.out.2.1; omega
      have HAF : Hid (∀ V : World, Sd W X V D → (∀ k, X k → V.heap[k]? = wc.heap[k]?) → Aft W kb V) := fun V h1 h2 => ⟨X, D, S, M, A, dead, an, h1, hkn.keep h2, hroom, hok, hvd, hcb, by
        rcases hst with ⟨_, q⟩ | ⟨q1, _, q | ⟨q2, q3, q4, q5⟩⟩
        · exact .inl q.dd
        · exact .inl q
        · exact .inr ⟨q1, q2, q3, q4, q5⟩⟩
      have HSK : Hid (Sk W (W.heap.size + 2) j X wc D J ∧ D.Ok 274877906944) := ⟨hsk, hok⟩
      clear hsk hkn hroom hok hvd hst hcnt q1 HBX hcb
      go_upto_if 85 with fail
      go_cut [7] from 82 (fun q wx => q = .bool true ∧ Hid (Aft W kb wx))
      case first =>
        cases dead with
        | false =>
          go_wp2_with fail
          go_meet
          exact ⟨rfl, HAF.out _ HSK.out.1.sd (fun k _ => rfl)⟩
        | true =>
          have hJ := hJd rfl
          subst hJ
          have hWR := HSK.out.1.write H1.out.1 HSK.out.2 (by omega) [] none 0 0 true rfl (by omega) (.inl rfl) (fun r hr => by cases hr) (by simp) (by simp) (fun q => by cases q)
          rw [wr_dead] at hWR
          simp only at hWR
          rw [evJ_e (by omega)] at hWR
          clear g3 hJd
          go_wp2_with fail
          refine hWR.mono ?_
          clear hWR
          rintro e x1 ⟨rfl, hs1, hx1⟩
          obtain ⟨F1, -, -, -, hS1, -⟩ := hs1.w0 H1.out.1
          have hNB := number_errno x1 F1 aD aF aN 70 hS1 (H1.out.2.1.below hs1.bel)
          have HX1 : Hid (Sk W (W.heap.size + 2) j X x1 D ⟨0, 0, true⟩ ∧ ∀ k, X k → x1.heap[k]? = wc.heap[k]?) := ⟨hs1, hx1⟩
          clear hs1 hx1 hS1
          go_wp2_with fail
          refine hNB.mono ?_
          clear hNB
          rintro e x2 ⟨rfl, hb2⟩
          have HX2 : Hid (Sk W (W.heap.size + 2) j X x2 D ⟨0, 0, true⟩ ∧ ∀ k, X k → x2.heap[k]? = wc.heap[k]?) := ⟨HX1.out.1.later hb2.out, fun k q => (hb2.out.block k (HX1.out.1.xs k q).2.1).trans (HX1.out.2 k q)⟩
          clear hb2 HX1
          have hRW := HX2.out.1.rewrite H1.out.1 HSK.out.2 (by omega) [] none 0 0 rfl (by omega) (.inl rfl) (fun r hr => by cases hr) (fun q => by cases q)
          rw [rw_dead] at hRW
          simp only at hRW
          rw [evJ_e (by omega)] at hRW
          go_wp2_with fail
          refine hRW.mono ?_
          clear hRW
          rintro e x3 ⟨rfl, hs3, hx3⟩
          obtain ⟨F3, -, -, -, hS3, -⟩ := hs3.w0 H1.out.1
          have hNB := number_errno x3 F3 aD aF aN 70 hS3 (H1.out.2.1.below hs3.bel)
          have HX3 : Hid (Sk W (W.heap.size + 2) j X x3 D ⟨0, 0, true⟩ ∧ ∀ k, X k → x3.heap[k]? = wc.heap[k]?) := ⟨hs3, fun k q => (hx3 k q).trans (HX2.out.2 k q)⟩
          clear hs3 hx3 hS3 HX2
          go_wp2_with fail
          refine hNB.mono ?_
          clear hNB
          rintro e x4 ⟨rfl, hb4⟩
          have HX4 : Hid (Sk W (W.heap.size + 2) j X x4 D ⟨0, 0, true⟩ ∧ ∀ k, X k → x4.heap[k]? = wc.heap[k]?) := ⟨HX3.out.1.later hb4.out, fun k q => (hb4.out.block k (HX3.out.1.xs k q).2.1).trans (HX3.out.2 k q)⟩
          clear hb4 HX3
          have hsz := jsize_jb x4 j _ _ HX4.out.1.jb
          have hlo := jloose_jb x4 j _ _ HX4.out.1.jb
          simp only at hsz hlo
          go_wp2_with fail
          refine hsz.mono ?_
          rintro e x5 ⟨rfl, hx5⟩
          rw [hx5]
          clear hx5 hsz
          go_wp2_with fail
          refine hlo.mono ?_
          rintro e x6 ⟨rfl, hx6⟩
          rw [hx6]
          clear hx6 hlo
          go_wp2_with fail
          go_meet
          exact ⟨rfl, HAF.out _ HX4.out.1.sd HX4.out.2⟩
      case rest =>
        obtain ⟨rfl, HAX⟩ := hcut
        clear HAF HSK g3 hJd
        obtain ⟨X, D, S, M, A, dead, an, hsd, hkn, hroom, hok, hvd, hcb, hdd⟩ := HAX.out
        have f1 : wc.cell? ⟨w.heap.size, 1, none⟩ = some (.int .i64 keep) := bel_cell hsd.bel H1.out.2.2.2.1.2.1
        have hCR := hsd.crash hok (by omega) keep
        have hOA := aft_open keep hroom hvd hcb hdd
        have hokc : (crD D keep).Ok 274877906944 := ok_cr hok
        have hoko : (opX (crD D keep)).d.Ok 274877906944 := ok_opx hokc
        have HKN : Hid (Kn W wc X kb S M A dead an) := hkn
        clear hsd hkn hroom hok hvd hdd HAX
        obtain ⟨E, hEE⟩ : ∃ E, crD D keep = E := ⟨_, rfl⟩
        rw [hEE] at hCR hOA hokc hoko
        clear hEE
        go_wp2_with fail
        refine hCR.mono ?_
        clear hCR f1
        rintro e y1 ⟨⟨u1, rfl⟩, hsd1, hx1⟩
        have hDK := dDisk_any y1 (W.heap.size + 1) W.heap.size hsd1.hh
        obtain ⟨y2, hy2⟩ : ∃ V, y1.alloc (.cells #[.pointer (some ⟨W.heap.size, 0, none⟩)] 102) = V := ⟨_, rfl⟩
        have hb2 : Below y1.heap.size y1 y2 := by rw [← hy2]; exact (Below.refl _ _).alloc (Nat.le_refl _) _
        have hs2 : y2.heap.size = y1.heap.size + 1 := by rw [← hy2]; simp
        have hc2 : y2.cell? ⟨y1.heap.size, 0, none⟩ = some (.pointer (some ⟨W.heap.size, 0, none⟩)) := by
          have := cell_of_row _ y1.heap.size 0 _ _ _ (heap_new6 y1 (.cells #[.pointer (some ⟨W.heap.size, 0, none⟩)] 102))
          rw [hy2] at this
          exact this
        rw [hy2] at hDK
        have hsd2 := hsd1.law (Kd.below (F := X) hb2)
        have hOP := hsd2.opn H1.out.1 hokc (by omega) y1.heap.size (.inr ⟨Nat.le_refl _, by omega⟩) hc2 hOA.r
        unfold OK2 at hOP
        obtain ⟨O, hO⟩ : ∃ O, opX E = O := ⟨_, rfl⟩
        rw [hO] at hOP hOA hoko
        have HOA : Hid (Oa S M A dead an O ∧ O.d.Ok 274877906944) := ⟨hOA, hoko⟩
        have HX1 : Hid (∀ k, X k → k < y1.heap.size ∧ y2.heap[k]? = wc.heap[k]?) := fun k q => ⟨(hsd1.xs k q).2.1, (hb2.block k (hsd1.xs k q).2.1).trans (hx1 k q)⟩
        clear hsd1 hx1 hb2 hc2 hsd2 hO hOA hoko hokc
        go_wp2_with fail
        refine hDK.mono ?_
        clear hDK
        rintro e y2' ⟨rfl, hy2'⟩
        rw [hy2']
        clear hy2' hy2
        go_wp2_with fail
        refine hOP.mono ?_
        clear hOP
        rintro e y3 ⟨j2, v3, os, rfl, hsk3, hx3, hs3, hrl3, hom3⟩
        have hkn3 : Kn W y3 X kb S M A dead an := HKN.out.keep (fun k q => (hx3 k (.inl q)).trans (HX1.out k q).2)
        obtain ⟨a3, c3, hv3, hlin3⟩ := hrl3.rlin
        have hsh3 : (a3 = none ∧ os.length = 0 ∧ c3 = 0) ∨ ∃ g, a3 = some ⟨g, 0, none⟩ := by
          have h := hrl3.row
          rw [hv3] at h
          obtain ⟨_, ⟨e, e0⟩ | ⟨g, cap, cur, e, _⟩⟩ := h
          · obtain ⟨e1, _, e3⟩ := Value.slice.inj e; exact .inl ⟨e1, e0, e3⟩
          · obtain ⟨e1, _⟩ := Value.slice.inj e; exact .inr ⟨g, e1⟩
        have hnc3 : os.length ≤ c3 ∧ c3 ≤ 9223372036854775807 := by
          have h := hrl3.row
          rw [hv3] at h
          obtain ⟨_, ⟨e, e0⟩ | ⟨g, cap, cur, e, _, _, e1, e2, _⟩⟩ := h
          · obtain ⟨_, _, e3⟩ := Value.slice.inj e; omega
          · obtain ⟨_, _, e3⟩ := Value.slice.inj e; rw [e3]; exact ⟨e1, e2⟩
        have hol : os.length ≤ 1048576 := by have := HOA.out.1.len; rw [← hom3, List.length_map] at this; exact this
        have hMY := may_any W y3 X kb S M A dead an hkn3 hsk3.bel a3 os.length c3 (os.map Ro.r) (by simp) hlin3 (rl_sp hrl3) hsh3 hnc3.1 hnc3.2 hol hcb (by rw [hom3]; exact HOA.out.1.told)
        obtain ⟨X3, hX3⟩ : ∃ X3 : Nat → Prop, (fun k => ((X k ∨ (y1.heap.size ≤ k ∧ k < y2.heap.size)) ∧ k ≠ y1.heap.size) ∨ (y2.heap.size ≤ k ∧ k < y3.heap.size ∧ ∃ p, p < 3 + 2 * os.length ∧ (rlF v3 os p).v.ownBlock = some k)) = X3 := ⟨_, rfl⟩
        have hXr : ∀ p k, p < 3 + 2 * os.length → (rlF v3 os p).v.ownBlock = some k → X3 k := fun p k hp hk => by rw [← hX3]; exact .inr ⟨(hrl3.lt hp hk).1, (hrl3.lt hp hk).2, p, hp, hk⟩
        rw [hX3] at hsk3
        have HS3 : Hid (Sk W y1.heap.size j2 X3 y3 O.d ⟨O.n, O.k, false⟩ ∧ Rl y3 y2.heap.size v3 os ∧ (∀ p k, p < 3 + 2 * os.length → (rlF v3 os p).v.ownBlock = some k → X3 k) ∧ os.map Ro.r = O.l ∧ v3 = .slice a3 os.length c3) := ⟨hsk3, hrl3, hXr, hom3, hv3⟩
        clear hsk3 hx3 hs3 hrl3 hom3 hkn3 hlin3 hsh3 hnc3 hX3 hXr HX1 HKN
        rw [hv3]
        clear hv3
        obtain ⟨no, hno⟩ : ∃ no, os.length = no := ⟨_, rfl⟩
        have HNO : Hid (os.length = no) := hno
        rw [hno] at hMY hol ⊢
        clear hno
        go_wp2_with fail
        refine hMY.mono ?_
        clear hMY
        rintro e y4 ⟨rfl, hb4⟩
        have HS4 : Hid (Sk W y1.heap.size j2 X3 y4 O.d ⟨O.n, O.k, false⟩ ∧ Rl y4 y2.heap.size v3 os) := ⟨HS3.out.1.later hb4, HS3.out.2.1.keep hb4⟩
        clear hb4
        have hFR := frame2_any last aL nL cL y4 HP.out.2.2.1 hnL (H1.out.2.2.2.2.2.below HS4.out.1.bel) HP.out.2.2.2.1
        unfold PrPost at hFR
        have hcases := fmR_cases last HP.out.2.2.2.1
        generalize (fmR last).2 = bad at *
        go_wp2_with fail
        refine hFR.mono ?_
        clear hFR
        rintro e y5 ⟨u5, rfl, -, hb5⟩
        have HS5 : Hid (Sk W y1.heap.size j2 X3 y5 O.d ⟨O.n, O.k, false⟩ ∧ Rl y5 y2.heap.size v3 os) := ⟨HS4.out.1.later hb5, HS4.out.2.keep hb5⟩
        clear hb5 HS4
        have hfo : (fr O.l).length ≤ 83894468608 := fr_bound HOA.out.1.val HOA.out.1.len
        have hON : O.n ≤ 549755813888 := by rw [HOA.out.1.n]; omega
        have hOK : O.k ≤ 549755813888 := Nat.le_trans HOA.out.1.k hON
        have hWR := HS5.out.1.write H1.out.1 HOA.out.2 (by omega) last aL nL cL true HP.out.2.2.1 hnL (H1.out.2.2.2.2.2.below HS5.out.1.bel) HP.out.2.2.2.1 hON hOK (fun q => by
          rcases hcases with ⟨q1, _⟩ | ⟨q1, _⟩
          · have := fr_bound q1 (by rw [HP.out.2.2.1]; exact hnL); exact Nat.le_trans this (by omega)
          · rw [frE_bad rfl q1] at q; cases q)
        have hjn : O.n = (fr O.l).length := HOA.out.1.n
        rcases hcases with ⟨hvl, hbad⟩ | ⟨hbl, hbad⟩
        · subst hbad
          have hfl := fr_bound hvl (by rw [HP.out.2.2.1]; exact hnL)
          have hup := wr_up (J := ⟨O.n, O.k, false⟩) HOA.out.1.up HOA.out.1.val hvl hjn HOA.out.1.k rfl (by rw [HOA.out.1.room]; omega)
          have hok6 := ok_wrX (J := ⟨O.n, O.k, false⟩) (l := last) (sync := true) (C := 137438953472) HOA.out.2 (fun _ => hvl.byt) (by omega) (by omega)
          obtain ⟨⟨D6, J6, r6⟩, hR6⟩ : ∃ R : Dk × Jl × Nat, wrX O.d ⟨O.n, O.k, false⟩ last true = R := ⟨_, rfl⟩
          rw [hR6] at hWR hup hok6
          simp only at hWR hup hok6
          rw [hup.1, evJ_nil] at hWR
          obtain ⟨oL, hoL, hlcL⟩ := lin_ro H1.out.2.2.2.2.2
          have hoLn : oL.length = nL := by rw [← HP.out.2.2.1, ← hoL]; simp
          have HOL : Hid (oL.map Ro.r = last ∧ Lc W aL oL ∧ oL.length = nL ∧ (rlC oL).length = nL * 11) := ⟨hoL, hlcL, hoLn, by rw [rlC_len, hoLn]⟩
          have HD6 : Hid (Up (O.l ++ last) D6 ∧ D6.Ok 549755813888 ∧ Vd (O.l ++ last)) := ⟨hup.2, hok6.up (by omega), HOA.out.1.val.app hvl⟩
          clear hR6 hup hok6 hoL hlcL hvl hfl
          go_wp2_with fail
          refine hWR.mono ?_
          clear hWR
          rintro e y6 ⟨rfl, hsk6, hx6⟩
          have hNB := number_nil y6
          have HS6 : Hid (Sk W y1.heap.size j2 X3 y6 D6 J6 ∧ Rl y6 y2.heap.size v3 os) := ⟨hsk6, HS5.out.2.same (fun p k hp hk => hx6 k (HS3.out.2.2.1 p k hp hk))⟩
          clear hsk6 hx6
          go_wp2_with fail
          refine hNB.mono ?_
          clear hNB
          rintro e y7 ⟨rfl, hb7⟩
          have HS7 : Hid (Sk W y1.heap.size j2 X3 y7 D6 J6 ∧ Rl y7 y2.heap.size v3 os) := ⟨HS6.out.1.later hb7.out, HS6.out.2.keep hb7.out⟩
          clear hb7 HS6 HS5
          obtain ⟨y8, hy8⟩ : ∃ V, y7.alloc (.cells #[] 81) = V := ⟨_, rfl⟩
          have hb8 : Below y7.heap.size y7 y8 := by rw [← hy8]; exact (Below.refl _ _).alloc (Nat.le_refl _) _
          have hs8 : y8.heap.size = y7.heap.size + 1 := by rw [← hy8]; simp
          have hoe := own_empty y7 HS7.out.1.bel.size
          rw [hy8] at hoe
          have hr8 : Rl y8 y2.heap.size v3 os := HS7.out.2.keep hb8
          have hcel8 : ∀ ad, a3 = some ad → ∀ j u, (rlC os)[j]? = some u → y8.cell? (ad.add j) = some u := by
            have h := hr8.row
            rw [HS3.out.2.2.2.2] at h
            exact Rr.cells h
          have hnil8 : a3 = none → no = 0 ∧ c3 = 0 := by
            have h := hr8.row
            rw [HS3.out.2.2.2.2, HNO.out] at h
            exact Rr.none (os := os) (by show World.ownsRow _ _ _ _ _ _ _; rw [HNO.out]; exact h)
          have HC8 : Hid ((∀ ad, a3 = some ad → ∀ j u, (rlC os)[j]? = some u → y8.cell? (ad.add j) = some u) ∧ (rlC os).length = no * 11 ∧ y8.ownsRow W.heap.size 81 11 (.slice (some ⟨y7.heap.size, 0, none⟩) 0 0) 0 [] ∧ Below y7.heap.size y7 y8 ∧ (a3 = none → no = 0 ∧ c3 = 0) ∧ W.heap.size ≤ y8.heap.size) := ⟨hcel8, by rw [rlC_len, HNO.out], hoe, hb8, hnil8, Nat.le_trans HS7.out.1.bel.size hb8.size⟩
          clear hcel8 hoe hb8 hnil8 hr8
          go_wp2_with (first
            | (at_builtin; refine appR_wl rfl _ _ rfl W.heap.size (.slice (some ⟨y7.heap.size, 0, none⟩) 0 0) 0 [] rfl HC8.out.2.2.1 a3 no c3 (rlC os) rfl HC8.out.2.1 HC8.out.1 (rlC_one os) HC8.out.2.2.2.2.1 (by omega) HC8.out.2.2.2.2.2 ?_; intro v9 y9 r1 r2 r3; rw [Nat.zero_add, List.nil_append] at r1; obtain ⟨a9, c9, hv9⟩ := d_shape r1; have HR9 : Hid (y9.ownsRow W.heap.size 81 11 v9 no (rlC os) ∧ Below y7.heap.size y7 y9 ∧ (∀ g, v9.ownBlock = some g → y7.heap.size ≤ g)) := ⟨r1, HC8.out.2.2.2.1.grown r2 HC8.out.2.2.2.1.size (fun g e => by have := Option.some.inj e; simp at this; omega), fun g e => by rcases r3 with q | q; (rw [q] at e; simp [Value.ownBlock] at e; omega); (rw [q] at e; simp at e; omega)⟩; clear r1 r2 r3; subst hv9)
            | (at_builtin; refine appR_wl rfl _ _ rfl W.heap.size (.slice a9 no c9) no (rlC os) rfl HR9.out.1 aL nL cL (rlC oL) rfl HOL.out.2.2.2 (HOL.out.2.1.below (HS7.out.1.bel.trans (HR9.out.2.1.mono HS7.out.1.bel.size))).cel (rlC_one oL) HP.out.2.2.2.2 (by omega) (Nat.le_trans HS7.out.1.bel.size HR9.out.2.1.size) ?_; intro v10 y10 r1 r2 r3; obtain ⟨a10, c10, hv10⟩ := d_shape r1; have HR10 : Hid (y10.ownsRow W.heap.size 81 11 v10 (no + nL) (rlC os ++ rlC oL) ∧ Below y7.heap.size y7 y10 ∧ (∀ g, v10.ownBlock = some g → y7.heap.size ≤ g)) := ⟨r1, HR9.out.2.1.grown r2 HR9.out.2.1.size (fun g e => HR9.out.2.2 g e), fun g e => by rcases r3 with q | q; (rw [q] at e; exact HR9.out.2.2 g e); (rw [q] at e; have := HR9.out.2.1.size; simp at e; omega)⟩; clear r1 r2 r3; subst hv10))
          have hB10 : Below y7.heap.size y7 y10 := HR10.out.2.1
          have hsk10 := HS7.out.1.law (Kd.below (F := X3) hB10)
          obtain ⟨X10, hX10⟩ : ∃ X10 : Nat → Prop, (fun k => X3 k ∨ (y7.heap.size ≤ k ∧ k < y10.heap.size)) = X10 := ⟨_, rfl⟩
          have hX3 : ∀ k, X3 k → X10 k := fun k q => by rw [← hX10]; exact .inl q
          have hXw : ∀ g, (Value.slice a10 (no + nL) c10).ownBlock = some g → X10 g := fun g e => by rw [← hX10]; exact .inr ⟨HR10.out.2.2 g e, (World.ownsRow.lt HR10.out.1 g e).2⟩
          rw [hX10] at hsk10
          have HS10 : Hid (Sk W y1.heap.size j2 X10 y10 D6 J6 ∧ Rl y10 y2.heap.size v3 os ∧ (∀ k, X3 k → X10 k) ∧ (∀ g, (Value.slice a10 (no + nL) c10).ownBlock = some g → X10 g) ∧ y10.ownsRow W.heap.size 81 11 (.slice a10 (no + nL) c10) (no + nL) (rlC (os ++ oL)) ∧ (os ++ oL).length = (no + nL) ∧ (os ++ oL).map Ro.r = O.l ++ last ∧ (no + nL) ≤ 2097152) := ⟨hsk10, HS7.out.2.keep hB10, hX3, hXw, (by rw [rlC_app]; exact HR10.out.1), (by rw [List.length_append, HNO.out, HOL.out.2.2.1]), (by rw [List.map_append, HS3.out.2.2.2.1, HOL.out.1]), by omega⟩
          clear hB10 hsk10 hX10 hX3 hXw
          have hCR := HS10.out.1.sd.crash HD6.out.2.1 (by omega) 0
          have hod := open_dd (sure := O.l ++ last) (more := []) (by rw [List.append_nil]; exact HD6.out.2.2) (up_dd HD6.out.1) 0
          have hoT : (opX (crD D6 0)).l = O.l ++ last := by
            obtain ⟨K, k1, k2, k3⟩ := hod.tk
            rw [List.append_nil] at k3
            rw [k3, List.take_of_length_le k1]
          have hoke : (crD D6 0).Ok 549755813888 := ok_cr HD6.out.2.1
          have hodr := hod.r
          obtain ⟨G, hG⟩ : ∃ G, crD D6 0 = G := ⟨_, rfl⟩
          rw [hG] at hCR hoT hoke hodr
          clear hG hod
          go_wp2_with fail
          refine hCR.mono ?_
          clear hCR
          rintro e z1 ⟨⟨uz, rfl⟩, hsz1, hxz1⟩
          have hDK := dDisk_any z1 (W.heap.size + 1) W.heap.size hsz1.hh
          obtain ⟨z2, hz2⟩ : ∃ V, z1.alloc (.cells #[.pointer (some ⟨W.heap.size, 0, none⟩)] 102) = V := ⟨_, rfl⟩
          have hbz2 : Below z1.heap.size z1 z2 := by rw [← hz2]; exact (Below.refl _ _).alloc (Nat.le_refl _) _
          have hszz : z2.heap.size = z1.heap.size + 1 := by rw [← hz2]; simp
          have hcz2 : z2.cell? ⟨z1.heap.size, 0, none⟩ = some (.pointer (some ⟨W.heap.size, 0, none⟩)) := by
            have := cell_of_row _ z1.heap.size 0 _ _ _ (heap_new6 z1 (.cells #[.pointer (some ⟨W.heap.size, 0, none⟩)] 102))
            rw [hz2] at this
            exact this
          rw [hz2] at hDK
          have hsz2 := hsz1.law (Kd.below (F := X10) hbz2)
          have hOP := hsz2.opn H1.out.1 hoke (by omega) z1.heap.size (.inr ⟨Nat.le_refl _, by omega⟩) hcz2 hodr
          unfold OK2 at hOP
          have HXZ : Hid (∀ k, X10 k → z2.heap[k]? = y10.heap[k]?) := fun k q => (hbz2.block k (hsz1.xs k q).2.1).trans (hxz1 k q)
          clear hsz1 hxz1 hbz2 hcz2 hsz2 hodr hoke
          go_wp2_with fail
          refine hDK.mono ?_
          clear hDK
          rintro e z2' ⟨rfl, hz2'⟩
          rw [hz2']
          clear hz2' hz2
          go_wp2_with fail
          refine hOP.mono ?_
          clear hOP
          rintro e z3 ⟨j3, vz, oz, rfl, hskz, hxz3, -, hrlz, homz⟩
          have hx : ∀ k, X10 k → z3.heap[k]? = y10.heap[k]? := fun k q => (hxz3 k (.inl q)).trans (HXZ.out k q)
          obtain ⟨az, cz, hvz, hlz⟩ := hrlz.rlin
          have hrt : Rl z3 y2.heap.size v3 os := HS10.out.2.1.same (fun p k hp hk => hx k (HS10.out.2.2.1 k (HS3.out.2.2.1 p k hp hk)))
          have hin : ∀ o ∈ (os ++ oL), RIo z3 o := fun o ho => (List.mem_append.mp ho).elim (rl_rio hrt o) (fun q => (HOL.out.2.1.inn o q).below hskz.bel)
          have hrw : Rr W.heap.size z3 (.slice a10 (no + nL) c10) (os ++ oL) := by
            show World.ownsRow _ _ _ _ _ _ _
            rw [HS10.out.2.2.2.2.2.1]
            exact d_blk HS10.out.2.2.2.2.1 (fun g e => hx g (HS10.out.2.2.2.1 g e))
          obtain ⟨aw, cw, hvw, hlw⟩ := hrw.lin hin
          obtain ⟨ew1, ew2, ew3⟩ := Value.slice.inj hvw
          rw [homz, hoT] at hlz
          rw [HS10.out.2.2.2.2.2.2.1] at hlw
          have hlo : oz.length = (no + nL) := by have := congrArg List.length (homz.trans hoT); rw [List.length_map] at this; rw [this, ← HS10.out.2.2.2.2.2.2.1, List.length_map]; exact HS10.out.2.2.2.2.2.1
          have hspz := rl_sp hrlz
          rw [homz, hoT] at hspz
          have hTn : (O.l ++ last).length = (no + nL) := by rw [← HS10.out.2.2.2.2.2.2.1, List.length_map]; exact HS10.out.2.2.2.2.2.1
          have hSM := same7_eq (O.l ++ last) az aw (no + nL) cz cw z3 hTn (by have := HS10.out.2.2.2.2.2.2.2; omega) hlz hlw hspz
          rw [hlo] at hvz
          rw [← ew1, ← ew3] at hSM
          have HBZ : Hid (Below w.heap.size w z3) := H1.out.2.2.1.trans (hskz.bel.mono H1.out.2.2.1.size)
          rw [hvz]
          clear hskz hxz3 hrlz homz hx hlz hrt hin hrw hlw hvw ew1 ew2 ew3 hlo hspz hTn hvz hoT
          go_wp2_with fail
          refine hSM.mono ?_
          clear hSM
          rintro e z4 ⟨rfl, hbz4⟩
          have HE : Hid (Below w.heap.size w z4) := HBZ.out.trans (hbz4.mono HBZ.out.size)
          clear hbz4
          go_wp2
          go_ret
          exact ⟨rfl, HE.out⟩
        · subst hbad
          have e1 : wrX O.d ⟨O.n, O.k, false⟩ last true = (O.d, ⟨O.n, O.k, false⟩, 60) := by unfold wrX; rw [frE_bad rfl hbl, if_neg (by omega)]
          rw [e1] at hWR
          simp only at hWR
          rw [evJ_e (by omega)] at hWR
          have hup := wr_up (J := ⟨O.n, O.k, false⟩) (l := []) HOA.out.1.up HOA.out.1.val (fun r hr => by cases hr) hjn HOA.out.1.k rfl (by rw [HOA.out.1.room, show (fr ([] : List Rc)).length = 0 from rfl]; omega)
          have hok6 := ok_wrX (J := ⟨O.n, O.k, false⟩) (l := []) (sync := true) (C := 137438953472) HOA.out.2 (fun _ => (fun z hz => by cases hz)) (by simp) (by omega)
          clear e1 hbl
          go_wp2_with fail
          refine hWR.mono ?_
          clear hWR
          rintro e y6 ⟨rfl, hsk6, hx6⟩
          obtain ⟨F6, -, -, -, hS6, -⟩ := hsk6.w0 H1.out.1
          have hNB := number_errno y6 F6 aD aF aN 60 hS6 (H1.out.2.1.below hsk6.bel)
          have HS6 : Hid (Sk W y1.heap.size j2 X3 y6 O.d ⟨O.n, O.k, false⟩ ∧ Rl y6 y2.heap.size v3 os) := ⟨hsk6, HS5.out.2.same (fun p k hp hk => hx6 k (HS3.out.2.2.1 p k hp hk))⟩
          clear hsk6 hx6 hS6
          go_wp2_with fail
          refine hNB.mono ?_
          clear hNB
          rintro e y7 ⟨rfl, hb7⟩
          have HS7 : Hid (Sk W y1.heap.size j2 X3 y7 O.d ⟨O.n, O.k, false⟩ ∧ Rl y7 y2.heap.size v3 os) := ⟨HS6.out.1.later hb7.out, HS6.out.2.keep hb7.out⟩
          clear hb7 HS6 HS5
          obtain ⟨y8, hy8⟩ : ∃ V, y7.alloc (.cells #[] 81) = V := ⟨_, rfl⟩
          have hb8 : Below y7.heap.size y7 y8 := by rw [← hy8]; exact (Below.refl _ _).alloc (Nat.le_refl _) _
          have hs8 : y8.heap.size = y7.heap.size + 1 := by rw [← hy8]; simp
          have hoe := own_empty y7 HS7.out.1.bel.size
          rw [hy8] at hoe
          have hr8 : Rl y8 y2.heap.size v3 os := HS7.out.2.keep hb8
          have hcel8 : ∀ ad, a3 = some ad → ∀ j u, (rlC os)[j]? = some u → y8.cell? (ad.add j) = some u := by
            have h := hr8.row
            rw [HS3.out.2.2.2.2] at h
            exact Rr.cells h
          have hnil8 : a3 = none → no = 0 ∧ c3 = 0 := by
            have h := hr8.row
            rw [HS3.out.2.2.2.2, HNO.out] at h
            exact Rr.none (os := os) (by show World.ownsRow _ _ _ _ _ _ _; rw [HNO.out]; exact h)
          have HC8 : Hid ((∀ ad, a3 = some ad → ∀ j u, (rlC os)[j]? = some u → y8.cell? (ad.add j) = some u) ∧ (rlC os).length = no * 11 ∧ y8.ownsRow W.heap.size 81 11 (.slice (some ⟨y7.heap.size, 0, none⟩) 0 0) 0 [] ∧ Below y7.heap.size y7 y8 ∧ (a3 = none → no = 0 ∧ c3 = 0) ∧ W.heap.size ≤ y8.heap.size) := ⟨hcel8, by rw [rlC_len, HNO.out], hoe, hb8, hnil8, Nat.le_trans HS7.out.1.bel.size hb8.size⟩
          clear hcel8 hoe hb8 hnil8 hr8
          go_wp2_with (first
            | (at_builtin; refine appR_wl rfl _ _ rfl W.heap.size (.slice (some ⟨y7.heap.size, 0, none⟩) 0 0) 0 [] rfl HC8.out.2.2.1 a3 no c3 (rlC os) rfl HC8.out.2.1 HC8.out.1 (rlC_one os) HC8.out.2.2.2.2.1 (by omega) HC8.out.2.2.2.2.2 ?_; intro v9 y9 r1 r2 r3; rw [Nat.zero_add, List.nil_append] at r1; obtain ⟨a9, c9, hv9⟩ := d_shape r1; have HR9 : Hid (y9.ownsRow W.heap.size 81 11 v9 no (rlC os) ∧ Below y7.heap.size y7 y9 ∧ (∀ g, v9.ownBlock = some g → y7.heap.size ≤ g)) := ⟨r1, HC8.out.2.2.2.1.grown r2 HC8.out.2.2.2.1.size (fun g e => by have := Option.some.inj e; simp at this; omega), fun g e => by rcases r3 with q | q; (rw [q] at e; simp [Value.ownBlock] at e; omega); (rw [q] at e; simp at e; omega)⟩; clear r1 r2 r3; subst hv9))
          have hB9 := HR9.out.2.1
          have hsk9 := HS7.out.1.law (Kd.below (F := X3) hB9)
          obtain ⟨X10, hX10⟩ : ∃ X10 : Nat → Prop, (fun k => X3 k ∨ (y7.heap.size ≤ k ∧ k < y9.heap.size)) = X10 := ⟨_, rfl⟩
          have hX3 : ∀ k, X3 k → X10 k := fun k q => by rw [← hX10]; exact .inl q
          have hXw : ∀ g, (Value.slice a9 no c9).ownBlock = some g → X10 g := fun g e => by rw [← hX10]; exact .inr ⟨HR9.out.2.2 g e, (World.ownsRow.lt HR9.out.1 g e).2⟩
          rw [hX10] at hsk9
          have hWN := hsk9.write H1.out.1 HOA.out.2 (by omega) [] none 0 0 true rfl (by omega) (.inl rfl) (fun r hr => by cases hr) hON hOK (fun _ => by simp)
          obtain ⟨⟨D6, J6, r6⟩, hR6⟩ : ∃ R : Dk × Jl × Nat, wrX O.d ⟨O.n, O.k, false⟩ [] true = R := ⟨_, rfl⟩
          rw [hR6] at hWN hup hok6
          simp only at hWN hup hok6
          rw [hup.1, evJ_nil] at hWN
          rw [List.append_nil] at hup
          have HD6 : Hid (Up O.l D6 ∧ D6.Ok 549755813888 ∧ Vd O.l) := ⟨hup.2, hok6.up (by omega), HOA.out.1.val⟩
          have HS9 : Hid (Sk W y1.heap.size j2 X10 y9 O.d ⟨O.n, O.k, false⟩ ∧ Rl y9 y2.heap.size v3 os ∧ (∀ k, X3 k → X10 k) ∧ (∀ g, (Value.slice a9 no c9).ownBlock = some g → X10 g)) := ⟨hsk9, HS7.out.2.keep hB9, hX3, hXw⟩
          clear hB9 hsk9 hX10 hX3 hXw hR6 hup hok6
          go_wp2_with fail
          refine hWN.mono ?_
          clear hWN
          rintro e y10 ⟨rfl, hsk10, hx10⟩
          have hNB := number_nil y10
          have HS10' : Hid (Sk W y1.heap.size j2 X10 y10 D6 J6 ∧ Rl y10 y2.heap.size v3 os ∧ y10.ownsRow W.heap.size 81 11 (.slice a9 no c9) no (rlC os)) := ⟨hsk10, HS9.out.2.1.same (fun p k hp hk => hx10 k (HS9.out.2.2.1 k (HS3.out.2.2.1 p k hp hk))), d_blk HR9.out.1 (fun g e => hx10 g (HS9.out.2.2.2 g e))⟩
          clear hsk10 hx10
          go_wp2_with fail
          refine hNB.mono ?_
          clear hNB
          rintro e y11 ⟨rfl, hb11⟩
          have HS10 : Hid (Sk W y1.heap.size j2 X10 y11 D6 J6 ∧ Rl y11 y2.heap.size v3 os ∧ (∀ k, X3 k → X10 k) ∧ (∀ g, (Value.slice a9 no c9).ownBlock = some g → X10 g) ∧ y11.ownsRow W.heap.size 81 11 (.slice a9 no c9) no (rlC (os)) ∧ (os).length = no ∧ (os).map Ro.r = O.l ∧ no ≤ 2097152) := ⟨HS10'.out.1.later hb11.out, HS10'.out.2.1.keep hb11.out, HS9.out.2.2.1, HS9.out.2.2.2, d_blk HS10'.out.2.2 (fun g e => hb11.out.block g (World.ownsRow.lt HS10'.out.2.2 g e).2), HNO.out, HS3.out.2.2.2.1, by omega⟩
          clear hb11 HS10'
          have hCR := HS10.out.1.sd.crash HD6.out.2.1 (by omega) 0
          have hod := open_dd (sure := O.l) (more := []) (by rw [List.append_nil]; exact HD6.out.2.2) (up_dd HD6.out.1) 0
          have hoT : (opX (crD D6 0)).l = O.l := by
            obtain ⟨K, k1, k2, k3⟩ := hod.tk
            rw [List.append_nil] at k3
            rw [k3, List.take_of_length_le k1]
          have hoke : (crD D6 0).Ok 549755813888 := ok_cr HD6.out.2.1
          have hodr := hod.r
          obtain ⟨G, hG⟩ : ∃ G, crD D6 0 = G := ⟨_, rfl⟩
          rw [hG] at hCR hoT hoke hodr
          clear hG hod
          go_wp2_with fail
          refine hCR.mono ?_
          clear hCR
          rintro e z1 ⟨⟨uz, rfl⟩, hsz1, hxz1⟩
          have hDK := dDisk_any z1 (W.heap.size + 1) W.heap.size hsz1.hh
          obtain ⟨z2, hz2⟩ : ∃ V, z1.alloc (.cells #[.pointer (some ⟨W.heap.size, 0, none⟩)] 102) = V := ⟨_, rfl⟩
          have hbz2 : Below z1.heap.size z1 z2 := by rw [← hz2]; exact (Below.refl _ _).alloc (Nat.le_refl _) _
          have hszz : z2.heap.size = z1.heap.size + 1 := by rw [← hz2]; simp
          have hcz2 : z2.cell? ⟨z1.heap.size, 0, none⟩ = some (.pointer (some ⟨W.heap.size, 0, none⟩)) := by
            have := cell_of_row _ z1.heap.size 0 _ _ _ (heap_new6 z1 (.cells #[.pointer (some ⟨W.heap.size, 0, none⟩)] 102))
            rw [hz2] at this
            exact this
          rw [hz2] at hDK
          have hsz2 := hsz1.law (Kd.below (F := X10) hbz2)
          have hOP := hsz2.opn H1.out.1 hoke (by omega) z1.heap.size (.inr ⟨Nat.le_refl _, by omega⟩) hcz2 hodr
          unfold OK2 at hOP
          have HXZ : Hid (∀ k, X10 k → z2.heap[k]? = y11.heap[k]?) := fun k q => (hbz2.block k (hsz1.xs k q).2.1).trans (hxz1 k q)
          clear hsz1 hxz1 hbz2 hcz2 hsz2 hodr hoke
          go_wp2_with fail
          refine hDK.mono ?_
          clear hDK
          rintro e z2' ⟨rfl, hz2'⟩
          rw [hz2']
          clear hz2' hz2
          go_wp2_with fail
          refine hOP.mono ?_
          clear hOP
          rintro e z3 ⟨j3, vz, oz, rfl, hskz, hxz3, -, hrlz, homz⟩
          have hx : ∀ k, X10 k → z3.heap[k]? = y11.heap[k]? := fun k q => (hxz3 k (.inl q)).trans (HXZ.out k q)
          obtain ⟨az, cz, hvz, hlz⟩ := hrlz.rlin
          have hrt : Rl z3 y2.heap.size v3 os := HS10.out.2.1.same (fun p k hp hk => hx k (HS10.out.2.2.1 k (HS3.out.2.2.1 p k hp hk)))
          have hin : ∀ o ∈ (os), RIo z3 o := fun o ho => rl_rio hrt o ho
          have hrw : Rr W.heap.size z3 (.slice a9 no c9) (os) := by
            show World.ownsRow _ _ _ _ _ _ _
            rw [HS10.out.2.2.2.2.2.1]
            exact d_blk HS10.out.2.2.2.2.1 (fun g e => hx g (HS10.out.2.2.2.1 g e))
          obtain ⟨aw, cw, hvw, hlw⟩ := hrw.lin hin
          obtain ⟨ew1, ew2, ew3⟩ := Value.slice.inj hvw
          rw [homz, hoT] at hlz
          rw [HS10.out.2.2.2.2.2.2.1] at hlw
          have hlo : oz.length = no := by have := congrArg List.length (homz.trans hoT); rw [List.length_map] at this; rw [this, ← HS10.out.2.2.2.2.2.2.1, List.length_map]; exact HS10.out.2.2.2.2.2.1
          have hspz := rl_sp hrlz
          rw [homz, hoT] at hspz
          have hTn : (O.l).length = no := by rw [← HS10.out.2.2.2.2.2.2.1, List.length_map]; exact HS10.out.2.2.2.2.2.1
          have hSM := same7_eq (O.l) az aw no cz cw z3 hTn (by have := HS10.out.2.2.2.2.2.2.2; omega) hlz hlw hspz
          rw [hlo] at hvz
          rw [← ew1, ← ew3] at hSM
          have HBZ : Hid (Below w.heap.size w z3) := H1.out.2.2.1.trans (hskz.bel.mono H1.out.2.2.1.size)
          rw [hvz]
          clear hskz hxz3 hrlz homz hx hlz hrt hin hrw hlw hvw ew1 ew2 ew3 hlo hspz hTn hvz hoT
          go_wp2_with fail
          refine hSM.mono ?_
          clear hSM
          rintro e z4 ⟨rfl, hbz4⟩
          have HE : Hid (Below w.heap.size w z4) := HBZ.out.trans (hbz4.mono HBZ.out.size)
          clear hbz4
          go_wp2
          go_ret
          exact ⟨rfl, HE.out⟩
end Go.Proofs.YtllhbhogfffedaaGreatDoor.K
