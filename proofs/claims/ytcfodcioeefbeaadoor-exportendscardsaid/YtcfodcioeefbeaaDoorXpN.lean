import Derived.Test.YtcfodcioeefbeaaDoorXpM
namespace Go.Proofs.YtcfodcioeefbeaaDoor.X
open Go.RowKit Go.Maps
set_option linter.unusedVariables false
set_option linter.unusedSimpArgs false

abbrev plC (k : Pk) (bv : Value) (ret cyc base : Int) (again : Bool) (sv : Value) : Array Value := #[.int .i64 k.org, .int .i64 k.num, .int .i64 k.srv, .int .i64 k.size, .int .i64 k.red, .int .i64 k.mtu, .int .i64 k.every, bv, .int .i64 ret, .int .i64 cyc, .int .i64 base, .bool again, sv]
def PlB (W : World) (b : Nat) (k : Pk) (bv : Value) (ret cyc base : Int) (again : Bool) (sv : Value) : Prop := W.cell? ⟨b, 0, none⟩ = some (.int .i64 k.org) ∧ W.cell? ⟨b, 1, none⟩ = some (.int .i64 k.num) ∧ W.cell? ⟨b, 2, none⟩ = some (.int .i64 k.srv) ∧ W.cell? ⟨b, 3, none⟩ = some (.int .i64 k.size) ∧ W.cell? ⟨b, 4, none⟩ = some (.int .i64 k.red) ∧ W.cell? ⟨b, 5, none⟩ = some (.int .i64 k.mtu) ∧ W.cell? ⟨b, 6, none⟩ = some (.int .i64 k.every) ∧ W.cell? ⟨b, 7, none⟩ = some (bv) ∧ W.cell? ⟨b, 8, none⟩ = some (.int .i64 ret) ∧ W.cell? ⟨b, 9, none⟩ = some (.int .i64 cyc) ∧ W.cell? ⟨b, 10, none⟩ = some (.int .i64 base) ∧ W.cell? ⟨b, 11, none⟩ = some (.bool again) ∧ W.cell? ⟨b, 12, none⟩ = some (sv)
theorem pl_cells {W : World} {b : Nat} {k : Pk} {bv : Value} {ret cyc base : Int} {again : Bool} {sv : Value} (h : W.heap[b]? = some (.cells (plC k bv ret cyc base again sv) 31)) : PlB W b k bv ret cyc base again sv :=
  ⟨(cell_of_row _ _ _ _ _ _ h).trans rfl, (cell_of_row _ _ _ _ _ _ h).trans rfl, (cell_of_row _ _ _ _ _ _ h).trans rfl, (cell_of_row _ _ _ _ _ _ h).trans rfl, (cell_of_row _ _ _ _ _ _ h).trans rfl, (cell_of_row _ _ _ _ _ _ h).trans rfl, (cell_of_row _ _ _ _ _ _ h).trans rfl, (cell_of_row _ _ _ _ _ _ h).trans rfl, (cell_of_row _ _ _ _ _ _ h).trans rfl, (cell_of_row _ _ _ _ _ _ h).trans rfl, (cell_of_row _ _ _ _ _ _ h).trans rfl, (cell_of_row _ _ _ _ _ _ h).trans rfl, (cell_of_row _ _ _ _ _ _ h).trans rfl⟩
/-- What the rounds keep. -/
def QF (k : Pk) (CK : List Pc) (Q : List (Sg × Value)) : Prop := (∀ y ∈ Q, y.1.org = k.org ∧ y.1.num = k.num) ∧ cks Q = CK.map Pc.chk
def RI (N0 : Nat) (w2 : World) (e m rm : Nat) (s0 : Xs) (again : Bool) (CK : List Pc) (bs : List Int) (r : Nat) (b : Bool) (qv : Value) (W : World) : Prop :=
  ∃ (g : Bool) (O : List Oc) (Q : List (Sg × Value)) (cv : Value) (L : List Int), EI N0 w2 e m rm { s0 with gone := g } O bs qv Q cv L W ∧ SnO CK r [] O ∧ QF s0.k CK Q ∧ Q.length ≤ 262144 ∧ (r = 0 → b = false ∧ g = again ∧ ∃ y ∈ Q, isL s0.last y.1) ∧ (0 < r → g = true ∧ b = !again)
def SI (N0 : Nat) (w2 : World) (e m rm : Nat) (s0 : Xs) (CK : List Pc) (bs : List Int) (r : Nat) (qv : Value) (Q : List (Sg × Value)) (g0 b0 : Bool) (i : Nat) (b : Bool) (cv : Value) (W : World) : Prop :=
  ∃ (g : Bool) (O : List Oc), EI N0 w2 e m rm { s0 with gone := g } O bs qv Q cv (cks (Q.take i)) W ∧ SnO CK r ((Q.take i).map fun y => y.1.chk) O ∧ GR g0 b0 g b ∧ ((∃ y ∈ Q.take i, isL s0.last y.1) → g = true)
def LI (N0 : Nat) (w2 : World) (e m rm : Nat) (s0 : Xs) (CK : List Pc) (bs : List Int) (r : Nat) (cv : Value) (j : Nat) (qv : Value) (W : World) : Prop :=
  ∃ O Q, EI N0 w2 e m rm { s0 with gone := true } O bs qv Q cv (CK.map Pc.chk) W ∧ LtO CK r j O ∧ Q.map Prod.fst = (CK.take j).map (fun p => (mk s0.k p bs).1)
theorem cks_len (Q : List (Sg × Value)) : (cks Q).length ≤ Q.length := by
  unfold cks
  exact Nat.le_trans (List.length_filter_le _ _) (by simp)
theorem mem_cks {Q : List (Sg × Value)} {y : Sg × Value} (hy : y ∈ Q) (h : 0 < y.1.chk) : y.1.chk ∈ cks Q := List.mem_filter.mpr ⟨List.mem_map.mpr ⟨y, hy, rfl⟩, by simpa using h⟩
theorem cks_pos {Q : List (Sg × Value)} {c : Int} (h : c ∈ cks Q) : 0 < c ∧ c ∈ Q.map (fun y => y.1.chk) := by
  obtain ⟨h1, h2⟩ := List.mem_filter.mp h
  exact ⟨by simpa using h2, h1⟩
theorem opl_len {k : Pk} {n : Nat} {ret cyc base : Int} {again : Bool} {P : List Pc} (h : OpK k n ret cyc base again) (hP : OpL k base again P) : P.length ≤ 262144 := by
  unfold OpL at hP
  cases again
  · rw [if_neg (by simp)] at hP
    rw [hP]
    have := cutL_len h.ok base
    unfold cutL
    rw [List.length_append]
    omega
  · rw [if_pos rfl] at hP
    obtain ⟨p, _, _, rfl⟩ := hP
    simp
theorem ckp_red0 {k : Pk} {n : Nat} {ret cyc base : Int} {again : Bool} {P : List Pc} (h : OpK k n ret cyc base again) (hP : OpL k base again P) (hr : k.red = 0) : ckp P = [] := by
  unfold ckp
  rw [List.filter_eq_nil_iff]
  intro p hp
  have := (opl_each h hP p hp).2.2.2 hr
  simp [this]
theorem filter_map_chk {f : Pc → Sg} : ∀ (P : List Pc), (∀ p ∈ P, (f p).chk = p.chk) → (P.map (Sg.chk ∘ f)).filter (fun c => decide (0 < c)) = (P.filter fun p => decide (0 < p.chk)).map Pc.chk
  | [], _ => rfl
  | p :: P, h => by
    have hp := h p (by simp)
    have ih := filter_map_chk P (fun q hq => h q (by simp [hq]))
    rw [List.map_cons]
    by_cases hc : 0 < p.chk
    · rw [List.filter_cons_of_pos (by simpa [Function.comp, hp] using hc), List.filter_cons_of_pos (by simpa using hc), ih, List.map_cons]
      simp only [Function.comp, hp]
    · rw [List.filter_cons_of_neg (by simpa [Function.comp, hp] using hc), List.filter_cons_of_neg (by simpa using hc), ih]
theorem cks_of {Q : List (Sg × Value)} {P : List Pc} {f : Pc → Sg} (hQ : Q.map Prod.fst = P.map f) (hf : ∀ p ∈ P, (f p).chk = p.chk) : cks Q = (ckp P).map Pc.chk := by
  unfold cks ckp
  have e : (Q.map fun y => y.1.chk) = (Q.map Prod.fst).map Sg.chk := by rw [List.map_map]; rfl
  rw [e, hQ, List.map_map]
  exact filter_map_chk P hf
theorem int_info : (Tryd.prog.info? 3).map (fun i => (i.zero, i.size, i.bytes)) = some (some (.int .i64 0), 1, 8) := by kernel_rfl
theorem snt_row {CK : List Pc} {r : Int} {done : List Int} {O : List Oc} (h : SnO CK r done O) {Q : List (Sg × Value)} {y : Sg × Value} (hy : y ∈ Q) (hq : cks Q = CK.map Pc.chk) (hp : ∀ p ∈ CK, 0 < p.chk) : snO O y.1.chk = true ↔ 0 < y.1.chk := by
  rw [snO_iff h]
  constructor
  · intro hc
    obtain ⟨p, h1, h2⟩ := List.mem_map.mp hc
    rw [← h2]
    exact hp p h1
  · intro hc
    rw [← hq]
    exact mem_cks hy hc
theorem si_next {N0 : Nat} {w2 wr w5 V6 w6 : World} {e m rm : Nat} {s0 : Xs} {CK : List Pc} {bs : List Int} {r : Nat} {qv cv v6 : Value} {Q : List (Sg × Value)} {O2 : List Oc} {g0 b1 g1 b2 B : Bool} {i tn : Nat} {y : Sg × Value} {LS : List Value}
    (hE : EI N0 w2 e m rm { s0 with gone := g1 } O2 bs qv Q cv (cks (Q.take i)) wr) (hSn : SnO CK r ((Q.take i).map fun y => y.1.chk) O2) (hGR : GR g0 b1 g1 b2) (hLD : (∃ y ∈ Q.take i, isL s0.last y.1) → g1 = true) (hy : Q[i]? = some y) (hq : cks Q = CK.map Pc.chk) (hp : ∀ p ∈ CK, 0 < p.chk)
    (hX5 : ∃ c, Xm w5 e m rm c { s0 with gone := g1 || B } (upO y.1.chk (wtO false) O2)) (hK5 : Kl (XF e m O2) wr w5) (hB : sntB { s0 with gone := g1 } y.1 = B) (htn : tn = if snO O2 y.1.chk = true then 1 else 0) (hLS : LS = if snO O2 y.1.chk = true then [.int .i64 y.1.chk] else []) (h6 : Below w5.heap.size w5 V6) (hg : V6.grownBy w6 cv.ownBlock) (hr : w6.ownsRow N0 3 1 v6 ((cks (Q.take i)).length + tn) (inR (cks (Q.take i)) ++ LS)) :
    SI N0 w2 e m rm s0 CK bs r qv Q g0 b1 (i + 1) (b2 || B) v6 w6 := by
  have hc := snt_row hSn (List.mem_of_getElem? hy) hq hp
  have hE5 : EI N0 w2 e m rm { s0 with gone := g1 || B } (upO y.1.chk (wtO false) O2) bs qv Q cv (cks (Q.take i)) w5 := hE.call hX5 (fun g hg => (xf_up (f := wtO false) (fun _ => rfl)).mp hg) rfl hK5
  refine ⟨g1 || B, _, (hE5.below h6).pushC hg ?_, ?_, ?_, ?_⟩
  · rw [take_snoc hy, cks_snoc]
    by_cases h0 : 0 < y.1.chk
    · rw [if_pos (hc.mpr h0)] at htn hLS
      rw [if_pos h0]
      rw [htn, hLS] at hr
      rw [List.length_append]
      unfold inR at hr ⊢
      rw [List.map_append]
      exact hr
    · rw [if_neg (fun q => h0 (hc.mp q))] at htn hLS
      rw [if_neg h0]
      rw [htn, hLS] at hr
      rw [List.append_nil] at hr ⊢
      exact hr
  · rw [take_snoc hy, List.map_append]
    exact hSn.step _
  · rw [← hB]
    exact gr_step (s := { s0 with gone := g1 }) hGR y.1
  · rintro ⟨z, hz, hzl⟩
    rw [take_snoc hy] at hz
    rcases List.mem_append.mp hz with q | q
    · rw [hLD ⟨z, q, hzl⟩]
      rfl
    · rw [List.mem_singleton.mp q] at hzl
      rw [← hB]
      exact snt_last (s := { s0 with gone := g1 }) hzl
theorem rd_fin {r : Nat} {b1 g0 again g1 b2 : Bool} {X : Prop} (h0 : r = 0 → b1 = false ∧ g0 = again ∧ X) (h1 : 0 < r → g0 = true ∧ b1 = !again) (h : GR g0 b1 g1 b2) (hl : X → g1 = true) : g1 = true ∧ b2 = !again := by
  rcases Nat.eq_zero_or_pos r with e | e
  · obtain ⟨q1, q2, q3⟩ := h0 e
    refine ⟨hl q3, ?_⟩
    cases hg : g0
    · rw [h.f hg, hl q3, ← q2, hg]; rfl
    · rw [(h.t hg).2, q1, ← q2, hg]; rfl
  · obtain ⟨q1, q2⟩ := h1 e
    exact ⟨(h.t q1).1, (h.t q1).2.trans q2⟩
theorem li_next {N0 : Nat} {w2 wr w5 V6 w6 : World} {e m rm : Nat} {s0 : Xs} {CK : List Pc} {bs : List Int} {r j : Nat} {qv cv v6 dv : Value} {Q : List (Sg × Value)} {O2 : List Oc} {p : Pc}
    (hE : EI N0 w2 e m rm { s0 with gone := true } O2 bs qv Q cv (CK.map Pc.chk) wr) (hL : LtO CK r j O2) (hQ : Q.map Prod.fst = (CK.take j).map (fun p => (mk s0.k p bs).1)) (hp : CK[j]? = some p) (hn : (CK.map Pc.chk).Nodup)
    (hX5 : ∃ c, Xm w5 e m rm c { s0 with gone := true } (upO p.chk agO O2)) (hK5 : Kl (XF e m O2) wr w5) (h6 : Below w5.heap.size w5 V6) (hg : V6.grownBy w6 qv.ownBlock) (hr : w6.ownsRow N0 45 14 v6 (Q.length + 1) (Q.flatMap sgL ++ sgL ((mk s0.k p bs).1, dv))) :
    LI N0 w2 e m rm s0 CK bs r cv (j + 1) v6 w6 := by
  have hE5 : EI N0 w2 e m rm { s0 with gone := true } (upO p.chk agO O2) bs qv Q cv (CK.map Pc.chk) w5 := hE.call hX5 (fun g hg => (xf_up (f := agO) (fun _ => rfl)).mp hg) rfl hK5
  refine ⟨_, Q ++ [((mk s0.k p bs).1, dv)], (hE5.below h6).pushQ hg ?_, hL.step hn hp, ?_⟩
  · rw [List.length_append, List.flatMap_append]
    simpa using hr
  · rw [List.map_append, hQ, take_snoc hp, List.map_append]
    rfl
theorem li_fin {N0 : Nat} {w2 wr : World} {e m rm : Nat} {s0 : Xs} {CK : List Pc} {bs : List Int} {r : Nat} {qv cv : Value} {again b : Bool} (h : LI N0 w2 e m rm s0 CK bs r cv CK.length qv wr) (hp : ∀ p ∈ CK, 0 < p.chk) (hl : CK.length ≤ 262144) (hm : ∀ p ∈ CK, (mk s0.k p bs).1 = sgP s0.k p (dat bs p)) (hb : b = !again) : RI N0 w2 e m rm s0 again CK bs (r + 1) b qv wr ∧ ∃ a c, qv = .slice a CK.length c := by
  obtain ⟨O3, Q3, hE, hL, hQ⟩ := h
  rw [List.take_length] at hQ
  have hlen : Q3.length = CK.length := by
    have q := congrArg List.length hQ
    simpa using q
  have hck : ckp CK = CK := List.filter_eq_self.mpr (fun p h => by simpa using hp p h)
  refine ⟨⟨true, O3, Q3, cv, CK.map Pc.chk, hE, by have q := hL.done; rw [Int.natCast_add]; exact q, ⟨fun y hy => ?_, ?_⟩, by rw [hlen]; exact hl, fun q => by omega, fun _ => ⟨rfl, hb⟩⟩, ?_⟩
  · have hy1 : y.1 ∈ CK.map (fun p => (mk s0.k p bs).1) := by rw [← hQ]; exact List.mem_map.mpr ⟨y, hy, rfl⟩
    obtain ⟨p, h1, e1⟩ := List.mem_map.mp hy1
    rw [← e1, hm p h1]
    exact ⟨rfl, rfl⟩
  · rw [cks_of hQ (fun p h1 => by rw [hm p h1]; rfl), hck]
  · rw [← hlen]
    exact own_sl hE.row
set_option maxRecDepth 100000 in
set_option maxHeartbeats 32000000 in
/-- THE LAW'S WALK: ExportEnds. -/
theorem ends_walk {w : World} (hT : Tab w) (k : Pk) (a : Option Addr) (zs : List Int) (len cap : Nat) (hl : zs.length = len) (hlc : len ≤ cap) (hc : Lies .u8 w a zs) (hn : a = none → len = 0 ∧ cap = 0) (ret cyc base : Int) (again : Bool) (sa : Option Addr) (sn sc : Nat) :
    Calls Tryd.prog 3 #[.agg (plC k (.slice a len cap) ret cyc base again (.slice sa sn sc))] w fun e w' => e = .returned (.bool true) ∧ Below w.heap.size w w' := by
  obtain ⟨V1, hV1⟩ : ∃ V, w.alloc (.cells (plC k (.slice a len cap) ret cyc base again (.slice sa sn sc)) 31) = V := ⟨_, rfl⟩
  obtain ⟨b, hb⟩ : ∃ b, w.heap.size = b := ⟨_, rfl⟩
  have h00 : 0 < w.heap.size := World.block_lt_of_cell? w ⟨0, 0, none⟩ (hT 0 (by omega))
  have hB1 : Below w.heap.size w V1 := by rw [← hV1]; exact (Below.refl _ _).alloc (Nat.le_refl _) _
  have g1 : V1.heap[b]? = some (.cells (plC k (.slice a len cap) ret cyc base again (.slice sa sn sc)) 31) := by rw [← hV1, ← hb]; exact heap_alloc_new' w _
  have hAw := awake12_any (hT.below hB1 h00)
  have HV : Hid (w.alloc (.cells (plC k (.slice a len cap) ret cyc base again (.slice sa sn sc)) 31) = V1) := hV1
  have HP : Hid (Tab w ∧ zs.length = len ∧ len ≤ cap ∧ Lies .u8 w a zs ∧ (a = none → len = 0 ∧ cap = 0) ∧ Below w.heap.size w V1 ∧ V1.heap[b]? = some (.cells (plC k (.slice a len cap) ret cyc base again (.slice sa sn sc)) 31) ∧ 0 < w.heap.size ∧ b < V1.heap.size ∧ w.heap.size = b) := ⟨hT, hl, hlc, hc, hn, hB1, g1, h00, (Array.getElem?_eq_some_iff.1 g1).1, hb⟩
  clear hT hl hlc hc hn hV1 h00 hB1 g1
  go_enter Tryd.func3, Tryd.ntmps3
  go_upto_region 1 with fail
  rw [HV.out]
  try rw [hb]
  clear hb HV
  go_upto_region 2 with (go_at_call 4; refine hAw.mono ?_; rintro e w2 ⟨rfl, hb2⟩; have HB2 : Hid (Below V1.heap.size V1 w2) := hb2; clear hb2 hAw)
  have hbw2 : Below w.heap.size w w2 := HP.out.2.2.2.2.2.1.trans (HB2.out.mono HP.out.2.2.2.2.2.1.size)
  have hbx2 := (HB2.out.block b HP.out.2.2.2.2.2.2.2.2.1).trans HP.out.2.2.2.2.2.2.1
  have hO := open_any (HP.out.1.below hbw2 HP.out.2.2.2.2.2.2.2.1) k a zs len cap HP.out.2.1 HP.out.2.2.1 (HP.out.2.2.2.1.below hbw2) HP.out.2.2.2.2.1 ret cyc base again
  have H2 : Hid (Below w.heap.size w w2 ∧ w2.heap[b]? = some (.cells (plC k (.slice a len cap) ret cyc base again (.slice sa sn sc)) 31)) := ⟨hbw2, hbx2⟩
  obtain ⟨x0, x1, x2, x3, x4, x5, x6, x7, x8, x9, x10, x11, x12⟩ := pl_cells hbx2
  clear hbw2 hbx2 HB2
  by_cases hK : OpK k zs.length ret cyc base again
  · have hO' : Calls Tryd.prog 5 #[.agg #[.int .i64 k.org, .int .i64 k.num], .agg #[.int .i64 k.srv, .int .i64 k.size, .int .i64 k.red, .int .i64 k.mtu, .int .i64 k.every], .slice a len cap, .agg #[.int .i64 ret, .int .i64 cyc], .int .i64 base, .bool again] w2 (OpS w2 k zs ret cyc base again) := hO.mono fun e w' q => q.elim (fun q => absurd hK q.1) (fun q => q.2)
    have HK : Hid (OpK k zs.length ret cyc base again) := hK
    clear hK hO
    go_upto_region 3 with (go_at_call 5; refine hO'.mono ?_; intro e' w3 hop
                           obtain ⟨e, m, rm, c, P, last, O, Y, bv, v, rfl, hPL, hla, hX, hxf, hOp, hOw, hS, hY, hbr, hb3⟩ := hop
                           obtain ⟨va, vc, rfl⟩ := own_sl hS.row
                           obtain ⟨yn, hyn⟩ : ∃ n, Y.length = n := ⟨_, rfl⟩
                           have H3 : Hid (OpL k base again P ∧ P.getLast? = some last ∧ SnO (ckp P) 0 [] O ∧ Y.map Prod.fst = P.map (fun p => (mk k p zs).1) ∧ Y.length = yn ∧ EI w2.heap.size w2 e m rm ⟨k, bv, ret, cyc, last, again, lstC base P, .slice none 0 0, 0, false⟩ O (zs.take k.red.toNat) (.slice va Y.length vc) Y (.slice none 0 0) [] w3) := ⟨hPL, hla, ⟨hOp, fun o ho => (hOw o ho).2, fun o _ q => by cases q⟩, hY, hyn, ⟨hb3, hb3.size, ⟨c, hX⟩, hxf, hbr, hS.row, World.ownsRow_nil _ _ _ _⟩⟩
                           rw [hyn] at H3 ⊢
                           unfold mvC
                           clear hPL hla hX hxf hOp hOw hS hY hbr hb3 hyn hO')
    clear x0 x1 x2 x3 x4 x5 x6 x7 x8 x9 x10 x11 x12
    obtain ⟨R, hR⟩ : ∃ R : Nat, ret = (R : Int) := Int.eq_ofNat_of_zero_le (by have := HK.out.rt; omega)
    subst hR
    obtain ⟨s0, hs0⟩ : ∃ s : Xs, (⟨k, bv, (R : Int), cyc, last, again, lstC base P, .slice none 0 0, 0, false⟩ : Xs) = s := ⟨_, rfl⟩
    have HS0 : Hid (s0.k = k ∧ s0.ret = (R : Int) ∧ s0.last = last ∧ s0.gone = again ∧ R ≤ 100 ∧ 1 ≤ R) := by
      rw [← hs0]
      have := HK.out.rt
      exact ⟨rfl, rfl, rfl, rfl, by omega, by omega⟩
    rw [hs0] at H3
    clear hs0
    obtain ⟨V5, hV5⟩ : ∃ V, w3.alloc (.cells #[.slice none 0 0, .slice va yn vc, .slice none 0 0, .bool false, .bool false, .bool false, .int .i64 0] 37) = V := ⟨_, rfl⟩
    obtain ⟨b5, hb5⟩ : ∃ b, w3.heap.size = b := ⟨_, rfl⟩
    have B5 : Below w3.heap.size w3 V5 := by rw [← hV5]; exact (Below.refl _ _).alloc (Nat.le_refl _) _
    have g5 : V5.heap[b5]? = some (mvO (.slice none 0 0) (.slice va yn vc) (.slice none 0 0) false false false 0) := by rw [← hV5, ← hb5]; exact heap_alloc_new' w3 _
    obtain ⟨m0, m1, m2, m3, m4, m5, m6⟩ := mv_cells g5
    obtain ⟨CK, hCK⟩ : ∃ l, ckp P = l := ⟨_, rfl⟩
    obtain ⟨bs, hbs⟩ : ∃ l, zs.take k.red.toNat = l := ⟨_, rfl⟩
    obtain ⟨N0, hN0⟩ : ∃ n, w2.heap.size = n := ⟨_, rfl⟩
    have hsg : ∀ p ∈ P, (mk k p zs).1 = sgP k p (dat zs p) := opl_mk HK.out H3.out.1 rfl
    have HCk : Hid (ckp P = CK ∧ zs.take k.red.toNat = bs ∧ (CK.map Pc.chk).Nodup ∧ CK.length ≤ 262144 ∧ (∀ p ∈ CK, 0 < p.chk) ∧ (∀ p ∈ CK, (mk k p bs).1 = sgP k p (dat bs p)) ∧ (0 < k.red → CK ≠ []) ∧ (k.red = 0 → CK = [] ∧ again = false) ∧ b < N0 ∧ Below w.heap.size w w2 ∧ w2.heap.size = N0) := by
      have hf := opl_frs HK.out H3.out.1
      unfold Frs at hf
      rw [List.map_nil, List.nil_append, hCK] at hf
      refine ⟨hCK, hbs, hf, ?_, fun p hp => ?_, fun p hp => ?_, fun q => by rw [← hCK]; exact opl_ck HK.out H3.out.1 q, fun q => ⟨by rw [← hCK]; exact ckp_red0 HK.out H3.out.1 q, ?_⟩, by rw [← hN0]; exact (Array.getElem?_eq_some_iff.1 H2.out.2).1, H2.out.1, hN0⟩
      · rw [← hCK]
        exact Nat.le_trans (List.length_filter_le _ _) (opl_len HK.out H3.out.1)
      · rw [← hCK] at hp
        simpa using (List.mem_filter.mp hp).2
      · rw [← hbs]
        exact ck_late HK.out H3.out.1 rfl p (by rw [hCK]; exact hp)
      · cases hg : again
        · rfl
        · have := HK.out.ar hg; omega
    have HRI : Hid (RI N0 w2 e m rm s0 again CK bs 0 false (.slice va yn vc) V5) := by
      have hY := H3.out.2.2.2.1
      refine ⟨again, O, Y, .slice none 0 0, [], ?_, by rw [← hCK]; exact H3.out.2.2.1, ⟨fun y hy => ?_, ?_⟩, ?_, fun _ => ⟨rfl, rfl, ?_⟩, fun q => by omega⟩
      · have q := H3.out.2.2.2.2.2.below B5
        rw [hN0, hbs] at q
        rw [show ({ s0 with gone := again } : Xs) = s0 by rw [← HS0.out.2.2.2.1]]
        exact q
      · have hy1 : y.1 ∈ P.map (fun p => (mk k p zs).1) := by rw [← hY]; exact List.mem_map.mpr ⟨y, hy, rfl⟩
        obtain ⟨p, hp, e1⟩ := List.mem_map.mp hy1
        rw [← e1, hsg p hp, HS0.out.1]
        exact ⟨rfl, rfl⟩
      · rw [cks_of hY (fun p hp => by rw [hsg p hp]; rfl), hCK]
      · have q := congrArg List.length hY
        rw [List.length_map, List.length_map] at q
        rw [q]
        exact opl_len HK.out H3.out.1
      · have hla := H3.out.2.1
        have hlp : last ∈ P := List.mem_of_getLast? hla
        have h1 : (mk k last zs).1 ∈ Y.map Prod.fst := by rw [hY]; exact List.mem_map.mpr ⟨last, hlp, rfl⟩
        obtain ⟨y, hy, e1⟩ := List.mem_map.mp h1
        refine ⟨y, hy, ?_⟩
        rw [e1, hsg last hlp, HS0.out.2.2.1]
        exact ⟨rfl, rfl, rfl⟩
    clear hsg B5 g5 hCK hbs hN0 H3
    go_upto_region 10 with fail
    try rw [hV5]
    clear hV5 hb5 m0 m1 m2 m3 m4 m5 m6
    go_loopw [7, 8, 9] (fun qv bb rv wr => ∃ (r : Nat) (b1 : Bool), rv = .int .i64 r ∧ bb = .bool b1 ∧ Hid (r ≤ R ∧ RI N0 w2 e m rm s0 again CK bs r b1 qv wr)) (fun _ _ rv _ => R + 1 - (intOf rv).toNat)
    case atStart => exact ⟨0, false, rfl, rfl, Nat.zero_le _, HRI.out⟩
    case round =>
      obtain ⟨r, b1, rfl, rfl, hh⟩ := hrel
      have HR := hh.out
      clear hh HRI
      obtain ⟨wo, rfl⟩ : ∃ W, W = wr := ⟨_, rfl⟩
      obtain ⟨hr, g0, O1, Q, cv0, L0, hE, hSn, hQF, hQl, h0, h1⟩ := HR
      obtain ⟨qa, qc, rfl⟩ := own_sl hE.row
      obtain ⟨qn, hqn⟩ : ∃ n, Q.length = n := ⟨_, rfl⟩
      have hbxo := (hE.low.block b HCk.out.2.2.2.2.2.2.2.2.1).trans H2.out.2
      have HSI : Hid (SI N0 w2 e m rm s0 CK bs r (.slice qa qn qc) Q g0 b1 0 b1 (.slice none 0 0) wo) := ⟨g0, O1, by rw [← hqn]; exact hE.noC, hSn, ⟨fun q => ⟨q, rfl⟩, fun q => by
        rcases Nat.eq_zero_or_pos r with e1 | e1
        · rw [q, (h0 e1).1]
        · rw [(h1 e1).1] at q; cases q⟩, fun ⟨y, hy, _⟩ => by rw [List.take_zero] at hy; cases hy⟩
      have HQ : Hid (r ≤ R ∧ QF s0.k CK Q ∧ Q.length = qn ∧ qn ≤ 262144 ∧ (r = 0 → b1 = false ∧ g0 = again ∧ ∃ y ∈ Q, isL s0.last y.1) ∧ (0 < r → g0 = true ∧ b1 = !again)) := ⟨hr, hQF, hqn, by rw [← hqn]; exact hQl, h0, h1⟩
      obtain ⟨x0, x1, x2, x3, x4, x5, x6, x7, x8, x9, x10, x11, x12⟩ := pl_cells hbxo
      have hle : (r : Int) ≤ (R : Int) := by omega
      rw [hqn]
      clear hE hSn hQF hQl h0 h1 hbxo hqn hr
      go_upto_region 14 with fail
      clear x0 x1 x2 x3 x4 x5 x6 x7 x8 x9 x10 x11 x12 hle
      go_loopw [8, 10, 11] (fun bb cv iv wr => ∃ (i : Nat) (b2 : Bool), iv = .int .i64 i ∧ bb = .bool b2 ∧ Hid (i ≤ qn ∧ SI N0 w2 e m rm s0 CK bs r (.slice qa qn qc) Q g0 b1 i b2 cv wr)) (fun _ _ iv _ => qn - (intOf iv).toNat)
      case atStart => exact ⟨0, b1, rfl, rfl, Nat.zero_le _, HSI.out⟩
      case round =>
        obtain ⟨i, b2, rfl, rfl, hh⟩ := hrel
        have HK2 := hh.out
        clear hh HSI
        by_cases hlt : i < qn
        · have hlt' : (i : Int) < (qn : Int) := by omega
          have h0i : 0 ≤ (i : Int) := by omega
          obtain ⟨hi, g1, O2, hE, hSn, hGR, hLD⟩ := HK2
          obtain ⟨y, hy⟩ : ∃ y, Q[i]? = some y := ⟨Q[i]'(by rw [HQ.out.2.2.1]; exact hlt), List.getElem?_eq_getElem _⟩
          obtain ⟨qg, qcp, eqa, _, _⟩ := World.ownsRow.form hE.row (by rw [HQ.out.2.2.1]; omega)
          rw [HQ.out.2.2.1] at eqa
          simp only [Value.slice.injEq] at eqa
          obtain ⟨rfl, -, rfl⟩ := eqa
          have hrow := hE.row
          rw [HQ.out.2.2.1] at hrow
          have hc : ∀ j, j < 14 → wr.cell? ⟨qg, i * 14 + j, none⟩ = (sgL y)[j]? := fun j hj => row_cell (f := sgL) (z := 14) (fun _ => rfl) hrow HQ.out.2.2.1 hy hj
          have z0 : wr.cell? ⟨qg, i * 14, none⟩ = some (.int .i64 y.1.typ) := hc 0 (by omega)
          have z1 : wr.cell? ⟨qg, i * 14 + 1, none⟩ = some (.int .i64 y.1.org) := hc 1 (by omega)
          have z2 : wr.cell? ⟨qg, i * 14 + 2, none⟩ = some (.int .i64 y.1.num) := hc 2 (by omega)
          have z3 : wr.cell? ⟨qg, i * 14 + 3, none⟩ = some (.slice none 0 0) := hc 3 (by omega)
          have z4 : wr.cell? ⟨qg, i * 14 + 4, none⟩ = some (.slice none 0 0) := hc 4 (by omega)
          have z5 : wr.cell? ⟨qg, i * 14 + 5, none⟩ = some (.int .i64 y.1.srv) := hc 5 (by omega)
          have z6 : wr.cell? ⟨qg, i * 14 + 6, none⟩ = some (.int .i64 y.1.off) := hc 6 (by omega)
          have z7 : wr.cell? ⟨qg, i * 14 + 7, none⟩ = some (y.2) := hc 7 (by omega)
          have z8 : wr.cell? ⟨qg, i * 14 + 8, none⟩ = some (.int .i64 y.1.chk) := hc 8 (by omega)
          have z9 : wr.cell? ⟨qg, i * 14 + 9, none⟩ = some (.int .i64 y.1.rep) := hc 9 (by omega)
          have z10 : wr.cell? ⟨qg, i * 14 + 10, none⟩ = some (.int .i64 y.1.upp) := hc 10 (by omega)
          have z11 : wr.cell? ⟨qg, i * 14 + 11, none⟩ = some (.int .i64 y.1.low) := hc 11 (by omega)
          have z12 : wr.cell? ⟨qg, i * 14 + 12, none⟩ = some (.slice none 0 0) := hc 12 (by omega)
          have z13 : wr.cell? ⟨qg, i * 14 + 13, none⟩ = some (.int .i64 y.1.rsn) := hc 13 (by omega)
          obtain ⟨cx, hX⟩ := hE.xm
          have hyQ : y ∈ Q := List.mem_of_getElem? hy
          have hon := HQ.out.2.1.1 y hyQ
          have hok := HK.out.ok
          rw [← HS0.out.1] at hok
          have hSe : Calls Tryd.prog 6 #[.pointer (some ⟨e, 0, none⟩), .agg #[.int .i64 y.1.typ, .int .i64 y.1.org, .int .i64 y.1.num, .slice none 0 0, .slice none 0 0, .int .i64 y.1.srv, .int .i64 y.1.off, y.2, .int .i64 y.1.chk, .int .i64 y.1.rep, .int .i64 y.1.upp, .int .i64 y.1.low, .slice none 0 0, .int .i64 y.1.rsn]] wr (SnP wr e m rm cx { s0 with gone := g1 } O2 y.1) := sent_own hX y.1 (.slice none 0 0) (.slice none 0 0) y.2 (.slice none 0 0) (hon.1.trans rfl) (hon.2.trans rfl) ⟨iw_of (by rw [hon.1]; have := hok.org; omega), iw_of (by rw [hon.2]; have := hok.num; omega)⟩
          obtain ⟨ca, cc, rfl⟩ := own_sl hE.crow
          have H5 : Hid (EI N0 w2 e m rm { s0 with gone := g1 } O2 bs (.slice (some ⟨qg, 0, none⟩) qn qc) Q (.slice ca (cks (Q.take i)).length cc) (cks (Q.take i)) wr ∧ SnO CK r ((Q.take i).map fun y => y.1.chk) O2 ∧ GR g0 b1 g1 b2 ∧ ((∃ y ∈ Q.take i, isL s0.last y.1) → g1 = true) ∧ Q[i]? = some y ∧ i < qn ∧ y ∈ Q) := ⟨by have q := hE; exact q, hSn, hGR, hLD, hy, hlt, hyQ⟩
          obtain ⟨cn, hcn⟩ : ∃ n, (cks (Q.take i)).length = n := ⟨_, rfl⟩
          clear hE hSn hGR hLD hrow hc hX hon hok hyQ hi
          rw [hcn] at H5 ⊢
          go_upto_region 17 with (go_at_call 6; refine hSe.mono ?_; rintro e' w5 ⟨sv, rfl, hr5, hX5, hK5⟩
                                  obtain ⟨ta, tc, rfl⟩ := own_sl hr5
                                  obtain ⟨BB, hBB⟩ : ∃ x, sntB { s0 with gone := g1 } y.1 = x := ⟨_, rfl⟩
                                  obtain ⟨tn, htn⟩ : ∃ x, (if snO O2 y.1.chk = true then 1 else 0) = x := ⟨_, rfl⟩
                                  obtain ⟨LS, hLS⟩ : ∃ x, (if snO O2 y.1.chk = true then [Value.int .i64 y.1.chk] else []) = x := ⟨_, rfl⟩
                                  rw [hBB] at hX5 ⊢
                                  rw [htn] at hr5 ⊢
                                  rw [hLS] at hr5
                                  have H6 : Hid ((∃ c, Xm w5 e m rm c { s0 with gone := g1 || BB } (upO y.1.chk (wtO false) O2)) ∧ Kl (XF e m O2) wr w5 ∧ sntB { s0 with gone := g1 } y.1 = BB ∧ tn = (if snO O2 y.1.chk = true then 1 else 0) ∧ LS = (if snO O2 y.1.chk = true then [Value.int .i64 y.1.chk] else []) ∧ w5.ownsRow wr.heap.size 3 1 (.slice ta tn tc) tn LS ∧ tn ≤ 1) := ⟨⟨_, hX5⟩, hK5, hBB, htn.symm, hLS.symm, hr5, by rw [← htn]; split <;> omega⟩
                                  unfold mvC
                                  clear hX5 hK5 hBB htn hLS hr5 hSe)
          clear z0 z1 z2 z3 z4 z5 z6 z7 z8 z9 z10 z11 z12 z13
          obtain ⟨V6, hV6⟩ : ∃ V, w5.alloc (.cells #[.slice none 0 0, .slice none 0 0, .slice ta tn tc, .bool BB, .bool false, .bool false, .int .i64 0] 37) = V := ⟨_, rfl⟩
          obtain ⟨b6, hb6⟩ : ∃ b, w5.heap.size = b := ⟨_, rfl⟩
          have B6 : Below w5.heap.size w5 V6 := by rw [← hV6]; exact (Below.refl _ _).alloc (Nat.le_refl _) _
          have g6 : V6.heap[b6]? = some (mvO (.slice none 0 0) (.slice none 0 0) (.slice ta tn tc) BB false false 0) := by rw [← hV6, ← hb6]; exact heap_alloc_new' w5 _
          obtain ⟨m0, m1, m2, m3, m4, m5, m6⟩ := mv_cells g6
          rw [hV6]
          try rw [hb6]
          have HB6 : Hid (Below w5.heap.size w5 V6) := B6
          clear hV6 hb6 B6 g6
          go_cut [8] from 67 to 71 (fun q wx => q = .bool (b2 || BB) ∧ Hid (wx = V6))
          case first =>
            cases b2
            · go_wp2_with fail
              go_meet
              exact ⟨rfl, rfl⟩
            · go_wp2_with fail
              go_meet
              exact ⟨rfl, rfl⟩
          case rest =>
            obtain ⟨rfl, HWc⟩ := hcut
            have e6 := HWc.out
            subst e6
            obtain ⟨i0, hi, hz0, hz1, hz2⟩ := info_parts int_info
            have hrow : wc.ownsRow N0 3 1 (.slice ca cn cc) cn (inR (cks (Q.take i))) := by
              have q := ((H5.out.1.call H6.out.1 (fun g hg => (xf_up (f := wtO false) (fun _ => rfl)).mp hg) rfl H6.out.2.1).below HB6.out).crow
              rw [hcn] at q
              exact q
            have hsrc : wc.ownsRow 0 3 1 (.slice ta tn tc) tn LS := own_low (own_at H6.out.2.2.2.2.2.1 (fun g hg => HB6.out.block g (World.ownsRow.lt H6.out.2.2.2.2.2.1 g hg).2)) (Nat.zero_le _)
            have hone : ∀ u ∈ LS, u.oneCell' = true := by
              rw [H6.out.2.2.2.2.1]
              intro u hu
              split at hu
              · rw [List.mem_singleton.mp hu]; rfl
              · cases hu
            have hcl : cn ≤ 262144 := by
              have h1 := cks_len (Q.take i)
              have h2 := HQ.out.2.2.2.1
              have h3 := H5.out.2.2.2.2.2.1
              rw [List.length_take] at h1
              omega
            have hm1 : cn + tn ≤ maxLen := by have := H6.out.2.2.2.2.2.2; unfold maxLen; omega
            have hm2 : (cn + tn) * 8 ≤ 140737488355328 := by have := H6.out.2.2.2.2.2.2; omega
            have hwl : N0 ≤ wc.heap.size := Nat.le_trans H5.out.1.n0 (Nat.le_trans H6.out.2.1.size HB6.out.size)
            go_upto_region 15 with (at_builtin
                                    refine wpl_row _ rfl _ _ 34 rfl N0 3 i0 _ 1 8 Tryd.underlying34 hi hz0 hz1 hz2 rfl (by decide) _ _ _ rfl hrow _ tn _ rfl hsrc hone hm1 hm2 hwl ?_
                                    intro v6 w6 hown6 hgrow6 _
                                    have HN : Hid (SI N0 w2 e m rm s0 CK bs r (.slice (some ⟨qg, 0, none⟩) qn qc) Q g0 b1 (i + 1) (b2 || BB) v6 w6) := si_next H5.out.1 H5.out.2.1 H5.out.2.2.1 H5.out.2.2.2.1 H5.out.2.2.2.2.1 HQ.out.2.1.2 HCk.out.2.2.2.2.1 H6.out.1 H6.out.2.1 H6.out.2.2.1 H6.out.2.2.2.1 H6.out.2.2.2.2.1 HB6.out hgrow6 (by rw [hcn]; exact hown6)
                                    obtain ⟨be, ce, rfl⟩ := own_sl hown6
                                    clear hown6 hgrow6 hrow hsrc hone hm1 hm2 hwl)
            clear m0 m1 m2 m3 m4 m5 m6 hcn
            have hqn := HQ.out.2.2.2.1
            go_wp2
            go_roundw
            case rel => exact ⟨i + 1, b2 || BB, by go_num, rfl, by omega, HN.out⟩
            case measure => simp [intOf]; omega
        · obtain ⟨hi, g1, O2, hE, hSn, hGR, hLD⟩ := HK2
          have hin : i = qn := by omega
          subst hin
          rw [show Q.take i = Q by rw [← HQ.out.2.2.1]; exact List.take_length] at hE hSn hLD
          obtain ⟨e1, e2⟩ := rd_fin HQ.out.2.2.2.2.1 HQ.out.2.2.2.2.2 hGR hLD
          subst e1 e2
          rw [HQ.out.2.1.2] at hE
          have hlt' : ¬ (i : Int) < (i : Int) := by omega
          have hbxo := (hE.low.block b HCk.out.2.2.2.2.2.2.2.2.1).trans H2.out.2
          obtain ⟨x0, x1, x2, x3, x4, x5, x6, x7, x8, x9, x10, x11, x12⟩ := pl_cells hbxo
          obtain ⟨ca, cc, rfl⟩ := own_sl hE.crow
          have hcl : (CK.map Pc.chk).length = CK.length := List.length_map _
          rw [hcl]
          have HF : Hid (Below w.heap.size w wr) := HCk.out.2.2.2.2.2.2.2.2.2.1.trans (hE.low.mono (by rw [← HCk.out.2.2.2.2.2.2.2.2.2.2]; exact HCk.out.2.2.2.2.2.2.2.2.2.1.size))
          by_cases hred : k.red = 0
          · obtain ⟨hc0, rfl⟩ := HCk.out.2.2.2.2.2.2.2.1 hred
            rw [hred] at x4
            obtain ⟨cx, hX⟩ := hE.xm
            have hOu := out_any hX rfl
            have hcz : CK.length = 0 := by rw [hc0]; rfl
            rw [hcz]
            clear hE hSn hGR hLD hX hbxo
            go_wp2_with (go_at_call 7; refine hOu.mono ?_; rintro e' w5 ⟨rfl, hb5⟩; have H7 : Hid (Below wr.heap.size wr w5) := hb5; clear hb5 hOu)
            go_ret
            exact ⟨rfl, HF.out.trans (H7.out.mono HF.out.size)⟩
          · have hr1 : decide (k.red = 0) = false := decide_eq_false hred
            have hr2 : (k.red == 0) = false := by simpa using hred
            have HRd : Hid (k.red ≠ 0) := hred
            have HLI : Hid (LI N0 w2 e m rm s0 CK bs r (.slice ca CK.length cc) 0 (.slice none 0 0) wr) := by
              rw [hcl] at hE
              refine ⟨O2, [], hE.noQ, LtO.start hSn (fun p hp => ?_), rfl⟩
              have q : p.chk ∈ cks Q := by rw [HQ.out.2.1.2]; exact List.mem_map.mpr ⟨p, hp, rfl⟩
              exact (cks_pos q).2
            obtain ⟨cl, hcl2⟩ : ∃ n, CK.length = n := ⟨_, rfl⟩
            have HCl : Hid (CK.length = cl ∧ 0 < cl ∧ cl ≤ 262144) := ⟨hcl2, by rw [← hcl2]; exact List.length_pos_iff.mpr (HCk.out.2.2.2.2.2.2.1 (by have := HK.out.ok.red; omega)), by rw [← hcl2]; exact HCk.out.2.2.2.1⟩
            rw [hcl2] at HLI ⊢
            clear hE hSn hGR hLD hbxo hred hcl hcl2 HF
            go_upto_region 23 with fail
            clear x0 x1 x2 x3 x4 x5 x6 x7 x8 x9 x10 x11 x12 hr1 hr2
            go_loopw [7, 13] (fun qv jv wr => ∃ j : Nat, jv = .int .i64 j ∧ Hid (j ≤ cl ∧ (0 < j → r < R) ∧ LI N0 w2 e m rm s0 CK bs r (.slice ca cl cc) j qv wr)) (fun _ jv _ => cl - (intOf jv).toNat)
            case atStart => exact ⟨0, rfl, Nat.zero_le _, (fun q => absurd q (Nat.lt_irrefl 0)), HLI.out⟩
            case round =>
              obtain ⟨j, rfl, hh⟩ := hrel
              have HK3 := hh.out
              clear hh HLI
              by_cases hlt : j < cl
              · have hlt' : (j : Int) < (cl : Int) := by omega
                have h0j : 0 ≤ (j : Int) := by omega
                obtain ⟨hj, hjr, O3, Q3, hE, hL, hQ3⟩ := HK3
                obtain ⟨p, hp⟩ : ∃ p, CK[j]? = some p := ⟨CK[j]'(by rw [HCl.out.1]; exact hlt), List.getElem?_eq_getElem _⟩
                obtain ⟨o, ho, hop, hwt, hag⟩ := hL.at hp
                obtain ⟨qa3, qc3, rfl⟩ := own_sl hE.row
                have hcr := hE.crow
                have hcl := HCl.out.1
                rw [show (CK.map Pc.chk).length = cl by rw [List.length_map, hcl]] at hcr
                obtain ⟨cg, ccp, eca, _, _⟩ := World.ownsRow.form hcr (by omega)
                simp only [Value.slice.injEq] at eca
                obtain ⟨rfl, -, rfl⟩ := eca
                have c0 : wr.cell? ⟨cg, j, none⟩ = some (.int .i64 p.chk) := by
                  refine (World.ownsRow.cellAt hcr j (by omega)).trans ?_
                  unfold inR
                  rw [List.getElem?_map, List.getElem?_map, hp]
                  rfl
                obtain ⟨cx, hX⟩ := hE.xm
                obtain ⟨ba, bc, hbv⟩ := own_sl hE.by'
                have hby := hE.by'
                rw [hbv] at hby
                have hLt := late_out hX ho hwt (by rw [hag]; have := HQ.out.1; have := HS0.out.2.2.2.2.1; omega) hbv bs (own_low hby (Nat.zero_le _))
                rw [hop] at hLt
                have H8 : Hid (EI N0 w2 e m rm { s0 with gone := true } O3 bs (.slice qa3 Q3.length qc3) Q3 (.slice (some ⟨cg, 0, none⟩) cl cc) (CK.map Pc.chk) wr ∧ LtO CK r j O3 ∧ Q3.map Prod.fst = (CK.take j).map (fun p => (mk s0.k p bs).1) ∧ CK[j]? = some p ∧ o.ag = r ∧ j < cl) := ⟨hE, hL, hQ3, hp, hag, hlt⟩
                obtain ⟨x0, x1, x2, x3, x4, x5, x6, x7, x8, x9, x10, x11, x12⟩ := pl_cells ((hE.low.block b HCk.out.2.2.2.2.2.2.2.2.1).trans H2.out.2)
                clear hE hL hQ3 hp hwt hcr hcl hX hbv hby ho hj hjr
                by_cases hrR : r = R
                · have hLo : Calls Tryd.prog 8 #[.pointer (some ⟨e, 0, none⟩), .int .i64 p.chk] wr (fun e' w' => e' = .returned (.agg (mvC (.slice none 0 0) (.slice none 0 0) (.slice none 0 0) false false true 2)) ∧ Below wr.heap.size wr w') := hLt.mono fun e' w' q => by
                    unfold LtP at q
                    rw [if_pos (show o.ag ≥ s0.ret by rw [hag, HS0.out.2.1, hrR]; exact Int.le_refl _)] at q
                    exact q
                  have HF : Hid (Below w.heap.size w wr) := HCk.out.2.2.2.2.2.2.2.2.2.1.trans (H8.out.1.low.mono (by rw [← HCk.out.2.2.2.2.2.2.2.2.2.2]; exact HCk.out.2.2.2.2.2.2.2.2.2.1.size))
                  clear hag hLt hop
                  go_upto_region 26 with (go_at_call 8; refine hLo.mono ?_; rintro e' w5 ⟨rfl, hb5⟩; have H9 : Hid (Below wr.heap.size wr w5) := hb5; unfold mvC; clear hb5 hLo)
                  obtain ⟨V6, hV6⟩ : ∃ V, w5.alloc (.cells #[.slice none 0 0, .slice none 0 0, .slice none 0 0, .bool false, .bool false, .bool true, .int .i64 2] 37) = V := ⟨_, rfl⟩
                  obtain ⟨b6, hb6⟩ : ∃ b, w5.heap.size = b := ⟨_, rfl⟩
                  have B6 : Below w5.heap.size w5 V6 := by rw [← hV6]; exact (Below.refl _ _).alloc (Nat.le_refl _) _
                  have g6 : V6.heap[b6]? = some (mvO (.slice none 0 0) (.slice none 0 0) (.slice none 0 0) false false true 2) := by rw [← hV6, ← hb6]; exact heap_alloc_new' w5 _
                  obtain ⟨m0, m1, m2, m3, m4, m5, m6⟩ := mv_cells g6
                  rw [hV6]
                  try rw [hb6]
                  have B9 : Below w.heap.size w V6 := HF.out.trans ((H9.out.trans (B6.mono H9.out.size)).mono HF.out.size)
                  clear x0 x1 x2 x3 x4 x5 x6 x7 x8 x9 x10 x11 x12
                  obtain ⟨x0, x1, x2, x3, x4, x5, x6, x7, x8, x9, x10, x11, x12⟩ := pl_cells (((H9.out.trans (B6.mono H9.out.size)).block b (Nat.lt_of_lt_of_le HCk.out.2.2.2.2.2.2.2.2.1 H8.out.1.n0)).trans ((H8.out.1.low.block b HCk.out.2.2.2.2.2.2.2.2.1).trans H2.out.2))
                  have HF9 : Hid (Below w.heap.size w V6) := B9
                  clear hV6 hb6 B6 g6 B9
                  subst hrR
                  cases again
                  · go_wp2_with fail
                    go_ret
                    exact ⟨rfl, HF9.out⟩
                  · go_wp2_with fail
                    go_ret
                    exact ⟨rfl, HF9.out⟩
                · have hrlt : r < R := by have := HQ.out.1; omega
                  obtain ⟨gS, hgS⟩ : ∃ g, (mk s0.k p bs).1 = g := ⟨_, rfl⟩
                  have hLo : Calls Tryd.prog 8 #[.pointer (some ⟨e, 0, none⟩), .int .i64 p.chk] wr (fun e' w' => ∃ v dv, e' = .returned (.agg (mvC (.slice none 0 0) v (.slice none 0 0) false false false 0)) ∧ Sgs w' wr.heap.size v [(gS, dv)] ∧ (∃ c, Xm w' e m rm c { s0 with gone := true } (upO p.chk agO O3)) ∧ Kl (XF e m O3) wr w') := hLt.mono fun e' w' q => by
                    unfold LtP at q
                    rw [if_neg (show ¬ o.ag ≥ s0.ret by rw [hag, HS0.out.2.1]; omega), hop] at q
                    obtain ⟨v, dv, q1, q2, q3, q4⟩ := q
                    rw [← hgS]
                    exact ⟨v, dv, q1, q2, ⟨_, q3⟩, q4⟩
                  have hrR' : decide ((r : Int) = (R : Int)) = false := decide_eq_false (by omega)
                  obtain ⟨n3, hn3⟩ : ∃ n, Q3.length = n := ⟨_, rfl⟩
                  have hn3j : n3 = j := by
                    have q := congrArg List.length H8.out.2.2.1
                    rw [List.length_map, List.length_map, List.length_take] at q
                    have := HCl.out.1
                    omega
                  have HJ : Hid (r < R ∧ n3 = j ∧ (mk s0.k p bs).1 = gS ∧ Q3.length = n3) := ⟨hrlt, hn3j, hgS, hn3⟩
                  rw [hn3] at H8 ⊢
                  clear hag hLt hop hrR hrlt hgS hn3 hn3j x0 x1 x2 x3 x4 x5 x6 x7 x8 x9 x10 x11 x12
                  go_upto_region 26 with (go_at_call 8; refine hLo.mono ?_; rintro e' w5 ⟨v, dv, rfl, hS5, hX5, hK5⟩
                                          obtain ⟨ta, tc, rfl⟩ := own_sl hS5.row
                                          have H9 : Hid (Sgs w5 wr.heap.size (.slice ta 1 tc) [(gS, dv)] ∧ (∃ c, Xm w5 e m rm c { s0 with gone := true } (upO p.chk agO O3)) ∧ Kl (XF e m O3) wr w5) := ⟨hS5, hX5, hK5⟩
                                          unfold mvC
                                          clear hS5 hX5 hK5 hLo)
                  obtain ⟨V6, hV6⟩ : ∃ V, w5.alloc (.cells #[.slice none 0 0, .slice ta 1 tc, .slice none 0 0, .bool false, .bool false, .bool false, .int .i64 0] 37) = V := ⟨_, rfl⟩
                  obtain ⟨b6, hb6⟩ : ∃ b, w5.heap.size = b := ⟨_, rfl⟩
                  have B6 : Below w5.heap.size w5 V6 := by rw [← hV6]; exact (Below.refl _ _).alloc (Nat.le_refl _) _
                  have g6 : V6.heap[b6]? = some (mvO (.slice none 0 0) (.slice ta 1 tc) (.slice none 0 0) false false false 0) := by rw [← hV6, ← hb6]; exact heap_alloc_new' w5 _
                  obtain ⟨m0, m1, m2, m3, m4, m5, m6⟩ := mv_cells g6
                  try rw [hV6]
                  try rw [hb6]
                  have HB6 : Hid (Below w5.heap.size w5 V6) := B6
                  clear hV6 hb6 B6 g6
                  obtain ⟨i0, hi, hz0, hz1, hz2⟩ := info_parts seg_info
                  have hrow : V6.ownsRow N0 45 14 (.slice qa3 n3 qc3) n3 (Q3.flatMap sgL) := by
                    have q := ((H8.out.1.call H9.out.2.1 (fun g hg => (xf_up (f := agO) (fun _ => rfl)).mp hg) rfl H9.out.2.2).below HB6.out).row
                    rw [HJ.out.2.2.2] at q
                    exact q
                  have hsrc : V6.ownsRow 0 45 14 (.slice ta 1 tc) 1 (sgL (gS, dv)) := by
                    have q := H9.out.1.row
                    rw [List.flatMap_singleton] at q
                    exact own_low (own_at q (fun g hg => HB6.out.block g (World.ownsRow.lt q g hg).2)) (Nat.zero_le _)
                  obtain ⟨da, dc, hdv⟩ := own_sl (H9.out.1.el (gS, dv) (by simp))
                  have hone : ∀ u ∈ sgL (gS, dv), u.oneCell' = true := by { intro u hu; rw [show dv = _ from hdv] at hu; simp only [sgL, List.mem_cons, List.not_mem_nil, or_false] at hu; rcases hu with rfl | rfl | rfl | rfl | rfl | rfl | rfl | rfl | rfl | rfl | rfl | rfl | rfl | rfl <;> rfl }
                  clear hdv
                  have hm1 : n3 + 1 ≤ maxLen := by have := HJ.out.2.1; have := H8.out.2.2.2.2.2; have := HCl.out.2.2; unfold maxLen; omega
                  have hm2 : (n3 + 1) * 176 ≤ 140737488355328 := by have := HJ.out.2.1; have := H8.out.2.2.2.2.2; have := HCl.out.2.2; omega
                  have hwl : N0 ≤ V6.heap.size := Nat.le_trans H8.out.1.n0 (Nat.le_trans H9.out.2.2.size HB6.out.size)
                  go_upto_region 24 with (at_builtin
                                          refine wpl_row _ rfl _ _ 35 rfl N0 45 i0 _ 14 176 Tryd.underlying35 hi hz0 hz1 hz2 rfl (by decide) _ _ _ rfl hrow _ 1 _ rfl hsrc hone hm1 hm2 hwl ?_
                                          intro v6 w6 hown6 hgrow6 _
                                          have HN : Hid (LI N0 w2 e m rm s0 CK bs r (.slice (some ⟨cg, 0, none⟩) cl cc) (j + 1) v6 w6) := li_next (dv := dv) H8.out.1 H8.out.2.1 H8.out.2.2.1 H8.out.2.2.2.1 HCk.out.2.2.1 H9.out.2.1 H9.out.2.2 HB6.out hgrow6 (by rw [HJ.out.2.2.1, HJ.out.2.2.2]; exact hown6)
                                          obtain ⟨be, ce, rfl⟩ := own_sl hown6
                                          clear hown6 hgrow6 hrow hsrc hone hm1 hm2 hwl)
                  clear m0 m1 m2 m3 m4 m5 m6
                  have hcln := HCl.out.2.2
                  go_wp2
                  go_roundw
                  case rel => exact ⟨j + 1, by go_num, by omega, (fun _ => HJ.out.1), HN.out⟩
                  case measure => simp [intOf]; omega
              · obtain ⟨hj, hjr, hLI⟩ := HK3
                have hjc : j = cl := by omega
                subst hjc
                have hlt' : ¬ (j : Int) < (j : Int) := by omega
                have hks := HS0.out.1
                obtain ⟨hRI, ga, gc, rfl⟩ := li_fin (again := again) (b := !again) (by rw [HCl.out.1]; exact hLI) HCk.out.2.2.2.2.1 (by rw [HCl.out.1]; exact HCl.out.2.2) (by rw [hks]; exact HCk.out.2.2.2.2.2.1) rfl
                rw [HCl.out.1] at hRI ⊢
                have HN : Hid (RI N0 w2 e m rm s0 again CK bs (r + 1) (!again) (.slice ga j gc) wr ∧ r < R) := ⟨hRI, hjr HCl.out.2.1⟩
                have hj0 : decide ((j : Int) = 0) = false := decide_eq_false (by have := HCl.out.2.1; omega)
                have hj1 : ((j : Int) == 0) = false := by have := HCl.out.2.1; simp; omega
                have hR100 := HS0.out.2.2.2.2.1
                have hrlt := HN.out.2
                clear hRI hLI hjr hks
                go_wp2
                go_roundw
                case rel => exact ⟨r + 1, !again, by go_num, rfl, by omega, HN.out.1⟩
                case measure => simp [intOf]; omega
  · have hO' : Calls Tryd.prog 5 #[.agg #[.int .i64 k.org, .int .i64 k.num], .agg #[.int .i64 k.srv, .int .i64 k.size, .int .i64 k.red, .int .i64 k.mtu, .int .i64 k.every], .slice a len cap, .agg #[.int .i64 ret, .int .i64 cyc], .int .i64 base, .bool again] w2 (fun e w' => ∃ er, er ≠ 0 ∧ e = .returned (.tuple #[.pointer none, .agg (mvC (.slice none 0 0) (.slice none 0 0) (.slice none 0 0) false false false 0), .int .i64 er]) ∧ Below w2.heap.size w2 w') := hO.mono fun e w' q => q.elim (fun q => q.2) (fun q => absurd q.1 hK)
    clear hK hO
    go_upto_region 3 with (go_at_call 5; refine hO'.mono ?_; rintro e' w3 ⟨er, he, rfl, hb3⟩
                           have e1 : (er != 0) = true := by simpa using he
                           have e2 : decide (er = 0) = false := decide_eq_false he
                           have H3 : Hid (Below w2.heap.size w2 w3) := hb3
                           unfold mvC
                           clear he hb3 hO')
    have HF : Hid (∀ ob, Below w.heap.size w (w3.alloc ob)) := fun ob => (H2.out.1.trans (H3.out.mono H2.out.1.size)).alloc (Nat.le_trans H2.out.1.size H3.out.size) _
    clear x0 x1 x2 x3 x4 x5 x6 x7 x8 x9 x10 x11 x12
    go_wp2
    go_ret
    exact ⟨rfl, HF.out _⟩
end Go.Proofs.YtcfodcioeefbeaaDoor.X
