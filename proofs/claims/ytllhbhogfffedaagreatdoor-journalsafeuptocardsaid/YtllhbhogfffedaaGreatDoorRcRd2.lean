import Derived.Test.YtllhbhogfffedaaGreatDoorJkOk
import Derived.Test.YtllhbhogfffedaaGreatDoorJoi
namespace Go.Proofs.YtllhbhogfffedaaGreatDoor
open Go.RowKit
set_option linter.unusedVariables false
set_option linter.unusedSimpArgs false

/-- So many spans are read. -/
def spP : Nat → List Int → Option (List (Int × Int) × List Int)
  | 0, zs => some ([], zs)
  | k + 1, zs => match spP k zs with
    | none => none
    | some (l, t) => match numP t with
      | none => none
      | some (a, t1) => match numP t1 with
        | none => none
        | some (b, t2) => some (l ++ [(a, a + b)], t2)
def spsP (zs : List Int) : Option (List (Int × Int) × List Int) := match numP zs with
  | none => none
  | some (n, t) => spP n.toNat t
theorem bytey_drop {zs : List Int} (h : Bytey zs) (k : Nat) : Bytey (zs.drop k) := fun z hz => h z (List.mem_of_mem_drop hz)
theorem numP_by {zs t : List Int} {n : Int} (hb : Bytey zs) (h : numP zs = some (n, t)) : Bytey t ∧ t.length + 1 ≤ zs.length := by
  obtain ⟨_, _, _, h4, h5, h6, h7, h8⟩ := numP_inv hb h
  have := sz_bounds n h7 (by omega)
  rw [h5]
  exact ⟨bytey_drop hb _, by rw [List.length_drop]; omega⟩
theorem numP_bd {zs t : List Int} {n : Int} (hb : Bytey zs) (h : numP zs = some (n, t)) : 0 ≤ n ∧ n ≤ 4611686018427387903 := by
  obtain ⟨_, _, _, _, _, _, h7, h8⟩ := numP_inv hb h
  exact ⟨h7, h8⟩
theorem spP_by : ∀ {k : Nat} {zs t : List Int} {l : List (Int × Int)}, Bytey zs → spP k zs = some (l, t) → l.length = k ∧ Bytey t ∧ t.length + 2 * k ≤ zs.length
  | 0, zs, t, l, hb, h => by
    simp only [spP, Option.some.injEq, Prod.mk.injEq] at h
    obtain ⟨rfl, rfl⟩ := h
    exact ⟨rfl, hb, by simp⟩
  | k + 1, zs, t, l, hb, h => by
    simp only [spP] at h
    split at h
    · cases h
    · rename_i l' t' h1
      split at h
      · cases h
      · rename_i a t1 h2
        split at h
        · cases h
        · rename_i b t2 h3
          simp only [Option.some.injEq, Prod.mk.injEq] at h
          obtain ⟨rfl, rfl⟩ := h
          obtain ⟨q1, q2, q3⟩ := spP_by hb h1
          obtain ⟨q4, q5⟩ := numP_by q2 h2
          obtain ⟨q6, q7⟩ := numP_by q4 h3
          exact ⟨by simp [q1], q6, by omega⟩
theorem spP_no {k : Nat} {zs : List Int} (h : spP k zs = none) : ∀ j, spP (k + j) zs = none
  | 0 => h
  | j + 1 => by
    have := spP_no h j
    show (match spP (k + j) zs with | none => none | some (l, t) => _) = none
    rw [this]

theorem RdS.keep {w w' : World} {rb g : Nat} {zs : List Int} {row : Option Nat} (h : RdS w rb g zs) (hg : w.grownBy w' row) (h1 : row ≠ some rb) (h2 : row ≠ some g) : RdS w' rb g zs := by
  obtain ⟨⟨off, n, c, hh, hn, hnc, hc, hcell⟩, hne⟩ := h
  refine ⟨⟨off, n, c, (hg.block rb (Array.getElem?_eq_some_iff.mp hh).1 (fun e => h1 e.symm)).trans hh, hn, hnc, hc, fun i hi => ?_⟩, hne⟩
  exact hg.cell (hcell i hi) (fun e => h2 (by rw [← e]))
theorem RdS.rblt {w : World} {rb g : Nat} {zs : List Int} (h : RdS w rb g zs) : rb < w.heap.size := by
  obtain ⟨⟨off, n, c, hh, _⟩, _⟩ := h
  exact (Array.getElem?_eq_some_iff.mp hh).1

theorem grown_app {w w3 w5 : World} {rb n m : Nat} {e : TypeId} {v : Value} {xs : List Value} {o : Obj} (HG : w.grownBy w3 (some rb)) (hso : w3.ownsRow w.heap.size e n v m xs) (hg : (w3.alloc o).grownBy w5 v.ownBlock) : w.grownBy w5 (some rb) := by
  have h1 := HG.size
  have h2 : (w3.alloc o).heap.size = w3.heap.size + 1 := by simp
  have h3 := hg.size
  refine ⟨hg.os.trans HG.os, hg.tape.trans HG.tape, hg.output.trans HG.output, by omega, fun k hk hne => ?_⟩
  refine (hg.block k (by omega) ?_).trans ((Below.heap_alloc w3 o k (by omega)).trans (HG.block k hk hne))
  intro e'
  have := (hso.lt k e'.symm).1
  omega
theorem RdS.app {w w3 w5 : World} {rb g n m : Nat} {e : TypeId} {v : Value} {xs : List Value} {o : Obj} {zs : List Int} (h : RdS w3 rb g zs) (hso : w3.ownsRow w.heap.size e n v m xs) (hg : (w3.alloc o).grownBy w5 v.ownBlock) (h1 : rb < w.heap.size) (h2 : g < w.heap.size) : RdS w5 rb g zs := by
  have h3 : RdS (w3.alloc o) rb g zs := h.keep (row := none) ⟨rfl, rfl, rfl, by simp, fun k hk _ => Below.heap_alloc w3 o k hk⟩ (by simp) (by simp)
  refine h3.keep hg ?_ ?_
  · intro e'
    have := (hso.lt rb e').1
    omega
  · intro e'
    have := (hso.lt g e').1
    omega
def SpsPost (q : Option (List (Int × Int) × List Int)) (w : World) (rb g : Nat) (e : Ending) (w' : World) : Prop :=
  (match q with
    | some (l, t) => ∃ v, e = .returned v ∧ C.SOwn w' w.heap.size v l ∧ RdS w' rb g t
    | none => e = .panicked pcV) ∧ w.grownBy w' (some rb)

set_option maxRecDepth 100000 in
set_option maxHeartbeats 4000000 in
theorem spans_any (rb g : Nat) (zs : List Int) (w : World) (h : RdS w rb g zs) (hb : Bytey zs) (hz : zs.length ≤ 131072) (hgl : g < w.heap.size) :
    Calls Tryz.prog 129 #[.pointer (some ⟨rb, 0, none⟩)] w (SpsPost (spsP zs) w rb g) := by
  obtain ⟨i0, hi, hz0, hz1, hz2⟩ := info_parts C.Tryz.info_span
  cases hn : numP zs with
  | none =>
    have HE : Hid (spsP zs = none) := by unfold Hid spsP; rw [hn]
    have HN := num_no rb g zs w h hb hn
    rw [HE.out]
    clear h hb hn HE
    go_enter Tryz.func129, Tryz.ntmps129
    go_wp2_with (go_at_call 127; refine HN.mono ?_; rintro e w1 ⟨rfl, rfl⟩)
    exact ⟨rfl, rfl, World.grownBy.refl _ _⟩
  | some p =>
    obtain ⟨N, t0⟩ := p
    have HE : Hid (spsP zs = spP N.toNat t0) := by unfold Hid spsP; rw [hn]
    obtain ⟨hb0, hl0⟩ := numP_by hb hn
    obtain ⟨hN0, hN1⟩ := numP_bd hb hn
    have HN := num_ok rb g zs t0 N w h hb hn
    have hrl := h.rblt
    have hne := h.ne
    rw [HE.out]
    generalize hQ : spP N.toNat t0 = Q
    have HQ : Hid (spP N.toNat t0 = Q) := hQ
    clear hQ
    have HBT : Hid (Bytey t0) := hb0
    have hl1 : t0.length ≤ 131072 := by omega
    clear h hb hn HE hb0
    go_enter Tryz.func129, Tryz.ntmps129
    go_wp2_with (go_at_call 127; refine HN.mono ?_; rintro e w1 ⟨rfl, hr1, hg1⟩)
    have HR1 : Hid (RdS w1 rb g t0) := hr1
    have HG1 : Hid (w.grownBy w1 (some rb)) := hg1
    clear hr1 hg1 HN
    go_loopw [3, 7] (fun lv i wr => ∃ (k : Nat) (l : List (Int × Int)) (t : List Int), (k : Int) ≤ N ∧ i = .int .i64 k ∧ spP k t0 = some (l, t) ∧ C.SOwn wr w.heap.size lv l ∧ RdS wr rb g t ∧ w.grownBy wr (some rb)) (fun _ i _ => (N - intOf i).toNat)
    case atStart => exact ⟨0, [], t0, by omega, rfl, rfl, C.SOwn.nil _ _, HR1.out, HG1.out⟩
    case round =>
      obtain ⟨k, l, t, hk, rfl, hsp, hso, hrd, hgr⟩ := hrel
      have HSP : Hid (spP k t0 = some (l, t)) := hsp
      have HSO : Hid (C.SOwn wr w.heap.size u3 l) := hso
      have HRD : Hid (RdS wr rb g t) := hrd
      have HGR : Hid (w.grownBy wr (some rb)) := hgr
      obtain ⟨hll, hbt, hlt⟩ := spP_by HBT.out hsp
      have HBt : Hid (Bytey t) := hbt
      have hsw := hgr.size
      clear hsp hso hrd hgr hbt HR1 HG1
      by_cases hkN : (k : Int) < N
      · cases hn1 : numP t with
        | none =>
          have HNO : Hid (Q = none) := by
            unfold Hid; rw [← HQ.out]
            have h1 : spP (k + 1) t0 = none := by simp only [spP, HSP.out, hn1]
            have h2 := spP_no h1 (N.toNat - (k + 1))
            rw [show k + 1 + (N.toNat - (k + 1)) = N.toNat by omega] at h2
            exact h2
          have HN1 := num_no rb g t wr HRD.out HBt.out hn1
          rw [HNO.out]
          clear hn1
          go_wp2_with (go_at_call 127; refine HN1.mono ?_; rintro e w2 ⟨rfl, rfl⟩)
          exact ⟨rfl, rfl, HGR.out⟩
        | some p1 =>
          obtain ⟨a, t1⟩ := p1
          have HN1 := num_ok rb g t t1 a wr HRD.out HBt.out hn1
          obtain ⟨hb1, _⟩ := numP_by HBt.out hn1
          obtain ⟨ha0, ha1⟩ := numP_bd HBt.out hn1
          cases hn2 : numP t1 with
          | none =>
            have HNO : Hid (Q = none) := by
              unfold Hid; rw [← HQ.out]
              have h1 : spP (k + 1) t0 = none := by simp only [spP, HSP.out, hn1, hn2]
              have h2 := spP_no h1 (N.toNat - (k + 1))
              rw [show k + 1 + (N.toNat - (k + 1)) = N.toNat by omega] at h2
              exact h2
            rw [HNO.out]
            go_upto_region 5 with (go_at_call 127; refine HN1.mono ?_; rintro e w2 ⟨rfl, hr2, hg2⟩)
            have HN2 := num_no rb g t1 w2 hr2 hb1 hn2
            have HG2 : Hid (w.grownBy w2 (some rb)) := grown_trans HGR.out hg2
            clear hn1 hn2 hr2 hg2 HN1
            go_wp2_with (go_at_call 127; refine HN2.mono ?_; rintro e w3 ⟨rfl, rfl⟩)
            exact ⟨rfl, rfl, HG2.out⟩
          | some p2 =>
            obtain ⟨b, t2⟩ := p2
            obtain ⟨hb00, hb01⟩ := numP_bd hb1 hn2
            have HSP2 : Hid (spP (k + 1) t0 = some (l ++ [(a, a + b)], t2)) := by unfold Hid; simp only [spP, HSP.out, hn1, hn2]
            go_upto_region 5 with (go_at_call 127; refine HN1.mono ?_; rintro e w2 ⟨rfl, hr2, hg2⟩)
            have HN2 := num_ok rb g t1 t2 b w2 hr2 hb1 hn2
            have HG2 : Hid (w.grownBy w2 (some rb)) := grown_trans HGR.out hg2
            have HS2 : Hid (C.SOwn w2 w.heap.size u3 l) := own_keep6 HSO.out hg2 (by intro j hj; have := (HSO.out.lt j hj).1; simp; omega)
            have hwr : IntKind.i64.wrap (a + b) = a + b := by rw [IntKind.wrap_i64]; omega
            clear hn1 hn2 hr2 hg2 HN1 HSO HGR
            go_wp2_with (first
              | (go_at_call 127; refine HN2.mono ?_; rintro e w3 ⟨rfl, hr3, hg3⟩; have HR3 : Hid (RdS w3 rb g t2) := hr3; have HG3 : Hid (w.grownBy w3 (some rb)) := grown_trans HG2.out hg3; have HS3 : Hid (C.SOwn w3 w.heap.size u3 l) := own_keep6 HS2.out hg3 (by intro j hj; have := (HS2.out.lt j hj).1; simp; omega); have hs3 := HG3.out.size; clear hr3 hg3)
              | (at_builtin; refine wpList_append_own_at _ rfl _ _ 79 rfl w.heap.size 128 i0 (.agg #[.int .i64 0, .int .i64 0]) 2 16 Tryz.underlying79 hi hz0 hz1 hz2 rfl (by decide) _ _ _ rfl (own_below6 HS3.out ((Below.refl _ _).alloc (Nat.le_refl _) _)) ⟨w3.heap.size, 0, none⟩ 1 1 [.int .i64 a, .int .i64 (a + b)] rfl rfl ?c1 ?c2 ?c3 ?c4 ?c5 ?_))
            case c1 => exact C.cell_two_at _ _ _ _ _ (by simp)
            case c2 => intro x hx; simp at hx; rcases hx with rfl | rfl <;> rfl
            case c3 => unfold maxLen; omega
            case c4 => omega
            case c5 => simp; omega
            intro v5 w5 hown5 hgrow5 _ hst5
            have HOA := own_below6 HS3.out ((Below.refl _ _).alloc (Nat.le_refl _) (.cells #[.int .i64 a, .int .i64 (a + b)] 128))
            have HS5 : Hid (C.SOwn w5 w.heap.size v5 (l ++ [(a, a + b)])) := by
              unfold Hid C.SOwn
              rw [List.length_append, List.flatMap_append, hll]
              exact hown5
            have HG5 : Hid (w.grownBy w5 (some rb)) := grown_app HG3.out HS3.out hgrow5
            have HR5 : Hid (RdS w5 rb g t2) := HR3.out.app HS3.out hgrow5 hrl hgl
            clear hown5 hgrow5 hst5 HOA HS3 HG3 HR3 HN2 HS2 HG2
            go_wp2
            go_roundw
            case rel => exact ⟨k + 1, l ++ [(a, a + b)], t2, by omega, by go_num, HSP2.out, HS5.out, HR5.out, HG5.out⟩
            case measure => simp [intOf]; omega
      · have hkn : N.toNat = k := by omega
        have HF : Hid (Q = some (l, t)) := by unfold Hid; rw [← HQ.out, hkn]; exact HSP.out
        have hkN' : ¬ (k : Int) < N := hkN
        go_wp2
        go_ret
        show SpsPost Q w rb g _ _
        rw [HF.out]
        exact ⟨⟨_, rfl, HSO.out, HRD.out⟩, HGR.out⟩
end Go.Proofs.YtllhbhogfffedaaGreatDoor

namespace Go.Proofs.YtllhbhogfffedaaGreatDoor
open Go.RowKit
set_option linter.unusedVariables false
set_option linter.unusedSimpArgs false

/-- A record of these numbers, without lists. -/
def mkR (k : Int) (l : List Int) : Rc := ⟨k, l.getD 0 0, l.getD 1 0, l.getD 2 0, l.getD 3 0, l.getD 4 0, l.getD 5 0, l.getD 6 0, l.getD 7 0, [], []⟩
set_option maxRecDepth 100000 in
set_option maxHeartbeats 2000000 in
theorem numrec_any (k : Int) (n0 n1 n2 n3 n4 n5 n6 n7 : Int) (w : World) :
    Calls Tryz.prog 128 #[.agg #[.int .i64 n0, .int .i64 n1, .int .i64 n2, .int .i64 n3, .int .i64 n4, .int .i64 n5, .int .i64 n6, .int .i64 n7], .int .i64 k] w fun e w' => e = .returned (.agg (rcC ⟨k, n0, n1, n2, n3, n4, n5, n6, n7, [], []⟩ (.slice none 0 0) (.slice none 0 0))) ∧ Below w.heap.size w w' := by
  go_enter Tryz.func128, Tryz.ntmps128
  go_wp2
  refine bodyPost_ret (v := .agg (rcC ⟨k, n0, n1, n2, n3, n4, n5, n6, n7, [], []⟩ (.slice none 0 0) (.slice none 0 0))) (by simp [results, Tryz.results128, go_sem, rcC]) rfl ?_
  exact ⟨rfl, ((Below.refl _ _).alloc (Nat.le_refl _) _).alloc (by simp) _⟩

set_option maxRecDepth 100000 in
set_option maxHeartbeats 2000000 in
theorem clone_any (g off k c : Nat) (zs : List Int) (w : World) (hl : zs.length = k) (hk : k ≤ 131072) (hc : ∀ i, i < k → w.cell? ⟨g, off + i, none⟩ = some (.int .u8 (zs.getD i 0))) :
    Calls Tryz.prog 130 #[.slice (some ⟨g, off, none⟩) k c] w fun e w' => ∃ v, e = .returned v ∧ w'.ownsRow w.heap.size 5 1 v k (zs.map (Value.int .u8)) ∧ Below w.heap.size w w' := by
  obtain ⟨i0, hi, hz0, hz1, hz2⟩ := info_parts Tryz.info_u8
  have HL : Hid (∀ W, Below w.heap.size w W → Lies .u8 W (some ⟨g, off, none⟩) zs) := fun W hW => (show Lies .u8 w (some ⟨g, off, none⟩) zs from .inr ⟨g, off, rfl, by rw [hl]; exact hc⟩).below hW
  clear hc
  have hsn : ∀ W : World, (binOp BinOp.eql 35 (Value.slice (some ⟨g, off, none⟩) k c) (Value.slice none 0 0)).run Tryz.prog W = .ok (.bool false) W := fun W => rfl
  go_enter Tryz.func130, Tryz.ntmps130
  go_wp2_with (at_builtin; refine append_any _ rfl _ _ 35 rfl w.heap.size 5 i0 (.int .u8 0) 1 Tryz.underlying35 hi hz0 hz1 hz2 rfl _ 0 [] rfl (World.ownsRow_lit w #[] 0 (Nat.le_refl _) (by unfold maxLen; omega) rfl) .u8 _ _ _ zs rfl (by intro h; cases h) hl (HL.out _ ((Below.refl _ _).alloc (Nat.le_refl _) _)) (by unfold maxLen; omega) (by omega) (by simp) ?_; intro v1 w1 ho1 hg1)
  go_ret
  refine ⟨_, rfl, ?_, own_grown ((Below.refl _ _).alloc (Nat.le_refl _) _) hg1 (World.ownsRow_lit (e := 5) (size := 1) w #[] 0 (Nat.le_refl _) (by unfold maxLen; omega) rfl) (by simp)⟩
  have := ho1
  rw [Nat.zero_add, List.nil_append] at this
  exact this

/-- The numbers of a kind are read. -/
def nmP (f : Int) : Nat → List Int → Option (List Int × List Int)
  | 0, zs => some ([], zs)
  | k + 1, zs => match nmP f k zs with
    | none => none
    | some (l, t) => if hasB f k then (match numP t with
      | none => none
      | some (n, t1) => some (l ++ [n], t1)) else some (l ++ [0], t)
theorem nmP_by {f : Int} : ∀ {k : Nat} {zs t : List Int} {l : List Int}, Bytey zs → nmP f k zs = some (l, t) → l.length = k ∧ Bytey t ∧ t.length ≤ zs.length
  | 0, zs, t, l, hb, h => by
    simp only [nmP, Option.some.injEq, Prod.mk.injEq] at h
    obtain ⟨rfl, rfl⟩ := h
    exact ⟨rfl, hb, Nat.le_refl _⟩
  | k + 1, zs, t, l, hb, h => by
    simp only [nmP] at h
    split at h
    · cases h
    · rename_i l' t' h1
      obtain ⟨q1, q2, q3⟩ := nmP_by hb h1
      split at h
      · split at h
        · cases h
        · rename_i n t1 h2
          simp only [Option.some.injEq, Prod.mk.injEq] at h
          obtain ⟨rfl, rfl⟩ := h
          obtain ⟨q4, q5⟩ := numP_by q2 h2
          exact ⟨by simp [q1], q4, by omega⟩
      · simp only [Option.some.injEq, Prod.mk.injEq] at h
        obtain ⟨rfl, rfl⟩ := h
        exact ⟨by simp [q1], q2, q3⟩
theorem nmP_no {f : Int} {k : Nat} {zs : List Int} (h : nmP f k zs = none) : ∀ j, nmP f (k + j) zs = none
  | 0 => h
  | j + 1 => by
    have := nmP_no h j
    show (match nmP f (k + j) zs with | none => none | some (l, t) => _) = none
    rw [this]
/-- A record is read. -/
def recP : List Int → Option (Rc × List Int)
  | [] => none
  | k :: t => match nmP (kf k) 8 t with
    | none => none
    | some (l, t1) =>
      if hasB (kf k) 8 then (match spsP t1 with
        | none => none
        | some (s, t2) => some ({ mkR k l with spans := s }, t2))
      else if hasB (kf k) 9 then (match numP t1 with
        | none => none
        | some (n, t2) => if n ≤ t2.length then some ({ mkR k l with data := t2.take n.toNat }, t2.drop n.toNat) else none)
      else some (mkR k l, t1)

theorem grow_new {w W : World} {rb g' i : Nat} (h : w.grownBy W (some rb)) (hg : w.heap.size ≤ g') (v : Value) : w.grownBy (W.setCell ⟨g', i, none⟩ v) (some rb) := by
  have h1 := grown_set W g' i v
  refine ⟨h1.os.trans h.os, h1.tape.trans h.tape, h1.output.trans h.output, Nat.le_trans h.size h1.size, fun k hk hne => ?_⟩
  have := h.size
  exact (h1.block k (by omega) (by simp; omega)).trans (h.block k hk hne)
theorem grow_below {w W W' : World} {rb B : Nat} (h : w.grownBy W (some rb)) (hb : Below B W W') (hB : w.heap.size ≤ B) : w.grownBy W' (some rb) :=
  ⟨hb.os.trans h.os, hb.tape.trans h.tape, hb.output.trans h.output, Nat.le_trans h.size hb.size, fun k hk hne => (hb.block k (by omega)).trans (h.block k hk hne)⟩
theorem Tab6.grown {w w' : World} {rb : Nat} (h : Tab6 w) (hg : w.grownBy w' (some rb)) (hr : 4 < rb) : Tab6 w' := fun i hi => by
  have h1 := h i hi
  exact hg.cell h1 (by simp; omega)
theorem RdS.below {w w' : World} {rb g : Nat} {zs : List Int} (h : RdS w rb g zs) (hb : Below w.heap.size w w') : RdS w' rb g zs :=
  h.keep (row := none) ⟨hb.os, hb.tape, hb.output, hb.size, fun k hk _ => hb.block k hk⟩ (by simp) (by simp)

/-- What 'record' answers. -/
def RecPost (q : Option (Rc × List Int)) (w : World) (rb g : Nat) (e : Ending) (w' : World) : Prop :=
  (match q with
    | some (r, t) => ∃ sv dv, e = .returned (.agg (rcC r sv dv)) ∧ C.SOwn w' w.heap.size sv r.spans ∧ w'.ownsRow w.heap.size 5 1 dv r.data.length (r.data.map (Value.int .u8)) ∧ (∀ j, sv.ownBlock = some j → dv.ownBlock ≠ some j) ∧ RdS w' rb g t
    | none => e = .panicked pcV) ∧ w.grownBy w' (some rb)
end Go.Proofs.YtllhbhogfffedaaGreatDoor
