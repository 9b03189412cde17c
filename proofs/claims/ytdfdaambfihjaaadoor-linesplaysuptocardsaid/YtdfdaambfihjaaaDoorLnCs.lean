import Derived.Test.YtdfdaambfihjaaaDoorLnTk
import Derived.Maps.RangeRun
namespace Go.Proofs.YtdfdaambfihjaaaDoor.L
open Go.RowKit
set_option linter.unusedVariables false
set_option linter.unusedSimpArgs false

/-! ## Copies of segments -/
/-- What holds in every world in which the blocks of Z are as they are. -/
def Zst (Z : Nat → Prop) (w : World) (y : Sv) : Prop := ∀ W, (∀ g, Z g → W.heap[g]? = w.heap[g]?) → SAt W y
def EsB (l : List Go.Proofs.YtdfdaambfihjaaaDoor.Ex) : Prop := l.length ≤ 15 ∧ ∀ x ∈ l, x.data.length ≤ 70000 ∧ 0 ≤ x.tag ∧ x.tag ≤ 255
def SgB (s : Sg) : Prop := EsB s.head ∧ EsB s.tail
theorem esB_xsB {xs : List Xr} (h : EsB (xs.map Xr.ex)) : XsB xs := ⟨by simpa using h.1, fun x hx => h.2 x.ex (List.mem_map.mpr ⟨x, hx, rfl⟩)⟩
theorem xsB_esB {xs : List Xr} (h : XsB xs) : EsB (xs.map Xr.ex) := ⟨by simpa using h.1, fun e he => by
  obtain ⟨x, hx, rfl⟩ := List.mem_map.mp he
  exact h.2 x hx⟩
structure CpS (w wr : World) (l : List Sv) (i : Nat) (ov : Value) (O : List Sv) (Z : Nat → Prop) : Prop where
  bl : Below w.heap.size w wr
  ow : wr.ownsRow w.heap.size 37 14 ov O.length (seg O)
  ss : O.map Sv.s = (l.take i).map Sv.s
  len : O.length = i
  zn : ∀ g, Z g → w.heap.size ≤ g ∧ g < wr.heap.size ∧ ov.ownBlock ≠ some g
  zs : ∀ y ∈ O, Zst Z wr y
  sl : ∀ y ∈ O, y.Sl

set_option maxRecDepth 100000 in
set_option maxHeartbeats 8000000 in
theorem copies_any (w : World) (v : Value) (l : List Sv) (h : Rw w v l) (ha : ∀ y ∈ l, SAt w y ∧ SgB y.s) (n : Nat) (hn : l.length = n) (hnb : n ≤ 68719476735) :
    Calls Tryd.prog 11 #[v] w fun e w' => ∃ ov O Z, e = .returned ov ∧ CpS w w' l n ov O Z := by
  obtain ⟨iS, hiS, hS0, hS1, hS2⟩ := info_parts seg_info
  obtain ⟨va, vc, hv, hcs⟩ := h
  rw [hn] at hv
  subst hv
  have HL : Hid (l.length = n ∧ (∀ y ∈ l, SAt w y ∧ SgB y.s) ∧ (l = [] ∨ ∃ g off, va = some ⟨g, off, none⟩ ∧ Sd w g off l)) := ⟨hn, ha, hcs⟩
  have H0 : Hid (CpS w w l 0 (.slice none 0 0) [] (fun _ => False)) := ⟨Below.refl _ _, World.ownsRow_nil _ _ _ _, by simp, rfl, fun g hg => hg.elim, fun y hy => (by cases hy), fun y hy => (by cases hy)⟩
  clear hn ha hcs
  go_enter Tryd.func11, Tryd.ntmps11
  go_wp2_with fail
  go_loopw [3, 4] (fun s3 s4 wr => ∃ (i : Nat) (ov : Value), i ≤ n ∧ s4 = .int .i64 (i : Nat) ∧ ov = s3 ∧ Hid (∃ O Z, CpS w wr l i ov O Z)) (fun _ s4 _ => n - (intOf s4).toNat)
  case atStart => exact ⟨0, _, by omega, rfl, rfl, [], _, H0.out⟩
  case round =>
    obtain ⟨i, ov, hi, rfl, hov, O, Z, hO⟩ := hrel
    subst hov
    clear H0
    have HO : Hid (CpS w wr l i ov O Z) := hO
    obtain ⟨oa, oc, hov⟩ := own_sl hO.ow
    rw [hO.len] at hov
    subst hov
    by_cases hlt : i < n
    · have hlt' : (i : Int) < (n : Int) := by omega
      have h0i : 0 ≤ (i : Int) := by omega
      have hwi : IntKind.i64.wrap ((i : Int) + 1) = (i : Int) + 1 := by rw [IntKind.wrap_i64]; omega
      obtain ⟨y, hy⟩ := get_one l i (by rw [HL.out.1]; exact hlt)
      have hym := List.mem_of_getElem? hy
      obtain ⟨g, off, hva, hsd⟩ : ∃ g off, va = some ⟨g, off, none⟩ ∧ Sd w g off l := by
        rcases HL.out.2.2 with e | e
        · rw [e] at hy; simp at hy
        · exact e
      subst hva
      obtain ⟨⟨hx, tx, hs⟩, hB⟩ := HL.out.2.1 y hym
      have hsl := SAt.sl (y := y) ⟨hx, tx, hs⟩
      have hcl : ∀ j u, y.L[j]? = some u → wr.cell? ⟨g, off + i * 14 + j, none⟩ = some u := fun j u hj => cell_below (hsd i y hy j u hj) hO.bl
      have HY : Hid (l[i]? = some y) := hy
      have hB1 : XsB hx := esB_xsB (by have := hB.1; rw [hs.headEq] at this; exact this)
      have hB2 : XsB tx := esB_xsB (by have := hB.2; rw [hs.tailEq] at this; exact this)
      have hco := rcopy_any y.s y.hv y.tv y.dv y.cv hx tx wr (hs.below hO.bl) hB1 hB2
      obtain ⟨s, hv, tv, dv, cv⟩ := y
      obtain ⟨⟨a1, n1, k1, rfl⟩, ⟨a2, n2, k2, rfl⟩, ⟨a3, n3, k3, rfl⟩, a4, n4, k4, rfl⟩ := hsl
      have x0 := hcl 0 _ rfl
      rw [Nat.add_zero] at x0
      have x1 := hcl 1 _ rfl
      have x2 := hcl 2 _ rfl
      have x3 := hcl 3 _ rfl
      have x4 := hcl 4 _ rfl
      have x5 := hcl 5 _ rfl
      have x6 := hcl 6 _ rfl
      have x7 := hcl 7 _ rfl
      have x8 := hcl 8 _ rfl
      have x9 := hcl 9 _ rfl
      have x10 := hcl 10 _ rfl
      have x11 := hcl 11 _ rfl
      have x12 := hcl 12 _ rfl
      have x13 := hcl 13 _ rfl
      clear hO hym hsd hs hB hcl hy hB1 hB2
      go_wp2_with fail
      refine hco.mono ?_
      rintro e W3 ⟨y, hys, rfl, hyl, hb3, hst3⟩
      have H3 : Hid (y.s = s ∧ y.Sl ∧ Below wr.heap.size wr W3 ∧ Stb (fun W => SAt W y) wr.heap.size W3) := ⟨hys, hyl, hb3, hst3⟩
      have HOne : Hid (∀ u ∈ y.L, u.oneCell' = true) := Sv.Sl.one hyl
      have HRo : Hid (W3.ownsRow w.heap.size 37 14 (.slice oa i oc) i (seg O)) := by
        have h1 := HO.out.ow
        rw [HO.out.len] at h1
        exact own_blk h1 (fun g2 hg2 => hb3.block g2 (h1.lt g2 hg2).2)
      have hWs : w.heap.size ≤ W3.heap.size := Nat.le_trans HO.out.bl.size hb3.size
      clear hco hys hb3 hst3 x0 x1 x2 x3 x4 x5 x6 x7 x8 x9 x10 x11 x12 x13
      obtain ⟨sy, hvy, tvy, dvy, cvy⟩ := y
      obtain ⟨⟨d1, m1, j1, rfl⟩, ⟨d2, m2, j2, rfl⟩, ⟨d3, m3, j3, rfl⟩, d4, m4, j4, rfl⟩ := hyl
      go_wp2_with (at_builtin; refine wpList_append_own_at _ rfl _ _ 30 rfl w.heap.size 37 iS _ 14 _ Tryd.underlying30 hiS hS0 hS1 hS2 rfl (by decide) (.slice oa i oc) i (seg O) (by first | rfl | simp [Act.eval]) (World.ownsRow.alloc HRo.out _) ⟨W3.heap.size, 0, none⟩ 1 1 (⟨sy, .slice d1 m1 j1, .slice d2 m2 j2, .slice d3 m3 j3, .slice d4 m4 j4⟩ : Sv).L (by first | rfl | simp [Act.eval]) rfl (wrow_new W3 (⟨sy, .slice d1 m1 j1, .slice d2 m2 j2, .slice d3 m3 j3, .slice d4 m4 j4⟩ : Sv).L 37) HOne.out (by unfold maxLen; omega) (by omega) (by simp; omega) ?_)
      intro v6 w6 hown6 hgrow6 hx6 hat6
      have HE : Hid (∃ O Z, CpS w w6 l (i + 1) v6 O Z) := by
        have hg := grown_al hgrow6
        obtain ⟨e1, e2, e3, e4⟩ := H3.out
        have hO := HO.out
        have hz : ∀ g, Z g → W3.heap[g]? = wr.heap[g]? := fun g hg => e3.block g (hO.zn g hg).2.1
        have hov : ∀ g, v6.ownBlock = some g → (Value.slice oa i oc).ownBlock = some g ∨ W3.heap.size ≤ g := fun g hg => by
          rcases hat6 with e | e
          · exact .inl (by rw [← e]; exact hg)
          · rw [hg] at e; simp at e; exact .inr (by omega)
        have hkeep : ∀ g, (Z g ∨ (wr.heap.size ≤ g ∧ g < W3.heap.size)) → w6.heap[g]? = W3.heap[g]? := fun g hg2 => by
          refine grown_blk hg ?_ ?_
          · rcases hg2 with e | e
            · have := (hO.zn g e).2.1; have := e3.size; omega
            · exact e.2
          · intro e
            rcases hg2 with e' | e'
            · exact (hO.zn g e').2.2 e
            · have h1 := hO.ow
              rw [hO.len] at h1
              have := (h1.lt g e).2
              omega
        refine ⟨O ++ [⟨sy, .slice d1 m1 j1, .slice d2 m2 j2, .slice d3 m3 j3, .slice d4 m4 j4⟩], fun g => Z g ∨ (wr.heap.size ≤ g ∧ g < W3.heap.size), ?_, ?_, ?_, ?_, fun g hg2 => ?_, fun y hy => ?_, fun y hy => ?_⟩
        · have hb := hO.bl.trans (e3.mono hO.bl.size)
          exact ⟨hg.os.trans hb.os, hg.tape.trans hb.tape, hg.output.trans hb.output, Nat.le_trans hb.size hg.size, fun k hk => (grown_blk hg (by omega) (fun e2 => by have := (HRo.out.lt k e2).1; omega)).trans (hb.block k hk)⟩
        · rw [List.length_append, seg_app, hO.len]
          have : seg [(⟨sy, .slice d1 m1 j1, .slice d2 m2 j2, .slice d3 m3 j3, .slice d4 m4 j4⟩ : Sv)] = (⟨sy, .slice d1 m1 j1, .slice d2 m2 j2, .slice d3 m3 j3, .slice d4 m4 j4⟩ : Sv).L := by simp [seg]
          rw [this]
          exact hown6
        · rw [List.map_append, hO.ss, List.take_add_one, HY.out, List.map_append]
          simp only [List.map_cons, List.map_nil, Option.toList_some]
          rw [e1]
        · rw [List.length_append, hO.len]; rfl
        · have hsz := hg.size
          have := e3.size
          have := hO.bl.size
          rcases hg2 with e | e
          · have hz1 := hO.zn g e
            refine ⟨hz1.1, by omega, fun e' => ?_⟩
            rcases hov g e' with e2 | e2
            · exact hz1.2.2 e2
            · omega
          · refine ⟨by omega, by omega, fun e' => ?_⟩
            rcases hov g e' with e2 | e2
            · have h1 := hO.ow
              rw [hO.len] at h1
              have := (h1.lt g e2).2
              omega
            · omega
        · rcases List.mem_append.mp hy with hy | hy
          · exact fun W hW => hO.zs y hy W (fun g hg2 => (hW g (.inl hg2)).trans ((hkeep g (.inl hg2)).trans (hz g hg2)))
          · simp at hy
            subst hy
            exact fun W hW => e4 W (fun g h0 h1 => (hW g (.inr ⟨h0, h1⟩)).trans (hkeep g (.inr ⟨h0, h1⟩)))
        · rcases List.mem_append.mp hy with hy | hy
          · exact hO.sl y hy
          · simp at hy
            subst hy
            exact e2
      clear hown6 hgrow6 hx6 hat6
      go_wp2
      go_roundw
      case rel => exact ⟨i + 1, _, by omega, by go_num, rfl, HE⟩
      case measure => simp [intOf]; omega
    · have hlt' : ¬ (i : Int) < (n : Int) := by omega
      obtain rfl : i = n := by omega
      clear hO
      go_wp2
      go_ret
      first | exact ⟨_, O, Z, rfl, HO.out⟩ | exact ⟨_, rfl, O, Z, HO.out⟩

end Go.Proofs.YtdfdaambfihjaaaDoor.L

namespace Go.Proofs.YtdfdaambfihjaaaDoor.L
open Go.RowKit
set_option linter.unusedVariables false
set_option linter.unusedSimpArgs false

/-! ## The map of lines, of any peers -/
structure En where
  k : Int
  x : Nat
  b : Nat
def me (e : En) : MapEntry := ⟨.int .i64 e.k, .pointer (some ⟨e.x, 0, none⟩), e.b⟩
structure Mp (w : World) (m clock : Nat) (E : List En) : Prop where
  blk : w.heap[m]? = some (.map (E.map me).toArray clock)
  nd : (E.map En.k).Nodup
  bn : (E.map En.b).Nodup
  bl : ∀ e ∈ E, e.b < clock
theorem Mp.keep {w w' : World} {m clock : Nat} {E : List En} (h : Mp w m clock E) (hb : w'.heap[m]? = w.heap[m]?) : Mp w' m clock E := ⟨hb.trans h.blk, h.nd, h.bn, h.bl⟩
theorem fnG0 (k : Int) : ∀ (E : List En) (i : Nat), (∀ e ∈ E, e.k ≠ k) → Instr.findNow (.int .i64) (.int .i64 k) (E.map me) i = some none
  | [], i, h => rfl
  | e :: r, i, h => by
    have h1 : (k == e.k) = false := by have := h e List.mem_cons_self; simp; exact fun h => this h.symm
    show (match Instr.sameNow (.int .i64) (.int .i64 k) (.int .i64 e.k) with
      | some true => some (some (i, (me e).val))
      | some false => Instr.findNow (.int .i64) (.int .i64 k) (r.map me) (i + 1)
      | none => none) = _
    simp only [Instr.sameNow, if_true, h1]
    exact fnG0 k r (i + 1) (fun e he => h e (List.mem_cons_of_mem _ he))
theorem fnG1 (k : Int) (x b : Nat) : ∀ (A B : List En) (i : Nat), (∀ e ∈ A, e.k ≠ k) → Instr.findNow (.int .i64) (.int .i64 k) ((A ++ (⟨k, x, b⟩ : En) :: B).map me) i = some (some (i + A.length, .pointer (some ⟨x, 0, none⟩)))
  | [], B, i, h => by
    show (match Instr.sameNow (.int .i64) (.int .i64 k) (.int .i64 k) with
      | some true => some (some (i, (Value.pointer (some ⟨x, 0, none⟩))))
      | some false => Instr.findNow (.int .i64) (.int .i64 k) (B.map me) (i + 1)
      | none => none) = _
    simp [Instr.sameNow]
  | e :: r, B, i, h => by
    have h1 : (k == e.k) = false := by have := h e List.mem_cons_self; simp; exact fun h => this h.symm
    show (match Instr.sameNow (.int .i64) (.int .i64 k) (.int .i64 e.k) with
      | some true => some (some (i, (me e).val))
      | some false => Instr.findNow (.int .i64) (.int .i64 k) ((r ++ (⟨k, x, b⟩ : En) :: B).map me) (i + 1)
      | none => none) = _
    simp only [Instr.sameNow, if_true, h1]
    rw [fnG1 k x b r B (i + 1) (fun e he => h e (List.mem_cons_of_mem _ he))]
    simp only [List.length_cons]
    congr 3
    omega
theorem fkG0 (w : World) (k : Int) (E : List En) (h : ∀ e ∈ E, e.k ≠ k) : (Instr.findKey 3 (.int .i64 k) (E.map me)).run Tryd.prog w = .ok none w := by
  simp [Instr.findKey, run_underlying Tryd.underlying3, fnG0 k E 0 h]
theorem fkG1 (w : World) (k : Int) (x b : Nat) (A B : List En) (h : ∀ e ∈ A, e.k ≠ k) : (Instr.findKey 3 (.int .i64 k) ((A ++ (⟨k, x, b⟩ : En) :: B).map me)).run Tryd.prog w = .ok (some (A.length, .pointer (some ⟨x, 0, none⟩))) w := by
  have := fnG1 k x b A B 0 h
  rw [Nat.zero_add] at this
  simp only [Instr.findKey, Sem.run_bind, run_underlying Tryd.underlying3, Result.andThen, this]
  rfl
/-- An entry's place. -/
theorem Mp.split {w : World} {m clock : Nat} {E : List En} (h : Mp w m clock E) {e : En} (he : e ∈ E) : ∃ A B, E = A ++ e :: B ∧ (∀ z ∈ A, z.k ≠ e.k) ∧ (∀ z ∈ B, z.k ≠ e.k) := by
  obtain ⟨A, B, rfl⟩ := List.append_of_mem he
  have hn := h.nd
  rw [List.map_append, List.map_cons, List.nodup_append] at hn
  refine ⟨A, B, rfl, fun z hz e2 => ?_, fun z hz e2 => ?_⟩
  · exact hn.2.2 z.k (List.mem_map.mpr ⟨z, hz, rfl⟩) e.k List.mem_cons_self e2
  · exact (List.nodup_cons.mp hn.2.1).1 (List.mem_map.mpr ⟨z, hz, e2⟩)
theorem lookG0 {w : World} {m clock : Nat} {E : List En} (h : Mp w m clock E) (k : Int) (hk : ∀ e ∈ E, e.k ≠ k) : (Instr.lookup 61 (.map (some m)) (.int .i64 k) true).run Tryd.prog w = .ok (.tuple #[.pointer none, .bool false]) w := by
  have hz : (zeroValue 67).run Tryd.prog w = .ok (.pointer none) w := by first | exact Tryd.zeroValue67 w | exact Tryd.zeroValue67 | simp [zeroValue, typeInfo]
  simp [Instr.lookup, run_underlying Tryd.underlying61, MapKept.run_getObj_map h.blk, ckey, fkG0 w k E hk, hz, Result.andThen]
theorem lookG1 {w : World} {m clock : Nat} {E : List En} (h : Mp w m clock E) (e : En) (he : e ∈ E) : (Instr.lookup 61 (.map (some m)) (.int .i64 e.k) true).run Tryd.prog w = .ok (.tuple #[.pointer (some ⟨e.x, 0, none⟩), .bool true]) w := by
  obtain ⟨A, B, rfl, hA, _⟩ := h.split he
  have h1 := fkG1 w e.k e.x e.b A B hA
  have h2 : (A ++ (⟨e.k, e.x, e.b⟩ : En) :: B) = A ++ e :: B := rfl
  rw [h2] at h1
  simp only [Instr.lookup, Sem.run_bind, run_underlying Tryd.underlying61, MapKept.run_getObj_map h.blk, Result.andThen, ckey, h1, Sem.run_pure, if_true]
  first | rfl | skip
theorem updG0 {w : World} {m clock : Nat} {E : List En} (h : Mp w m clock E) (k : Int) (x : Nat) (hk : ∀ e ∈ E, e.k ≠ k) : (Instr.mapUpdate 61 (.map (some m)) (.int .i64 k) (.pointer (some ⟨x, 0, none⟩))).run Tryd.prog w = .ok () (setO w m (.map ((E ++ [(⟨k, x, clock⟩ : En)]).map me).toArray (clock + 1))) := by
  simp [Instr.mapUpdate, run_underlying Tryd.underlying61, MapKept.run_getObj_map h.blk, MapKept.run_setObj_map _ h.blk, ckey, fkG0 w k E hk, Result.andThen, setO, me]
theorem Mp.push {w : World} {m clock : Nat} {E : List En} (h : Mp w m clock E) (k : Int) (x : Nat) (hk : ∀ e ∈ E, e.k ≠ k) : Mp (setO w m (.map ((E ++ [(⟨k, x, clock⟩ : En)]).map me).toArray (clock + 1))) m (clock + 1) (E ++ [(⟨k, x, clock⟩ : En)]) := by
  refine ⟨setO_same (Array.getElem?_eq_some_iff.1 h.blk).1, ?_, ?_, fun e he => ?_⟩
  · rw [List.map_append]
    refine List.nodup_append.mpr ⟨h.nd, by simp, fun a ha b hb e => ?_⟩
    obtain ⟨z, hz, rfl⟩ := List.mem_map.mp ha
    simp at hb
    exact hk z hz (e.trans hb)
  · rw [List.map_append]
    refine List.nodup_append.mpr ⟨h.bn, by simp, fun a ha b hb e => ?_⟩
    obtain ⟨z, hz, rfl⟩ := List.mem_map.mp ha
    simp at hb
    have := h.bl z hz
    omega
  · rcases List.mem_append.mp he with he | he
    · have := h.bl e he; omega
    · simp at he; subst he; show clock < clock + 1; omega
def noK (k : Int) (E : List En) : List En := E.filter fun e => decide (e.k ≠ k)
theorem mem_noK {k : Int} {E : List En} {e : En} : e ∈ noK k E ↔ e ∈ E ∧ e.k ≠ k := by simp [noK]
theorem noK_self {k : Int} {E : List En} (h : ∀ e ∈ E, e.k ≠ k) : noK k E = E := List.filter_eq_self.mpr (fun e he => by simpa using h e he)
theorem delG {w : World} {m clock : Nat} {E : List En} (h : Mp w m clock E) (k : Int) (ty : TypeId) : (Builtin.delete_ #[61, 3] ty #[.map (some m), .int .i64 k]).run Tryd.prog w = .ok (.tuple #[]) (setO w m (.map ((noK k E).map me).toArray clock)) := by
  by_cases hk : ∀ e ∈ E, e.k ≠ k
  · rw [noK_self hk]
    simp [Builtin.delete_, run_underlying Tryd.underlying61, MapKept.run_getObj_map h.blk, MapKept.run_setObj_map _ h.blk, ckey, fkG0 w k E hk, Result.andThen, setO]
  · have : ∃ e ∈ E, e.k = k := Classical.byContradiction fun hn => hk (fun e he e2 => hn ⟨e, he, e2⟩)
    obtain ⟨e, he, rfl⟩ := this
    obtain ⟨A, B, rfl, hA, hB⟩ := h.split he
    have h1 := fkG1 w e.k e.x e.b A B hA
    have h2 : (A ++ (⟨e.k, e.x, e.b⟩ : En) :: B) = A ++ e :: B := rfl
    have h3 : noK e.k (A ++ e :: B) = A ++ B := by
      have a1 : noK e.k A = A := noK_self hA
      have a2 : noK e.k B = B := noK_self hB
      unfold noK at *
      rw [List.filter_append, List.filter_cons, a1, a2]
      simp
    rw [h3]
    rw [h2] at h1
    have h4 : ((List.map me (A ++ e :: B)).toArray).eraseIdxIfInBounds A.length = ((A ++ B).map me).toArray := by
      rw [List.eraseIdxIfInBounds_toArray]
      refine congrArg List.toArray ?_
      rw [List.map_append, List.map_cons, List.eraseIdx_append_of_length_le (by simp)]
      simp
    simp only [Builtin.delete_, Sem.run_bind, run_underlying Tryd.underlying61, MapKept.run_getObj_map h.blk, Result.andThen, ckey, h1, h4, MapKept.run_setObj_map _ h.blk, Sem.run_pure, List.getElem?_toArray, List.getElem?_cons_zero, List.getElem?_cons_succ]
    first | rfl | simp [setO]
theorem Mp.del {w : World} {m clock : Nat} {E : List En} (h : Mp w m clock E) (k : Int) : Mp (setO w m (.map ((noK k E).map me).toArray clock)) m clock (noK k E) :=
  ⟨setO_same (Array.getElem?_eq_some_iff.1 h.blk).1, List.Nodup.sublist (List.Sublist.map _ List.filter_sublist) h.nd, List.Nodup.sublist (List.Sublist.map _ List.filter_sublist) h.bn, fun e he => h.bl e (mem_noK.mp he).1⟩

/-- The next entry of a range, if one is left; nothing has been laid into the map since. -/
theorem nextG {w : World} {m clock r : Nat} {E : List En} {seen : Array Nat} (h : Mp w m clock E) (hr : w.heap[r]? = some (.mapIter (some m) clock seen clock)) (ty : TypeId) :
    ((∀ e ∈ E, e.b ∈ seen.toList) ∧ (Instr.next (.pointer (some ⟨r, 0, none⟩)) false ty).run Tryd.prog w = .ok (.tuple #[.bool false]) w) ∨
    ∃ e ∈ E, e.b ∉ seen.toList ∧ ∃ w1 : World, (w1 = w ∨ w1 = w.drew) ∧ (Instr.next (.pointer (some ⟨r, 0, none⟩)) false ty).run Tryd.prog w = .ok (.tuple #[.bool true, .int .i64 e.k, .pointer (some ⟨e.x, 0, none⟩)]) (setO w1 r (.mapIter (some m) clock (seen.push e.b) clock)) := by
  have hold : ∀ x ∈ ((E.map me).toArray).toList, x.born < clock := fun x hx => by
    simp at hx
    obtain ⟨e, he, rfl⟩ := hx
    exact h.bl e he
  rcases run_next_at (P := Tryd.prog) w ty r m clock clock seen _ clock hr h.blk hold (Nat.le_refl _) with ⟨h1, h2⟩ | ⟨e', he, w1, hw, h2⟩
  · refine .inl ⟨fun e he => ?_, h2⟩
    unfold leftOf at h1
    have h3 := Array.eq_empty_of_size_eq_zero h1
    rw [Array.filter_eq_empty_iff] at h3
    have h4 := h3 (me e) (by simp; exact ⟨e, he, rfl⟩)
    simpa [me] using h4
  · unfold leftOf at he
    simp at he
    obtain ⟨⟨e, he1, rfl⟩, he2⟩ := he
    exact .inr ⟨e, he1, by simpa [me] using he2, w1, hw, h2⟩
theorem born_of {E : List En} (h : (E.map En.b).Nodup) : (((E.map me).toArray).toList.map (fun x : MapEntry => x.born)).Nodup := by
  have h1 : ((fun x : MapEntry => x.born) ∘ me) = En.b := rfl
  rw [List.map_map, h1]
  exact h
theorem entryG {w : World} {m clock r : Nat} {E : List En} {seen : Array Nat} (h : Mp w m clock E) {e : En} (he : e ∈ E) (hr : w.heap[r]? = some (.mapIter (some m) clock (seen.push e.b) clock)) :
    (Instr.entry (.pointer (some ⟨r, 0, none⟩))).run Tryd.prog w = .ok (.tuple #[.int .i64 e.k, .pointer (some ⟨e.x, 0, none⟩)]) w :=
  run_entry_at (P := Tryd.prog) w r m clock seen _ clock (me e) hr h.blk (by simp; exact ⟨e, he, rfl⟩) ((born_of h.bn))

end Go.Proofs.YtdfdaambfihjaaaDoor.L

namespace Go.Proofs.YtdfdaambfihjaaaDoor.L
open Go.RowKit
set_option linter.unusedVariables false
set_option linter.unusedSimpArgs false

/-! ## Lines, of any peers -/
abbrev Pm := Int → Lo
def setS (S : Pm) (K : Int) (o : Lo) : Pm := fun k => if k = K then o else S k
theorem setS_same (S : Pm) (K : Int) (o : Lo) : setS S K o K = o := by simp [setS]
theorem setS_other (S : Pm) {K k : Int} (o : Lo) (h : k ≠ K) : setS S K o k = S k := by simp [setS, h]
theorem setS_twice' (S : Pm) (K : Int) (a b : Lo) : setS (setS S K a) K b = setS S K b := by
  funext k
  unfold setS
  split <;> rfl
def FL (m : Nat) (S : Pm) (g : Nat) : Prop := g = m ∨ ∃ K x q, S K = some (x, q) ∧ Fq x q g
structure Lg (w : World) (p m : Nat) (lim : Int) (S : Pm) (M c : Nat) (E : List En) : Prop where
  box : w.heap[p]? = some (.cells #[.int .i64 lim, .map (some m)] 63 (0, 0))
  nx : ∀ g, FL m S g → g ≠ p
  mp : Mp w m c E
  en : ∀ e ∈ E, ∃ q, S e.k = some (e.x, q)
  ne : ∀ K x q, S K = some (x, q) → ∃ b, (⟨K, x, b⟩ : En) ∈ E
  ln : ∀ K x q, S K = some (x, q) → Ln w x q M
  ap : ∀ K K' x q x' q' g, K ≠ K' → S K = some (x, q) → S K' = some (x', q') → Fq x q g → ¬ Fq x' q' g
theorem Lg.mlt {w : World} {p m : Nat} {lim : Int} {S : Pm} {M c : Nat} {E : List En} (h : Lg w p m lim S M c E) : m < w.heap.size := (Array.getElem?_eq_some_iff.1 h.mp.blk).1
theorem Lg.plt {w : World} {p m : Nat} {lim : Int} {S : Pm} {M c : Nat} {E : List En} (h : Lg w p m lim S M c E) : p < w.heap.size := (Array.getElem?_eq_some_iff.1 h.box).1
theorem Lg.lt {w : World} {p m : Nat} {lim : Int} {S : Pm} {M c : Nat} {E : List En} (h : Lg w p m lim S M c E) {g : Nat} (hg : FL m S g) : g < w.heap.size := by
  rcases hg with rfl | ⟨K, x, q, hk, hg⟩
  · exact h.mlt
  · exact (h.ln K x q hk).lt hg
theorem Lg.keep {T : Nat → Prop} {w w' : World} {p m : Nat} {lim : Int} {S : Pm} {M c : Nat} {E : List En} (h : Lg w p m lim S M c E) (hk : Kl T w w') (hn : ∀ g, FL m S g → ¬ T g) (hp : ¬ T p) : Lg w' p m lim S M c E :=
  ⟨(hk.block p h.plt hp).trans h.box, h.nx, h.mp.keep (hk.block m h.mlt (hn m (.inl rfl))), h.en, h.ne, fun K x q e => (h.ln K x q e).keep hk (fun g hg => hn g (.inr ⟨K, x, q, e, hg⟩)), h.ap⟩
theorem Lg.below {w w' : World} {p m : Nat} {lim : Int} {S : Pm} {M c : Nat} {E : List En} (h : Lg w p m lim S M c E) (hk : Below w.heap.size w w') : Lg w' p m lim S M c E := h.keep (T := fun _ => False) (Kl.of_below hk) (fun _ _ e => e) id
theorem Lg.mono {w : World} {p m : Nat} {lim : Int} {S : Pm} {M M' c : Nat} {E : List En} (h : Lg w p m lim S M c E) (hm : M ≤ M') : Lg w p m lim S M' c E := ⟨h.box, h.nx, h.mp, h.en, h.ne, fun K x q e => (h.ln K x q e).mono hm, h.ap⟩
theorem Lg.no {w : World} {p m : Nat} {lim : Int} {S : Pm} {M c : Nat} {E : List En} (h : Lg w p m lim S M c E) {K : Int} (hk : S K = none) : ∀ e ∈ E, e.k ≠ K := fun e he e2 => by
  obtain ⟨q, hq⟩ := h.en e he
  rw [e2, hk] at hq
  cases hq
theorem Lg.c1 {w : World} {p m : Nat} {lim : Int} {S : Pm} {M c : Nat} {E : List En} (h : Lg w p m lim S M c E) : w.cell? ⟨p, 1, none⟩ = some (.map (some m)) := (cell_of_row _ _ _ _ _ _ h.box).trans rfl
theorem Lg.look {w : World} {p m : Nat} {lim : Int} {S : Pm} {M c : Nat} {E : List En} (h : Lg w p m lim S M c E) {K : Int} {x : Nat} {q : Nat → Qd} (hk : S K = some (x, q)) : (Instr.lookup 61 (.map (some m)) (.int .i64 K) true).run Tryd.prog w = .ok (.tuple #[.pointer (some ⟨x, 0, none⟩), .bool true]) w := by
  obtain ⟨b, hb⟩ := h.ne K x q hk
  have h1 := lookG1 h.mp (⟨K, x, b⟩ : En) hb
  simp only at h1
  exact h1
theorem Lg.nm {w : World} {p m : Nat} {lim : Int} {S : Pm} {M c : Nat} {E : List En} (h : Lg w p m lim S M c E) {K : Int} {x : Nat} {q : Nat → Qd} (hk : S K = some (x, q)) : ∀ g, Fq x q g → g ≠ m := fun g hg e => by
  subst e
  have hl := h.ln K x q hk
  have hc := h.mp.blk
  rcases hg with e | ⟨i, hi, hg⟩
  · rw [e, hl.box] at hc
    cases hc
  · obtain ⟨_, ⟨e1, _⟩ | ⟨g', cap', cur, e1, _, q1, _⟩⟩ := (hl.k i hi).row
    · rw [e1] at hg; cases hg
    · rw [e1] at hg
      simp only [Value.ownBlock, Option.some.injEq] at hg
      subst hg
      rw [hc] at q1
      cases q1
/-- One line alone was touched. -/
theorem Lg.line {T : Nat → Prop} {w w' : World} {p m : Nat} {lim : Int} {S : Pm} {K : Int} {x : Nat} {q q' : Nat → Qd} {M M' c : Nat} {E : List En} (h : Lg w p m lim S M c E) (hK : S K = some (x, q)) (hM : M ≤ M') (hl : Ln w' x q' M') (hk : Kl T w w') (hT : ∀ g, T g → Fq x q g ∨ (¬ FL m S g ∧ g ≠ p)) (hf : ∀ g, Fq x q' g → Fq x q g ∨ w.heap.size ≤ g) : Lg w' p m lim (setS S K (some (x, q'))) M' c E := by
  have hp : ¬ T p := fun e => (hT p e).elim (fun e => h.nx p (.inr ⟨K, x, q, hK, e⟩) rfl) (fun e => e.2 rfl)
  have hm : ¬ T m := fun e => (hT m e).elim (fun e => h.nm hK m e rfl) (fun e => e.1 (.inl rfl))
  have ho : ∀ K' y r, K' ≠ K → S K' = some (y, r) → ∀ g, Fq y r g → ¬ T g := fun K' y r hn hs g hg e => (hT g e).elim (fun e => h.ap K K' x q y r g (Ne.symm hn) hK hs e hg) (fun e => e.1 (.inr ⟨K', y, r, hs, hg⟩))
  have hFL : ∀ g, FL m (setS S K (some (x, q'))) g → FL m S g ∨ w.heap.size ≤ g := fun g hg => by
    rcases hg with e | ⟨K', y, r, hs, hg⟩
    · exact .inl (.inl e)
    · by_cases e : K' = K
      · subst e
        rw [setS_same] at hs
        cases hs
        rcases hf g hg with e | e
        · exact .inl (.inr ⟨_, _, _, hK, e⟩)
        · exact .inr e
      · rw [setS_other S _ e] at hs
        exact .inl (.inr ⟨_, _, _, hs, hg⟩)
  refine ⟨(hk.block p h.plt hp).trans h.box, fun g hg => ?_, h.mp.keep (hk.block m h.mlt hm), fun e he => ?_, fun K' y r hs => ?_, fun K' y r hs => ?_, fun K1 K2 x1 q1 x2 q2 g hn h1 h2 g1 g2 => ?_⟩
  · rcases hFL g hg with e | e
    · exact h.nx g e
    · have := h.plt; omega
  · obtain ⟨r, hr⟩ := h.en e he
    by_cases e2 : e.k = K
    · rw [e2] at hr ⊢
      rw [hK] at hr
      cases hr
      exact ⟨q', setS_same _ _ _⟩
    · exact ⟨r, by rw [setS_other S _ e2]; exact hr⟩
  · by_cases e : K' = K
    · subst e
      rw [setS_same] at hs
      cases hs
      exact h.ne _ _ _ hK
    · rw [setS_other S _ e] at hs
      exact h.ne _ _ _ hs
  · by_cases e : K' = K
    · subst e
      rw [setS_same] at hs
      cases hs
      exact hl
    · rw [setS_other S _ e] at hs
      exact ((h.ln _ _ _ hs).keep hk (ho K' y r e hs)).mono hM
  · by_cases e1 : K1 = K
    · subst e1
      rw [setS_same] at h1
      cases h1
      rw [setS_other S _ (Ne.symm hn)] at h2
      rcases hf g g1 with e | e
      · exact h.ap _ _ _ _ _ _ g hn hK h2 e g2
      · have := (h.ln _ _ _ h2).lt g2; omega
    · rw [setS_other S _ e1] at h1
      by_cases e2 : K2 = K
      · subst e2
        rw [setS_same] at h2
        cases h2
        rcases hf g g2 with e | e
        · exact h.ap _ _ _ _ _ _ g hn h1 hK g1 e
        · have := (h.ln _ _ _ h1).lt g1; omega
      · rw [setS_other S _ e2] at h2
        exact h.ap _ _ _ _ _ _ g hn h1 h2 g1 g2

theorem newG (lim : Int) (w : World) : Calls Tryd.prog 6 #[.int .i64 lim] w fun e w' => e = .returned (.pointer (some ⟨w.heap.size + 1, 0, none⟩)) ∧ Lg w' (w.heap.size + 1) w.heap.size lim (fun _ => none) 0 0 [] ∧ Below w.heap.size w w' := by
  obtain ⟨W, hW⟩ : ∃ W, (w.alloc (.map #[] 0)).alloc (.cells #[.int .i64 lim, .map (some w.heap.size)] 63) = W := ⟨_, rfl⟩
  have HW : Hid ((w.alloc (.map #[] 0)).alloc (.cells #[.int .i64 lim, .map (some w.heap.size)] 63) = W) := hW
  have HR : Hid (Lg W (w.heap.size + 1) w.heap.size lim (fun _ => none) 0 0 [] ∧ Below w.heap.size w W) := by
    rw [← hW]
    refine ⟨⟨?_, fun g hg => ?_, ⟨?_, List.nodup_nil, List.nodup_nil, fun e he => (by cases he)⟩, fun e he => (by cases he), fun K x q h => (by cases h), fun K x q h => (by cases h), fun K K' x q x' q' g hn h => (by cases h)⟩, ((Below.refl _ _).alloc (Nat.le_refl _) _).alloc (by simp) _⟩
    · have := heap_alloc_new' (w.alloc (.map #[] 0)) (.cells #[.int .i64 lim, .map (some w.heap.size)] 63)
      rw [World.size_alloc] at this
      exact this
    · rcases hg with rfl | ⟨K, x, q, h, _⟩
      · omega
      · cases h
    · rw [Below.heap_alloc _ _ _ (by simp)]; exact heap_alloc_new' _ _
  have hmk : (Instr.makeMap 61 none).run Tryd.prog w = .ok (.map (some w.heap.size)) (w.alloc (.map #[] 0)) := by first | exact run_makeMap _ _ | exact run_makeMap | simp [Instr.makeMap, newObj, World.alloc]
  clear hW
  go_enter Tryd.func6, Tryd.ntmps6
  go_wp2
  go_ret
  rw [HW.out]
  exact ⟨rfl, HR.out⟩

set_option maxRecDepth 100000 in
set_option maxHeartbeats 4000000 in
theorem lcountG (w : World) (p m : Nat) (lim K : Int) (S : Pm) (M c : Nat) (E : List En) (h : Lg w p m lim S M c E) (hM : M ≤ 68719476736) :
    Calls Tryd.prog 14 #[.pointer (some ⟨p, 0, none⟩), .int .i64 K] w fun e w' => e = .returned (.int .i64 (cnt (S K) : Nat)) ∧ Below w.heap.size w w' := by
  have c1 := h.c1
  cases hSK : S K with
  | none =>
    have hlk := lookG0 h.mp K (h.no hSK)
    clear h hSK
    go_enter Tryd.func14, Tryd.ntmps14
    go_wp2
    go_ret
    exact ⟨rfl, Below.refl _ _⟩
  | some xq =>
    obtain ⟨x, q⟩ := xq
    have hlk := h.look hSK
    have HQ : Hid (Ln w x q M) := h.ln K x q hSK
    clear h hSK
    go_enter Tryd.func14, Tryd.ntmps14
    go_wp2_with fail
    go_loopw [7, 20] (fun s7 s20 wr => ∃ k, k ≤ 3 ∧ s7 = .int .i64 (cnk (some (x, q)) k : Nat) ∧ s20 = .int .i64 (k : Nat) ∧ Below w.heap.size w wr) (fun _ s20 _ => 3 - (intOf s20).toNat)
    case atStart => exact ⟨0, by omega, rfl, rfl, Below.refl _ _⟩
    case round =>
      obtain ⟨k, hk, rfl, rfl, hb⟩ := hrel
      have HB : Hid (Below w.heap.size w wr) := hb
      by_cases hlt : k < 3
      · have hlt' : (k : Int) < 3 := by omega
        have h0k : 0 ≤ (k : Int) := by omega
        have hco := lcount (HQ.out.keep (S := fun _ => False) (Kl.of_below hb) (fun _ _ e => e)) hlt hM
        have hwk : IntKind.i64.wrap ((k : Int) + 1) = (k : Int) + 1 := by rw [IntKind.wrap_i64]; omega
        have hs : ∀ i, i < 3 → (q i).L.length ≤ 68719476736 := fun i hi => by have := (HQ.out.k i hi).small; omega
        have hsum : cnk (some (x, q)) (k + 1) = cnk (some (x, q)) k + (q k).L.length := by
          rcases three hlt with rfl | rfl | rfl <;> simp [cnk, cnt, Wt]
        have hc3 : cnk (some (x, q)) k + (q k).L.length ≤ 206158430208 := by
          have h1 := hs 0 (by omega)
          have h2 := hs 1 (by omega)
          have h3 := hs 2 (by omega)
          rcases three hlt with rfl | rfl | rfl <;> simp [cnk, Wt] <;> omega
        obtain ⟨A, hA⟩ : ∃ A, cnk (some (x, q)) k = A := ⟨_, rfl⟩
        obtain ⟨L, hL⟩ : ∃ L, (q k).L.length = L := ⟨_, rfl⟩
        rw [hA, hL] at hsum hc3
        rw [hA]
        rw [hL] at hco
        have hwa : IntKind.i64.wrap ((A : Int) + (L : Int)) = ((A + L : Nat) : Int) := by rw [IntKind.wrap_i64]; omega
        have HS : Hid (cnk (some (x, q)) (k + 1) = A + L) := hsum
        clear hsum hs hA hL hb
        go_wp2_with fail
        refine hco.mono ?_
        rintro e U ⟨rfl, hU⟩
        have HU : Hid (Below w.heap.size w U) := HB.out.trans (hU.mono HB.out.size)
        clear hco hU
        go_wp2
        go_roundw
        case rel => exact ⟨k + 1, by omega, by rw [HS.out]; go_num, by go_num, HU.out⟩
        case measure => simp [intOf]; omega
      · obtain rfl : k = 3 := by omega
        have e3 : cnk (some (x, q)) 3 = cnt (some (x, q)) := by simp [cnk]
        rw [e3]
        clear e3 hb
        go_wp2
        go_ret
        exact ⟨rfl, HB.out⟩

theorem answersG (w : World) (p m : Nat) (lim K : Int) (S : Pm) (M c : Nat) (E : List En) (h : Lg w p m lim S M c E) (hM : M ≤ 68719476736) :
    Calls Tryd.prog 40 #[.pointer (some ⟨p, 0, none⟩), .int .i64 K] w fun e w' => e = .returned (.int .i64 ((Wt (S K) 0).length : Nat)) ∧ Below w.heap.size w w' := by
  have c1 := h.c1
  cases hSK : S K with
  | none =>
    have hlk := lookG0 h.mp K (h.no hSK)
    clear h hSK
    go_enter Tryd.func40, Tryd.ntmps40
    go_wp2
    go_ret
    exact ⟨rfl, Below.refl _ _⟩
  | some xq =>
    obtain ⟨x, q⟩ := xq
    have hlk := h.look hSK
    have hco := lcount (h.ln K x q hSK) (i := 0) (by omega) hM
    clear h hSK
    go_enter Tryd.func40, Tryd.ntmps40
    go_wp2_with fail
    refine hco.mono ?_
    rintro e U ⟨rfl, hU⟩
    clear hco
    go_wp2
    go_ret
    exact ⟨rfl, hU⟩

/-- What lineOf leaves. -/
structure LoP (w w' : World) (p m : Nat) (lim K : Int) (S : Pm) (M x : Nat) (q : Nat → Qd) (c' : Nat) (E' : List En) : Prop where
  lg : Lg w' p m lim (setS S K (some (x, q))) M c' E'
  qs : ∀ i, i < 3 → (q i).L = Wt (S K) i
  fo : ∀ g, FL m (setS S K (some (x, q))) g → FL m S g ∨ w.heap.size ≤ g
  kl : Kl (fun g => g = m) w w'
theorem setS_id {S : Pm} {K : Int} {o : Lo} (h : S K = o) : setS S K o = S := by
  funext k
  unfold setS
  split
  · next e => rw [e, h]
  · rfl
theorem lineOfG (w : World) (p m : Nat) (lim K : Int) (S : Pm) (M c : Nat) (E : List En) (h : Lg w p m lim S M c E) :
    Calls Tryd.prog 41 #[.pointer (some ⟨p, 0, none⟩), .int .i64 K] w fun e w' => ∃ x q c' E', e = .returned (.pointer (some ⟨x, 0, none⟩)) ∧ LoP w w' p m lim K S M x q c' E' := by
  have c1 := h.c1
  cases hSK : S K with
  | none =>
    have hno := h.no hSK
    have hlk := lookG0 h.mp K hno
    obtain ⟨W, hW⟩ : ∃ W, w.alloc (.cells #[.slice none 0 0, .int .i64 0, .slice none 0 0, .int .i64 0, .slice none 0 0, .int .i64 0] 72) = W := ⟨_, rfl⟩
    have HW : Hid (w.alloc (.cells #[.slice none 0 0, .int .i64 0, .slice none 0 0, .int .i64 0, .slice none 0 0, .int .i64 0] 72) = W) := hW
    have hml := h.mlt
    have hpl := h.plt
    have bW : Below w.heap.size w W := by rw [← hW]; exact (Below.refl _ _).alloc (Nat.le_refl _) _
    have hmW : Mp W m c E := h.mp.keep (bW.block m hml)
    have hu := updG0 hmW K w.heap.size hno
    have c1W := cell_below c1 bW
    obtain ⟨V, hV⟩ : ∃ V, setO W m (.map ((E ++ [(⟨K, w.heap.size, c⟩ : En)]).map me).toArray (c + 1)) = V := ⟨_, rfl⟩
    rw [hV] at hu
    have HR : Hid (LoP w V p m lim K S M w.heap.size q0 (c + 1) (E ++ [(⟨K, w.heap.size, c⟩ : En)])) := by
      have k1 : Kl (fun g => g = m) w V := by rw [← hV]; exact (Kl.of_below bW).grown (setO_grown _ _ _) (fun k hk => .inl (by simpa using hk.symm))
      have hb0 : V.heap[w.heap.size]? = some (.cells (bx q0) 72 (0, 0)) := by
        rw [← hV, setO_other (by omega), ← hW]
        exact heap_alloc_new' _ _
      have hF0 : ∀ g, Fq w.heap.size q0 g → g = w.heap.size := fun g hg => by
        rcases hg with e | ⟨i, hi, hg⟩
        · exact e
        · cases hg
      have hFL : ∀ g, FL m (setS S K (some (w.heap.size, q0))) g → FL m S g ∨ w.heap.size ≤ g := fun g hg => by
        rcases hg with e | ⟨K', y, r, hs, hg⟩
        · exact .inl (.inl e)
        · by_cases e : K' = K
          · subst e
            rw [setS_same] at hs
            cases hs
            have := hF0 g hg
            exact .inr (by omega)
          · rw [setS_other S _ e] at hs
            exact .inl (.inr ⟨_, _, _, hs, hg⟩)
      refine ⟨⟨(k1.block p hpl (fun e => h.nx m (.inl rfl) e.symm)).trans h.box, fun g hg => ?_, by rw [← hV]; exact hmW.push K _ hno, fun e he => ?_, fun K' y r hs => ?_, fun K' y r hs => ?_, fun K1 K2 x1 q1 x2 q2 g hn h1 h2 g1 g2 => ?_⟩, fun i hi => by rw [hSK]; rfl, hFL, k1⟩
      · rcases hFL g hg with e | e
        · exact h.nx g e
        · omega
      · rcases List.mem_append.mp he with he | he
        · obtain ⟨r, hr⟩ := h.en e he
          exact ⟨r, by rw [setS_other S _ (hno e he)]; exact hr⟩
        · simp at he
          subst he
          exact ⟨q0, setS_same _ _ _⟩
      · by_cases e : K' = K
        · subst e
          rw [setS_same] at hs
          cases hs
          exact ⟨c, List.mem_append.mpr (.inr (by simp))⟩
        · rw [setS_other S _ e] at hs
          obtain ⟨b, hb⟩ := h.ne _ _ _ hs
          exact ⟨b, List.mem_append.mpr (.inl hb)⟩
      · by_cases e : K' = K
        · subst e
          rw [setS_same] at hs
          cases hs
          exact ⟨hb0, fun i hi => ⟨rfl, World.ownsRow_nil _ _ _ _, fun y hy => (by cases hy), by simp [q0]⟩, fun i j g hi hj hij hg => (by cases hg)⟩
        · rw [setS_other S _ e] at hs
          exact (h.ln _ _ _ hs).keep k1 (fun g hg => h.nm hs g hg)
      · by_cases e1 : K1 = K
        · subst e1
          rw [setS_same] at h1
          cases h1
          rw [setS_other S _ (Ne.symm hn)] at h2
          have := hF0 g g1
          have := (h.ln _ _ _ h2).lt g2
          omega
        · rw [setS_other S _ e1] at h1
          by_cases e2 : K2 = K
          · subst e2
            rw [setS_same] at h2
            cases h2
            have := hF0 g g2
            have := (h.ln _ _ _ h1).lt g1
            omega
          · rw [setS_other S _ e2] at h2
            exact h.ap _ _ _ _ _ _ g hn h1 h2 g1 g2
    clear h hW hml hpl bW hmW hSK hV hno
    go_enter Tryd.func41, Tryd.ntmps41
    go_upto_region 4 with fail
    rw [HW.out]
    go_wp2
    go_ret
    exact ⟨_, q0, _, _, rfl, HR.out⟩
  | some xq =>
    obtain ⟨x, q⟩ := xq
    have hlk := h.look hSK
    have HR : Hid (LoP w w p m lim K S M x q c E) := by
      have e := setS_id hSK
      refine ⟨by rw [e]; exact h, fun i hi => by rw [hSK]; rfl, fun g hg => .inl (by rw [e] at hg; exact hg), Kl.refl _ _⟩
    clear h hSK
    go_enter Tryd.func41, Tryd.ntmps41
    go_wp2
    go_ret
    exact ⟨_, q, _, _, rfl, HR.out⟩

/-- What forget leaves. -/
structure FgP (w w' : World) (p m : Nat) (lim K : Int) (S S' : Pm) (M c : Nat) (E E' : List En) : Prop where
  lg : Lg w' p m lim S' M c E'
  wt : ∀ K' i, i < 3 → Wt (S' K') i = Wt (S K') i
  ot : ∀ K', K' ≠ K → S' K' = S K'
  fo : ∀ g, FL m S' g → FL m S g
  kl : Kl (fun g => g = m) w w'
  ee : E' = E ∨ E' = noK K E
theorem forgetG (w : World) (p m : Nat) (lim K : Int) (S : Pm) (M c : Nat) (E : List En) (h : Lg w p m lim S M c E) (hM : M ≤ 68719476736) :
    Calls Tryd.prog 28 #[.pointer (some ⟨p, 0, none⟩), .int .i64 K] w fun e w' => (∃ u, e = .returned u) ∧ ∃ S' E', FgP w w' p m lim K S S' M c E E' := by
  have hco := lcountG w p m lim K S M c E h hM
  have HL : Hid (Lg w p m lim S M c E) := h
  by_cases hz : cnt (S K) = 0
  · have HR : Hid (∀ U, Below w.heap.size w U → U.cell? ⟨p, 1, none⟩ = some (.map (some m)) ∧ ∃ V, (∀ ty, (Builtin.delete_ #[61, 3] ty #[.map (some m), .int .i64 K]).run Tryd.prog U = .ok (.tuple #[]) V) ∧ FgP w V p m lim K S (setS S K none) M c E (noK K E)) := fun U hU => by
      have hLU := HL.out.below hU
      refine ⟨hLU.c1, _, fun ty => delG hLU.mp K ty, ?_⟩
      obtain ⟨V, hV⟩ : ∃ V, setO U m (.map ((noK K E).map me).toArray c) = V := ⟨_, rfl⟩
      have hm2 := hLU.mp.del K
      rw [hV] at hm2 ⊢
      have k1 : Kl (fun g => g = m) U V := by rw [← hV]; exact (Kl.refl _ _).grown (setO_grown _ _ _) (fun k hk => .inl (by simpa using hk.symm))
      have hs : ∀ {K' : Int} {y : Nat} {r : Nat → Qd}, setS S K none K' = some (y, r) → S K' = some (y, r) ∧ K' ≠ K := fun {K' y r} h => by
        by_cases e : K' = K
        · subst e; rw [setS_same] at h; cases h
        · rw [setS_other S _ e] at h; exact ⟨h, e⟩
      have hFL : ∀ g, FL m (setS S K none) g → FL m S g := fun g hg => by
        rcases hg with e | ⟨K', y, r, h1, hg⟩
        · exact .inl e
        · exact .inr ⟨K', y, r, (hs h1).1, hg⟩
      refine ⟨⟨(k1.block p hLU.plt (fun e => hLU.nx m (.inl rfl) e.symm)).trans hLU.box, fun g hg => hLU.nx g (hFL g hg), hm2, fun e he => ?_, fun K' y r h1 => ?_, fun K' y r h1 => (hLU.ln _ _ _ (hs h1).1).keep k1 (fun g hg => hLU.nm (hs h1).1 g hg), fun K1 K2 x1 q1 x2 q2 g hn h1 h2 => hLU.ap K1 K2 x1 q1 x2 q2 g hn (hs h1).1 (hs h2).1⟩, fun K' i hi => ?_, fun K' hK' => setS_other S _ hK', hFL, (Kl.of_below hU).then k1 (fun _ _ e => e), .inr rfl⟩
      · obtain ⟨h1, h2⟩ := mem_noK.mp he
        obtain ⟨r, hr⟩ := hLU.en e h1
        exact ⟨r, by rw [setS_other S _ h2]; exact hr⟩
      · obtain ⟨b, hb⟩ := hLU.ne _ _ _ (hs h1).1
        exact ⟨b, mem_noK.mpr ⟨hb, (hs h1).2⟩⟩
      · by_cases e : K' = K
        · subst e
          rw [setS_same]
          have h1 : (Wt (S K') i).length = 0 := by
            unfold cnt at hz
            rcases three hi with rfl | rfl | rfl <;> omega
          exact (List.eq_nil_of_length_eq_zero h1).symm
        · rw [setS_other S _ e]
    rw [hz] at hco
    clear h
    go_enter Tryd.func28, Tryd.ntmps28
    go_wp2_with fail
    refine hco.mono ?_
    rintro e U ⟨rfl, hU⟩
    obtain ⟨d1, V, hdel, r1⟩ := HR.out U hU
    have HF : Hid (FgP w V p m lim K S (setS S K none) M c E (noK K E)) := r1
    clear hco hU r1
    go_wp2
    refine bodyPost_end (v := .tuple #[]) (by simp [results, Tryd.results28, go_sem]) rfl ?_
    exact ⟨⟨_, rfl⟩, _, _, HF.out⟩
  · have hz' : ¬ ((cnt (S K) : Nat) : Int) = 0 := by omega
    have hz2 : (((cnt (S K) : Nat) : Int) == 0) = false := by simpa using hz'
    obtain ⟨n, hn⟩ : ∃ n, cnt (S K) = n := ⟨_, rfl⟩
    rw [hn] at hco hz' hz2
    clear h hn hz
    go_enter Tryd.func28, Tryd.ntmps28
    go_wp2_with fail
    refine hco.mono ?_
    rintro e U ⟨rfl, hU⟩
    clear hco
    go_wp2
    refine bodyPost_end (v := .tuple #[]) (by simp [results, Tryd.results28, go_sem]) rfl ?_
    exact ⟨⟨_, rfl⟩, S, E, HL.out.below hU, fun _ _ _ => rfl, fun _ _ => rfl, fun _ h => h, Kl.of_below hU, .inl rfl⟩

end Go.Proofs.YtdfdaambfihjaaaDoor.L
