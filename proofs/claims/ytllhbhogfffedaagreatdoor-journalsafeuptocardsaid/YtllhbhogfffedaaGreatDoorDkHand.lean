import Derived.Test.YtllhbhogfffedaaGreatDoorDkCr
import Derived.Test.YtllhbhogfffedaaGreatDoorJkIs
namespace Go.Proofs.YtllhbhogfffedaaGreatDoor.K
open Go.RowKit
set_option linter.unusedVariables false
set_option linter.unusedSimpArgs false

/-! ## The hand on a disk -/
def dk0 (M : Int) : Dk := ⟨[], M, false, 0, false, false⟩
def nn0 (r : Int) : Int := if r < 0 then 0 else r
theorem dNew_any (w : World) (r : Int) : Calls Tryz.prog 7 #[.int .i64 r] w fun e w' => e = .returned (.pointer (some ⟨w.heap.size + 1, 0, none⟩)) ∧ Dm w' w.heap.size (fun g => g = w.heap.size) (dk0 (nn0 r)) ∧ w'.cell? ⟨w.heap.size + 1, 0, none⟩ = some (.pointer (some ⟨w.heap.size, 0, none⟩)) ∧ w'.heap.size = w.heap.size + 2 ∧ Below w.heap.size w w' := by
  obtain ⟨M, hM⟩ : ∃ M, (if r < 0 then 0 else r) = M := ⟨_, rfl⟩
  have HM : Hid (nn0 r = M) := hM
  obtain ⟨W, hW⟩ : ∃ W, (w.alloc (.cells #[.slice none 0 0, .int .i64 M, .bool false, .int .i64 0, .bool false, .bool false] 85)).alloc (.cells #[.pointer (some ⟨w.heap.size, 0, none⟩)] 87) = W := ⟨_, rfl⟩
  have HR : Hid (Dm W w.heap.size (fun g => g = w.heap.size) (dk0 (nn0 r)) ∧ W.cell? ⟨w.heap.size + 1, 0, none⟩ = some (.pointer (some ⟨w.heap.size, 0, none⟩)) ∧ W.heap.size = w.heap.size + 2 ∧ Below w.heap.size w W) := by
    rw [HM.out]
    have hb : W.heap[w.heap.size]? = some (.cells #[.slice none 0 0, .int .i64 M, .bool false, .int .i64 0, .bool false, .bool false] 85 (0, 0)) := by
      rw [← hW]
      exact (Below.heap_alloc _ _ _ (by simp)).trans (heap_alloc_new _ _)
    refine ⟨⟨.slice none 0 0, [], rfl, hb, World.ownsRow_nil _ _ _ _, fun i p hp => by simp at hp, fun i j p q g hp => by simp at hp, rfl, fun g hg => (by cases hg), fun i p g hp => by simp at hp⟩, by rw [← hW]; simp, by rw [← hW]; simp, by rw [← hW]; exact ((Below.refl _ _).alloc (Nat.le_refl _) _).alloc (by simp) _⟩
  clear HM
  go_enter Tryz.func7, Tryz.ntmps7
  go_wp2
  all_goals (
    go_ret
    exact ⟨rfl, HR.out⟩)

theorem dDisk_any (w : World) (b x : Nat) (h : w.cell? ⟨b, 0, none⟩ = some (.pointer (some ⟨x, 0, none⟩))) : Calls Tryz.prog 13 #[.pointer (some ⟨b, 0, none⟩)] w fun e w' => e = .returned (.pointer (some ⟨w.heap.size, 0, none⟩)) ∧ w' = w.alloc (.cells #[.pointer (some ⟨x, 0, none⟩)] 102) := by
  go_enter Tryz.func13, Tryz.ntmps13
  go_wp2
  go_ret
  exact ⟨rfl, rfl⟩
def armD (D : Dk) (N : Int) (b : Bool) : Dk := { D with arm := true, acts := nn0 N, dn := b }
set_option maxHeartbeats 4000000 in
theorem dArm_any (w : World) (b x : Nat) (F : Nat → Prop) (D : Dk) (N : Int) (dn : Bool) (hd : Dm w x F D) (h : w.cell? ⟨b, 0, none⟩ = some (.pointer (some ⟨x, 0, none⟩))) (nb : ¬ F b) : Calls Tryz.prog 14 #[.pointer (some ⟨b, 0, none⟩), .int .i64 N, .bool dn] w fun e w' => (∃ v, e = .returned v) ∧ Dm w' x F (armD D N dn) ∧ Kd F w w' := by
  obtain ⟨vf, L, hc⟩ := hd
  obtain ⟨M, hM⟩ : ∃ M, (if N < 0 then 0 else N) = M := ⟨_, rfl⟩
  have HM : Hid (nn0 N = M) := hM
  have hbx : b ≠ x := fun e => nb (e ▸ hc.fx)
  have k2 : w.cell? ⟨x, 2, none⟩ = some (.bool D.arm) := hc.c 2
  have k3 : w.cell? ⟨x, 3, none⟩ = some (.int .i64 D.acts) := hc.c 3
  have k4 : w.cell? ⟨x, 4, none⟩ = some (.bool D.dn) := hc.c 4
  have z2 := hc.z 2
  have z3 := hc.z 3
  have z4 := hc.z 4
  have HR : Hid (∀ V : World, V.heap = (((w.setCell ⟨x, 2, none⟩ (.bool true)).setCell ⟨x, 3, none⟩ (.int .i64 M)).setCell ⟨x, 4, none⟩ (.bool dn)).heap → V.os = w.os → V.tape = w.tape → V.output = w.output → Dm V x F (armD D N dn) ∧ Kd F w V) := fun V hV h1 h2 h3 => by
    have e1 : (w.setCell ⟨x, 2, none⟩ (.bool true)).heap[x]? = _ := heap_setCell_same w x 2 _ _ _ hc.box
    have e2 : ((w.setCell ⟨x, 2, none⟩ (.bool true)).setCell ⟨x, 3, none⟩ (.int .i64 M)).heap[x]? = _ := heap_setCell_same _ x 3 _ _ _ e1
    have e3 : (((w.setCell ⟨x, 2, none⟩ (.bool true)).setCell ⟨x, 3, none⟩ (.int .i64 M)).setCell ⟨x, 4, none⟩ (.bool dn)).heap[x]? = _ := heap_setCell_same _ x 4 _ _ _ e2
    have ho : ∀ k, k ≠ x → V.heap[k]? = w.heap[k]? := fun k hk => by
      rw [hV]
      exact (heap_setCell_other _ _ _ _ hk).trans ((heap_setCell_other _ _ _ _ hk).trans (heap_setCell_other _ _ _ _ hk))
    refine ⟨⟨vf, L, hc.boxed rfl ?_ ho⟩, ⟨h1, h2, h3, by rw [hV]; simp [World.setCell], fun k hk hn => ho k (fun e => hn (e ▸ hc.fx))⟩⟩
    rw [hV, e3]
    unfold armD
    rw [HM.out]
    rfl
  clear hc HM
  go_enter Tryz.func14, Tryz.ntmps14
  go_wp2_with fail
  go_region_held3 (fun V => V.cell? ⟨b, 0, none⟩ = some (.pointer (some ⟨x, 0, none⟩)))
    (first | exact h | exact set_cell h hbx | exact set_cell (set_cell h hbx) hbx | exact set_cell (set_cell (set_cell h hbx) hbx) hbx)
    (fail)
  all_goals (
    refine bodyPost_end (v := .tuple #[]) (by simp [results, Tryz.results14, go_sem]) rfl ?_
    refine ⟨⟨_, rfl⟩, HR.out _ rfl rfl rfl rfl⟩)

end Go.Proofs.YtllhbhogfffedaaGreatDoor.K

namespace Go.Proofs.YtllhbhogfffedaaGreatDoor.K
open Go.RowKit
set_option linter.unusedVariables false
set_option linter.unusedSimpArgs false

section
variable {W w' : World} {x gF nf cf i : Nat} {F : Nat → Prop} {D : Dk} {vf : Value} {L : List Fv} {p : Fv}
/-- A file's bytes, in a row that has grown or is new. -/
theorem Dc.appA (h : Dc W x F D (.slice (some ⟨gF, 0, none⟩) nf cf) L) (hp : L[i]? = some p) {v' : Value} {bs : List Int} (r1 : w'.ownsRow 0 5 1 v' bs.length (bs.map (Value.int .u8))) (r2 : W.grownBy w' p.2.ownBlock) (r3 : ∀ g, v'.ownBlock = some g → W.heap.size ≤ g) :
    Dc (w'.setCell ⟨gF, i * 3 + 1, none⟩ v') x (up F W) (D.fs' (D.fs.set i ⟨p.1.nm, bs, p.1.sf⟩)) (.slice (some ⟨gF, 0, none⟩) nf cf) (L.set i (⟨p.1.nm, bs, p.1.sf⟩, v')) := by
  obtain rfl : L.length = nf := by obtain ⟨a, c, e⟩ := d_shape h.row; simp only [Value.slice.injEq] at e; exact e.2.1.symm
  have hgx : gF ≠ x := fun e => h.rx (by rw [e]; rfl)
  have hgl : gF < W.heap.size := (d_lt h.row gF rfl).2
  have hrow : w'.ownsRow 0 75 3 (.slice (some ⟨gF, 0, none⟩) L.length cf) L.length (L.flatMap fcell) := d_blk h.row (fun g hg => r2.block g (d_lt h.row g hg).2 (fun e => h.rb hp hg e.symm))
  have hset : ∀ g, g ≠ gF → (w'.setCell ⟨gF, i * 3 + 1, none⟩ v').heap[g]? = w'.heap[g]? := fun g hg => heap_setCell_other _ _ _ _ hg
  have hbj : ∀ (j : Nat) q, L[j]? = some q → ∀ g, q.2.ownBlock = some g → g ≠ gF := fun j q hq g hg e => h.rb hq rfl (by rw [← e]; exact hg)
  have hv'g : ∀ g, v'.ownBlock = some g → g ≠ gF := fun g hg e => d_apart hrow r1 (by decide) (g := gF) rfl (by rw [← e]; exact hg)
  refine ⟨by rw [List.map_set]; simp only [Dk.fs', h.map], ?_, ?_, fun j q hq => ?_, fun j k q u g hj hk hg1 hg2 => ?_, .inl h.fx, fun g hg => .inl (h.fr g hg), fun j q g hj hg => ?_⟩
  · exact (hset x (fun e => hgx e.symm)).trans ((r2.block x h.xlt (fun e => h.bx hp e.symm)).trans h.box)
  · have h1 := World.ownsRow.stored hrow (i * 3 + 1) v'
    rw [List.length_set, ← fcell_set1 bs v' hp]
    exact h1.1
  · rcases set_get hq with ⟨rfl, rfl⟩ | ⟨hne, hq'⟩
    · exact d_blk r1 (fun g hg => hset g (hv'g g hg))
    · refine d_blk (h.byt j q hq') (fun g hg => (hset g (hbj j q hq' g hg)).trans (r2.block g (d_lt (h.byt j q hq') g hg).2 (fun e => hne (h.dis j i q p g hq' hp hg e.symm))))
  · have new : ∀ (j : Nat) q, j ≠ i → L[j]? = some q → q.2.ownBlock = some g → v'.ownBlock = some g → False := fun j q hji hq hg hg' => by
      have h1 := r3 g hg'
      have := (d_lt (h.byt j q hq) g hg).2
      omega
    rcases set_get hj with ⟨rfl, rfl⟩ | ⟨hne, hj'⟩
    · rcases set_get hk with ⟨rfl, rfl⟩ | ⟨hne2, hk'⟩
      · rfl
      · exact (new k u hne2 hk' hg2 hg1).elim
    · rcases set_get hk with ⟨rfl, rfl⟩ | ⟨hne2, hk'⟩
      · exact (new j q hne hj' hg1 hg2).elim
      · exact h.dis j k q u g hj' hk' hg1 hg2
  · rcases set_get hj with ⟨rfl, rfl⟩ | ⟨hne, hj'⟩
    · exact .inr (r3 g hg)
    · exact .inl (h.fb j q g hj' hg)
end
theorem lies_own {w : World} {n c : Nat} {a : Option Addr} {bs : List Int} (h : w.ownsRow 0 5 1 (.slice a n c) n (bs.map (Value.int .u8))) : Lies .u8 w a bs ∧ (a = none → n = 0 ∧ c = 0) ∧ n ≤ c ∧ bs.length = n := by
  have hl : bs.length = n := by have := h.1; simpa using this
  obtain ⟨_, ⟨e, h0⟩ | ⟨g, cap, cur, e, _, hh, h5, h6, h7, h8⟩⟩ := id h
  · cases e
    exact ⟨.inl (List.eq_nil_of_length_eq_zero hl), fun _ => ⟨rfl, rfl⟩, Nat.le_refl _, hl⟩
  · cases e
    refine ⟨.inr ⟨g, 0, rfl, fun j hj => ?_⟩, (fun e => by cases e), h5, hl⟩
    rw [Nat.zero_add]
    refine (World.ownsRow.cellAt h j (by omega)).trans ?_
    rw [List.getElem?_map, List.getElem?_eq_getElem hj, List.getD_eq_getElem?_getD, List.getElem?_eq_getElem hj]
    rfl
theorem lies_take {w : World} {a : Option Addr} {bs : List Int} (h : Lies .u8 w a bs) (k : Nat) : Lies .u8 w a (bs.take k) := by
  rcases h with rfl | ⟨b, off, e, hc⟩
  · exact .inl (by simp)
  · refine .inr ⟨b, off, e, fun j hj => ?_⟩
    have hj2 : j < bs.length := by rw [List.length_take] at hj; omega
    have hj3 : j < k := by rw [List.length_take] at hj; omega
    rw [hc j hj2]
    simp [List.getD_eq_getElem?_getD, List.getElem?_take, hj3]

/-! ## A loss of power -/
def crQ (f : Fl) (M : Int) : Int := if (f.bs.length : Int) - f.sf < M then (f.bs.length : Int) - f.sf else M
def cr1 (keep : Int) (f : Fl) : Fl := ⟨f.nm, f.bs.take (f.sf + crQ f (nn0 keep)).toNat, f.sf + crQ f (nn0 keep)⟩
def crD (D : Dk) (keep : Int) : Dk := { D with fs := D.fs.map (cr1 keep), arm := false, dw := false }
def crF (fs : List Fl) (keep : Int) (i : Nat) : List Fl := (fs.take i).map (cr1 keep) ++ fs.drop i
theorem crF_step {fs : List Fl} {keep : Int} {i : Nat} {f : Fl} (h : fs[i]? = some f) : (crF fs keep i)[i]? = some f ∧ (crF fs keep i).set i (cr1 keep f) = crF fs keep (i + 1) := by
  have hi := (List.getElem?_eq_some_iff.mp h).1
  have hl : ((fs.take i).map (cr1 keep)).length = i := by simp; omega
  have hd : fs.drop i = f :: fs.drop (i + 1) := by
    rw [List.drop_eq_getElem_cons hi, (List.getElem?_eq_some_iff.mp h).2]
  unfold crF
  refine ⟨by rw [List.getElem?_append_right (by omega), hl, hd]; simp, ?_⟩
  rw [List.set_append_right _ _ (by omega), hl, hd]
  have ht : fs.take (i + 1) = fs.take i ++ [f] := by rw [List.take_add_one, h]; rfl
  rw [ht]
  simp
theorem crF_all (fs : List Fl) (keep : Int) {n : Nat} (hn : fs.length ≤ n) : crF fs keep n = fs.map (cr1 keep) := by
  unfold crF
  rw [List.take_of_length_le hn, List.drop_of_length_le hn]; simp
def Cj (w : World) (x n : Nat) (F : Nat → Prop) (D : Dk) (keep : Int) (v : Value) (wr : World) : Prop := ∃ i : Nat, v = .int .i64 i ∧ i ≤ n ∧ Dm wr x (up F w) (D.fs' (crF D.fs keep i)) ∧ Kd F w wr

set_option maxHeartbeats 8000000 in
set_option maxRecDepth 100000 in
theorem dCrash_any (w : World) (b x : Nat) (F : Nat → Prop) (D : Dk) (keep : Int) (B : Nat) (hd : Dm w x F D) (hk : D.Ok B) (hB : B ≤ 1099511627776) (h : w.cell? ⟨b, 0, none⟩ = some (.pointer (some ⟨x, 0, none⟩))) (nb : ¬ F b) : Calls Tryz.prog 21 #[.pointer (some ⟨b, 0, none⟩), .int .i64 keep] w fun e w' => (∃ v, e = .returned v) ∧ Dm w' x (up F w) (crD D keep) ∧ Kd F w w' := by
  have HD : Hid (Dm w x F D) := hd
  obtain ⟨n, hn⟩ : ∃ n, D.fs.length = n := ⟨_, rfl⟩
  obtain ⟨vf, L, hc⟩ := hd
  have hnb : n ≤ 1099511627776 := by have := hk.len; omega
  obtain ⟨af, cf, hv⟩ := d_shape hc.row
  rw [← hc.len, hn] at hv
  subst hv
  have c0 : w.cell? ⟨x, 0, none⟩ = some (.slice af n cf) := hc.c 0
  have HN : Hid (D.fs.length = n) := hn
  have HK : Hid (D.Ok B) := hk
  have HB : Hid (w.cell? ⟨b, 0, none⟩ = some (.pointer (some ⟨x, 0, none⟩)) ∧ ¬ F b) := ⟨h, nb⟩
  obtain ⟨M, hM⟩ : ∃ M, (if keep < 0 then 0 else keep) = M := ⟨_, rfl⟩
  have HM : Hid ((if keep < 0 then 0 else keep) = M ∧ nn0 keep = M ∧ 0 ≤ M) := ⟨hM, hM, by rw [← hM]; split <;> omega⟩
  clear hc hn hk nb hM
  go_enter Tryz.func21, Tryz.ntmps21
  go_wp2
  clear c0 h
  go_loopw [14] (fun v wr => Cj w x n F D keep v wr) (fun v _ => n - (intOf v).toNat)
  case atStart =>
    have e : crF D.fs keep 0 = D.fs := by simp [crF]
    exact ⟨0, rfl, by omega, by rw [e]; exact HD.out.mono (fun k h _ => .inl h), Kd.refl _ _⟩
  case round =>
    obtain ⟨i, rfl, hi, hDr, hKr⟩ := hrel
    have HDr : Hid (Dm wr x (up F w) (D.fs' (crF D.fs keep i)) ∧ Kd F w wr) := ⟨hDr, hKr⟩
    have hb := hKr.cell HB.out.1 HB.out.2
    have nub : ¬ up F w b := fun e => e.elim HB.out.2 (fun q => by have := World.block_lt_of_cell? w ⟨b, 0, none⟩ HB.out.1; simp only at this; omega)
    by_cases hin : i = n
    · have hin2 := hin.symm
      clear hin
      subst hin2
      have hz : ¬ (n : Int) < (n : Int) := by omega
      obtain ⟨vf, L, hc⟩ := hDr
      have hbx : b ≠ x := fun e => nub (e ▸ hc.fx)
      have k2 : wr.cell? ⟨x, 2, none⟩ = some (.bool D.arm) := hc.c 2
      have k5 : wr.cell? ⟨x, 5, none⟩ = some (.bool D.dw) := hc.c 5
      have z2 := hc.z 2
      have z5 := hc.z 5
      have HR : Hid (∀ V : World, V.heap = ((wr.setCell ⟨x, 2, none⟩ (.bool false)).setCell ⟨x, 5, none⟩ (.bool false)).heap → V.os = wr.os → V.tape = wr.tape → V.output = wr.output → Dm V x (up F w) (crD D keep) ∧ Kd F w V) := fun V hV h1 h2 h3 => by
        have e1 : (wr.setCell ⟨x, 2, none⟩ (.bool false)).heap[x]? = _ := heap_setCell_same wr x 2 _ _ _ hc.box
        have e2 : ((wr.setCell ⟨x, 2, none⟩ (.bool false)).setCell ⟨x, 5, none⟩ (.bool false)).heap[x]? = _ := heap_setCell_same _ x 5 _ _ _ e1
        have ho : ∀ k, k ≠ x → V.heap[k]? = wr.heap[k]? := fun k hk => by
          rw [hV]
          exact (heap_setCell_other _ _ _ _ hk).trans (heap_setCell_other _ _ _ _ hk)
        have hfs : (crD D keep).fs = (D.fs' (crF D.fs keep n)).fs := by
          show D.fs.map (cr1 keep) = crF D.fs keep n
          exact (crF_all _ _ (by have := HN.out; omega)).symm
        refine ⟨⟨vf, L, hc.boxed hfs ?_ ho⟩, HDr.out.2.trans ⟨h1, h2, h3, by rw [hV]; simp [World.setCell], fun k hk hn => ho k (fun e => ?_)⟩⟩
        · rw [hV, e2]
          unfold crD
          rfl
        · have hF : F x := by obtain ⟨_, _, h9⟩ := HD.out; exact h9.fx
          exact hn (e ▸ hF)
      clear hc
      go_wp2_with fail
      go_region_held3 (fun V => V.cell? ⟨b, 0, none⟩ = some (.pointer (some ⟨x, 0, none⟩)))
        (first | exact hb | exact set_cell hb hbx | exact set_cell (set_cell hb hbx) hbx)
        (fail)
      all_goals (
        refine bodyPost_end (v := .tuple #[]) (by simp [results, Tryz.results21, go_sem]) rfl ?_
        exact ⟨⟨_, rfl⟩, HR.out _ rfl rfl rfl rfl⟩)
    · have hz : (i : Int) < (n : Int) := by omega
      have hi0 : (0 : Int) ≤ (i : Int) := by omega
      have hwi : IntKind.i64.wrap ((i : Int) + 1) = (i : Int) + 1 := by rw [IntKind.wrap_i64]; omega
      obtain ⟨f, hf⟩ : ∃ f, D.fs[i]? = some f := ⟨_, List.getElem?_eq_getElem (by rw [HN.out]; omega)⟩
      obtain ⟨hf1, hf2⟩ := crF_step (keep := keep) hf
      have hok := HK.out.fs f (List.mem_of_getElem? hf)
      have hfl : f.bs.length ≤ 1099511627776 := by have := usd_get hf; have := HK.out.used; omega
      obtain ⟨vf, L, hc⟩ := hDr
      have hll : L.length = n := by
        have h1 := hc.len
        rw [← h1]
        show (crF D.fs keep i).length = n
        unfold crF
        rw [List.length_append, List.length_map, List.length_take, List.length_drop, HN.out]; omega
      obtain ⟨p, hp⟩ : ∃ p, L[i]? = some p := ⟨_, List.getElem?_eq_getElem (by omega)⟩
      have hpf : p.1 = f := by
        have h1 := hc.file hp
        have h2 : (D.fs' (crF D.fs keep i)).fs[i]? = some f := hf1
        rw [h2] at h1
        exact (Option.some.inj h1).symm
      obtain ⟨gF, cfx, hv, hFg, hgl, k0, k1, k2, kz⟩ := hc.at hp
      rw [hll] at hv
      subst hv
      have c0 : wr.cell? ⟨x, 0, none⟩ = some (.slice (some ⟨gF, 0, none⟩) n cfx) := hc.c 0
      obtain ⟨av, cv, hav⟩ := d_shape (hc.byt i p hp)
      obtain ⟨⟨nm, bs, sf⟩, pv⟩ := p
      simp only at hpf hav k0 k1 k2
      subst hpf
      subst hav
      simp only at hfl
      obtain ⟨q, hq⟩ : ∃ q, crQ ⟨nm, bs, sf⟩ M = q := ⟨_, rfl⟩
      have hq' : (if ((bs.length : Nat) : Int) - sf < M then ((bs.length : Nat) : Int) - sf else M) = q := hq
      have hlo : 0 ≤ sf := hok.lo
      have hhi : sf ≤ bs.length := hok.hi
      have hq2 : 0 ≤ q ∧ sf + q ≤ bs.length := by have := HM.out.2.2; rw [← hq']; split <;> omega
      have HCc : Hid (Dc wr x (up F w) (D.fs' (crF D.fs keep i)) (.slice (some ⟨gF, 0, none⟩) n cfx) L ∧ L[i]? = some (⟨nm, bs, sf⟩, .slice av bs.length cv) ∧ up F w gF) := ⟨hc, hp, hFg⟩
      have hw1 : IntKind.i64.wrap ((bs.length : Int) - sf) = (bs.length : Int) - sf := by rw [IntKind.wrap_i64]; omega
      have hw2 : IntKind.i64.wrap (sf + q) = sf + q := by rw [IntKind.wrap_i64]; omega
      obtain ⟨k, hkk⟩ : ∃ k : Nat, sf + q = (k : Int) := ⟨(sf + q).toNat, by omega⟩
      have hkl : k ≤ bs.length := by omega
      have HQ : Hid (cr1 keep ⟨nm, bs, sf⟩ = ⟨nm, bs.take k, (k : Int)⟩) := by
        show _ = _
        unfold cr1
        rw [HM.out.2.1, hq, hkk]
        simp
      clear hKr hf1 hok hq
      go_wp2_with fail
      refine regCr4 _ gF i keep sf M q av bs.length cv wr HM.out.1 hq' hw1 hw2 k2 (kz _) k1 (fun y => (World.cell?_setCell_other _ _ _ _ (by simp)).trans k1) ?_
      rw [hkk]
      obtain ⟨V1, hV1⟩ : ∃ V, wr.drew.setCell ⟨gF, i * 3 + 2, none⟩ (.int .i64 (k : Int)) = V := ⟨_, rfl⟩
      rw [hV1]
      have hc1 := (hc.same (w' := wr.drew) (fun _ _ _ => rfl)).cellF hp (k := i * 3 + 2) (v := .int .i64 (k : Int)) (q := ⟨nm, bs, (k : Int)⟩) rfl (fcell_set2 _ hp)
      rw [hV1] at hc1
      have HK1 : Hid (Kd F w V1 ∧ wr.heap.size ≤ V1.heap.size) := by
        rw [← hV1]
        refine ⟨HDr.out.2.upTrans ((Kd.refl _ _).drew.trans (Kd.set hFg)), by simp [World.setCell]⟩
      have hp1 : (L.set i (((⟨nm, bs, (k : Int)⟩ : Fl), Value.slice av bs.length cv) : Fv))[i]? = some (⟨nm, bs, (k : Int)⟩, .slice av bs.length cv) := by
        rw [List.getElem?_set_self (List.getElem?_eq_some_iff.mp hp).1]
      obtain ⟨g2, cf2, hv2, _, _, y0, y1, y2, yz⟩ := hc1.at hp1
      obtain ⟨rfl, _, rfl⟩ : gF = g2 ∧ _ ∧ cfx = cf2 := by simpa using hv2
      simp only at y0 y1 y2
      have HC1 : Hid (Dc V1 x (up F w) ((D.fs' (crF D.fs keep i)).fs' ((D.fs' (crF D.fs keep i)).fs.set i ⟨nm, bs, (k : Int)⟩)) (.slice (some ⟨gF, 0, none⟩) n cfx) (L.set i (⟨nm, bs, (k : Int)⟩, .slice av bs.length cv))) := hc1
      obtain ⟨cur, hcur⟩ := hc1.cur
      have hby := hc1.byt i _ hp1
      obtain ⟨hz1, hz2, hz3, _⟩ := lies_own hby
      have HRes : Hid (∀ v' w', w'.ownsRow 0 5 1 v' k ((bs.take k).map (Value.int .u8)) → V1.drew.grownBy w' (Value.slice none 0 0).ownBlock → (v'.ownBlock = (Value.slice none 0 0).ownBlock ∨ ∃ g, v'.ownBlock = some g ∧ V1.heap.size ≤ g) → Cj w x n F D keep (.int .i64 ((i : Int) + 1)) (w'.setCell ⟨gF, i * 3 + 1, none⟩ v')) := fun v' w' r1 r2 r3 => by
        have hg2 : V1.grownBy w' (Value.slice av bs.length cv).ownBlock := ⟨r2.os, r2.tape, r2.output, r2.size, fun k hk _ => r2.block k hk (by simp [Value.ownBlock])⟩
        have hl2 : (bs.take k).length = k := by rw [List.length_take]; omega
        have h1 := HC1.out.appA hp1 (bs := bs.take k) (by rw [hl2]; exact r1) hg2 (fun g hg => by
          rcases r3 with e | ⟨g', e, hl⟩
          · rw [e] at hg; cases hg
          · have : g' = g := Option.some.inj (e.symm.trans hg)
            omega)
        refine ⟨i + 1, by simp, by omega, ?_, ?_⟩
        · have e9 : ((D.fs' (crF D.fs keep i)).fs' ((D.fs' (crF D.fs keep i)).fs.set i ⟨nm, bs, (k : Int)⟩)).fs' (((D.fs' (crF D.fs keep i)).fs' ((D.fs' (crF D.fs keep i)).fs.set i ⟨nm, bs, (k : Int)⟩)).fs.set i ⟨nm, bs.take k, (k : Int)⟩) = D.fs' (crF D.fs keep (i + 1)) := by
            show D.fs' (((crF D.fs keep i).set i ⟨nm, bs, (k : Int)⟩).set i ⟨nm, bs.take k, (k : Int)⟩) = _
            rw [set_set', ← hf2, HQ.out]
          rw [e9] at h1
          have hs1 := HK1.out.2
          have hs2 := HDr.out.2.size
          exact ⟨_, _, h1.mono (fun k h _ => h.elim id (fun q => .inr (by omega)))⟩
        · have hFg := HCc.out.2.2
          refine HK1.out.1.upTrans (F := F) (a := w) ?_
          exact (Kd.grown hg2 (fun g hg => HCc.out.1.fb i _ g HCc.out.2.1 hg)).trans (Kd.set hFg)
      have HZ : Hid (Lies .u8 V1 av bs ∧ (av = none → bs.length = 0 ∧ cv = 0) ∧ bs.length ≤ cv ∧ k ≤ bs.length ∧ bs.length ≤ 1099511627776 ∧ V1.ownsRow 0 5 1 (.slice av bs.length cv) bs.length (bs.map (Value.int .u8)) ∧ ∃ cur, V1.heap[gF]? = some (.cells cur 75 (0, 0))) := ⟨hz1, hz2, hz3, hkl, hfl, hby, _, hcur⟩
      have HY : Hid (V1.cell? ⟨gF, i * 3 + 1, none⟩ = some (.slice av bs.length cv) ∧ V1.cell? ⟨gF, i * 3 + 2, none⟩ = some (.int .i64 (k : Int))) := ⟨y1, y2⟩
      clear hc hp hc1 hp1 hV1 hv2 k0 k1 k2 kz hq' hf2 y0 y1 y2 yz hw1 hw2 hb c0 hcur hz1 hz2 hz3 hkl hfl hby hkk hq2 hlo hhi hf
      go_wp2_with fail
      obtain ⟨hz1, hz2, hz3, hkl, hfl, hby, cur, hcur⟩ := HZ.out
      obtain ⟨y1, y2⟩ := HY.out
      clear HZ HY
      cases av with
      | none =>
        obtain ⟨hb0, hcv0⟩ := hz2 rfl
        have hk0 : k = 0 := by omega
        subst hk0
        subst hcv0
        rw [hb0] at y1
        rw [hb0]
        refine regCr5N _ gF i (bs.take 0) cur V1 (by simp) (.inl (by simp)) hcur y1 (fun V hV => grown_cell y2 ⟨hV.os, hV.tape, hV.output, hV.size, hV.block⟩ (by simp [Value.ownBlock])) (fun V hV y => (World.cell?_setCell_other _ _ _ _ (by simp)).trans (grown_cell y2 ⟨hV.os, hV.tape, hV.output, hV.size, hV.block⟩ (by simp [Value.ownBlock]))) ?_
        intro v' w' r1 r2 r3
        have HF : Hid _ := HRes.out v' w' r1 r2 r3
        clear HRes y1 y2 hby r1 r2 r3 hz1 hz2 hz3 hkl hfl hcur
        go_wp2
        exact ⟨HF.out, by simp [intOf]; omega⟩
      | some ad =>
        obtain ⟨gv, hgv⟩ : ∃ gv, ad = ⟨gv, 0, none⟩ := by
          obtain ⟨_, ⟨e, _⟩ | ⟨g, cap, cur', e, _⟩⟩ := hby
          · cases e
          · cases e; exact ⟨g, rfl⟩
        subst hgv
        refine regCr5S _ gF i (bs.take k) cur gv bs.length cv k V1 (by omega) (by omega) (by omega) (by rw [List.length_take]; omega) (lies_take hz1 k) hcur y1 (fun V hV => grown_cell y2 ⟨hV.os, hV.tape, hV.output, hV.size, hV.block⟩ (by simp [Value.ownBlock])) (fun V hV y => (World.cell?_setCell_other _ _ _ _ (by simp)).trans (grown_cell y2 ⟨hV.os, hV.tape, hV.output, hV.size, hV.block⟩ (by simp [Value.ownBlock]))) ?_
        intro v' w' r1 r2 r3
        have HF : Hid _ := HRes.out v' w' r1 r2 r3
        clear HRes y1 y2 hby r1 r2 r3 hz1 hz2 hz3 hkl hfl hcur
        go_wp2
        exact ⟨HF.out, by simp [intOf]; omega⟩

end Go.Proofs.YtllhbhogfffedaaGreatDoor.K

namespace Go.Proofs.YtllhbhogfffedaaGreatDoor.K
open Go.RowKit
set_option linter.unusedVariables false
set_option linter.unusedSimpArgs false

/-- Files as copies: a row, each one's bytes. -/
structure Fo (w : World) (v : Value) (L : List Fv) : Prop where
  row : w.ownsRow 0 75 3 v L.length (L.flatMap fcell)
  byt : ∀ (i : Nat) p, L[i]? = some p → w.ownsRow 0 5 1 p.2 p.1.bs.length (p.1.bs.map (Value.int .u8))
def Fj (w : World) (n : Nat) (fs : List Fl) (v3 v : Value) (wr : World) : Prop := ∃ (i : Nat) (Lo : List Fv), v = .int .i64 i ∧ i ≤ n ∧ Fo wr v3 Lo ∧ Lo.map (·.1) = fs.take i ∧ (∀ g, v3.ownBlock = some g → w.heap.size ≤ g) ∧ Below w.heap.size w wr
def FilP (fs : List Fl) (w : World) (e : Ending) (w' : World) : Prop := ∃ v L, e = .returned v ∧ Fo w' v L ∧ L.map (·.1) = fs ∧ Below w.heap.size w w'

end Go.Proofs.YtllhbhogfffedaaGreatDoor.K

namespace Go.Proofs.YtllhbhogfffedaaGreatDoor.K
open Go.RowKit
set_option linter.unusedVariables false
set_option linter.unusedSimpArgs false

/-- What Read answers: which error. -/
def rdN (D : Dk) (s : ByteArray) : Nat := if D.dw = true then 2 else if fnd D.fs s = none then 3 else 0
def RdP (D : Dk) (s : ByteArray) (aD aF aN : Addr) (w : World) (e : Ending) (w' : World) : Prop := ∃ a n c, e = .returned (.tuple #[.slice a n c, evD aD aF aN (rdN D s)]) ∧ Below w.heap.size w w'

end Go.Proofs.YtllhbhogfffedaaGreatDoor.K

namespace Go.Proofs.YtllhbhogfffedaaGreatDoor.K
open Go.RowKit
set_option linter.unusedVariables false
set_option linter.unusedSimpArgs false

/-- What Read reads. -/
def rdB (D : Dk) (s : ByteArray) : List Int := if D.dw = true then [] else match fnd D.fs s with | none => [] | some i => match D.fs[i]? with | some f => f.bs | none => []
def RdQ (D : Dk) (s : ByteArray) (aD aF aN : Addr) (w : World) (e : Ending) (w' : World) : Prop := ∃ v, e = .returned (.tuple #[v, evD aD aF aN (rdN D s)]) ∧ w'.ownsRow w.heap.size 5 1 v (rdB D s).length ((rdB D s).map (Value.int .u8)) ∧ Below w.heap.size w w'

set_option maxHeartbeats 4000000 in
set_option maxRecDepth 100000 in
theorem dReadB_any (w : World) (d x : Nat) (F : Nat → Prop) (D : Dk) (s : ByteArray) (B : Nat) (aD aF aN : Addr) (h : Dm w x F D) (hk : D.Ok B) (hB : B ≤ 1099511627776) (hd : w.cell? ⟨d, 0, none⟩ = some (.pointer (some ⟨x, 0, none⟩))) (hE : Er w aD aF aN) :
    Calls Tryz.prog 74 #[.pointer (some ⟨d, 0, none⟩), .string s] w fun e w' => RdQ D s aD aF aN w e w' := by
  obtain ⟨K, hK⟩ : ∃ K, fI D.fs s = K := ⟨_, rfl⟩
  have HFn := find_any w x F D s B h hk hB
  rw [hK] at HFn
  have HK : Hid (fI D.fs s = K) := hK
  obtain ⟨_, k5, _, _⟩ := h.dw true
  have e1 : w.cell? ⟨0, 0, none⟩ = some (.iface 218 (.pointer (some aD))) := hE.d
  have e2 : w.cell? ⟨2, 0, none⟩ = some (.iface 218 (.pointer (some aN))) := hE.n
  have HD : Hid (Dm w x F D ∧ D.Ok B) := ⟨h, hk⟩
  obtain ⟨i0, hi0, hs0, hs1, hs2⟩ := info_partsD infoU8
  clear h hk hE hK
  go_enter Tryz.func74, Tryz.ntmps74
  go_upto_region 2 with (go_at_call 59; refine HFn.mono ?_; rintro e w2 ⟨rfl, hw2⟩; rw [hw2]; clear hw2)
  clear HFn
  cases hw : D.dw with
  | true =>
    rw [hw] at k5
    have HR : Hid (rdN D s = 2 ∧ rdB D s = []) := ⟨by unfold rdN; rw [hw]; rfl, by unfold rdB; rw [hw]; rfl⟩
    go_upto_region 3 with fail
    go_quiet (fail)
    go_wp2
    go_ret2
    exact ⟨.slice none 0 0, by rw [HR.out.1]; rfl, by rw [HR.out.2]; exact World.ownsRow_nil _ _ _ _, ⟨rfl, rfl, rfl, Nat.le_refl _, fun _ _ => rfl⟩⟩
  | false =>
    rw [hw] at k5
    cases hf : fnd D.fs s with
    | none =>
      have hK2 : K = -1 := by rw [← HK.out]; exact fI_none hf
      subst hK2
      have HR : Hid (rdN D s = 3 ∧ rdB D s = []) := ⟨by unfold rdN; rw [hw, if_neg (by simp), if_pos hf], by unfold rdB; rw [hw, if_neg (by simp), hf]⟩
      clear hf
      go_upto_region 5 with fail
      go_quiet (fail)
      go_wp2
      go_ret2
      exact ⟨.slice none 0 0, by rw [HR.out.1]; rfl, by rw [HR.out.2]; exact World.ownsRow_nil _ _ _ _, ⟨rfl, rfl, rfl, Nat.le_refl _, fun _ _ => rfl⟩⟩
    | some i =>
      have hK2 : K = (i : Int) := by rw [← HK.out]; exact fI_some hf
      have HR : Hid (rdN D s = 0) := by show _ = _; unfold rdN; rw [hw, if_neg (by simp), hf, if_neg (by simp)]
      have HF : Hid (fnd D.fs s = some i) := hf
      subst hK2
      have hz : ¬ (i : Int) < 0 := by omega
      have hz2 : (0 : Int) ≤ (i : Int) := by omega
      obtain ⟨vf, L, hc⟩ := HD.out.1
      obtain ⟨n, hn⟩ : ∃ n, L.length = n := ⟨_, rfl⟩
      have hin : (i : Int) < (n : Int) := by have := fnd_lt hf; rw [hc.len] at this; omega
      obtain ⟨p, hp⟩ : ∃ p, L[i]? = some p := ⟨_, List.getElem?_eq_getElem (by omega)⟩
      obtain ⟨gF, cf, hv, hFg, hgl, k0, k1, k2, kz⟩ := hc.at hp
      rw [hn] at hv
      subst hv
      have c0 : w.cell? ⟨x, 0, none⟩ = some (.slice (some ⟨gF, 0, none⟩) n cf) := hc.c 0
      obtain ⟨av, cv, hav⟩ := d_shape (hc.byt i p hp)
      have hby := hc.byt i p hp
      have hfl : p.1.bs.length ≤ 1099511627776 := by have := usd_get (hc.file hp); have := HD.out.2.used; omega
      have HQ : Hid (rdB D s = p.1.bs) := by show _ = _; unfold rdB; rw [hw, if_neg (by simp), HF.out]; simp only; rw [hc.file hp]
      obtain ⟨⟨nm, bs, sf⟩, pv⟩ := p
      simp only at hav k1 hby hfl HQ
      subst hav
      obtain ⟨l1, l2, l3, l4⟩ := lies_own hby
      have HL : Hid (Lies .u8 w av bs ∧ (av = none → bs.length = 0 ∧ cv = 0)) := ⟨l1, l2⟩
      clear hc hp hf hn hby l1 l2 l3 l4 k0 k2 kz hFg hgl
      go_wp2_with (at_builtin; refine append_any _ rfl _ _ 35 rfl w.heap.size 5 i0 (.int .u8 0) 1 Tryz.underlying35 hi0 hs0 hs1 hs2 rfl _ _ _ rfl (World.ownsRow_nil _ _ _ _) .u8 av bs.length cv bs rfl HL.out.2 rfl HL.out.1 (by unfold maxLen; omega) (by omega) (Nat.le_refl _) ?_; intro vB w2 o2 g2; obtain ⟨aB, cB, rfl⟩ := d_shape o2; have H2 : Hid (w.grownBy w2 none ∧ w2.ownsRow w.heap.size 5 1 (.slice aB (0 + bs.length) cB) (0 + bs.length) ([] ++ bs.map (Value.int .u8))) := ⟨g2, o2⟩; clear o2 g2; rw [Nat.zero_add] at H2 ⊢)
      go_ret2
      exact ⟨_, by rw [HR.out]; rfl, by rw [HQ.out]; exact H2.out.2, ⟨H2.out.1.os, H2.out.1.tape, H2.out.1.output, H2.out.1.size, fun k hk => H2.out.1.block k hk (fun e => by cases e)⟩⟩

end Go.Proofs.YtllhbhogfffedaaGreatDoor.K

namespace Go.Proofs.YtllhbhogfffedaaGreatDoor.K
open Go.RowKit
set_option linter.unusedVariables false
set_option linter.unusedSimpArgs false

def jN : ByteArray := ⟨#[106, 111, 117, 114, 110, 97, 108]⟩
def jnN : ByteArray := ⟨#[106, 111, 117, 114, 110, 97, 108, 46, 110, 101, 119]⟩
/-- The sentinels lie where they lie, whatever becomes of F. -/
structure Snt (w : World) (F : Nat → Prop) (aD aF aN : Addr) : Prop where
  er : Er w aD aF aN
  nf : Ern F
  df : aD ≠ aF
  dn : aD ≠ aN
  fn : aF ≠ aN
  cD : (∃ (ca : Array Value) (ta : TypeId), w.heap[aD.block]? = some (.cells ca ta (0, 0))) ∧ ¬ F aD.block
  cF : (∃ (ca : Array Value) (ta : TypeId), w.heap[aF.block]? = some (.cells ca ta (0, 0))) ∧ ¬ F aF.block
  cN : (∃ (ca : Array Value) (ta : TypeId), w.heap[aN.block]? = some (.cells ca ta (0, 0))) ∧ ¬ F aN.block
theorem Snt.kd {w V : World} {F : Nat → Prop} {aD aF aN : Addr} (h : Snt w F aD aF aN) (hk : Kd F w V) : Snt V F aD aF aN := by
  have k : ∀ {a : Addr}, ((∃ (ca : Array Value) (ta : TypeId), w.heap[a.block]? = some (.cells ca ta (0, 0))) ∧ ¬ F a.block) → ((∃ (ca : Array Value) (ta : TypeId), V.heap[a.block]? = some (.cells ca ta (0, 0))) ∧ ¬ F a.block) := fun ⟨⟨ca, ta, hh⟩, hn⟩ => ⟨⟨ca, ta, (hk.same _ (Array.getElem?_eq_some_iff.1 hh).1 hn).trans hh⟩, hn⟩
  exact ⟨h.er.kd hk h.nf, h.nf, h.df, h.dn, h.fn, k h.cD, k h.cF, k h.cN⟩
/-- errors.Is(err, ErrNone), of what a call on the disk answers. -/
theorem isNone_any (w : World) (F : Nat → Prop) (aD aF aN : Addr) (r : Nat) (hr : r ≤ 3) (h : Snt w F aD aF aN) : Calls Tryz.prog 43 #[evD aD aF aN r, errV aN] w fun e w' => e = .returned (.bool (decide (r = 3))) ∧ w' = w := by
  obtain ⟨ca, ta, kD⟩ := h.cD.1
  obtain ⟨cb, tb, kF⟩ := h.cF.1
  obtain ⟨cc, tc, kN⟩ := h.cN.1
  match r, hr with
  | 0, _ => exact isNil7 aN w
  | 1, _ => exact isOther7 aF aN _ _ _ _ w h.fn kF kN
  | 2, _ => exact isOther7 aD aN _ _ _ _ w h.dn kD kN
  | 3, _ => exact isSame7 aN w
/-- errors.Is(err, ErrDown). -/
theorem isDown_any (w : World) (F : Nat → Prop) (aD aF aN : Addr) (r : Nat) (hr : r ≤ 3) (h : Snt w F aD aF aN) : Calls Tryz.prog 43 #[evD aD aF aN r, errV aD] w fun e w' => e = .returned (.bool (decide (r = 2))) ∧ w' = w := by
  obtain ⟨ca, ta, kD⟩ := h.cD.1
  obtain ⟨cb, tb, kF⟩ := h.cF.1
  obtain ⟨cc, tc, kN⟩ := h.cN.1
  match r, hr with
  | 0, _ => exact isNil7 aD w
  | 1, _ => exact isOther7 aF aD _ _ _ _ w (fun e => h.df e.symm) kF kD
  | 2, _ => exact isSame7 aD w
  | 3, _ => exact isOther7 aN aD _ _ _ _ w (fun e => h.dn e.symm) kN kD

/-- What a call answers, a missing file forgiven. -/
def rmE (r : Nat) : Nat := if r = 3 then 0 else r
theorem fileD_r (D : Dk) (s : ByteArray) (g : Nat → List Fl) : (fileD D s g).2 ≤ 3 := by
  have ha : actR D ≤ 3 := by unfold actR; split <;> omega
  unfold fileD
  split
  · simp
  · split
    · simp
    · exact ha

set_option maxHeartbeats 4000000 in
set_option maxRecDepth 100000 in
theorem removeRest_any (w : World) (d x : Nat) (F : Nat → Prop) (D : Dk) (B : Nat) (aD aF aN : Addr) (h : Dm w x F D) (hk : D.Ok B) (hB : B ≤ 1099511627776) (hd : w.cell? ⟨d, 0, none⟩ = some (.pointer (some ⟨x, 0, none⟩))) (nd : ¬ F d) (hS : Snt w F aD aF aN) :
    Calls Tryz.prog 39 #[.pointer (some ⟨d, 0, none⟩)] w fun e w' => e = .returned (evD aD aF aN (rmE (fileD D jnN (fun i => D.fs.eraseIdx i)).2)) ∧ Dm w' x (up F w) (fileD D jnN (fun i => D.fs.eraseIdx i)).1 ∧ Kd F w w' := by
  have HA := dRemove_any w d x F D jnN B aD aF aN h hk hB hd nd hS.er hS.nf
  have hr0 := fileD_r D jnN (fun i => D.fs.eraseIdx i)
  obtain ⟨⟨D3, r⟩, hR⟩ : ∃ R : Dk × Nat, fileD D jnN (fun i => D.fs.eraseIdx i) = R := ⟨_, rfl⟩
  rw [hR] at HA hr0 ⊢
  have HS : Hid (Snt w F aD aF aN ∧ r ≤ 3) := ⟨hS, hr0⟩
  unfold MP at HA
  simp only at HA ⊢
  obtain ⟨ev, hev⟩ : ∃ ev, evD aD aF aN r = ev := ⟨_, rfl⟩
  rw [hev] at HA
  unfold jnN at HA
  clear h hk hd nd hS hr0 hR
  go_enter Tryz.func39, Tryz.ntmps39
  go_upto_region 2 with (
    go_at_call 73
    refine HA.mono ?_
    rintro e V2 ⟨rfl, hD2, hK2⟩
    have HV : Hid (Dm V2 x (up F w) D3 ∧ Kd F w V2) := ⟨hD2, hK2⟩
    clear hD2 hK2)
  clear HA
  have HIs := isNone_any V2 F aD aF aN r HS.out.2 (HS.out.1.kd HV.out.2)
  rw [hev] at HIs
  have e3 : V2.cell? ⟨2, 0, none⟩ = some (.iface 218 (.pointer (some aN))) := (HS.out.1.kd HV.out.2).er.n
  unfold errV at HIs
  by_cases h3 : r = 3
  · have hb : decide (r = 3) = true := by simp [h3]
    rw [hb] at HIs
    have HE : Hid (evD aD aF aN (rmE r) = .nilIface) := by show _ = _; rw [h3]; rfl
    go_wp2_with (go_at_call 43; refine HIs.mono ?_; rintro e w9 ⟨rfl, hw9⟩; rw [hw9]; clear hw9)
    go_ret
    exact ⟨by rw [HE.out]; rfl, HV.out.1, HV.out.2⟩
  · have hb : decide (r = 3) = false := by simp [h3]
    rw [hb] at HIs
    have HE : Hid (evD aD aF aN (rmE r) = ev) := by show _ = _; rw [← hev]; unfold rmE; rw [if_neg h3]
    clear hev
    go_wp2_with (go_at_call 43; refine HIs.mono ?_; rintro e w9 ⟨rfl, hw9⟩; rw [hw9]; clear hw9)
    go_ret
    exact ⟨by rw [HE.out]; rfl, HV.out.1, HV.out.2⟩

end Go.Proofs.YtllhbhogfffedaaGreatDoor.K

namespace Go.Proofs.YtllhbhogfffedaaGreatDoor.K
open Go.RowKit
set_option linter.unusedVariables false
set_option linter.unusedSimpArgs false

theorem rdN_r (D : Dk) (s : ByteArray) : rdN D s ≤ 3 := by unfold rdN; split; omega; split <;> omega
theorem rdB_none {D : Dk} {s : ByteArray} (h : rdN D s = 3) : rdB D s = [] := by
  unfold rdN at h
  unfold rdB
  split at h
  · omega
  · split at h
    · rename_i h1 h2
      rw [if_neg h1, h2]
    · omega
def JrP (D : Dk) (aD aF aN : Addr) (w : World) (e : Ending) (w' : World) : Prop := ∃ v, e = .returned (.tuple #[v, evD aD aF aN (rmE (rdN D jN))]) ∧ w'.ownsRow w.heap.size 5 1 v (rdB D jN).length ((rdB D jN).map (Value.int .u8)) ∧ Below w.heap.size w w'

set_option maxHeartbeats 4000000 in
set_option maxRecDepth 100000 in
theorem jread_any (w : World) (d x : Nat) (F : Nat → Prop) (D : Dk) (B : Nat) (aD aF aN : Addr) (h : Dm w x F D) (hk : D.Ok B) (hB : B ≤ 1099511627776) (hd : w.cell? ⟨d, 0, none⟩ = some (.pointer (some ⟨x, 0, none⟩))) (hS : Snt w F aD aF aN) :
    Calls Tryz.prog 40 #[.pointer (some ⟨d, 0, none⟩)] w fun e w' => JrP D aD aF aN w e w' := by
  have HA := dReadB_any w d x F D jN B aD aF aN h hk hB hd hS.er
  have hr0 := rdN_r D jN
  obtain ⟨r, hr⟩ : ∃ r, rdN D jN = r := ⟨_, rfl⟩
  obtain ⟨bs, hbs⟩ : ∃ bs, rdB D jN = bs := ⟨_, rfl⟩
  have hbn : r = 3 → bs = [] := fun e => by rw [← hbs]; exact rdB_none (by rw [hr, e])
  unfold RdQ at HA
  unfold JrP
  rw [hr, hbs] at HA ⊢
  rw [hr] at hr0
  have HS : Hid (Snt w F aD aF aN ∧ r ≤ 3 ∧ (r = 3 → bs = [])) := ⟨hS, hr0, hbn⟩
  obtain ⟨ev, hev⟩ : ∃ ev, evD aD aF aN r = ev := ⟨_, rfl⟩
  rw [hev] at HA
  unfold jN at HA
  clear h hk hd hS hr0 hbn hr hbs
  go_enter Tryz.func40, Tryz.ntmps40
  go_upto_region 2 with (
    go_at_call 74
    refine HA.mono ?_
    rintro e V2 ⟨v, rfl, hO2, hB2⟩
    obtain ⟨a2, c2, hv2⟩ := d_shape hO2
    have HV : Hid (V2.ownsRow w.heap.size 5 1 v bs.length (bs.map (Value.int .u8)) ∧ Below w.heap.size w V2) := ⟨hO2, hB2⟩
    clear hO2 hB2
    generalize hbl : bs.length = m at hv2
    subst hv2)
  clear HA
  have hS2 : Snt V2 F aD aF aN := HS.out.1.kd (Kd.below HV.out.2)
  have HIs := isNone_any V2 F aD aF aN r HS.out.2.1 hS2
  rw [hev] at HIs
  have e3 : V2.cell? ⟨2, 0, none⟩ = some (.iface 218 (.pointer (some aN))) := hS2.er.n
  clear hS2
  unfold errV at HIs
  by_cases h3 : r = 3
  · have hb : decide (r = 3) = true := by simp [h3]
    rw [hb] at HIs
    have HE : Hid (evD aD aF aN (rmE r) = .nilIface ∧ bs = []) := ⟨by rw [h3]; rfl, HS.out.2.2 h3⟩
    clear hbl
    go_wp2_with (go_at_call 43; refine HIs.mono ?_; rintro e w9 ⟨rfl, hw9⟩; rw [hw9]; clear hw9)
    go_ret2
    exact ⟨.slice none 0 0, by rw [HE.out.1]; rfl, by rw [HE.out.2]; exact World.ownsRow_nil _ _ _ _, HV.out.2⟩
  · have hb : decide (r = 3) = false := by simp [h3]
    rw [hb] at HIs
    have HE : Hid (evD aD aF aN (rmE r) = ev) := by show _ = _; rw [← hev]; unfold rmE; rw [if_neg h3]
    clear hev hbl
    go_wp2_with (go_at_call 43; refine HIs.mono ?_; rintro e w9 ⟨rfl, hw9⟩; rw [hw9]; clear hw9)
    go_ret2
    exact ⟨_, by rw [HE.out]; rfl, HV.out.1, HV.out.2⟩

theorem number_nil (w : World) : Calls Tryz.prog 16 #[.nilIface] w fun e w' => e = .returned (.int .i64 0) ∧ Hid (Below w.heap.size w w') := by
  go_enter Tryz.func16, Tryz.ntmps16
  go_wp2
  go_ret
  exact ⟨rfl, (Below.refl _ _).alloc (Nat.le_refl _) _⟩
end Go.Proofs.YtllhbhogfffedaaGreatDoor.K
