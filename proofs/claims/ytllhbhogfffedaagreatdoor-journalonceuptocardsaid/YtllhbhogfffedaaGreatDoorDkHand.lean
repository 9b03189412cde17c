import Derived.Test.YtllhbhogfffedaaGreatDoorDkCr
namespace Go.Proofs.YtllhbhogfffedaaGreatDoor.K
open Go.RowKit
set_option linter.unusedVariables false
set_option linter.unusedSimpArgs false

/-! ## The hand on a disk -/
def dk0 (M : Int) : Dk := ⟨[], M, false, 0, false, false⟩
def nn0 (r : Int) : Int := if r < 0 then 0 else r
theorem dNew_any (w : World) (r : Int) : Calls Tryz.prog 7 #[.int .i64 r] w fun e w' => e = .returned (.pointer (some ⟨w.heap.size + 1, 0, none⟩)) ∧ Dm w' w.heap.size (fun g => g = w.heap.size) (dk0 (nn0 r)) ∧ w'.cell? ⟨w.heap.size + 1, 0, none⟩ = some (.pointer (some ⟨w.heap.size, 0, none⟩)) ∧ w'.heap.size = w.heap.size + 2 ∧ Below w.heap.size w w' := by
  obtain ⟨M, hM⟩ : ∃ M, (if r < 0 then 0 else r) = M := ⟨_, rfl⟩
  have HM : Hid (nn0 r = M) := hM
  obtain ⟨W, hW⟩ : ∃ W, (w.alloc (.cells #[.slice none 0 0, .int .i64 M, .bool false, .int .i64 0, .bool false, .bool false] 85)).alloc (.cells #[.pointer (some ⟨w.heap.size, 0, none⟩)] 87) = W := ⟨_, rfl⟩
  have HR : Hid (Dm W w.heap.size (fun g => g = w.heap.size) (dk0 (nn0 r)) ∧ W.cell? ⟨w.heap.size + 1, 0, none⟩ = some (.pointer (some ⟨w.heap.size, 0, none⟩)) ∧ W.heap.size = w.heap.size + 2 ∧ Below w.heap.size w W) := by
    rw [HM.out]
    have hb : W.heap[w.heap.size]? = some (.cells #[.slice none 0 0, .int .i64 M, .bool false, .int .i64 0, .bool false, .bool false] 85 (0, 0)) := by
      rw [← hW]
      exact (Below.heap_alloc _ _ _ (by simp)).trans (heap_alloc_new _ _)
    refine ⟨⟨.slice none 0 0, [], rfl, hb, World.ownsRow_nil _ _ _ _, fun i p hp => by simp at hp, fun i j p q g hp => by simp at hp, rfl, fun g hg => (by cases hg), fun i p g hp => by simp at hp⟩, by rw [← hW]; simp, by rw [← hW]; simp, by rw [← hW]; exact ((Below.refl _ _).alloc (Nat.le_refl _) _).alloc (by simp) _⟩
  clear HM
  go_enter Tryz.func7, Tryz.ntmps7
  go_wp2
  all_goals (
    go_ret
    exact ⟨rfl, HR.out⟩)

theorem dDisk_any (w : World) (b x : Nat) (h : w.cell? ⟨b, 0, none⟩ = some (.pointer (some ⟨x, 0, none⟩))) : Calls Tryz.prog 13 #[.pointer (some ⟨b, 0, none⟩)] w fun e w' => e = .returned (.pointer (some ⟨w.heap.size, 0, none⟩)) ∧ w' = w.alloc (.cells #[.pointer (some ⟨x, 0, none⟩)] 102) := by
  go_enter Tryz.func13, Tryz.ntmps13
  go_wp2
  go_ret
  exact ⟨rfl, rfl⟩
def armD (D : Dk) (N : Int) (b : Bool) : Dk := { D with arm := true, acts := nn0 N, dn := b }
set_option maxHeartbeats 4000000 in
theorem dArm_any (w : World) (b x : Nat) (F : Nat → Prop) (D : Dk) (N : Int) (dn : Bool) (hd : Dm w x F D) (h : w.cell? ⟨b, 0, none⟩ = some (.pointer (some ⟨x, 0, none⟩))) (nb : ¬ F b) : Calls Tryz.prog 14 #[.pointer (some ⟨b, 0, none⟩), .int .i64 N, .bool dn] w fun e w' => (∃ v, e = .returned v) ∧ Dm w' x F (armD D N dn) ∧ Kd F w w' := by
  obtain ⟨vf, L, hc⟩ := hd
  obtain ⟨M, hM⟩ : ∃ M, (if N < 0 then 0 else N) = M := ⟨_, rfl⟩
  have HM : Hid (nn0 N = M) := hM
  have hbx : b ≠ x := fun e => nb (e ▸ hc.fx)
  have k2 : w.cell? ⟨x, 2, none⟩ = some (.bool D.arm) := hc.c 2
  have k3 : w.cell? ⟨x, 3, none⟩ = some (.int .i64 D.acts) := hc.c 3
  have k4 : w.cell? ⟨x, 4, none⟩ = some (.bool D.dn) := hc.c 4
  have z2 := hc.z 2
  have z3 := hc.z 3
  have z4 := hc.z 4
  have HR : Hid (∀ V : World, V.heap = (((w.setCell ⟨x, 2, none⟩ (.bool true)).setCell ⟨x, 3, none⟩ (.int .i64 M)).setCell ⟨x, 4, none⟩ (.bool dn)).heap → V.os = w.os → V.tape = w.tape → V.output = w.output → Dm V x F (armD D N dn) ∧ Kd F w V) := fun V hV h1 h2 h3 => by
    have e1 : (w.setCell ⟨x, 2, none⟩ (.bool true)).heap[x]? = _ := heap_setCell_same w x 2 _ _ _ hc.box
    have e2 : ((w.setCell ⟨x, 2, none⟩ (.bool true)).setCell ⟨x, 3, none⟩ (.int .i64 M)).heap[x]? = _ := heap_setCell_same _ x 3 _ _ _ e1
    have e3 : (((w.setCell ⟨x, 2, none⟩ (.bool true)).setCell ⟨x, 3, none⟩ (.int .i64 M)).setCell ⟨x, 4, none⟩ (.bool dn)).heap[x]? = _ := heap_setCell_same _ x 4 _ _ _ e2
    have ho : ∀ k, k ≠ x → V.heap[k]? = w.heap[k]? := fun k hk => by
      rw [hV]
      exact (heap_setCell_other _ _ _ _ hk).trans ((heap_setCell_other _ _ _ _ hk).trans (heap_setCell_other _ _ _ _ hk))
    refine ⟨⟨vf, L, hc.boxed rfl ?_ ho⟩, ⟨h1, h2, h3, by rw [hV]; simp [World.setCell], fun k hk hn => ho k (fun e => hn (e ▸ hc.fx))⟩⟩
    rw [hV, e3]
    unfold armD
    rw [HM.out]
    rfl
  clear hc HM
  go_enter Tryz.func14, Tryz.ntmps14
  go_wp2_with fail
  go_region_held3 (fun V => V.cell? ⟨b, 0, none⟩ = some (.pointer (some ⟨x, 0, none⟩)))
    (first | exact h | exact set_cell h hbx | exact set_cell (set_cell h hbx) hbx | exact set_cell (set_cell (set_cell h hbx) hbx) hbx)
    (fail)
  all_goals (
    refine bodyPost_end (v := .tuple #[]) (by simp [results, Tryz.results14, go_sem]) rfl ?_
    refine ⟨⟨_, rfl⟩, HR.out _ rfl rfl rfl rfl⟩)

end Go.Proofs.YtllhbhogfffedaaGreatDoor.K

namespace Go.Proofs.YtllhbhogfffedaaGreatDoor.K
open Go.RowKit
set_option linter.unusedVariables false
set_option linter.unusedSimpArgs false

section
variable {W w' : World} {x gF nf cf i : Nat} {F : Nat → Prop} {D : Dk} {vf : Value} {L : List Fv} {p : Fv}
/-- A file's bytes, in a row that has grown or is new. -/
theorem Dc.appA (h : Dc W x F D (.slice (some ⟨gF, 0, none⟩) nf cf) L) (hp : L[i]? = some p) {v' : Value} {bs : List Int} (r1 : w'.ownsRow 0 5 1 v' bs.length (bs.map (Value.int .u8))) (r2 : W.grownBy w' p.2.ownBlock) (r3 : ∀ g, v'.ownBlock = some g → W.heap.size ≤ g) :
    Dc (w'.setCell ⟨gF, i * 3 + 1, none⟩ v') x (up F W) (D.fs' (D.fs.set i ⟨p.1.nm, bs, p.1.sf⟩)) (.slice (some ⟨gF, 0, none⟩) nf cf) (L.set i (⟨p.1.nm, bs, p.1.sf⟩, v')) := by
  obtain rfl : L.length = nf := by obtain ⟨a, c, e⟩ := d_shape h.row; simp only [Value.slice.injEq] at e; exact e.2.1.symm
  have hgx : gF ≠ x := fun e => h.rx (by rw [e]; rfl)
  have hgl : gF < W.heap.size := (d_lt h.row gF rfl).2
  have hrow : w'.ownsRow 0 75 3 (.slice (some ⟨gF, 0, none⟩) L.length cf) L.length (L.flatMap fcell) := d_blk h.row (fun g hg => r2.block g (d_lt h.row g hg).2 (fun e => h.rb hp hg e.symm))
  have hset : ∀ g, g ≠ gF → (w'.setCell ⟨gF, i * 3 + 1, none⟩ v').heap[g]? = w'.heap[g]? := fun g hg => heap_setCell_other _ _ _ _ hg
  have hbj : ∀ (j : Nat) q, L[j]? = some q → ∀ g, q.2.ownBlock = some g → g ≠ gF := fun j q hq g hg e => h.rb hq rfl (by rw [← e]; exact hg)
  have hv'g : ∀ g, v'.ownBlock = some g → g ≠ gF := fun g hg e => d_apart hrow r1 (by decide) (g := gF) rfl (by rw [← e]; exact hg)
  refine ⟨by rw [List.map_set]; simp only [Dk.fs', h.map], ?_, ?_, fun j q hq => ?_, fun j k q u g hj hk hg1 hg2 => ?_, .inl h.fx, fun g hg => .inl (h.fr g hg), fun j q g hj hg => ?_⟩
  · exact (hset x (fun e => hgx e.symm)).trans ((r2.block x h.xlt (fun e => h.bx hp e.symm)).trans h.box)
  · have h1 := World.ownsRow.stored hrow (i * 3 + 1) v'
    rw [List.length_set, ← fcell_set1 bs v' hp]
    exact h1.1
  · rcases set_get hq with ⟨rfl, rfl⟩ | ⟨hne, hq'⟩
    · exact d_blk r1 (fun g hg => hset g (hv'g g hg))
    · refine d_blk (h.byt j q hq') (fun g hg => (hset g (hbj j q hq' g hg)).trans (r2.block g (d_lt (h.byt j q hq') g hg).2 (fun e => hne (h.dis j i q p g hq' hp hg e.symm))))
  · have new : ∀ (j : Nat) q, j ≠ i → L[j]? = some q → q.2.ownBlock = some g → v'.ownBlock = some g → False := fun j q hji hq hg hg' => by
      have h1 := r3 g hg'
      have := (d_lt (h.byt j q hq) g hg).2
      omega
    rcases set_get hj with ⟨rfl, rfl⟩ | ⟨hne, hj'⟩
    · rcases set_get hk with ⟨rfl, rfl⟩ | ⟨hne2, hk'⟩
      · rfl
      · exact (new k u hne2 hk' hg2 hg1).elim
    · rcases set_get hk with ⟨rfl, rfl⟩ | ⟨hne2, hk'⟩
      · exact (new j q hne hj' hg1 hg2).elim
      · exact h.dis j k q u g hj' hk' hg1 hg2
  · rcases set_get hj with ⟨rfl, rfl⟩ | ⟨hne, hj'⟩
    · exact .inr (r3 g hg)
    · exact .inl (h.fb j q g hj' hg)
end
theorem lies_own {w : World} {n c : Nat} {a : Option Addr} {bs : List Int} (h : w.ownsRow 0 5 1 (.slice a n c) n (bs.map (Value.int .u8))) : Lies .u8 w a bs ∧ (a = none → n = 0 ∧ c = 0) ∧ n ≤ c ∧ bs.length = n := by
  have hl : bs.length = n := by have := h.1; simpa using this
  obtain ⟨_, ⟨e, h0⟩ | ⟨g, cap, cur, e, _, hh, h5, h6, h7, h8⟩⟩ := id h
  · cases e
    exact ⟨.inl (List.eq_nil_of_length_eq_zero hl), fun _ => ⟨rfl, rfl⟩, Nat.le_refl _, hl⟩
  · cases e
    refine ⟨.inr ⟨g, 0, rfl, fun j hj => ?_⟩, (fun e => by cases e), h5, hl⟩
    rw [Nat.zero_add]
    refine (World.ownsRow.cellAt h j (by omega)).trans ?_
    rw [List.getElem?_map, List.getElem?_eq_getElem hj, List.getD_eq_getElem?_getD, List.getElem?_eq_getElem hj]
    rfl
theorem lies_take {w : World} {a : Option Addr} {bs : List Int} (h : Lies .u8 w a bs) (k : Nat) : Lies .u8 w a (bs.take k) := by
  rcases h with rfl | ⟨b, off, e, hc⟩
  · exact .inl (by simp)
  · refine .inr ⟨b, off, e, fun j hj => ?_⟩
    have hj2 : j < bs.length := by rw [List.length_take] at hj; omega
    have hj3 : j < k := by rw [List.length_take] at hj; omega
    rw [hc j hj2]
    simp [List.getD_eq_getElem?_getD, List.getElem?_take, hj3]

/-! ## A loss of power -/
def crQ (f : Fl) (M : Int) : Int := if (f.bs.length : Int) - f.sf < M then (f.bs.length : Int) - f.sf else M
def cr1 (keep : Int) (f : Fl) : Fl := ⟨f.nm, f.bs.take (f.sf + crQ f (nn0 keep)).toNat, f.sf + crQ f (nn0 keep)⟩
def crD (D : Dk) (keep : Int) : Dk := { D with fs := D.fs.map (cr1 keep), arm := false, dw := false }
def crF (fs : List Fl) (keep : Int) (i : Nat) : List Fl := (fs.take i).map (cr1 keep) ++ fs.drop i
theorem crF_step {fs : List Fl} {keep : Int} {i : Nat} {f : Fl} (h : fs[i]? = some f) : (crF fs keep i)[i]? = some f ∧ (crF fs keep i).set i (cr1 keep f) = crF fs keep (i + 1) := by
  have hi := (List.getElem?_eq_some_iff.mp h).1
  have hl : ((fs.take i).map (cr1 keep)).length = i := by simp; omega
  have hd : fs.drop i = f :: fs.drop (i + 1) := by
    rw [List.drop_eq_getElem_cons hi, (List.getElem?_eq_some_iff.mp h).2]
  unfold crF
  refine ⟨by rw [List.getElem?_append_right (by omega), hl, hd]; simp, ?_⟩
  rw [List.set_append_right _ _ (by omega), hl, hd]
  have ht : fs.take (i + 1) = fs.take i ++ [f] := by rw [List.take_add_one, h]; rfl
  rw [ht]
  simp
theorem crF_all (fs : List Fl) (keep : Int) {n : Nat} (hn : fs.length ≤ n) : crF fs keep n = fs.map (cr1 keep) := by
  unfold crF
  rw [List.take_of_length_le hn, List.drop_of_length_le hn]; simp
def Cj (w : World) (x n : Nat) (F : Nat → Prop) (D : Dk) (keep : Int) (v : Value) (wr : World) : Prop := ∃ i : Nat, v = .int .i64 i ∧ i ≤ n ∧ Dm wr x (up F w) (D.fs' (crF D.fs keep i)) ∧ Kd F w wr

set_option maxHeartbeats 8000000 in
set_option maxRecDepth 100000 in
theorem dCrash_any (w : World) (b x : Nat) (F : Nat → Prop) (D : Dk) (keep : Int) (B : Nat) (hd : Dm w x F D) (hk : D.Ok B) (hB : B ≤ 1099511627776) (h : w.cell? ⟨b, 0, none⟩ = some (.pointer (some ⟨x, 0, none⟩))) (nb : ¬ F b) : Calls Tryz.prog 21 #[.pointer (some ⟨b, 0, none⟩), .int .i64 keep] w fun e w' => (∃ v, e = .returned v) ∧ Dm w' x (up F w) (crD D keep) ∧ Kd F w w' := by
  have HD : Hid (Dm w x F D) := hd
  obtain ⟨n, hn⟩ : ∃ n, D.fs.length = n := ⟨_, rfl⟩
  obtain ⟨vf, L, hc⟩ := hd
  have hnb : n ≤ 1099511627776 := by have := hk.len; omega
  obtain ⟨af, cf, hv⟩ := d_shape hc.row
  rw [← hc.len, hn] at hv
  subst hv
  have c0 : w.cell? ⟨x, 0, none⟩ = some (.slice af n cf) := hc.c 0
  have HN : Hid (D.fs.length = n) := hn
  have HK : Hid (D.Ok B) := hk
  have HB : Hid (w.cell? ⟨b, 0, none⟩ = some (.pointer (some ⟨x, 0, none⟩)) ∧ ¬ F b) := ⟨h, nb⟩
  obtain ⟨M, hM⟩ : ∃ M, (if keep < 0 then 0 else keep) = M := ⟨_, rfl⟩
  have HM : Hid ((if keep < 0 then 0 else keep) = M ∧ nn0 keep = M ∧ 0 ≤ M) := ⟨hM, hM, by rw [← hM]; split <;> omega⟩
  clear hc hn hk nb hM
  go_enter Tryz.func21, Tryz.ntmps21
  go_wp2
  clear c0 h
  go_loopw [14] (fun v wr => Cj w x n F D keep v wr) (fun v _ => n - (intOf v).toNat)
  case atStart =>
    have e : crF D.fs keep 0 = D.fs := by simp [crF]
    exact ⟨0, rfl, by omega, by rw [e]; exact HD.out.mono (fun k h _ => .inl h), Kd.refl _ _⟩
  case round =>
    obtain ⟨i, rfl, hi, hDr, hKr⟩ := hrel
    have HDr : Hid (Dm wr x (up F w) (D.fs' (crF D.fs keep i)) ∧ Kd F w wr) := ⟨hDr, hKr⟩
    have hb := hKr.cell HB.out.1 HB.out.2
    have nub : ¬ up F w b := fun e => e.elim HB.out.2 (fun q => by have := World.block_lt_of_cell? w ⟨b, 0, none⟩ HB.out.1; simp only at this; omega)
    by_cases hin : i = n
    · have hin2 := hin.symm
      clear hin
      subst hin2
      have hz : ¬ (n : Int) < (n : Int) := by omega
      obtain ⟨vf, L, hc⟩ := hDr
      have hbx : b ≠ x := fun e => nub (e ▸ hc.fx)
      have k2 : wr.cell? ⟨x, 2, none⟩ = some (.bool D.arm) := hc.c 2
      have k5 : wr.cell? ⟨x, 5, none⟩ = some (.bool D.dw) := hc.c 5
      have z2 := hc.z 2
      have z5 := hc.z 5
      have HR : Hid (∀ V : World, V.heap = ((wr.setCell ⟨x, 2, none⟩ (.bool false)).setCell ⟨x, 5, none⟩ (.bool false)).heap → V.os = wr.os → V.tape = wr.tape → V.output = wr.output → Dm V x (up F w) (crD D keep) ∧ Kd F w V) := fun V hV h1 h2 h3 => by
        have e1 : (wr.setCell ⟨x, 2, none⟩ (.bool false)).heap[x]? = _ := heap_setCell_same wr x 2 _ _ _ hc.box
        have e2 : ((wr.setCell ⟨x, 2, none⟩ (.bool false)).setCell ⟨x, 5, none⟩ (.bool false)).heap[x]? = _ := heap_setCell_same _ x 5 _ _ _ e1
        have ho : ∀ k, k ≠ x → V.heap[k]? = wr.heap[k]? := fun k hk => by
          rw [hV]
          exact (heap_setCell_other _ _ _ _ hk).trans (heap_setCell_other _ _ _ _ hk)
        have hfs : (crD D keep).fs = (D.fs' (crF D.fs keep n)).fs := by
          show D.fs.map (cr1 keep) = crF D.fs keep n
          exact (crF_all _ _ (by have := HN.out; omega)).symm
        refine ⟨⟨vf, L, hc.boxed hfs ?_ ho⟩, HDr.out.2.trans ⟨h1, h2, h3, by rw [hV]; simp [World.setCell], fun k hk hn => ho k (fun e => ?_)⟩⟩
        · rw [hV, e2]
          unfold crD
          rfl
        · have hF : F x := by obtain ⟨_, _, h9⟩ := HD.out; exact h9.fx
          exact hn (e ▸ hF)
      clear hc
      go_wp2_with fail
      go_region_held3 (fun V => V.cell? ⟨b, 0, none⟩ = some (.pointer (some ⟨x, 0, none⟩)))
        (first | exact hb | exact set_cell hb hbx | exact set_cell (set_cell hb hbx) hbx)
        (fail)
      all_goals (
        refine bodyPost_end (v := .tuple #[]) (by simp [results, Tryz.results21, go_sem]) rfl ?_
        exact ⟨⟨_, rfl⟩, HR.out _ rfl rfl rfl rfl⟩)
    · have hz : (i : Int) < (n : Int) := by omega
      have hi0 : (0 : Int) ≤ (i : Int) := by omega
      have hwi : IntKind.i64.wrap ((i : Int) + 1) = (i : Int) + 1 := by rw [IntKind.wrap_i64]; omega
      obtain ⟨f, hf⟩ : ∃ f, D.fs[i]? = some f := ⟨_, List.getElem?_eq_getElem (by rw [HN.out]; omega)⟩
      obtain ⟨hf1, hf2⟩ := crF_step (keep := keep) hf
      have hok := HK.out.fs f (List.mem_of_getElem? hf)
      have hfl : f.bs.length ≤ 1099511627776 := by have := usd_get hf; have := HK.out.used; omega
      obtain ⟨vf, L, hc⟩ := hDr
      have hll : L.length = n := by
        have h1 := hc.len
        rw [← h1]
        show (crF D.fs keep i).length = n
        unfold crF
        rw [List.length_append, List.length_map, List.length_take, List.length_drop, HN.out]; omega
      obtain ⟨p, hp⟩ : ∃ p, L[i]? = some p := ⟨_, List.getElem?_eq_getElem (by omega)⟩
      have hpf : p.1 = f := by
        have h1 := hc.file hp
        have h2 : (D.fs' (crF D.fs keep i)).fs[i]? = some f := hf1
        rw [h2] at h1
        exact (Option.some.inj h1).symm
      obtain ⟨gF, cfx, hv, hFg, hgl, k0, k1, k2, kz⟩ := hc.at hp
      rw [hll] at hv
      subst hv
      have c0 : wr.cell? ⟨x, 0, none⟩ = some (.slice (some ⟨gF, 0, none⟩) n cfx) := hc.c 0
      obtain ⟨av, cv, hav⟩ := d_shape (hc.byt i p hp)
      obtain ⟨⟨nm, bs, sf⟩, pv⟩ := p
      simp only at hpf hav k0 k1 k2
      subst hpf
      subst hav
      simp only at hfl
      obtain ⟨q, hq⟩ : ∃ q, crQ ⟨nm, bs, sf⟩ M = q := ⟨_, rfl⟩
      have hq' : (if ((bs.length : Nat) : Int) - sf < M then ((bs.length : Nat) : Int) - sf else M) = q := hq
      have hlo : 0 ≤ sf := hok.lo
      have hhi : sf ≤ bs.length := hok.hi
      have hq2 : 0 ≤ q ∧ sf + q ≤ bs.length := by have := HM.out.2.2; rw [← hq']; split <;> omega
      have HCc : Hid (Dc wr x (up F w) (D.fs' (crF D.fs keep i)) (.slice (some ⟨gF, 0, none⟩) n cfx) L ∧ L[i]? = some (⟨nm, bs, sf⟩, .slice av bs.length cv) ∧ up F w gF) := ⟨hc, hp, hFg⟩
      have hw1 : IntKind.i64.wrap ((bs.length : Int) - sf) = (bs.length : Int) - sf := by rw [IntKind.wrap_i64]; omega
      have hw2 : IntKind.i64.wrap (sf + q) = sf + q := by rw [IntKind.wrap_i64]; omega
      obtain ⟨k, hkk⟩ : ∃ k : Nat, sf + q = (k : Int) := ⟨(sf + q).toNat, by omega⟩
      have hkl : k ≤ bs.length := by omega
      have HQ : Hid (cr1 keep ⟨nm, bs, sf⟩ = ⟨nm, bs.take k, (k : Int)⟩) := by
        show _ = _
        unfold cr1
        rw [HM.out.2.1, hq, hkk]
        simp
      clear hKr hf1 hok hq
      go_wp2_with fail
      refine regCr4 _ gF i keep sf M q av bs.length cv wr HM.out.1 hq' hw1 hw2 k2 (kz _) k1 (fun y => (World.cell?_setCell_other _ _ _ _ (by simp)).trans k1) ?_
      rw [hkk]
      obtain ⟨V1, hV1⟩ : ∃ V, wr.drew.setCell ⟨gF, i * 3 + 2, none⟩ (.int .i64 (k : Int)) = V := ⟨_, rfl⟩
      rw [hV1]
      have hc1 := (hc.same (w' := wr.drew) (fun _ _ _ => rfl)).cellF hp (k := i * 3 + 2) (v := .int .i64 (k : Int)) (q := ⟨nm, bs, (k : Int)⟩) rfl (fcell_set2 _ hp)
      rw [hV1] at hc1
      have HK1 : Hid (Kd F w V1 ∧ wr.heap.size ≤ V1.heap.size) := by
        rw [← hV1]
        refine ⟨HDr.out.2.upTrans ((Kd.refl _ _).drew.trans (Kd.set hFg)), by simp [World.setCell]⟩
      have hp1 : (L.set i (((⟨nm, bs, (k : Int)⟩ : Fl), Value.slice av bs.length cv) : Fv))[i]? = some (⟨nm, bs, (k : Int)⟩, .slice av bs.length cv) := by
        rw [List.getElem?_set_self (List.getElem?_eq_some_iff.mp hp).1]
      obtain ⟨g2, cf2, hv2, _, _, y0, y1, y2, yz⟩ := hc1.at hp1
      obtain ⟨rfl, _, rfl⟩ : gF = g2 ∧ _ ∧ cfx = cf2 := by simpa using hv2
      simp only at y0 y1 y2
      have HC1 : Hid (Dc V1 x (up F w) ((D.fs' (crF D.fs keep i)).fs' ((D.fs' (crF D.fs keep i)).fs.set i ⟨nm, bs, (k : Int)⟩)) (.slice (some ⟨gF, 0, none⟩) n cfx) (L.set i (⟨nm, bs, (k : Int)⟩, .slice av bs.length cv))) := hc1
      obtain ⟨cur, hcur⟩ := hc1.cur
      have hby := hc1.byt i _ hp1
      obtain ⟨hz1, hz2, hz3, _⟩ := lies_own hby
      have HRes : Hid (∀ v' w', w'.ownsRow 0 5 1 v' k ((bs.take k).map (Value.int .u8)) → V1.drew.grownBy w' (Value.slice none 0 0).ownBlock → (v'.ownBlock = (Value.slice none 0 0).ownBlock ∨ ∃ g, v'.ownBlock = some g ∧ V1.heap.size ≤ g) → Cj w x n F D keep (.int .i64 ((i : Int) + 1)) (w'.setCell ⟨gF, i * 3 + 1, none⟩ v')) := fun v' w' r1 r2 r3 => by
        have hg2 : V1.grownBy w' (Value.slice av bs.length cv).ownBlock := ⟨r2.os, r2.tape, r2.output, r2.size, fun k hk _ => r2.block k hk (by simp [Value.ownBlock])⟩
        have hl2 : (bs.take k).length = k := by rw [List.length_take]; omega
        have h1 := HC1.out.appA hp1 (bs := bs.take k) (by rw [hl2]; exact r1) hg2 (fun g hg => by
          rcases r3 with e | ⟨g', e, hl⟩
          · rw [e] at hg; cases hg
          · have : g' = g := Option.some.inj (e.symm.trans hg)
            omega)
        refine ⟨i + 1, by simp, by omega, ?_, ?_⟩
        · have e9 : ((D.fs' (crF D.fs keep i)).fs' ((D.fs' (crF D.fs keep i)).fs.set i ⟨nm, bs, (k : Int)⟩)).fs' (((D.fs' (crF D.fs keep i)).fs' ((D.fs' (crF D.fs keep i)).fs.set i ⟨nm, bs, (k : Int)⟩)).fs.set i ⟨nm, bs.take k, (k : Int)⟩) = D.fs' (crF D.fs keep (i + 1)) := by
            show D.fs' (((crF D.fs keep i).set i ⟨nm, bs, (k : Int)⟩).set i ⟨nm, bs.take k, (k : Int)⟩) = _
            rw [set_set', ← hf2, HQ.out]
          rw [e9] at h1
          have hs1 := HK1.out.2
          have hs2 := HDr.out.2.size
          exact ⟨_, _, h1.mono (fun k h _ => h.elim id (fun q => .inr (by omega)))⟩
        · have hFg := HCc.out.2.2
          refine HK1.out.1.upTrans (F := F) (a := w) ?_
          exact (Kd.grown hg2 (fun g hg => HCc.out.1.fb i _ g HCc.out.2.1 hg)).trans (Kd.set hFg)
      have HZ : Hid (Lies .u8 V1 av bs ∧ (av = none → bs.length = 0 ∧ cv = 0) ∧ bs.length ≤ cv ∧ k ≤ bs.length ∧ bs.length ≤ 1099511627776 ∧ V1.ownsRow 0 5 1 (.slice av bs.length cv) bs.length (bs.map (Value.int .u8)) ∧ ∃ cur, V1.heap[gF]? = some (.cells cur 75 (0, 0))) := ⟨hz1, hz2, hz3, hkl, hfl, hby, _, hcur⟩
      have HY : Hid (V1.cell? ⟨gF, i * 3 + 1, none⟩ = some (.slice av bs.length cv) ∧ V1.cell? ⟨gF, i * 3 + 2, none⟩ = some (.int .i64 (k : Int))) := ⟨y1, y2⟩
      clear hc hp hc1 hp1 hV1 hv2 k0 k1 k2 kz hq' hf2 y0 y1 y2 yz hw1 hw2 hb c0 hcur hz1 hz2 hz3 hkl hfl hby hkk hq2 hlo hhi hf
      go_wp2_with fail
      obtain ⟨hz1, hz2, hz3, hkl, hfl, hby, cur, hcur⟩ := HZ.out
      obtain ⟨y1, y2⟩ := HY.out
      clear HZ HY
      cases av with
      | none =>
        obtain ⟨hb0, hcv0⟩ := hz2 rfl
        have hk0 : k = 0 := by omega
        subst hk0
        subst hcv0
        rw [hb0] at y1
        rw [hb0]
        refine regCr5N _ gF i (bs.take 0) cur V1 (by simp) (.inl (by simp)) hcur y1 (fun V hV => grown_cell y2 ⟨hV.os, hV.tape, hV.output, hV.size, hV.block⟩ (by simp [Value.ownBlock])) (fun V hV y => (World.cell?_setCell_other _ _ _ _ (by simp)).trans (grown_cell y2 ⟨hV.os, hV.tape, hV.output, hV.size, hV.block⟩ (by simp [Value.ownBlock]))) ?_
        intro v' w' r1 r2 r3
        have HF : Hid _ := HRes.out v' w' r1 r2 r3
        clear HRes y1 y2 hby r1 r2 r3 hz1 hz2 hz3 hkl hfl hcur
        go_wp2
        exact ⟨HF.out, by simp [intOf]; omega⟩
      | some ad =>
        obtain ⟨gv, hgv⟩ : ∃ gv, ad = ⟨gv, 0, none⟩ := by
          obtain ⟨_, ⟨e, _⟩ | ⟨g, cap, cur', e, _⟩⟩ := hby
          · cases e
          · cases e; exact ⟨g, rfl⟩
        subst hgv
        refine regCr5S _ gF i (bs.take k) cur gv bs.length cv k V1 (by omega) (by omega) (by omega) (by rw [List.length_take]; omega) (lies_take hz1 k) hcur y1 (fun V hV => grown_cell y2 ⟨hV.os, hV.tape, hV.output, hV.size, hV.block⟩ (by simp [Value.ownBlock])) (fun V hV y => (World.cell?_setCell_other _ _ _ _ (by simp)).trans (grown_cell y2 ⟨hV.os, hV.tape, hV.output, hV.size, hV.block⟩ (by simp [Value.ownBlock]))) ?_
        intro v' w' r1 r2 r3
        have HF : Hid _ := HRes.out v' w' r1 r2 r3
        clear HRes y1 y2 hby r1 r2 r3 hz1 hz2 hz3 hkl hfl hcur
        go_wp2
        exact ⟨HF.out, by simp [intOf]; omega⟩

end Go.Proofs.YtllhbhogfffedaaGreatDoor.K
