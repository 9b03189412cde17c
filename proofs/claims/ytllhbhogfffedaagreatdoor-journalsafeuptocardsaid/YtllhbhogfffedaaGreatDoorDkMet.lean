import Derived.Test.YtllhbhogfffedaaGreatDoorDkCl4
import Derived.Deep.CutRange
namespace Go.Proofs.YtllhbhogfffedaaGreatDoor.K
open Go.RowKit
set_option linter.unusedVariables false
set_option linter.unusedSimpArgs false

def MP (x : Nat) (F : Nat → Prop) (r : Dk × Nat) (aD aF aN : Addr) (w : World) (e : Ending) (w' : World) : Prop := e = .returned (evD aD aF aN r.2) ∧ Dm w' x (up F w) r.1 ∧ Kd F w w'
def appD (D : Dk) (s : ByteArray) (zs : List Int) : Dk × Nat := if D.dw = true then (D, 2) else if D.room - (usd D.fs : Int) < (zs.length : Int) then (D, 1) else (actD D (addF D.fs s zs), actR D)
/-- An act on a file that must be there. -/
def fileD (D : Dk) (s : ByteArray) (g : Nat → List Fl) : Dk × Nat := if D.dw = true then (D, 2) else match fnd D.fs s with | none => (D, 3) | some i => (actD D (g i), actR D)
/-- The sentinels. -/
structure Er (w : World) (aD aF aN : Addr) : Prop where
  d : w.cell? ⟨0, 0, none⟩ = some (errV aD)
  f : w.cell? ⟨1, 0, none⟩ = some (errV aF)
  n : w.cell? ⟨2, 0, none⟩ = some (errV aN)
/-- The sentinels are no disk's. -/
def Ern (F : Nat → Prop) : Prop := (¬ F 0) ∧ (¬ F 1) ∧ (¬ F 2)
theorem evD_act {D : Dk} {aD aF aN : Addr} : actA D aD = evD aD aF aN (actR D) := by
  unfold actA evD actR
  split <;> simp
theorem Er.below {w w' : World} {aD aF aN : Addr} (h : Er w aD aF aN) (hb : Below w.heap.size w w') : Er w' aD aF aN :=
  ⟨(World.cell?_of_block (hb.block _ (World.block_lt_of_cell? w _ h.d))).trans h.d, (World.cell?_of_block (hb.block _ (World.block_lt_of_cell? w _ h.f))).trans h.f, (World.cell?_of_block (hb.block _ (World.block_lt_of_cell? w _ h.n))).trans h.n⟩
theorem Er.kd {w w' : World} {aD aF aN : Addr} {F : Nat → Prop} (h : Er w aD aF aN) (hb : Kd F w w') (hn : Ern F) : Er w' aD aF aN := ⟨hb.cell h.d hn.1, hb.cell h.f hn.2.1, hb.cell h.n hn.2.2⟩
def fc (F : Nat → Prop) (w : World) : Nat → Prop := fun k => F k ∧ k < w.heap.size
theorem Dm.fc {w : World} {x : Nat} {F : Nat → Prop} {D : Dk} (h : Dm w x F D) : Dm w x (fc F w) D := h.mono (fun k h1 h2 => ⟨h1, h2⟩)
theorem MP.of {x : Nat} {F : Nat → Prop} {r : Dk × Nat} {aD aF aN : Addr} {w V w' : World} {e : Ending} (hb : Below w.heap.size w V) (he : e = .returned (evD aD aF aN r.2)) (h1 : Dm w' x (up (fc F w) V) r.1) (h2 : Kd (fc F w) V w') : MP x F r aD aF aN w e w' :=
  ⟨he, h1.mono (fun k h _ => h.elim (fun q => .inl q.1) (fun q => .inr (Nat.le_trans hb.size q))), (Kd.below hb).trans (h2.mono (fun k _ h => h.1))⟩
theorem MP.same {x : Nat} {F : Nat → Prop} {D : Dk} {n : Nat} {aD aF aN : Addr} {w V : World} {e : Ending} (hb : Below w.heap.size w V) (he : e = .returned (evD aD aF aN n)) (h1 : Dm w x F D) : MP x F (D, n) aD aF aN w e V :=
  ⟨he, (h1.below hb).mono (fun k h _ => .inl h), Kd.below hb⟩
theorem bel_drew {w V : World} (h : Below w.heap.size w V) : Below w.heap.size w V.drew := ⟨h.os, h.tape, h.output, h.size, h.block⟩
theorem bel_cell {w V : World} {b i : Nat} {v : Value} (h : Below w.heap.size w V) (hc : w.cell? ⟨b, i, none⟩ = some v) : V.cell? ⟨b, i, none⟩ = some v :=
  (World.cell?_of_block (a := ⟨b, i, none⟩) (h.block b (World.block_lt_of_cell? w ⟨b, i, none⟩ hc))).trans hc
theorem lies_bel {w V : World} {a : Option Addr} {zs : List Int} (h : Below w.heap.size w V) (hc : Lies .u8 w a zs) : Lies .u8 V a zs := by
  rcases hc with h0 | ⟨b, off, e, hc⟩
  · exact .inl h0
  · exact .inr ⟨b, off, e, fun i hi => bel_cell h (hc i hi)⟩

set_option maxHeartbeats 4000000 in
set_option maxRecDepth 20000 in
theorem dAppend_any (w : World) (d x : Nat) (F : Nat → Prop) (D : Dk) (s : ByteArray) (ab : Option Addr) (nb cb : Nat) (zs : List Int) (B : Nat) (aD aF aN : Addr) (h : Dm w x F D) (hk : D.Ok B) (hB : B ≤ 1099511627776) (hd : w.cell? ⟨d, 0, none⟩ = some (.pointer (some ⟨x, 0, none⟩))) (nd : ¬ F d) (hE : Er w aD aF aN) (nE : Ern F)
    (hl : zs.length = nb) (hz : Lies .u8 w ab zs) (hzF : ∀ b off, zs ≠ [] → ab = some ⟨b, off, none⟩ → ¬ F b) (hnn : ab = none → nb = 0 ∧ cb = 0) (hnb : nb ≤ 1099511627776) :
    Calls Tryz.prog 25 #[.pointer (some ⟨d, 0, none⟩), .string s, .slice ab nb cb] w fun e w' => MP x F (appD D s zs) aD aF aN w e w' := by
  obtain ⟨W, hW⟩ : ∃ W, ((w.alloc (.cells #[.pointer (some ⟨d, 0, none⟩)] 46)).alloc (.cells #[.string s] 9)).alloc (.cells #[.slice ab nb cb] 35) = W := ⟨_, rfl⟩
  have hg : Below w.heap.size w W := by rw [← hW]; exact (((Below.refl _ _).alloc (Nat.le_refl _) _).alloc (by simp) _).alloc (by simp; omega) _
  have c0 : W.cell? ⟨w.heap.size, 0, none⟩ = some (.pointer (some ⟨d, 0, none⟩)) := by rw [← hW]; simp [go_sem]
  have c1 : W.cell? ⟨w.heap.size + 1, 0, none⟩ = some (.string s) := by rw [← hW]; simp [go_sem]
  have c2 : W.cell? ⟨w.heap.size + 1 + 1, 0, none⟩ = some (.slice ab nb cb) := by rw [← hW]; simp [go_sem]
  have d0 := bel_cell hg hd
  have hDW : Dm W x (fc F w) D := h.fc.below hg
  obtain ⟨k2, k4, k1⟩ := hDW.c2
  obtain ⟨_, k5, _, _⟩ := hDW.dw true
  have hEW := hE.below hg
  have e1 : W.cell? ⟨0, 0, none⟩ = some (.iface 218 (.pointer (some aD))) := hEW.d
  have e2 : W.cell? ⟨1, 0, none⟩ = some (.iface 218 (.pointer (some aF))) := hEW.f
  have HU := used_any W.drew x (fc F w) D B (hDW.same (fun _ _ _ => rfl)) hk hB
  have HAct := actApp W.drew x (fc F w) D (addF D.fs s zs) B (.pointer (some ⟨w.heap.size, 0, none⟩)) (.pointer (some ⟨w.heap.size + 1, 0, none⟩)) (.pointer (some ⟨w.heap.size + 1 + 1, 0, none⟩)) aD (hDW.same (fun _ _ _ => rfl)) hk hEW.d (fun q => nE.1 q.1) (fun V D1 hV hfs hok hKd => by
    have q := clApp_any V w.heap.size (w.heap.size + 1) (w.heap.size + 1 + 1) d x (fc F w) D1 s ab nb cb zs B hV hok hB (hKd.cell c0 (fun q => by have := q.2; omega)) (hKd.cell d0 (fun q => nd q.1)) (hKd.cell c1 (fun q => by have := q.2; omega)) (hKd.cell c2 (fun q => by have := q.2; omega)) (fun q => by have := q.2; omega) (fun q => nd q.1) (fun q => by have := q.2; omega) (fun q => by have := q.2; omega) hl (by
      rcases lies_bel hg hz with h0 | ⟨b, off, e, hc⟩
      · exact .inl h0
      · by_cases hz0 : zs = []
        · exact .inl hz0
        · exact .inr ⟨b, off, e, fun j hj => hKd.cell (hc j hj) (fun q => hzF b off hz0 e q.1)⟩) (fun b off h1 h2 q => hzF b off h1 h2 q.1) hnn hnb
    rw [hfs] at q
    exact q)
  have HG : Hid (Below w.heap.size w W ∧ Dm w x F D) := ⟨hg, h⟩
  have HUb : Hid (usd D.fs ≤ 1099511627776 ∧ 0 ≤ D.room ∧ D.room ≤ 9223372036854775807) := ⟨Nat.le_trans hk.used hB, hk.room⟩
  have HNb : Hid (zs.length = nb ∧ nb ≤ 1099511627776) := ⟨hl, hnb⟩
  obtain ⟨U, hU⟩ : ∃ u : Int, (usd D.fs : Int) = u := ⟨_, rfl⟩
  have HUu : Hid ((usd D.fs : Int) = U) := hU
  rw [hU] at HU
  have hwr : IntKind.i64.wrap (D.room - U) = D.room - U := by have := HUb.out; rw [IntKind.wrap_i64]; omega
  clear hg hDW hEW hk h hE nE nd hl hz hzF hnn hd hU
  go_enter Tryz.func25, Tryz.ntmps25
  go_upto_region 1 with fail
  try rw [hW]
  clear hW
  cases hw : D.dw with
  | true =>
    rw [hw] at k5
    have HR : Hid (appD D s zs = (D, 2)) := by show _ = _; unfold appD; rw [hw]; rfl
    clear HAct HU
    go_wp2
    go_ret
    rw [HR.out]
    exact MP.same HG.out.1 rfl HG.out.2
  | false =>
    rw [hw] at k5
    by_cases hfit : D.room - U < (nb : Int)
    · have HR : Hid (appD D s zs = (D, 1)) := by show _ = _; unfold appD; rw [hw, if_neg (by simp), HUu.out, HNb.out.1, if_pos hfit]
      clear HAct
      go_wp2_with fail
      go_region_held3 (fun V => V.cell? ⟨w.heap.size, 0, none⟩ = some (.pointer (some ⟨d, 0, none⟩)) ∧ V.cell? ⟨w.heap.size + 1 + 1, 0, none⟩ = some (.slice ab nb cb) ∧ V.cell? ⟨d, 0, none⟩ = some (.pointer (some ⟨x, 0, none⟩)) ∧ V.cell? ⟨x, 1, none⟩ = some (.int .i64 D.room))
        (first | (exact ⟨c0, c2, d0, k1⟩))
        (first
          | (go_at_call 56
             refine HU.mono ?_
             rintro e w2 ⟨rfl, rfl⟩))
      go_wp2
      go_ret
      rw [HR.out]
      exact MP.same (bel_drew HG.out.1) rfl HG.out.2
    · have HR : Hid (appD D s zs = (actD D (addF D.fs s zs), actR D)) := by show _ = _; unfold appD; rw [hw, if_neg (by simp), HUu.out, HNb.out.1, if_neg hfit]
      go_wp2_with fail
      go_region_held3 (fun V => V.cell? ⟨w.heap.size, 0, none⟩ = some (.pointer (some ⟨d, 0, none⟩)) ∧ V.cell? ⟨w.heap.size + 1 + 1, 0, none⟩ = some (.slice ab nb cb) ∧ V.cell? ⟨d, 0, none⟩ = some (.pointer (some ⟨x, 0, none⟩)) ∧ V.cell? ⟨x, 1, none⟩ = some (.int .i64 D.room))
        (first | (exact ⟨c0, c2, d0, k1⟩))
        (first
          | (go_at_call 56
             refine HU.mono ?_
             rintro e w2 ⟨rfl, rfl⟩))
      go_wp2_with (go_at_call 57; refine HAct.mono ?_; rintro e w3 ⟨rfl, hq3, hq4⟩)
      go_ret
      rw [HR.out]
      exact MP.of (bel_drew HG.out.1) (by rw [evD_act (aF := aF) (aN := aN)]; rfl) hq3 hq4


set_option maxHeartbeats 4000000 in
set_option maxRecDepth 20000 in
theorem dSync_any (w : World) (d x : Nat) (F : Nat → Prop) (D : Dk) (s : ByteArray) (B : Nat) (aD aF aN : Addr) (h : Dm w x F D) (hk : D.Ok B) (hB : B ≤ 1099511627776) (hd : w.cell? ⟨d, 0, none⟩ = some (.pointer (some ⟨x, 0, none⟩))) (nd : ¬ F d) (hE : Er w aD aF aN) (nE : Ern F) :
    Calls Tryz.prog 26 #[.pointer (some ⟨d, 0, none⟩), .string s] w fun e w' => MP x F (fileD D s (fun i => synF D.fs i)) aD aF aN w e w' := by
  obtain ⟨W0, hW0⟩ : ∃ W, (w).alloc (.cells #[.pointer (some ⟨d, 0, none⟩)] 46) = W := ⟨_, rfl⟩
  have hg0 : Below w.heap.size w W0 := by rw [← hW0]; exact (Below.refl _ _).alloc (Nat.le_refl _) _
  have b0 : W0.cell? ⟨w.heap.size, 0, none⟩ = some (.pointer (some ⟨d, 0, none⟩)) := by rw [← hW0]; simp [go_sem]
  have hs0 : W0.heap.size = w.heap.size + 1 := by rw [← hW0]; simp
  obtain ⟨K, hK⟩ : ∃ K, fI D.fs s = K := ⟨_, rfl⟩
  have hDW0 : Dm W0 x (fc F w) D := h.fc.below hg0
  have HFn := find_any W0 x (fc F w) D s B hDW0 hk hB
  rw [hK] at HFn
  obtain ⟨W, hW⟩ : ∃ W, (W0.alloc (.cells #[.int .i64 K] 3)) = W := ⟨_, rfl⟩
  have hg : Below w.heap.size w W := by rw [← hW]; exact hg0.alloc (by omega) _
  have hg1 : Below W0.heap.size W0 W := by rw [← hW]; exact (Below.refl _ _).alloc (Nat.le_refl _) _
  have c0 := bel_cell hg1 b0
  have cI : W.cell? ⟨W0.heap.size, 0, none⟩ = some (.int .i64 K) := by rw [← hW]; simp [go_sem]
  have d0 := bel_cell hg hd
  have d00 := bel_cell hg0 hd
  have hDW : Dm W x (fc F w) D := h.fc.below hg
  obtain ⟨_, k5, _, _⟩ := hDW.dw true
  have hEW := hE.below hg
  have e1 : W.cell? ⟨0, 0, none⟩ = some (.iface 218 (.pointer (some aD))) := hEW.d
  have e2 : W.cell? ⟨2, 0, none⟩ = some (.iface 218 (.pointer (some aN))) := hEW.n
  have HG : Hid (Below w.heap.size w W ∧ Dm w x F D) := ⟨hg, h⟩
  have HAct : ∀ i : Nat, i < D.fs.length → K = (i : Int) → Calls Tryz.prog 57 #[.pointer (some ⟨x, 0, none⟩), .func (.func 60) #[] #[.pointer (some ⟨w.heap.size, 0, none⟩), .pointer (some ⟨W0.heap.size, 0, none⟩)]] W fun e w' => e = .returned (actA D aD) ∧ Dm w' x (up (fc F w) W) (actD D (synF D.fs i)) ∧ Kd (fc F w) W w' := fun i hi hKi => actSyn W x (fc F w) D (synF D.fs i) B _ _ aD hDW hk hEW.d (fun q => nE.1 q.1) (fun V D1 hV hfs hok hKd => by
    have q := clSyn_any V (w.heap.size) (W0.heap.size) d x i (fc F w) D1 B hV hok hB (by rw [hfs]; exact hi) (hKd.cell c0 (fun q => by have := q.2; omega)) (hKd.cell d0 (fun q => nd q.1)) (hKd.cell (hKi ▸ cI) (fun q => by have := q.2; omega)) (fun q => by have := q.2; omega) (fun q => nd q.1) (fun q => by have := q.2; omega)
    rw [hfs] at q
    exact q)
  have HHA : Hid (∀ i : Nat, i < D.fs.length → K = (i : Int) → Calls Tryz.prog 57 #[.pointer (some ⟨x, 0, none⟩), .func (.func 60) #[] #[.pointer (some ⟨w.heap.size, 0, none⟩), .pointer (some ⟨W0.heap.size, 0, none⟩)]] W fun e w' => e = .returned (actA D aD) ∧ Dm w' x (up (fc F w) W) (actD D (synF D.fs i)) ∧ Kd (fc F w) W w') := HAct
  have HK : Hid (fI D.fs s = K) := hK
  clear hDW hDW0 hEW hk h hE nE nd hd hK hg hg0 hg1 HAct hs0
  go_enter Tryz.func26, Tryz.ntmps26
  go_upto_region 1 with fail
  try rw [hW0]
  go_upto_region 2 with (go_at_call 59; refine HFn.mono ?_; rintro e w2 ⟨rfl, hw2⟩; rw [hw2]; clear hw2)
  clear HFn hW hW0 d00
  cases hw : D.dw with
  | true =>
    rw [hw] at k5
    have HR : Hid (fileD D s (fun i => synF D.fs i) = (D, 2)) := by show _ = _; unfold fileD; rw [hw]; rfl
    clear HHA
    go_wp2
    go_ret
    rw [HR.out]
    exact MP.same HG.out.1 rfl HG.out.2
  | false =>
    rw [hw] at k5
    cases hf : fnd D.fs s with
    | none =>
      have hK2 : K = -1 := by rw [← HK.out]; exact fI_none hf
      subst hK2
      have HR : Hid (fileD D s (fun i => synF D.fs i) = (D, 3)) := by show _ = _; unfold fileD; rw [hw, hf]; rfl
      clear HHA hf
      go_wp2
      go_ret
      rw [HR.out]
      exact MP.same HG.out.1 rfl HG.out.2
    | some i =>
      have hK2 : K = (i : Int) := by rw [← HK.out]; exact fI_some hf
      have HAct := HHA.out i (fnd_lt hf) hK2
      have HR : Hid (fileD D s (fun i => synF D.fs i) = (actD D (synF D.fs i), actR D)) := by show _ = _; unfold fileD; rw [hw, hf]; rfl
      have hz : ¬ K < 0 := by omega
      clear HHA hf hK2
      go_wp2_with (go_at_call 57; refine HAct.mono ?_; rintro e w3 ⟨rfl, hq3, hq4⟩)
      go_ret
      rw [HR.out]
      exact MP.of HG.out.1 (by rw [evD_act (aF := aF) (aN := aN)]; rfl) hq3 hq4


set_option maxHeartbeats 4000000 in
set_option maxRecDepth 20000 in
theorem dRemove_any (w : World) (d x : Nat) (F : Nat → Prop) (D : Dk) (s : ByteArray) (B : Nat) (aD aF aN : Addr) (h : Dm w x F D) (hk : D.Ok B) (hB : B ≤ 1099511627776) (hd : w.cell? ⟨d, 0, none⟩ = some (.pointer (some ⟨x, 0, none⟩))) (nd : ¬ F d) (hE : Er w aD aF aN) (nE : Ern F) :
    Calls Tryz.prog 73 #[.pointer (some ⟨d, 0, none⟩), .string s] w fun e w' => MP x F (fileD D s (fun i => D.fs.eraseIdx i)) aD aF aN w e w' := by
  obtain ⟨W0, hW0⟩ : ∃ W, (w).alloc (.cells #[.pointer (some ⟨d, 0, none⟩)] 46) = W := ⟨_, rfl⟩
  have hg0 : Below w.heap.size w W0 := by rw [← hW0]; exact (Below.refl _ _).alloc (Nat.le_refl _) _
  have b0 : W0.cell? ⟨w.heap.size, 0, none⟩ = some (.pointer (some ⟨d, 0, none⟩)) := by rw [← hW0]; simp [go_sem]
  have hs0 : W0.heap.size = w.heap.size + 1 := by rw [← hW0]; simp
  obtain ⟨K, hK⟩ : ∃ K, fI D.fs s = K := ⟨_, rfl⟩
  have hDW0 : Dm W0 x (fc F w) D := h.fc.below hg0
  have HFn := find_any W0 x (fc F w) D s B hDW0 hk hB
  rw [hK] at HFn
  obtain ⟨W, hW⟩ : ∃ W, (W0.alloc (.cells #[.int .i64 K] 3)) = W := ⟨_, rfl⟩
  have hg : Below w.heap.size w W := by rw [← hW]; exact hg0.alloc (by omega) _
  have hg1 : Below W0.heap.size W0 W := by rw [← hW]; exact (Below.refl _ _).alloc (Nat.le_refl _) _
  have c0 := bel_cell hg1 b0
  have cI : W.cell? ⟨W0.heap.size, 0, none⟩ = some (.int .i64 K) := by rw [← hW]; simp [go_sem]
  have d0 := bel_cell hg hd
  have d00 := bel_cell hg0 hd
  have hDW : Dm W x (fc F w) D := h.fc.below hg
  obtain ⟨_, k5, _, _⟩ := hDW.dw true
  have hEW := hE.below hg
  have e1 : W.cell? ⟨0, 0, none⟩ = some (.iface 218 (.pointer (some aD))) := hEW.d
  have e2 : W.cell? ⟨2, 0, none⟩ = some (.iface 218 (.pointer (some aN))) := hEW.n
  have HG : Hid (Below w.heap.size w W ∧ Dm w x F D) := ⟨hg, h⟩
  have HAct : ∀ i : Nat, i < D.fs.length → K = (i : Int) → Calls Tryz.prog 57 #[.pointer (some ⟨x, 0, none⟩), .func (.func 101) #[] #[.pointer (some ⟨w.heap.size, 0, none⟩), .pointer (some ⟨W0.heap.size, 0, none⟩)]] W fun e w' => e = .returned (actA D aD) ∧ Dm w' x (up (fc F w) W) (actD D (D.fs.eraseIdx i)) ∧ Kd (fc F w) W w' := fun i hi hKi => actRem W x (fc F w) D (D.fs.eraseIdx i) B _ _ aD hDW hk hEW.d (fun q => nE.1 q.1) (fun V D1 hV hfs hok hKd => by
    have q := clRem_any V (w.heap.size) (W0.heap.size) d x i (fc F w) D1 B hV hok hB (by rw [hfs]; exact hi) (hKd.cell c0 (fun q => by have := q.2; omega)) (hKd.cell d0 (fun q => nd q.1)) (hKd.cell (hKi ▸ cI) (fun q => by have := q.2; omega)) (fun q => by have := q.2; omega) (fun q => nd q.1) (fun q => by have := q.2; omega)
    rw [hfs] at q
    exact q)
  have HHA : Hid (∀ i : Nat, i < D.fs.length → K = (i : Int) → Calls Tryz.prog 57 #[.pointer (some ⟨x, 0, none⟩), .func (.func 101) #[] #[.pointer (some ⟨w.heap.size, 0, none⟩), .pointer (some ⟨W0.heap.size, 0, none⟩)]] W fun e w' => e = .returned (actA D aD) ∧ Dm w' x (up (fc F w) W) (actD D (D.fs.eraseIdx i)) ∧ Kd (fc F w) W w') := HAct
  have HK : Hid (fI D.fs s = K) := hK
  clear hDW hDW0 hEW hk h hE nE nd hd hK hg hg0 hg1 HAct hs0
  go_enter Tryz.func73, Tryz.ntmps73
  go_upto_region 1 with fail
  try rw [hW0]
  go_upto_region 2 with (go_at_call 59; refine HFn.mono ?_; rintro e w2 ⟨rfl, hw2⟩; rw [hw2]; clear hw2)
  clear HFn hW hW0 d00
  cases hw : D.dw with
  | true =>
    rw [hw] at k5
    have HR : Hid (fileD D s (fun i => D.fs.eraseIdx i) = (D, 2)) := by show _ = _; unfold fileD; rw [hw]; rfl
    clear HHA
    go_wp2
    go_ret
    rw [HR.out]
    exact MP.same HG.out.1 rfl HG.out.2
  | false =>
    rw [hw] at k5
    cases hf : fnd D.fs s with
    | none =>
      have hK2 : K = -1 := by rw [← HK.out]; exact fI_none hf
      subst hK2
      have HR : Hid (fileD D s (fun i => D.fs.eraseIdx i) = (D, 3)) := by show _ = _; unfold fileD; rw [hw, hf]; rfl
      clear HHA hf
      go_wp2
      go_ret
      rw [HR.out]
      exact MP.same HG.out.1 rfl HG.out.2
    | some i =>
      have hK2 : K = (i : Int) := by rw [← HK.out]; exact fI_some hf
      have HAct := HHA.out i (fnd_lt hf) hK2
      have HR : Hid (fileD D s (fun i => D.fs.eraseIdx i) = (actD D (D.fs.eraseIdx i), actR D)) := by show _ = _; unfold fileD; rw [hw, hf]; rfl
      have hz : ¬ K < 0 := by omega
      clear HHA hf hK2
      go_wp2_with (go_at_call 57; refine HAct.mono ?_; rintro e w3 ⟨rfl, hq3, hq4⟩)
      go_ret
      rw [HR.out]
      exact MP.of HG.out.1 (by rw [evD_act (aF := aF) (aN := aN)]; rfl) hq3 hq4


set_option maxHeartbeats 4000000 in
set_option maxRecDepth 20000 in
theorem dRename_any (w : World) (d x : Nat) (F : Nat → Prop) (D : Dk) (s : ByteArray) (s2 : ByteArray) (B : Nat) (aD aF aN : Addr) (h : Dm w x F D) (hk : D.Ok B) (hB : B ≤ 1099511627776) (hd : w.cell? ⟨d, 0, none⟩ = some (.pointer (some ⟨x, 0, none⟩))) (nd : ¬ F d) (hE : Er w aD aF aN) (nE : Ern F) :
    Calls Tryz.prog 51 #[.pointer (some ⟨d, 0, none⟩), .string s, .string s2] w fun e w' => MP x F (fileD D s (fun i => renF D.fs i s2)) aD aF aN w e w' := by
  obtain ⟨W0, hW0⟩ : ∃ W, ((w).alloc (.cells #[.pointer (some ⟨d, 0, none⟩)] 46)).alloc (.cells #[.string s2] 9) = W := ⟨_, rfl⟩
  have hg0 : Below w.heap.size w W0 := by rw [← hW0]; exact ((Below.refl _ _).alloc (Nat.le_refl _) _).alloc (by simp) _
  have b0 : W0.cell? ⟨w.heap.size, 0, none⟩ = some (.pointer (some ⟨d, 0, none⟩)) := by rw [← hW0]; simp [go_sem]
  have b1 : W0.cell? ⟨w.heap.size + 1, 0, none⟩ = some (.string s2) := by rw [← hW0]; simp [go_sem]
  have hs0 : W0.heap.size = w.heap.size + 1 + 1 := by rw [← hW0]; simp
  obtain ⟨K, hK⟩ : ∃ K, fI D.fs s = K := ⟨_, rfl⟩
  have hDW0 : Dm W0 x (fc F w) D := h.fc.below hg0
  have HFn := find_any W0 x (fc F w) D s B hDW0 hk hB
  rw [hK] at HFn
  obtain ⟨W, hW⟩ : ∃ W, (W0.alloc (.cells #[.int .i64 K] 3)) = W := ⟨_, rfl⟩
  have hg : Below w.heap.size w W := by rw [← hW]; exact hg0.alloc (by omega) _
  have hg1 : Below W0.heap.size W0 W := by rw [← hW]; exact (Below.refl _ _).alloc (Nat.le_refl _) _
  have c0 := bel_cell hg1 b0
  have c1 := bel_cell hg1 b1
  have cI : W.cell? ⟨W0.heap.size, 0, none⟩ = some (.int .i64 K) := by rw [← hW]; simp [go_sem]
  have d0 := bel_cell hg hd
  have d00 := bel_cell hg0 hd
  have hDW : Dm W x (fc F w) D := h.fc.below hg
  obtain ⟨_, k5, _, _⟩ := hDW.dw true
  have hEW := hE.below hg
  have e1 : W.cell? ⟨0, 0, none⟩ = some (.iface 218 (.pointer (some aD))) := hEW.d
  have e2 : W.cell? ⟨2, 0, none⟩ = some (.iface 218 (.pointer (some aN))) := hEW.n
  have HG : Hid (Below w.heap.size w W ∧ Dm w x F D) := ⟨hg, h⟩
  have HAct : ∀ i : Nat, i < D.fs.length → K = (i : Int) → Calls Tryz.prog 57 #[.pointer (some ⟨x, 0, none⟩), .func (.func 84) #[] #[.pointer (some ⟨w.heap.size, 0, none⟩), .pointer (some ⟨w.heap.size + 1, 0, none⟩), .pointer (some ⟨W0.heap.size, 0, none⟩)]] W fun e w' => e = .returned (actA D aD) ∧ Dm w' x (up (fc F w) W) (actD D (renF D.fs i s2)) ∧ Kd (fc F w) W w' := fun i hi hKi => actRen W x (fc F w) D (renF D.fs i s2) B _ _ _ aD hDW hk hEW.d (fun q => nE.1 q.1) (fun V D1 hV hfs hok hKd => by
    have q := clRen_any V (w.heap.size) (w.heap.size + 1) (W0.heap.size) d x i (fc F w) D1 s2 B hV hok hB (by rw [hfs]; exact hi) (hKd.cell c0 (fun q => by have := q.2; omega)) (hKd.cell d0 (fun q => nd q.1)) (hKd.cell c1 (fun q => by have := q.2; omega)) (hKd.cell (hKi ▸ cI) (fun q => by have := q.2; omega)) (fun q => by have := q.2; omega) (fun q => nd q.1) (fun q => by have := q.2; omega) (fun q => by have := q.2; omega)
    rw [hfs] at q
    exact q)
  have HHA : Hid (∀ i : Nat, i < D.fs.length → K = (i : Int) → Calls Tryz.prog 57 #[.pointer (some ⟨x, 0, none⟩), .func (.func 84) #[] #[.pointer (some ⟨w.heap.size, 0, none⟩), .pointer (some ⟨w.heap.size + 1, 0, none⟩), .pointer (some ⟨W0.heap.size, 0, none⟩)]] W fun e w' => e = .returned (actA D aD) ∧ Dm w' x (up (fc F w) W) (actD D (renF D.fs i s2)) ∧ Kd (fc F w) W w') := HAct
  have HK : Hid (fI D.fs s = K) := hK
  clear hDW hDW0 hEW hk h hE nE nd hd hK hg hg0 hg1 HAct hs0
  go_enter Tryz.func51, Tryz.ntmps51
  go_upto_region 1 with fail
  try rw [hW0]
  go_upto_region 2 with (go_at_call 59; refine HFn.mono ?_; rintro e w2 ⟨rfl, hw2⟩; rw [hw2]; clear hw2)
  clear HFn hW hW0 d00
  cases hw : D.dw with
  | true =>
    rw [hw] at k5
    have HR : Hid (fileD D s (fun i => renF D.fs i s2) = (D, 2)) := by show _ = _; unfold fileD; rw [hw]; rfl
    clear HHA
    go_wp2
    go_ret
    rw [HR.out]
    exact MP.same HG.out.1 rfl HG.out.2
  | false =>
    rw [hw] at k5
    cases hf : fnd D.fs s with
    | none =>
      have hK2 : K = -1 := by rw [← HK.out]; exact fI_none hf
      subst hK2
      have HR : Hid (fileD D s (fun i => renF D.fs i s2) = (D, 3)) := by show _ = _; unfold fileD; rw [hw, hf]; rfl
      clear HHA hf
      go_wp2
      go_ret
      rw [HR.out]
      exact MP.same HG.out.1 rfl HG.out.2
    | some i =>
      have hK2 : K = (i : Int) := by rw [← HK.out]; exact fI_some hf
      have HAct := HHA.out i (fnd_lt hf) hK2
      have HR : Hid (fileD D s (fun i => renF D.fs i s2) = (actD D (renF D.fs i s2), actR D)) := by show _ = _; unfold fileD; rw [hw, hf]; rfl
      have hz : ¬ K < 0 := by omega
      clear HHA hf hK2
      go_wp2_with (go_at_call 57; refine HAct.mono ?_; rintro e w3 ⟨rfl, hq3, hq4⟩)
      go_ret
      rw [HR.out]
      exact MP.of HG.out.1 (by rw [evD_act (aF := aF) (aN := aN)]; rfl) hq3 hq4


set_option maxHeartbeats 4000000 in
set_option maxRecDepth 20000 in
theorem dCut_any (w : World) (d x : Nat) (F : Nat → Prop) (D : Dk) (s : ByteArray) (N : Int) (B : Nat) (aD aF aN : Addr) (h : Dm w x F D) (hk : D.Ok B) (hB : B ≤ 1099511627776) (hd : w.cell? ⟨d, 0, none⟩ = some (.pointer (some ⟨x, 0, none⟩))) (nd : ¬ F d) (hE : Er w aD aF aN) (nE : Ern F) :
    Calls Tryz.prog 42 #[.pointer (some ⟨d, 0, none⟩), .string s, .int .i64 N] w fun e w' => MP x F (fileD D s (fun i => cutF D.fs i N)) aD aF aN w e w' := by
  obtain ⟨W0, hW0⟩ : ∃ W, ((w).alloc (.cells #[.pointer (some ⟨d, 0, none⟩)] 46)).alloc (.cells #[.int .i64 N] 3) = W := ⟨_, rfl⟩
  have hg0 : Below w.heap.size w W0 := by rw [← hW0]; exact ((Below.refl _ _).alloc (Nat.le_refl _) _).alloc (by simp) _
  have b0 : W0.cell? ⟨w.heap.size, 0, none⟩ = some (.pointer (some ⟨d, 0, none⟩)) := by rw [← hW0]; simp [go_sem]
  have b1 : W0.cell? ⟨w.heap.size + 1, 0, none⟩ = some (.int .i64 N) := by rw [← hW0]; simp [go_sem]
  have hs0 : W0.heap.size = w.heap.size + 1 + 1 := by rw [← hW0]; simp
  obtain ⟨K, hK⟩ : ∃ K, fI D.fs s = K := ⟨_, rfl⟩
  have hDW0 : Dm W0 x (fc F w) D := h.fc.below hg0
  have HFn := find_any W0 x (fc F w) D s B hDW0 hk hB
  rw [hK] at HFn
  obtain ⟨W, hW⟩ : ∃ W, (W0.alloc (.cells #[.int .i64 K] 3)) = W := ⟨_, rfl⟩
  have hg : Below w.heap.size w W := by rw [← hW]; exact hg0.alloc (by omega) _
  have hg1 : Below W0.heap.size W0 W := by rw [← hW]; exact (Below.refl _ _).alloc (Nat.le_refl _) _
  have c0 := bel_cell hg1 b0
  have c1 := bel_cell hg1 b1
  have cI : W.cell? ⟨W0.heap.size, 0, none⟩ = some (.int .i64 K) := by rw [← hW]; simp [go_sem]
  have d0 := bel_cell hg hd
  have d00 := bel_cell hg0 hd
  have hDW : Dm W x (fc F w) D := h.fc.below hg
  obtain ⟨_, k5, _, _⟩ := hDW.dw true
  have hEW := hE.below hg
  have e1 : W.cell? ⟨0, 0, none⟩ = some (.iface 218 (.pointer (some aD))) := hEW.d
  have e2 : W.cell? ⟨2, 0, none⟩ = some (.iface 218 (.pointer (some aN))) := hEW.n
  have HG : Hid (Below w.heap.size w W ∧ Dm w x F D) := ⟨hg, h⟩
  have HAct : ∀ i : Nat, i < D.fs.length → K = (i : Int) → Calls Tryz.prog 57 #[.pointer (some ⟨x, 0, none⟩), .func (.func 76) #[] #[.pointer (some ⟨w.heap.size, 0, none⟩), .pointer (some ⟨W0.heap.size, 0, none⟩), .pointer (some ⟨w.heap.size + 1, 0, none⟩)]] W fun e w' => e = .returned (actA D aD) ∧ Dm w' x (up (fc F w) W) (actD D (cutF D.fs i N)) ∧ Kd (fc F w) W w' := fun i hi hKi => actCut W x (fc F w) D (cutF D.fs i N) B _ _ _ aD hDW hk hEW.d (fun q => nE.1 q.1) (fun V D1 hV hfs hok hKd => by
    have q := clCut_any V (w.heap.size) (W0.heap.size) (w.heap.size + 1) d x i N (fc F w) D1 B hV hok hB (by rw [hfs]; exact hi) (hKd.cell c0 (fun q => by have := q.2; omega)) (hKd.cell d0 (fun q => nd q.1)) (hKd.cell (hKi ▸ cI) (fun q => by have := q.2; omega)) (hKd.cell c1 (fun q => by have := q.2; omega)) (fun q => by have := q.2; omega) (fun q => nd q.1) (fun q => by have := q.2; omega) (fun q => by have := q.2; omega)
    rw [hfs] at q
    exact q)
  have HHA : Hid (∀ i : Nat, i < D.fs.length → K = (i : Int) → Calls Tryz.prog 57 #[.pointer (some ⟨x, 0, none⟩), .func (.func 76) #[] #[.pointer (some ⟨w.heap.size, 0, none⟩), .pointer (some ⟨W0.heap.size, 0, none⟩), .pointer (some ⟨w.heap.size + 1, 0, none⟩)]] W fun e w' => e = .returned (actA D aD) ∧ Dm w' x (up (fc F w) W) (actD D (cutF D.fs i N)) ∧ Kd (fc F w) W w') := HAct
  have HK : Hid (fI D.fs s = K) := hK
  clear hDW hDW0 hEW hk h hE nE nd hd hK hg hg0 hg1 HAct hs0
  go_enter Tryz.func42, Tryz.ntmps42
  go_upto_region 1 with fail
  try rw [hW0]
  go_upto_region 2 with (go_at_call 59; refine HFn.mono ?_; rintro e w2 ⟨rfl, hw2⟩; rw [hw2]; clear hw2)
  clear HFn hW hW0 d00
  cases hw : D.dw with
  | true =>
    rw [hw] at k5
    have HR : Hid (fileD D s (fun i => cutF D.fs i N) = (D, 2)) := by show _ = _; unfold fileD; rw [hw]; rfl
    clear HHA
    go_wp2
    go_ret
    rw [HR.out]
    exact MP.same HG.out.1 rfl HG.out.2
  | false =>
    rw [hw] at k5
    cases hf : fnd D.fs s with
    | none =>
      have hK2 : K = -1 := by rw [← HK.out]; exact fI_none hf
      subst hK2
      have HR : Hid (fileD D s (fun i => cutF D.fs i N) = (D, 3)) := by show _ = _; unfold fileD; rw [hw, hf]; rfl
      clear HHA hf
      go_wp2
      go_ret
      rw [HR.out]
      exact MP.same HG.out.1 rfl HG.out.2
    | some i =>
      have hK2 : K = (i : Int) := by rw [← HK.out]; exact fI_some hf
      have HAct := HHA.out i (fnd_lt hf) hK2
      have HR : Hid (fileD D s (fun i => cutF D.fs i N) = (actD D (cutF D.fs i N), actR D)) := by show _ = _; unfold fileD; rw [hw, hf]; rfl
      have hz : ¬ K < 0 := by omega
      clear HHA hf hK2
      go_wp2_with (go_at_call 57; refine HAct.mono ?_; rintro e w3 ⟨rfl, hq3, hq4⟩)
      go_ret
      rw [HR.out]
      exact MP.of HG.out.1 (by rw [evD_act (aF := aF) (aN := aN)]; rfl) hq3 hq4

end Go.Proofs.YtllhbhogfffedaaGreatDoor.K
