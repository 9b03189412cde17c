import Derived.Test.YticdedcgmofpjaaDoorDkPt
namespace Go.Proofs.YticdedcgmofpjaaDoor.K
open Go.RowKit
set_option linter.unusedVariables false
set_option linter.unusedSimpArgs false

/-- The page's disk, its three rows each by itself: while a file is being added. -/
structure Px (w : World) (x : Nat) (F : Nat → Prop) (bx : Array Value) (vn vb vs : Value) (A B C : List Value) (L : List Fv) : Prop where
  box : w.heap[x]? = some (.cells bx 35 (0, 0))
  rn : w.ownsRow 0 9 1 vn A.length A
  rb : w.ownsRow 0 36 1 vb B.length B
  rs : w.ownsRow 0 3 1 vs C.length C
  byt : ∀ (i : Nat) p, L[i]? = some p → w.ownsRow 0 5 1 p.2 p.1.bs.length (p.1.bs.map (Value.int .u8))
  dis : ∀ (i j : Nat) p q g, L[i]? = some p → L[j]? = some q → p.2.ownBlock = some g → q.2.ownBlock = some g → i = j
  fx : F x
  fn : ∀ g, vn.ownBlock = some g → F g
  fb : ∀ g, vb.ownBlock = some g → F g
  fs : ∀ g, vs.ownBlock = some g → F g
  fy : ∀ (i : Nat) p g, L[i]? = some p → p.2.ownBlock = some g → F g
section
variable {W w' : World} {x : Nat} {F : Nat → Prop} {bx : Array Value} {vn vb vs v' u : Value} {A B C : List Value} {L : List Fv} {D : Dk}
theorem Px.xlt (h : Px W x F bx vn vb vs A B C L) : x < W.heap.size := (Array.getElem?_eq_some_iff.1 h.box).1
theorem Px.c (h : Px W x F bx vn vb vs A B C L) (j : Nat) : W.cell? ⟨x, j, none⟩ = bx[j]? := cell_of_row _ _ j _ _ _ h.box
theorem Px.z (h : Px W x F bx vn vb vs A B C L) (j : Nat) : W.frozen? ⟨x, j, none⟩ = false := frozen_of_row _ _ j _ _ h.box
theorem Pc.px (h : Pc W x F D vn vb vs L) : Px W x F (bxP vn vb vs D) vn vb vs (L.map nmV) (L.map (·.2)) (L.map sfV) L :=
  ⟨h.box, by rw [List.length_map]; exact h.rn, by rw [List.length_map]; exact h.rb, by rw [List.length_map]; exact h.rs, h.byt, h.dis, h.fx, h.fn, h.fb, h.fs, h.fy⟩
theorem Px.grow0 (h : Px W x F bx vn vb vs A B C L) (r1 : w'.ownsRow 0 9 1 v' (A.length + 1) (A ++ [u])) (r2 : W.grownBy w' vn.ownBlock) (r3 : v'.ownBlock = vn.ownBlock ∨ ∃ g, v'.ownBlock = some g ∧ W.heap.size ≤ g) :
    Px (w'.setCell ⟨x, 0, none⟩ v') x (up F W) (bx.set! 0 v') v' vb vs (A ++ [u]) B C L := by
  have hset : ∀ k, k ≠ x → (w'.setCell ⟨x, 0, none⟩ v').heap[k]? = w'.heap[k]? := fun k hk => heap_setCell_other _ _ _ _ hk
  have hb' : w'.heap[x]? = some (.cells bx 35 (0, 0)) := (r2.block x h.xlt (fun e => d_box h.rn h.box (by decide) e.symm)).trans h.box
  have kx : ∀ {e : TypeId} {s m : Nat} {y : Value} {xs : List Value}, w'.ownsRow 0 e s y m xs → e ≠ 35 → (w'.setCell ⟨x, 0, none⟩ v').ownsRow 0 e s y m xs := fun h0 he => d_blk h0 (fun k hk => hset k (fun e2 => d_box h0 hb' he (by rw [← e2]; exact hk)))
  have kp : ∀ {e : TypeId} {s m : Nat} {y : Value} {xs : List Value}, W.ownsRow 0 e s y m xs → e ≠ 9 → e ≠ 35 → (w'.setCell ⟨x, 0, none⟩ v').ownsRow 0 e s y m xs := fun h0 he hp => kx (d_blk h0 (fun k hk => r2.block k (d_lt h0 k hk).2 (fun e2 => d_apart h0 h.rn he hk e2.symm))) hp
  refine ⟨heap_setCell_same w' x 0 _ _ _ hb', by rw [List.length_append]; exact kx r1 (by decide), kp h.rb (by decide) (by decide), kp h.rs (by decide) (by decide), fun j q hq => kp (h.byt j q hq) (by decide) (by decide), h.dis, .inl h.fx, fun g hg => ?_, fun g hg => .inl (h.fb g hg), fun g hg => .inl (h.fs g hg), fun j q g hj hg => .inl (h.fy j q g hj hg)⟩
  rcases r3 with e | ⟨g', e, hl⟩
  · exact .inl (h.fn g (by rw [← e]; exact hg))
  · rw [e] at hg; cases hg; exact .inr hl
theorem Px.grow1 (h : Px W x F bx vn vb vs A B C L) (r1 : w'.ownsRow 0 36 1 v' (B.length + 1) (B ++ [u])) (r2 : W.grownBy w' vb.ownBlock) (r3 : v'.ownBlock = vb.ownBlock ∨ ∃ g, v'.ownBlock = some g ∧ W.heap.size ≤ g) :
    Px (w'.setCell ⟨x, 1, none⟩ v') x (up F W) (bx.set! 1 v') vn v' vs A (B ++ [u]) C L := by
  have hset : ∀ k, k ≠ x → (w'.setCell ⟨x, 1, none⟩ v').heap[k]? = w'.heap[k]? := fun k hk => heap_setCell_other _ _ _ _ hk
  have hb' : w'.heap[x]? = some (.cells bx 35 (0, 0)) := (r2.block x h.xlt (fun e => d_box h.rb h.box (by decide) e.symm)).trans h.box
  have kx : ∀ {e : TypeId} {s m : Nat} {y : Value} {xs : List Value}, w'.ownsRow 0 e s y m xs → e ≠ 35 → (w'.setCell ⟨x, 1, none⟩ v').ownsRow 0 e s y m xs := fun h0 he => d_blk h0 (fun k hk => hset k (fun e2 => d_box h0 hb' he (by rw [← e2]; exact hk)))
  have kp : ∀ {e : TypeId} {s m : Nat} {y : Value} {xs : List Value}, W.ownsRow 0 e s y m xs → e ≠ 36 → e ≠ 35 → (w'.setCell ⟨x, 1, none⟩ v').ownsRow 0 e s y m xs := fun h0 he hp => kx (d_blk h0 (fun k hk => r2.block k (d_lt h0 k hk).2 (fun e2 => d_apart h0 h.rb he hk e2.symm))) hp
  refine ⟨heap_setCell_same w' x 1 _ _ _ hb', kp h.rn (by decide) (by decide), by rw [List.length_append]; exact kx r1 (by decide), kp h.rs (by decide) (by decide), fun j q hq => kp (h.byt j q hq) (by decide) (by decide), h.dis, .inl h.fx, fun g hg => .inl (h.fn g hg), fun g hg => ?_, fun g hg => .inl (h.fs g hg), fun j q g hj hg => .inl (h.fy j q g hj hg)⟩
  rcases r3 with e | ⟨g', e, hl⟩
  · exact .inl (h.fb g (by rw [← e]; exact hg))
  · rw [e] at hg; cases hg; exact .inr hl
theorem Px.grow2 (h : Px W x F bx vn vb vs A B C L) (r1 : w'.ownsRow 0 3 1 v' (C.length + 1) (C ++ [u])) (r2 : W.grownBy w' vs.ownBlock) (r3 : v'.ownBlock = vs.ownBlock ∨ ∃ g, v'.ownBlock = some g ∧ W.heap.size ≤ g) :
    Px (w'.setCell ⟨x, 2, none⟩ v') x (up F W) (bx.set! 2 v') vn vb v' A B (C ++ [u]) L := by
  have hset : ∀ k, k ≠ x → (w'.setCell ⟨x, 2, none⟩ v').heap[k]? = w'.heap[k]? := fun k hk => heap_setCell_other _ _ _ _ hk
  have hb' : w'.heap[x]? = some (.cells bx 35 (0, 0)) := (r2.block x h.xlt (fun e => d_box h.rs h.box (by decide) e.symm)).trans h.box
  have kx : ∀ {e : TypeId} {s m : Nat} {y : Value} {xs : List Value}, w'.ownsRow 0 e s y m xs → e ≠ 35 → (w'.setCell ⟨x, 2, none⟩ v').ownsRow 0 e s y m xs := fun h0 he => d_blk h0 (fun k hk => hset k (fun e2 => d_box h0 hb' he (by rw [← e2]; exact hk)))
  have kp : ∀ {e : TypeId} {s m : Nat} {y : Value} {xs : List Value}, W.ownsRow 0 e s y m xs → e ≠ 3 → e ≠ 35 → (w'.setCell ⟨x, 2, none⟩ v').ownsRow 0 e s y m xs := fun h0 he hp => kx (d_blk h0 (fun k hk => r2.block k (d_lt h0 k hk).2 (fun e2 => d_apart h0 h.rs he hk e2.symm))) hp
  refine ⟨heap_setCell_same w' x 2 _ _ _ hb', kp h.rn (by decide) (by decide), kp h.rb (by decide) (by decide), by rw [List.length_append]; exact kx r1 (by decide), fun j q hq => kp (h.byt j q hq) (by decide) (by decide), h.dis, .inl h.fx, fun g hg => .inl (h.fn g hg), fun g hg => .inl (h.fb g hg), fun g hg => ?_, fun j q g hj hg => .inl (h.fy j q g hj hg)⟩
  rcases r3 with e | ⟨g', e, hl⟩
  · exact .inl (h.fs g (by rw [← e]; exact hg))
  · rw [e] at hg; cases hg; exact .inr hl
theorem get_app {α : Type} {l : List α} {p q : α} {j : Nat} (h : (l ++ [p])[j]? = some q) : (j < l.length ∧ l[j]? = some q) ∨ (j = l.length ∧ q = p) := by
  by_cases hj : j < l.length
  · rw [List.getElem?_append_left hj] at h; exact .inl ⟨hj, h⟩
  · rw [List.getElem?_append_right (by omega)] at h
    obtain ⟨k, hk⟩ : ∃ k, j - l.length = k := ⟨_, rfl⟩
    rw [hk] at h
    cases k with
    | zero => simp at h; exact .inr ⟨by omega, h.symm⟩
    | succ k => simp at h
theorem Px.add (h : Px W x F bx vn vb vs A B C L) {f : Fl} (r1 : w'.ownsRow 0 5 1 v' f.bs.length (f.bs.map (Value.int .u8))) (r2 : W.grownBy w' none) (r3 : ∀ g, v'.ownBlock = some g → W.heap.size ≤ g) : Px w' x (up F W) bx vn vb vs A B C (L ++ [(f, v')]) := by
  have kb : ∀ k, k < W.heap.size → w'.heap[k]? = W.heap[k]? := fun k hk => r2.block k hk (fun e => by cases e)
  have kp : ∀ {e : TypeId} {s m : Nat} {y : Value} {xs : List Value}, W.ownsRow 0 e s y m xs → w'.ownsRow 0 e s y m xs := fun h0 => d_blk h0 (fun k hk => kb k (d_lt h0 k hk).2)
  refine ⟨(kb x h.xlt).trans h.box, kp h.rn, kp h.rb, kp h.rs, fun j q hq => ?_, fun j k q y g hj hk h1 h2 => ?_, .inl h.fx, fun g hg => .inl (h.fn g hg), fun g hg => .inl (h.fb g hg), fun g hg => .inl (h.fs g hg), fun j q g hj hg => ?_⟩
  · rcases get_app hq with ⟨_, e⟩ | ⟨_, rfl⟩
    · exact kp (h.byt j q e)
    · exact r1
  · rcases get_app hj with ⟨_, e⟩ | ⟨ej, rfl⟩
    · rcases get_app hk with ⟨_, e'⟩ | ⟨ek, rfl⟩
      · exact h.dis j k q y g e e' h1 h2
      · have := (d_lt (h.byt j q e) g h1).2
        have := r3 g h2
        omega
    · rcases get_app hk with ⟨_, e'⟩ | ⟨ek, rfl⟩
      · have := (d_lt (h.byt k y e') g h2).2
        have := r3 g h1
        omega
      · omega
  · rcases get_app hj with ⟨_, e⟩ | ⟨_, rfl⟩
    · exact .inl (h.fy j q g e hg)
    · exact .inr (r3 g hg)
theorem Px.mono {G : Nat → Prop} (h : Px W x F bx vn vb vs A B C L) (hf : ∀ k, F k → k < W.heap.size → G k) : Px W x G bx vn vb vs A B C L :=
  ⟨h.box, h.rn, h.rb, h.rs, h.byt, h.dis, hf x h.fx h.xlt, fun g hg => hf g (h.fn g hg) (d_lt h.rn g hg).2, fun g hg => hf g (h.fb g hg) (d_lt h.rb g hg).2, fun g hg => hf g (h.fs g hg) (d_lt h.rs g hg).2, fun j q g hj hg => hf g (h.fy j q g hj hg) (d_lt (h.byt j q hj) g hg).2⟩
theorem Px.pc (h : Px W x F bx vn vb vs A B C L) (hb : bx = bxP vn vb vs D) (hA : A = L.map nmV) (hB : B = L.map (·.2)) (hC : C = L.map sfV) (hm : L.map (·.1) = D.fs) : Pc W x F D vn vb vs L := by
  subst hA hB hC hb
  refine ⟨hm, h.box, ?_, ?_, ?_, h.byt, h.dis, h.fx, h.fn, h.fb, h.fs, h.fy⟩
  · have := h.rn; rw [List.length_map] at this; exact this
  · have := h.rb; rw [List.length_map] at this; exact this
  · have := h.rs; rw [List.length_map] at this; exact this
theorem own_base {b n s : Nat} {e : TypeId} {v : Value} {xs : List Value} (h : W.ownsRow b e s v n xs) : W.ownsRow 0 e s v n xs := by
  obtain ⟨h1, h2⟩ := h
  exact ⟨h1, h2.imp id (fun ⟨g, cap, cur, e, hg, r⟩ => ⟨g, cap, cur, e, Nat.zero_le _, r⟩)⟩
theorem row_cur {x gB n c : Nat} (h : W.ownsRow 0 36 1 (.slice (some ⟨gB, 0, none⟩) n c) n A) : ∃ cur, W.heap[gB]? = some (.cells cur 36 (0, 0)) := by
  obtain ⟨_, ⟨e, _⟩ | ⟨g, cap, cur, e, _, hh, _⟩⟩ := h
  · cases e
  · cases e; exact ⟨cur, hh⟩
end


set_option maxHeartbeats 16000000 in
set_option maxRecDepth 100000 in
theorem touch1 (w : World) (x : Nat) (F : Nat → Prop) (D : Dk) (B : Nat) (N : Int) (dn : Bool) (s s2 : ByteArray) (ad : Option Addr) (nd cd : Nat) (zs : List Int) (hl : zs.length = nd) (hz : Lies .u8 w ad zs) (hzF : ∀ b off, zs ≠ [] → ad = some ⟨b, off, none⟩ → ¬ F b) (hnn : ad = none → nd = 0 ∧ cd = 0) (hnd : nd ≤ 1099511627776) (h : Pm w x F D) (hk : D.Ok B) (hB : B ≤ 1099511627776) :
    Calls Tryd.prog 9 #[.pointer (some ⟨x, 0, none⟩), .agg (toC 1 N dn s s2 ad nd cd)] w fun e w' => TP x F (appD D s zs) w e w' := by
  obtain ⟨R, hR⟩ : ∃ R, appD D s zs = R := ⟨_, rfl⟩
  rw [hR]
  obtain ⟨W, hW⟩ : ∃ W, w.alloc (.cells #[.int .i64 1, .int .i64 N, .bool dn, .string s, .string s2, .slice ad nd cd] 38) = W := ⟨_, rfl⟩
  obtain ⟨Tb, hTb⟩ : ∃ g, w.heap.size = g := ⟨_, rfl⟩
  have hbw : Below w.heap.size w W := by rw [← hW]; exact (Below.refl _ _).alloc (Nat.le_refl _) _
  have t0 : W.cell? ⟨Tb, 0, none⟩ = some (.int .i64 1) := by rw [← hW, ← hTb]; simp
  have t1 : W.cell? ⟨Tb, 1, none⟩ = some (.int .i64 N) := by rw [← hW, ← hTb]; simp
  have t2 : W.cell? ⟨Tb, 2, none⟩ = some (.bool dn) := by rw [← hW, ← hTb]; simp
  have t3 : W.cell? ⟨Tb, 3, none⟩ = some (.string s) := by rw [← hW, ← hTb]; simp
  have t4 : W.cell? ⟨Tb, 4, none⟩ = some (.string s2) := by rw [← hW, ← hTb]; simp
  have t5 : W.cell? ⟨Tb, 5, none⟩ = some (.slice ad nd cd) := by rw [← hW, ← hTb]; simp
  have hPW : Pm W x (fc F w) D := h.fc.below hbw
  have HRf := refused_any W x (fc F w) D B 1 N dn s s2 ad nd cd hPW hk hB
  unfold toC at HRf
  have nT : ∀ k, fc F w k → k ≠ Tb := fun k q e => by have := q.2; omega
  have HT : Hid (¬ fc F w Tb) := fun q => nT Tb q rfl
  have HP : Hid (Pm w x F D ∧ Pm W x (fc F w) D ∧ D.Ok B ∧ Below w.heap.size w W) := ⟨h, hPW, hk, hbw⟩
  have HRR : Hid (appD D s zs = R) := hR
  have HZ : Hid (zs.length = nd ∧ Lies .u8 w ad zs ∧ (∀ b off, zs ≠ [] → ad = some ⟨b, off, none⟩ → ¬ F b) ∧ (ad = none → nd = 0 ∧ cd = 0) ∧ nd ≤ 1099511627776) := ⟨hl, hz, hzF, hnn, hnd⟩
  clear h hPW hk hbw nT hR hl hz hzF hnn
  unfold toC
  go_enter Tryd.func9, Tryd.ntmps9
  go_upto_region 2 with (go_at_call 31; refine HRf.mono ?_; rintro e w1 ⟨rfl, HB1⟩)
  clear hW hTb HRf
  have q0 := bel_cell HB1.out t0
  have q1 := bel_cell HB1.out t1
  have q3 := bel_cell HB1.out t3
  have q4 := bel_cell HB1.out t4
  have q5 := bel_cell HB1.out t5
  have HB2 : Hid (Below w.heap.size w w1) := HP.out.2.2.2.trans (HB1.out.mono HP.out.2.2.2.size)
  clear t0 t1 t2 t3 t4 t5
  have hP1 : Pm w1 x (fc F w) D := HP.out.2.1.below HB1.out
  have HTk := takes_any w1 x (fc F w) D B hP1 HP.out.2.2.1
  clear HB1 hP1

  obtain ⟨bA, hbA⟩ : ∃ b, actB D = b := ⟨_, rfl⟩
  obtain ⟨bD, hbD⟩ : ∃ b, (if actB D = true then D.dn else true) = b := ⟨_, rfl⟩
  rw [hbD, hbA] at HTk
  have HBB : Hid (actB D = bA ∧ (if actB D = true then D.dn else true) = bD) := ⟨hbA, hbD⟩
  clear hbA hbD
  by_cases c1 : D.dw = true
  · have e1 : refN D 1 s nd = 2 := by unfold refN; rw [if_pos c1]
    have HR2 : Hid (R = (D, 2)) := by show _ = _; rw [← HRR.out]; exact (by unfold appD; rw [if_pos c1])
    rw [e1]
    clear HTk
    go_wp2
    go_ret
    rw [HR2.out]
    exact TP.same HB2.out rfl HP.out.1
  by_cases c2 : D.room - (usd D.fs : Int) < (nd : Int)
  · have e1 : refN D 1 s nd = 1 := by unfold refN; rw [if_neg c1, if_pos ⟨rfl, c2⟩]
    have HR2 : Hid (R = (D, 1)) := by show _ = _; rw [← HRR.out]; exact (by unfold appD; rw [if_neg c1, HZ.out.1, if_pos c2])
    rw [e1]
    clear HTk
    go_wp2
    go_ret
    rw [HR2.out]
    exact TP.same HB2.out rfl HP.out.1
  have e1 : refN D 1 s nd = 0 := by unfold refN; rw [if_neg c1, if_neg (fun q => c2 q.2), if_neg (fun q => q.1 rfl)]
  rw [e1]
  have HR2 : Hid (R = (actD D (addF D.fs s zs), actR D)) := by show _ = _; rw [← HRR.out]; exact (by unfold appD; rw [if_neg c1, HZ.out.1, if_neg c2])
  clear c1 c2 e1 HRR
  go_upto_region 5 with (go_at_call 32; refine HTk.mono ?_; rintro e V ⟨rfl, HV0⟩)
  clear HTk
  have HV : Hid (Pm V x (fc F w) (tkD D) ∧ Kd (fc F w) w V) := ⟨HV0.out.1, (Kd.below HB2.out).trans HV0.out.2.1⟩
  have v0 := HV0.out.2.1.cell q0 HT.out
  have v1 := HV0.out.2.1.cell q1 HT.out
  have v3 := HV0.out.2.1.cell q3 HT.out
  have v4 := HV0.out.2.1.cell q4 HT.out
  have v5 := HV0.out.2.1.cell q5 HT.out
  clear q0 q1 q3 q4 q5 HV0
  have HFn := pfind_any V x (fc F w) (tkD D) s B HV.out.1 (tk_ok HP.out.2.2.1) hB
  rw [tk_fs] at HFn
  obtain ⟨K, hK⟩ : ∃ K, fI D.fs s = K := ⟨_, rfl⟩
  have HK : Hid (fI D.fs s = K) := hK
  rw [hK] at HFn
  clear hK
  go_upto_region 6 with (go_at_call 18; refine HFn.mono ?_; rintro e w2 ⟨rfl, hw2⟩; rw [hw2]; clear hw2)
  clear HFn
  cases bD with
  | false =>
    have HRes : Hid (R = (tkD D, 2) ∧ bA = true) := by
      have h1 := HBB.out
      have hb : actB D = true := by
        by_cases e : actB D = true
        · exact e
        · rw [if_neg e] at h1; cases h1.2
      have hdn : D.dn = false := by rw [if_pos hb] at h1; exact h1.2
      refine ⟨?_, by rw [← h1.1]; exact hb⟩
      rw [HR2.out, act_not hb hdn]
      unfold actR; rw [if_pos hb]
    obtain rfl : bA = true := HRes.out.2
    go_wp2
    go_ret
    rw [HRes.out.1]
    exact TP.of HV.out.2 rfl (HV.out.1.mono (fun k h _ => .inl h)) (Kd.refl _ _)
  | true =>
    have HRes : Hid (∀ fs, actD D fs = (tkD D).fs' fs) := fun fs => act_does (by
      have h1 := HBB.out
      by_cases e : actB D = true
      · rw [if_pos e] at h1; exact .inr h1.2
      · exact .inl (by simpa using e))
    have HAc : Hid (actR D = if bA = true then 2 else 0) := by show _ = _; unfold actR; rw [HBB.out.1]
    have HOk : Hid ((tkD D).Ok B) := tk_ok HP.out.2.2.1
    clear HBB
    cases hf : fnd D.fs s with
    | some i =>
      have hK2 : K = (i : Int) := by rw [← HK.out]; exact fI_some hf
      have HI : Hid (fnd D.fs s = some i) := hf
      subst hK2
      have hz0 : ¬ (i : Int) < 0 := by omega
      clear hf
      obtain ⟨vn, vb, vs, L, hc⟩ := HV.out.1
      obtain ⟨n, hn⟩ : ∃ n, L.length = n := ⟨_, rfl⟩
      obtain ⟨p, hp⟩ : ∃ p, L[i]? = some p := ⟨_, List.getElem?_eq_getElem (by rw [← hc.len]; show i < (tkD D).fs.length; simp only [Dk.fs', tk_fs]; exact fnd_lt HI.out)⟩
      have hin : (i : Int) < (n : Int) := by have := (List.getElem?_eq_some_iff.mp hp).1; omega
      have hi0 : (0 : Int) ≤ (i : Int) := by omega
      obtain ⟨gN, cN, hvn, _, kN, zN⟩ := row_cell hc.rn (i := i) (u := .string p.1.nm) (by rw [List.getElem?_map, hp]; rfl)
      obtain ⟨gB, cB, hvb, _, kB, zB⟩ := row_cell hc.rb (i := i) (u := p.2) (by rw [List.getElem?_map, hp]; rfl)
      obtain ⟨gS, cS, hvs, _, kS, zS⟩ := row_cell hc.rs (i := i) (u := .int .i64 p.1.sf) (by rw [List.getElem?_map, hp]; rfl)
      rw [hn] at hvn hvb hvs
      subst hvn hvb hvs
      have c0 : V.cell? ⟨x, 0, none⟩ = some (.slice (some ⟨gN, 0, none⟩) n cN) := hc.c 0
      have c1 : V.cell? ⟨x, 1, none⟩ = some (.slice (some ⟨gB, 0, none⟩) n cB) := hc.c 1
      have c2 : V.cell? ⟨x, 2, none⟩ = some (.slice (some ⟨gS, 0, none⟩) n cS) := hc.c 2
      have nS : x ≠ gS := fun e => d_box hc.rs hc.box (by decide) (by rw [e]; rfl)
      have nN : x ≠ gN := fun e => d_box hc.rn hc.box (by decide) (by rw [e]; rfl)
      have nB : x ≠ gB := fun e => d_box hc.rb hc.box (by decide) (by rw [e]; rfl)
      have nBS : gB ≠ gS := fun e => d_apart hc.rb hc.rs (by decide) (g := gB) rfl (by rw [e]; rfl)
      have hpf := hc.file hp
      have hfS : fc F w gS := hc.fs gS rfl
      have hfN : fc F w gN := hc.fn gN rfl
      have hfB : fc F w gB := hc.fb gB rfl
      have nTS : Tb ≠ gS := fun e => HT.out (e ▸ hfS)
      have nTN : Tb ≠ gN := fun e => HT.out (e ▸ hfN)
      have nTB : Tb ≠ gB := fun e => HT.out (e ▸ hfB)
      have hfl : p.1.bs.length ≤ 1099511627776 := by have h8 := usd_get hpf; have h9 := HOk.out.used; simp only [Dk.fs', tk_fs] at h8 h9; omega
      obtain ⟨av, cv, hav⟩ := d_shape (hc.byt i p hp)
      obtain ⟨⟨nm, bs, sf⟩, pv⟩ := p
      simp only at hav kB kN kS hpf hfl
      subst hav
      have hby := hc.byt i _ hp
      simp only at hby
      have hnL : L.length = n := hn
      obtain ⟨cur, hcur⟩ := row_cur (x := x) (by have h9 := hc.rb; rw [hn] at h9; exact h9)
      have hr2 : ∀ {U : World}, V.drew.grownBy U (Value.slice av bs.length cv).ownBlock → V.grownBy U (Value.slice av bs.length cv).ownBlock := fun h => ⟨h.os, h.tape, h.output, h.size, h.block⟩
      have hyF : ∀ g, (Value.slice av bs.length cv).ownBlock = some g → fc F w g := fun g hg => hc.fy i _ g hp hg
      have hxB : (Value.slice av bs.length cv).ownBlock ≠ some x := d_box hby hc.box (by decide)
      have hcv : ∀ U : World, V.drew.grownBy U (Value.slice av bs.length cv).ownBlock → U.cell? ⟨x, 1, none⟩ = some (.slice (some ⟨gB, 0, none⟩) n cB) ∧ U.cell? ⟨Tb, 5, none⟩ = some (.slice ad nd cd) := fun U hU => ⟨grown_cell c1 (hr2 hU) hxB, grown_cell v5 (hr2 hU) (fun e => HT.out (hyF _ e))⟩
      have HLZ : Hid (Lies .u8 V.drew ad zs) := lies_kd HV.out.2.drew HZ.out.2.1 (fun b off h e q => HZ.out.2.2.1 b off h e q.1)
      have HAp : Hid (∀ v' w', w'.ownsRow 0 5 1 v' (bs.length + nd) (bs.map (Value.int .u8) ++ zs.map (Value.int .u8)) → V.drew.grownBy w' (Value.slice av bs.length cv).ownBlock → (v'.ownBlock = (Value.slice av bs.length cv).ownBlock ∨ ∃ g, v'.ownBlock = some g ∧ V.heap.size ≤ g) → Pm (w'.setCell ⟨gB, i, none⟩ v') x (up (fc F w) V) ((tkD D).fs' (addF D.fs s zs)) ∧ Kd (fc F w) V (w'.setCell ⟨gB, i, none⟩ v')) := by
        intro v' w' r1 r2 r3
        have h1 := hc.app hp (v' := v') (bs := bs ++ zs) (w' := w') (by rw [List.length_append, List.map_append, HZ.out.1]; exact r1) (hr2 r2) (fun k hk => r3.elim (fun e => .inl (e ▸ hk)) (fun ⟨g, e, hl⟩ => .inr (by rw [e] at hk; cases hk; exact hl)))
        have hpf2 := hpf
        rw [tk_fs] at hpf2
        refine ⟨?_, (Kd.grown (hr2 r2) hyF).trans (Kd.set hfB)⟩
        rw [addF_old HI.out hpf2]
        rw [tk_fs] at h1
        exact ⟨_, _, _, _, h1⟩
      have hne : (Value.slice av bs.length cv).ownBlock ≠ some gB := fun e => d_apart hby hc.rb (by decide) e rfl
      have hlk : cur[i]? = some (.slice av bs.length cv) := (cell_of_row _ _ i _ _ _ hcur).symm.trans kB
      have HB5 : Hid (V.ownsRow 0 5 1 (.slice av bs.length cv) bs.length (bs.map (Value.int .u8))) := hby
      clear hc hp hpf zN zB zS kN kB kS hby hfS hfN hyF hxB
      go_upto_region 14 with fail
      refine regP14 _ Tb x gB n cB i av bs.length cv bs.length ad nd cd zs cur (bs.map (Value.int .u8)) V HB5.out hin HZ.out.1 HLZ.out HZ.out.2.2.2.1 (by omega) hcur hlk hne hcv (fun U hU y => ⟨set_cell (hcv U hU).1 nB, set_cell (hcv U hU).2 nTB⟩) ?_
      intro v9 w9 r1 r2 r3
      have HW2 : Hid _ := HAp.out v9 w9 r1 r2 r3
      obtain ⟨V2, hV2⟩ : ∃ V2, w9.setCell ⟨gB, i, none⟩ v9 = V2 := ⟨_, rfl⟩
      rw [hV2] at HW2 ⊢
      clear r1 r2 r3 hV2 hcv hlk hne hcur HAp HLZ HB5 hr2
      have HF : Hid (TP x F R w (.returned (.int .i64 ((R.2 : Nat) : Int))) V2) := by
        rw [HR2.out, HRes.out]
        exact TP.of HV.out.2 rfl (HW2.out.1) (HW2.out.2)
      have HR3 : Hid (R.2 = actR D) := by show _ = _; rw [HR2.out]
      clear v0 v1 v3 v4 v5 c0 c1 c2
      cases bA with
      | true =>
        go_wp2
        go_ret
        have h9 := HF.out
        rw [HR3.out, HAc.out] at h9
        exact h9
      | false =>
        go_wp2
        go_ret
        have h9 := HF.out
        rw [HR3.out, HAc.out] at h9
        exact h9
    | none =>
      have hK2 : K = -1 := by rw [← HK.out]; exact fI_none hf
      have HI : Hid (fnd D.fs s = none) := hf
      subst hK2
      clear hf
      obtain ⟨vn, vb, vs, L, hc⟩ := HV.out.1
      obtain ⟨n, hn⟩ : ∃ n, L.length = n := ⟨_, rfl⟩
      have hnb : n ≤ 1099511627776 := by have := HOk.out.len; have := hc.len; omega
      obtain ⟨an, cn, hvn⟩ := d_shape hc.rn
      obtain ⟨ab, cb, hvb⟩ := d_shape hc.rb
      obtain ⟨as', cs, hvs⟩ := d_shape hc.rs
      rw [hn] at hvn hvb hvs
      subst hvn hvb hvs
      obtain ⟨i0, hi0, hs0, hs1, hs2⟩ := info_partsD infoU8
      obtain ⟨i1, hi1, hb0, hb1, hb2⟩ := info_partsD infoBs
      obtain ⟨i2, hi2, hn0, hn1, hn2⟩ := info_partsD infoInt
      have HC : Hid (Px V x (fc F w) (bxP (.slice an n cn) (.slice ab n cb) (.slice as' n cs) (tkD D)) (.slice an n cn) (.slice ab n cb) (.slice as' n cs) (L.map nmV) (L.map (·.2)) (L.map sfV) L ∧ L.length = n ∧ L.map (·.1) = D.fs ∧ fc F w x) := ⟨hc.px, hn, by rw [hc.map, tk_fs], hc.fx⟩
      have hrF : ∀ g, (Value.slice an n cn).ownBlock = some g → fc F w g := hc.fn
      have hxB := hc.box
      have hown := hc.rn
      rw [hn] at hown
      have hne : (Value.slice an n cn).ownBlock ≠ some x := d_box hc.rn hc.box (by decide)
      have hr2 : ∀ {U : World}, V.drew.grownBy U (Value.slice an n cn).ownBlock → V.grownBy U (Value.slice an n cn).ownBlock := fun h => ⟨h.os, h.tape, h.output, h.size, h.block⟩
      have hcv : ∀ U : World, V.drew.grownBy U (Value.slice an n cn).ownBlock → U.cell? ⟨Tb, 3, none⟩ = some (.string s) := fun U hU => grown_cell v3 (hr2 hU) (fun e => HT.out (hrF _ e))
      have nTx : Tb ≠ x := fun e => HT.out (e ▸ hc.fx)
      have HOw : Hid (V.ownsRow 0 9 1 (.slice an n cn) n (L.map nmV)) := hown
      have HXB : Hid (V.heap[x]? = some (.cells (bxP (.slice an n cn) (.slice ab n cb) (.slice as' n cs) (tkD D)) 35 (0, 0))) := hxB
      clear hc hn hown hxB
      go_upto_region 8 with fail
      refine regP8 _ Tb x s an n cn n _ _ V HOw.out (by omega) HXB.out rfl hne hcv (fun U hU y => set_cell (hcv U hU) nTx) ?_
      intro v7 w7 r1 r2 r3 r4
      have H1 : Hid (Px (w7.setCell ⟨x, 0, none⟩ v7) x (up (fc F w) V) (bxP v7 (.slice ab n cb) (.slice as' n cs) (tkD D)) v7 (.slice ab n cb) (.slice as' n cs) (L.map nmV ++ [.string s]) (L.map (·.2)) (L.map sfV) L ∧ Kd (fc F w) V (w7.setCell ⟨x, 0, none⟩ v7)) := ⟨HC.out.1.grow0 (by rw [List.length_map, HC.out.2.1]; exact r1) (hr2 r2) r3, (Kd.grown (hr2 r2) hrF).trans (Kd.set HC.out.2.2.2)⟩
      obtain ⟨W1, hW1⟩ : ∃ W1, w7.setCell ⟨x, 0, none⟩ v7 = W1 := ⟨_, rfl⟩
      rw [hW1] at H1 ⊢
      clear r1 r2 r3 r4 hW1 hcv hne HOw HXB hr2 hrF
      have y5 : W1.cell? ⟨Tb, 5, none⟩ = some (.slice ad nd cd) := H1.out.2.cell v5 HT.out
      clear v0 v1 v3 v4 v5
      have HLZ : Hid (Lies .u8 W1 ad zs) := lies_kd (HV.out.2.trans H1.out.2) HZ.out.2.1 (fun b off h e q => HZ.out.2.2.1 b off h e q.1)
      go_upto_region 11 with (at_builtin; refine append_any _ rfl _ _ 36 rfl W1.heap.size 5 i0 (.int .u8 0) 1 Tryd.underlying36 hi0 hs0 hs1 hs2 rfl _ _ _ rfl (World.ownsRow_nil _ _ _ _) .u8 ad nd cd zs rfl HZ.out.2.2.2.1 HZ.out.1 HLZ.out (by unfold maxLen; omega) (by omega) (Nat.le_refl _) ?_; intro vB w2 o2 g2; obtain ⟨aB, cB, rfl⟩ := d_shape o2; have H2' : Hid (w2.ownsRow W1.heap.size 5 1 (.slice aB (0 + nd) cB) (0 + nd) ([] ++ zs.map (Value.int .u8)) ∧ W1.grownBy w2 none) := ⟨o2, g2⟩; clear o2 g2; rw [Nat.zero_add] at H2' ⊢)
      have H2 : Hid (Px w2 x (up (fc F w) V) (bxP v7 (.slice ab n cb) (.slice as' n cs) (tkD D)) v7 (.slice ab n cb) (.slice as' n cs) (L.map nmV ++ [.string s]) (L.map (·.2)) (L.map sfV) (L ++ [((⟨s, zs, 0⟩ : Fl), Value.slice aB nd cB)]) ∧ Kd (fc F w) V w2) :=
        ⟨(H1.out.1.add (f := ⟨s, zs, 0⟩) (v' := .slice aB nd cB) (by show w2.ownsRow 0 _ 1 _ zs.length _; rw [HZ.out.1]; have h9 := own_base H2'.out.1; rw [List.nil_append] at h9; exact h9) H2'.out.2 (fun g hg => (d_lt H2'.out.1 g hg).1)).mono (fun k h _ => h.elim id (fun q => .inr (Nat.le_trans H1.out.2.size q))), H1.out.2.trans (Kd.grown H2'.out.2 (fun g hg => by cases hg))⟩
      clear H2' H1 HLZ y5
      have y1 : w2.cell? ⟨x, 1, none⟩ = some (.slice ab n cb) := H2.out.1.c 1
      have HL1 : Hid ((L.map (·.2)).length = n ∧ (L.map sfV).length = n) := ⟨by rw [List.length_map]; exact HC.out.2.1, by rw [List.length_map]; exact HC.out.2.1⟩
      go_upto_region 12 with (first
          | (at_builtin; refine wpList_append_own_at _ rfl _ _ 32 rfl 0 36 i1 (.slice none 0 0) 1 24 Tryd.underlying32 hi1 hb0 hb1 hb2 rfl (by decide) (.slice ab n cb) (L.map (·.2)).length (L.map (·.2)) rfl (World.ownsRow.alloc H2.out.1.rb _) ⟨w2.heap.size, 0, none⟩ 1 1 [.slice aB nd cB] rfl rfl (one_newD _ _ _) (by simp [Value.oneCell']) (by unfold maxLen; have := HL1.out.1; omega) (by have := HL1.out.1; omega) (by simp) ?_
             intro v5 w5 o5 g5 l5 t5; clear l5
             have H5 : Hid (w5.ownsRow 0 36 1 v5 ((L.map (·.2)).length + 1) (L.map (·.2) ++ [.slice aB nd cB]) ∧ w2.grownBy w5 (Value.slice ab n cb).ownBlock ∧ (v5.ownBlock = (Value.slice ab n cb).ownBlock ∨ ∃ g, v5.ownBlock = some g ∧ w2.heap.size ≤ g)) := ⟨o5, (World.grownBy_alloc w2 _ _).trans g5, t5.imp id (fun e => ⟨_, e, by simp⟩)⟩
             obtain ⟨a5, d5, hv5⟩ := d_shape o5
             rw [HL1.out.1] at hv5
             clear o5 g5 t5
             subst hv5
             have hb5 : w5.heap[x]? = some (.cells (bxP v7 (.slice ab n cb) (.slice as' n cs) (tkD D)) 35 (0, 0)) := (H5.out.2.1.block x H2.out.1.xlt (fun e => d_box H2.out.1.rb H2.out.1.box (by decide) e.symm)).trans H2.out.1.box
             have y11 : w5.cell? ⟨x, 1, none⟩ = some (.slice ab n cb) := cell_of_row _ _ 1 _ _ _ hb5
             have y12 : w5.frozen? ⟨x, 1, none⟩ = false := frozen_of_row _ _ 1 _ _ hb5
             clear hb5 y1))
      have H6 : Hid (Px (w5.setCell ⟨x, 1, none⟩ (.slice a5 (n + 1) d5)) x (up (fc F w) V) (bxP v7 (.slice a5 (n + 1) d5) (.slice as' n cs) (tkD D)) v7 (.slice a5 (n + 1) d5) (.slice as' n cs) (L.map nmV ++ [.string s]) (L.map (·.2) ++ [.slice aB nd cB]) (L.map sfV) (L ++ [((⟨s, zs, 0⟩ : Fl), Value.slice aB nd cB)]) ∧ Kd (fc F w) V (w5.setCell ⟨x, 1, none⟩ (.slice a5 (n + 1) d5))) :=
        ⟨(H2.out.1.grow1 H5.out.1 H5.out.2.1 H5.out.2.2).mono (fun k h _ => h.elim id (fun q => .inr (Nat.le_trans H2.out.2.size q))), Kd.upTrans H2.out.2 ((Kd.grown H5.out.2.1 (fun g hg => H2.out.1.fb g hg)).trans (Kd.set H2.out.1.fx))⟩
      obtain ⟨W6, hW6⟩ : ∃ W6, w5.setCell ⟨x, 1, none⟩ (.slice a5 (n + 1) d5) = W6 := ⟨_, rfl⟩
      rw [hW6] at H6 ⊢
      clear hW6 H2 H5 y11 y12
      have y2 : W6.cell? ⟨x, 2, none⟩ = some (.slice as' n cs) := H6.out.1.c 2
      go_upto_region 27 with (first
          | (at_builtin; refine wpList_append_own_at _ rfl _ _ 33 rfl 0 3 i2 (.int .i64 0) 1 8 Tryd.underlying33 hi2 hn0 hn1 hn2 rfl (by decide) (.slice as' n cs) (L.map sfV).length (L.map sfV) rfl (World.ownsRow.alloc H6.out.1.rs _) ⟨W6.heap.size, 0, none⟩ 1 1 [.int .i64 0] rfl rfl (one_newD _ _ _) (by simp [Value.oneCell']) (by unfold maxLen; have := HL1.out.2; omega) (by have := HL1.out.2; omega) (by simp) ?_
             intro v8 w8 o8 g8 l8 t8; clear l8
             have H8 : Hid (w8.ownsRow 0 3 1 v8 ((L.map sfV).length + 1) (L.map sfV ++ [.int .i64 0]) ∧ W6.grownBy w8 (Value.slice as' n cs).ownBlock ∧ (v8.ownBlock = (Value.slice as' n cs).ownBlock ∨ ∃ g, v8.ownBlock = some g ∧ W6.heap.size ≤ g)) := ⟨o8, (World.grownBy_alloc W6 _ _).trans g8, t8.imp id (fun e => ⟨_, e, by simp⟩)⟩
             obtain ⟨a8, d8, hv8⟩ := d_shape o8
             rw [HL1.out.2] at hv8
             clear o8 g8 t8
             subst hv8
             have hb8 : w8.heap[x]? = some (.cells (bxP v7 (.slice a5 (n + 1) d5) (.slice as' n cs) (tkD D)) 35 (0, 0)) := (H8.out.2.1.block x H6.out.1.xlt (fun e => d_box H6.out.1.rs H6.out.1.box (by decide) e.symm)).trans H6.out.1.box
             have y21 : w8.cell? ⟨x, 2, none⟩ = some (.slice as' n cs) := cell_of_row _ _ 2 _ _ _ hb8
             have y22 : w8.frozen? ⟨x, 2, none⟩ = false := frozen_of_row _ _ 2 _ _ hb8
             clear hb8 y2))
      obtain ⟨V2, hV2⟩ : ∃ V2, w8.setCell ⟨x, 2, none⟩ (.slice a8 (n + 1) d8) = V2 := ⟨_, rfl⟩
      have HW2 : Hid (Pm V2 x (up (fc F w) V) ((tkD D).fs' (addF D.fs s zs)) ∧ Kd (fc F w) V V2) := by
        have h1 := (H6.out.1.grow2 H8.out.1 H8.out.2.1 H8.out.2.2).mono (G := up (fc F w) V) (fun k h _ => h.elim id (fun q => .inr (Nat.le_trans H6.out.2.size q)))
        rw [hV2] at h1
        refine ⟨⟨_, _, _, _, h1.pc rfl (by simp [nmV]) (by simp) (by simp [sfV]) ?_⟩, ?_⟩
        · rw [addF_new HI.out, List.map_append, HC.out.2.2.1]; rfl
        · rw [← hV2]
          exact Kd.upTrans H6.out.2 ((Kd.grown H8.out.2.1 (fun g hg => H6.out.1.fs g hg)).trans (Kd.set H6.out.1.fx))
      rw [hV2]
      clear hV2 H6 H8 y21 y22
      have HF : Hid (TP x F R w (.returned (.int .i64 ((R.2 : Nat) : Int))) V2) := by
        rw [HR2.out, HRes.out]
        exact TP.of HV.out.2 rfl (HW2.out.1) (HW2.out.2)
      have HR3 : Hid (R.2 = actR D) := by show _ = _; rw [HR2.out]
      clear HC
      cases bA with
      | true =>
        go_wp2
        go_ret
        have h9 := HF.out
        rw [HR3.out, HAc.out] at h9
        exact h9
      | false =>
        go_wp2
        go_ret
        have h9 := HF.out
        rw [HR3.out, HAc.out] at h9
        exact h9

end Go.Proofs.YticdedcgmofpjaaDoor.K
