import Derived.Test.YtblkpmelneignacRad
import Derived.Test.YtblkpmelneignacUnt
namespace Go.Proofs.Ytblkpmelneignac
open Go.RowKit

theorem Kp.next {T T' : Nat → Prop} {A B C : World} (h : Kp T A B) (h' : Kp T' B C) (ht : ∀ k, T' k → T k ∨ A.heap.size ≤ k) : Kp T A C :=
  ⟨h'.os.trans h.os, h'.tape.trans h.tape, h'.output.trans h.output, Nat.le_trans h.size h'.size, fun k hk hn => (h'.block k (Nat.lt_of_lt_of_le hk h.size) (fun q => by rcases ht k q with r | r; exact hn r; omega)).trans (h.block k hk hn)⟩
theorem Kp.ofBelow {T : Nat → Prop} {A B : World} (h : Below A.heap.size A B) : Kp T A B := ⟨h.os, h.tape, h.output, h.size, fun k hk _ => h.block k hk⟩
theorem inC_app {cs ds : List Rw} {g : Nat} (h : inC (cs ++ ds) g) : inC cs g ∨ inC ds g := by
  obtain ⟨j, x, hx, hg⟩ := h
  rcases List.mem_append.mp (List.mem_of_getElem? hx) with q | q
  · obtain ⟨k, hk⟩ := List.getElem?_of_mem q; exact .inl ⟨k, x, hk, hg⟩
  · obtain ⟨k, hk⟩ := List.getElem?_of_mem q; exact .inr ⟨k, x, hk, hg⟩
theorem inC_one {x : Rw} {g : Nat} (h : inC [x] g) : x.1.ownBlock = some g := by
  obtain ⟨j, y, hy, hg⟩ := h
  have := List.mem_of_getElem? hy
  simp at this
  subst this
  exact hg

/-- What asks does: its three lists come into the book. -/
def AskPost (w : World) (lo Bk : Nat) (lv : Value) (cs : List Rw) (e : Ending) (w' : World) : Prop := e = .returned (.bool true) ∧ ∃ lv' cs', Bkp w' lo Bk lv' cs' ∧ cs'.length = cs.length + 3 ∧ Kp (fun g => g = Bk ∨ lv.ownBlock = some g) w w' ∧ (∀ g, lv'.ownBlock = some g → lv.ownBlock = some g ∨ w.heap.size ≤ g) ∧ (∀ g, inC cs' g → inC cs g ∨ w.heap.size ≤ g)

set_option maxHeartbeats 16000000 in
set_option maxRecDepth 100000 in
theorem asks_any (ai al : Option Addr) (ci cl : Nat) (l : List Sp) (w : World) (f t : Int) (lo Bk : Nat) (lv : Value) (cs : List Rw) (hi : Ls w (.slice ai l.length ci) l) (hl : Ls w (.slice al l.length cl) l) (hn : al = none → cl = 0) (hb : Bkp w lo Bk lv cs) (hm : cs.length ≤ 1000) :
    Calls Try.prog 11 #[.pointer (some ⟨Bk, 0, none⟩), .slice ai l.length ci, .slice al l.length cl, .agg #[.int .i64 f, .int .i64 t]] w (AskPost w lo Bk lv cs) := by
  have hb0 := below_box w f t
  have d0 := box0 w (.int .i64 f) (.int .i64 t) 24
  have d1 := box1 w (.int .i64 f) (.int .i64 t) 24
  have hi0 := hi.below hb0
  have hl0 := hl.below hb0
  have hbk0 := hb.below hb0
  have HNc : Hid (al = none → cl = 0) := hn
  have hBl : Bk < w.heap.size := hb.book.lt
  have hlo : lo ≤ Bk := hb.lo
  have HLv : Hid (∀ g, lv.ownBlock = some g → g < w.heap.size) := fun g hg => (hb.row.lt g hg).2
  have HCs : Hid (∀ g, inC cs g → g < w.heap.size) := fun g ⟨j, y, hy, hg⟩ => ((hb.cl.own j y hy).lt g hg).2
  clear hn hi hl hb
  go_enter Try.func11, Try.ntmps11
  go_wp2_with fail
  obtain ⟨wb, hwb⟩ : ∃ wb, w.alloc (.cells #[.int .i64 f, .int .i64 t] 24) = wb := ⟨_, rfl⟩
  rw [hwb] at hb0 d0 d1 hi0 hl0 hbk0 ⊢
  clear hwb
  have HI : Hid (∀ W, Below wb.heap.size wb W → Ls W (.slice ai l.length ci) l) := fun W hW => hi0.below hW
  have HL : Hid (∀ W, Below wb.heap.size wb W → Ls W (.slice al l.length cl) l) := fun W hW => hl0.below hW
  have HK0 : Hid (∀ W, Below wb.heap.size wb W → Bkp W lo Bk lv cs) := fun W hW => hbk0.below hW
  have HF : Hid (∀ W, Below wb.heap.size wb W → Below w.heap.size w W) := fun W hW => hb0.trans (hW.mono hb0.size)
  have HD : Hid (∀ W, Below wb.heap.size wb W → W.cell? ⟨w.heap.size, 0, none⟩ = some (.int .i64 f) ∧ W.cell? ⟨w.heap.size, 1, none⟩ = some (.int .i64 t)) := fun W hW => ⟨cell_below d0 hW, cell_below d1 hW⟩
  have szb : w.heap.size ≤ wb.heap.size := hb0.size
  obtain ⟨w0, hw0⟩ : ∃ w0, w0 = wb := ⟨wb, rfl⟩
  have HW0 : Hid (Below wb.heap.size wb w0) := by rw [hw0]; exact Below.refl _ _
  have sz0 : wb.heap.size ≤ w0.heap.size := by rw [hw0]; exact Nat.le_refl _
  rw [← hw0] at d0 d1 ⊢
  have k0 := d0
  have k1 := d1
  clear hb0 d0 d1 hi0 hl0 hbk0 hw0
  have HRr : Hid (∀ W, Below wb.heap.size wb W → Calls Try.prog 24 #[.slice al l.length cl] W fun e w' => e = .returned (.bool (setB l)) ∧ Below W.heap.size W w') := fun W hW => refright_ls (HL.out W hW)
  have HRp : Hid (∀ W, Below wb.heap.size wb W → Calls Try.prog 23 #[.slice ai l.length ci] W fun e w' => e = .returned (.bool (setB l)) ∧ Below W.heap.size W w') := fun W hW => right_ls (HI.out W hW)
  have HCr : Hid (∀ W, Below wb.heap.size wb W → Calls Try.prog 33 #[.slice al l.length cl, .agg #[.int .i64 f, .int .i64 t]] W fun e w' => e = .returned (.bool (cvB l (f, t))) ∧ Below W.heap.size W w') := fun W hW => refcovers_any f t (HL.out W hW)
  have HCp : Hid (∀ W, Below wb.heap.size wb W → Calls Try.prog 27 #[.slice ai l.length ci, .agg #[.int .i64 f, .int .i64 t]] W fun e w' => e = .returned (.bool (cvB l (f, t))) ∧ Below W.heap.size W w') := fun W hW => covers_any f t (HI.out W hW)
  have HZr : Hid (∀ W, Below wb.heap.size wb W → Calls Try.prog 34 #[.slice al l.length cl] W fun e w' => e = .returned (.int .i64 (szB l)) ∧ Below W.heap.size W w') := fun W hW => refsize_any (HL.out W hW)
  have HZp : Hid (∀ W, Below wb.heap.size wb W → Calls Try.prog 28 #[.slice ai l.length ci] W fun e w' => e = .returned (.int .i64 (szB l)) ∧ Below W.heap.size W w') := fun W hW => size_ls (HI.out W hW)
  generalize setB l = V at *
  generalize cvB l (f, t) = C at *
  generalize szB l = Z at *
  refine (HRr.out w0 HW0.out).mono ?_
  rintro e w1 ⟨rfl, hb1⟩
  have HW1 : Hid (Below wb.heap.size wb w1) := HW0.out.trans (hb1.mono HW0.out.size)
  have sz1 : w0.heap.size ≤ w1.heap.size := hb1.size
  clear hb1 k0 k1
  obtain ⟨k0, k1⟩ := HD.out w1 HW1.out
  go_wp2_with fail
  refine (refadd_in al cl l w1 f t (HL.out w1 HW1.out) HNc.out).mono ?_
  rintro e w2 ⟨v2, u, n, eu, rfl, hs2, hr2, hb2⟩
  have HW2 : Hid (Below wb.heap.size wb w2) := HW1.out.trans (hb2.mono HW1.out.size)
  have sz2 : w1.heap.size ≤ w2.heap.size := hb2.size
  obtain ⟨a2, c2, rfl⟩ := hs2.shape
  have O2 : Hid (SOwn w2 w1.heap.size (.slice a2 u.length c2) (u)) := hs2
  have RU : Hid (AR l (f, t) u n eu) := hr2
  have lu := hr2.1.len
  clear hs2 hr2
  clear hb2 k0 k1
  obtain ⟨k0, k1⟩ := HD.out w2 HW2.out
  go_wp2_with fail
  refine (refgaps_any f t (HL.out w2 HW2.out)).mono ?_
  rintro e w3 ⟨v3, gl, eg, rfl, hs3, hr3, hb3⟩
  have HW3 : Hid (Below wb.heap.size wb w3) := HW2.out.trans (hb3.mono HW2.out.size)
  have sz3 : w2.heap.size ≤ w3.heap.size := hb3.size
  replace O2 : Hid (SOwn w3 w1.heap.size (.slice a2 u.length c2) (u)) := O2.out.below hb3
  obtain ⟨a3, c3, rfl⟩ := hs3.shape
  have O3 : Hid (SOwn w3 w2.heap.size (.slice a3 gl.length c3) (gl)) := hs3
  have RG : Hid (GR false l (f, t) gl eg) := hr3
  have lg := hr3.len
  clear hs3 hr3
  clear hb3 k0 k1
  obtain ⟨k0, k1⟩ := HD.out w3 HW3.out
  go_wp2_with fail
  refine (refwithin_any f t (HL.out w3 HW3.out)).mono ?_
  rintro e w4 ⟨v4, q, eq, rfl, hs4, hr4, hb4⟩
  have HW4 : Hid (Below wb.heap.size wb w4) := HW3.out.trans (hb4.mono HW3.out.size)
  have sz4 : w3.heap.size ≤ w4.heap.size := hb4.size
  replace O2 : Hid (SOwn w4 w1.heap.size (.slice a2 u.length c2) (u)) := O2.out.below hb4
  replace O3 : Hid (SOwn w4 w2.heap.size (.slice a3 gl.length c3) (gl)) := O3.out.below hb4
  obtain ⟨a4, c4, rfl⟩ := hs4.shape
  have O4 : Hid (SOwn w4 w3.heap.size (.slice a4 q.length c4) (q)) := hs4
  have RQ : Hid (GR true l (f, t) q eq) := hr4
  have lq := hr4.len
  clear hs4 hr4
  clear hb4 k0 k1
  obtain ⟨k0, k1⟩ := HD.out w4 HW4.out
  go_wp2_with fail
  refine (HCr.out w4 HW4.out).mono ?_
  rintro e w5 ⟨rfl, hb5⟩
  have HW5 : Hid (Below wb.heap.size wb w5) := HW4.out.trans (hb5.mono HW4.out.size)
  have sz5 : w4.heap.size ≤ w5.heap.size := hb5.size
  replace O2 : Hid (SOwn w5 w1.heap.size (.slice a2 u.length c2) (u)) := O2.out.below hb5
  replace O3 : Hid (SOwn w5 w2.heap.size (.slice a3 gl.length c3) (gl)) := O3.out.below hb5
  replace O4 : Hid (SOwn w5 w3.heap.size (.slice a4 q.length c4) (q)) := O4.out.below hb5
  clear HCr
  clear hb5 k0 k1
  obtain ⟨k0, k1⟩ := HD.out w5 HW5.out
  go_wp2_with fail
  refine (HZr.out w5 HW5.out).mono ?_
  rintro e w6 ⟨rfl, hb6⟩
  have HW6 : Hid (Below wb.heap.size wb w6) := HW5.out.trans (hb6.mono HW5.out.size)
  have sz6 : w5.heap.size ≤ w6.heap.size := hb6.size
  replace O2 : Hid (SOwn w6 w1.heap.size (.slice a2 u.length c2) (u)) := O2.out.below hb6
  replace O3 : Hid (SOwn w6 w2.heap.size (.slice a3 gl.length c3) (gl)) := O3.out.below hb6
  replace O4 : Hid (SOwn w6 w3.heap.size (.slice a4 q.length c4) (q)) := O4.out.below hb6
  clear HZr
  clear hb6 k0 k1
  obtain ⟨k0, k1⟩ := HD.out w6 HW6.out
  go_wp2_with fail
  refine (HRp.out w6 HW6.out).mono ?_
  rintro e w7 ⟨rfl, hb7⟩
  have HW7 : Hid (Below wb.heap.size wb w7) := HW6.out.trans (hb7.mono HW6.out.size)
  have sz7 : w6.heap.size ≤ w7.heap.size := hb7.size
  replace O2 : Hid (SOwn w7 w1.heap.size (.slice a2 u.length c2) (u)) := O2.out.below hb7
  replace O3 : Hid (SOwn w7 w2.heap.size (.slice a3 gl.length c3) (gl)) := O3.out.below hb7
  replace O4 : Hid (SOwn w7 w3.heap.size (.slice a4 q.length c4) (q)) := O4.out.below hb7
  clear HRp
  clear hb7 k0 k1
  obtain ⟨k0, k1⟩ := HD.out w7 HW7.out
  go_wp2_with fail
  refine (add_any f t (HI.out w7 HW7.out)).mono ?_
  rintro e w8 ⟨v8, u8, n8, e8, rfl, hs8, hr8, hb8⟩
  have HW8 : Hid (Below wb.heap.size wb w8) := HW7.out.trans (hb8.mono HW7.out.size)
  have sz8 : w7.heap.size ≤ w8.heap.size := hb8.size
  replace O2 : Hid (SOwn w8 w1.heap.size (.slice a2 u.length c2) (u)) := O2.out.below hb8
  replace O3 : Hid (SOwn w8 w2.heap.size (.slice a3 gl.length c3) (gl)) := O3.out.below hb8
  replace O4 : Hid (SOwn w8 w3.heap.size (.slice a4 q.length c4) (q)) := O4.out.below hb8
  have h8 := hr8.uniq RU.out
  have h8a := h8.1.symm
  have h8b := h8.2.1.symm
  have h8c := h8.2.2.symm
  subst h8a
  subst h8b
  subst h8c
  clear h8
  obtain ⟨a8, c8, rfl⟩ := hs8.shape
  have O8 : Hid (SOwn w8 w7.heap.size (.slice a8 u.length c8) (u)) := hs8
  have p8 : Hid (∀ g, (Value.slice a8 u.length c8).ownBlock = some g → w7.heap.size ≤ g ∧ g < w8.heap.size) := hs8.lt
  clear hs8 hr8
  clear hb8 k0 k1
  obtain ⟨k0, k1⟩ := HD.out w8 HW8.out
  go_wp2_with fail
  refine (gaps_any f t (HI.out w8 HW8.out)).mono ?_
  rintro e w9 ⟨v9, u9, e9, rfl, hs9, hr9, hb9⟩
  have HW9 : Hid (Below wb.heap.size wb w9) := HW8.out.trans (hb9.mono HW8.out.size)
  have sz9 : w8.heap.size ≤ w9.heap.size := hb9.size
  replace O2 : Hid (SOwn w9 w1.heap.size (.slice a2 u.length c2) (u)) := O2.out.below hb9
  replace O3 : Hid (SOwn w9 w2.heap.size (.slice a3 gl.length c3) (gl)) := O3.out.below hb9
  replace O4 : Hid (SOwn w9 w3.heap.size (.slice a4 q.length c4) (q)) := O4.out.below hb9
  replace O8 : Hid (SOwn w9 w7.heap.size (.slice a8 u.length c8) (u)) := O8.out.below hb9
  have h9 := hr9.uniq RG.out
  have h9a := h9.1.symm
  have h9b := h9.2.symm
  subst h9a
  subst h9b
  clear h9
  obtain ⟨a9, c9, rfl⟩ := hs9.shape
  have O9 : Hid (SOwn w9 w8.heap.size (.slice a9 gl.length c9) (gl)) := hs9
  have p9 : Hid (∀ g, (Value.slice a9 gl.length c9).ownBlock = some g → w8.heap.size ≤ g ∧ g < w9.heap.size) := hs9.lt
  clear hs9 hr9
  clear hb9 k0 k1
  obtain ⟨k0, k1⟩ := HD.out w9 HW9.out
  go_wp2_with fail
  refine (within_any f t (HI.out w9 HW9.out)).mono ?_
  rintro e w10 ⟨v10, u10, e10, rfl, hs10, hr10, hb10⟩
  have HW10 : Hid (Below wb.heap.size wb w10) := HW9.out.trans (hb10.mono HW9.out.size)
  have sz10 : w9.heap.size ≤ w10.heap.size := hb10.size
  replace O2 : Hid (SOwn w10 w1.heap.size (.slice a2 u.length c2) (u)) := O2.out.below hb10
  replace O3 : Hid (SOwn w10 w2.heap.size (.slice a3 gl.length c3) (gl)) := O3.out.below hb10
  replace O4 : Hid (SOwn w10 w3.heap.size (.slice a4 q.length c4) (q)) := O4.out.below hb10
  replace O8 : Hid (SOwn w10 w7.heap.size (.slice a8 u.length c8) (u)) := O8.out.below hb10
  replace O9 : Hid (SOwn w10 w8.heap.size (.slice a9 gl.length c9) (gl)) := O9.out.below hb10
  have h10 := hr10.uniq RQ.out
  have h10a := h10.1.symm
  have h10b := h10.2.symm
  subst h10a
  subst h10b
  clear h10
  obtain ⟨a10, c10, rfl⟩ := hs10.shape
  have O10 : Hid (SOwn w10 w9.heap.size (.slice a10 q.length c10) (q)) := hs10
  have p10 : Hid (∀ g, (Value.slice a10 q.length c10).ownBlock = some g → w9.heap.size ≤ g ∧ g < w10.heap.size) := hs10.lt
  clear hs10 hr10
  clear hb10 k0 k1
  obtain ⟨k0, k1⟩ := HD.out w10 HW10.out
  go_wp2_with fail
  refine (HCp.out w10 HW10.out).mono ?_
  rintro e w11 ⟨rfl, hb11⟩
  have HW11 : Hid (Below wb.heap.size wb w11) := HW10.out.trans (hb11.mono HW10.out.size)
  have sz11 : w10.heap.size ≤ w11.heap.size := hb11.size
  replace O2 : Hid (SOwn w11 w1.heap.size (.slice a2 u.length c2) (u)) := O2.out.below hb11
  replace O3 : Hid (SOwn w11 w2.heap.size (.slice a3 gl.length c3) (gl)) := O3.out.below hb11
  replace O4 : Hid (SOwn w11 w3.heap.size (.slice a4 q.length c4) (q)) := O4.out.below hb11
  replace O8 : Hid (SOwn w11 w7.heap.size (.slice a8 u.length c8) (u)) := O8.out.below hb11
  replace O9 : Hid (SOwn w11 w8.heap.size (.slice a9 gl.length c9) (gl)) := O9.out.below hb11
  replace O10 : Hid (SOwn w11 w9.heap.size (.slice a10 q.length c10) (q)) := O10.out.below hb11
  clear HCp
  clear hb11 k0 k1
  obtain ⟨k0, k1⟩ := HD.out w11 HW11.out
  go_wp2_with fail
  refine (HZp.out w11 HW11.out).mono ?_
  rintro e w12 ⟨rfl, hb12⟩
  have HW12 : Hid (Below wb.heap.size wb w12) := HW11.out.trans (hb12.mono HW11.out.size)
  have sz12 : w11.heap.size ≤ w12.heap.size := hb12.size
  replace O2 : Hid (SOwn w12 w1.heap.size (.slice a2 u.length c2) (u)) := O2.out.below hb12
  replace O3 : Hid (SOwn w12 w2.heap.size (.slice a3 gl.length c3) (gl)) := O3.out.below hb12
  replace O4 : Hid (SOwn w12 w3.heap.size (.slice a4 q.length c4) (q)) := O4.out.below hb12
  replace O8 : Hid (SOwn w12 w7.heap.size (.slice a8 u.length c8) (u)) := O8.out.below hb12
  replace O9 : Hid (SOwn w12 w8.heap.size (.slice a9 gl.length c9) (gl)) := O9.out.below hb12
  replace O10 : Hid (SOwn w12 w9.heap.size (.slice a10 q.length c10) (q)) := O10.out.below hb12
  clear HZp
  clear hb12 k0 k1
  obtain ⟨k0, k1⟩ := HD.out w12 HW12.out
  have hsm13 := same_ls (O2.out.ls (by omega)) (O8.out.ls (by omega))
  rw [show eqB u u = true from decide_eq_true rfl] at hsm13
  go_wp2_with fail
  refine (hsm13).mono ?_
  rintro e w13 ⟨rfl, hb13⟩
  have HW13 : Hid (Below wb.heap.size wb w13) := HW12.out.trans (hb13.mono HW12.out.size)
  have sz13 : w12.heap.size ≤ w13.heap.size := hb13.size
  replace O2 : Hid (SOwn w13 w1.heap.size (.slice a2 u.length c2) (u)) := O2.out.below hb13
  replace O3 : Hid (SOwn w13 w2.heap.size (.slice a3 gl.length c3) (gl)) := O3.out.below hb13
  replace O4 : Hid (SOwn w13 w3.heap.size (.slice a4 q.length c4) (q)) := O4.out.below hb13
  replace O8 : Hid (SOwn w13 w7.heap.size (.slice a8 u.length c8) (u)) := O8.out.below hb13
  replace O9 : Hid (SOwn w13 w8.heap.size (.slice a9 gl.length c9) (gl)) := O9.out.below hb13
  replace O10 : Hid (SOwn w13 w9.heap.size (.slice a10 q.length c10) (q)) := O10.out.below hb13
  clear hsm13
  clear hb13 k0 k1
  obtain ⟨k0, k1⟩ := HD.out w13 HW13.out
  have hsm14 := same_ls (O3.out.ls (by omega)) (O9.out.ls (by omega))
  rw [show eqB gl gl = true from decide_eq_true rfl] at hsm14
  go_wp2_with fail
  refine (hsm14).mono ?_
  rintro e w14 ⟨rfl, hb14⟩
  have HW14 : Hid (Below wb.heap.size wb w14) := HW13.out.trans (hb14.mono HW13.out.size)
  have sz14 : w13.heap.size ≤ w14.heap.size := hb14.size
  replace O2 : Hid (SOwn w14 w1.heap.size (.slice a2 u.length c2) (u)) := O2.out.below hb14
  replace O3 : Hid (SOwn w14 w2.heap.size (.slice a3 gl.length c3) (gl)) := O3.out.below hb14
  replace O4 : Hid (SOwn w14 w3.heap.size (.slice a4 q.length c4) (q)) := O4.out.below hb14
  replace O8 : Hid (SOwn w14 w7.heap.size (.slice a8 u.length c8) (u)) := O8.out.below hb14
  replace O9 : Hid (SOwn w14 w8.heap.size (.slice a9 gl.length c9) (gl)) := O9.out.below hb14
  replace O10 : Hid (SOwn w14 w9.heap.size (.slice a10 q.length c10) (q)) := O10.out.below hb14
  clear hsm14
  clear hb14 k0 k1
  obtain ⟨k0, k1⟩ := HD.out w14 HW14.out
  have hsm15 := same_ls (O4.out.ls (by omega)) (O10.out.ls (by omega))
  rw [show eqB q q = true from decide_eq_true rfl] at hsm15
  go_wp2_with fail
  refine (hsm15).mono ?_
  rintro e w15 ⟨rfl, hb15⟩
  have HW15 : Hid (Below wb.heap.size wb w15) := HW14.out.trans (hb15.mono HW14.out.size)
  have sz15 : w14.heap.size ≤ w15.heap.size := hb15.size
  replace O2 : Hid (SOwn w15 w1.heap.size (.slice a2 u.length c2) (u)) := O2.out.below hb15
  replace O3 : Hid (SOwn w15 w2.heap.size (.slice a3 gl.length c3) (gl)) := O3.out.below hb15
  replace O4 : Hid (SOwn w15 w3.heap.size (.slice a4 q.length c4) (q)) := O4.out.below hb15
  replace O8 : Hid (SOwn w15 w7.heap.size (.slice a8 u.length c8) (u)) := O8.out.below hb15
  replace O9 : Hid (SOwn w15 w8.heap.size (.slice a9 gl.length c9) (gl)) := O9.out.below hb15
  replace O10 : Hid (SOwn w15 w9.heap.size (.slice a10 q.length c10) (q)) := O10.out.below hb15
  clear hsm15
  clear hb15 k0 k1
  obtain ⟨k0, k1⟩ := HD.out w15 HW15.out
  clear k0 k1 RU RG RQ O2 O3 O4 HD HI HL HRr
  have HB15 : Hid (Bkp w15 lo Bk lv cs) := HK0.out w15 HW15.out
  have HKp15 : Hid (Kp (fun g => g = Bk ∨ lv.ownBlock = some g) w w15) := Kp.ofBelow (HF.out w15 HW15.out)
  have T15 : Hid (∀ g, lv.ownBlock = some g → lv.ownBlock = some g ∨ w15.heap.size ≤ g) := fun g h => .inl h
  have sy15 : w15.heap.size ≤ w15.heap.size := Nat.le_refl _
  clear HK0 HF
  have HIc15 : Hid (∀ g, inC cs g → inC cs g) := fun g h => by
    exact h
  have fr16 : Frs w15 lo Bk lv cs (Value.slice a8 u.length c8, u) := ⟨O8.out.base (by omega), fun g hg => ⟨by have := p8.out g hg; omega, fun e => by
    have hp := p8.out g hg
    rcases T15.out g e with h | h
    · have := HLv.out g h; omega
    · omega⟩, (fun j y hy g hg e => by
    have hp := p8.out g hg
    have hin := HIc15.out g ⟨j, y, hy, e⟩
    have := HCs.out g hin; omega), by show u.length ≤ 1048576; omega⟩
  go_wp2_with fail
  refine (keep_any HB15.out fr16 (by first | omega | (simp; omega))).mono ?_
  rintro e w16 ⟨⟨x16, rfl⟩, lv16, hbk16, hk16, hl16⟩
  have HB16 : Hid (Bkp w16 lo Bk lv16 (cs ++ [(Value.slice a8 u.length c8, u)])) := hbk16
  have sy16 : w15.heap.size ≤ w16.heap.size := Nat.le_trans sy15 hk16.size
  have T16 : Hid (∀ g, lv16.ownBlock = some g → lv.ownBlock = some g ∨ w15.heap.size ≤ g) := fun g e => by
    rcases hl16 g e with h | h
    · exact T15.out g h
    · exact .inr (by omega)
  have HKp16 : Hid (Kp (fun g => g = Bk ∨ lv.ownBlock = some g) w w16) := HKp15.out.next hk16 (fun g h => by
    rcases h with h | h
    · exact .inl (.inl h)
    · rcases T15.out g h with h | h
      · exact .inl (.inr h)
      · exact .inr (by omega))
  replace O9 : Hid (SOwn w16 w8.heap.size (.slice a9 gl.length c9) (gl)) := O9.out.kp hk16 (fun g hg h => by
    have hp := p9.out g hg
    rcases h with h | h
    · omega
    · rcases T15.out g h with h | h
      · have := HLv.out g h; omega
      · omega)
  replace O10 : Hid (SOwn w16 w9.heap.size (.slice a10 q.length c10) (q)) := O10.out.kp hk16 (fun g hg h => by
    have hp := p10.out g hg
    rcases h with h | h
    · omega
    · rcases T15.out g h with h | h
      · have := HLv.out g h; omega
      · omega)
  clear hbk16 hk16 hl16 fr16 HB15 HKp15 T15 O8
  have HIc16 : Hid (∀ g, inC (cs ++ [(Value.slice a8 u.length c8, u)]) g → inC cs g ∨ (Value.slice a8 u.length c8).ownBlock = some g) := fun g h => by
    rcases inC_app h with h | h
    · exact .inl h
    · exact .inr (inC_one h)
  have fr17 : Frs w16 lo Bk lv16 (cs ++ [(Value.slice a8 u.length c8, u)]) (Value.slice a9 gl.length c9, gl) := ⟨O9.out.base (by omega), fun g hg => ⟨by have := p9.out g hg; omega, fun e => by
    have hp := p9.out g hg
    rcases T16.out g e with h | h
    · have := HLv.out g h; omega
    · omega⟩, (fun j y hy g hg e => by
    have hp := p9.out g hg
    have hin := HIc16.out g ⟨j, y, hy, e⟩
    rcases hin with h | h
    · have := HCs.out g h; omega
    · have := p8.out g h; omega), by show gl.length ≤ 1048576; omega⟩
  go_wp2_with fail
  refine (keep_any HB16.out fr17 (by first | omega | (simp; omega))).mono ?_
  rintro e w17 ⟨⟨x17, rfl⟩, lv17, hbk17, hk17, hl17⟩
  have HB17 : Hid (Bkp w17 lo Bk lv17 ((cs ++ [(Value.slice a8 u.length c8, u)]) ++ [(Value.slice a9 gl.length c9, gl)])) := hbk17
  have sy17 : w15.heap.size ≤ w17.heap.size := Nat.le_trans sy16 hk17.size
  have T17 : Hid (∀ g, lv17.ownBlock = some g → lv.ownBlock = some g ∨ w15.heap.size ≤ g) := fun g e => by
    rcases hl17 g e with h | h
    · exact T16.out g h
    · exact .inr (by omega)
  have HKp17 : Hid (Kp (fun g => g = Bk ∨ lv.ownBlock = some g) w w17) := HKp16.out.next hk17 (fun g h => by
    rcases h with h | h
    · exact .inl (.inl h)
    · rcases T16.out g h with h | h
      · exact .inl (.inr h)
      · exact .inr (by omega))
  replace O10 : Hid (SOwn w17 w9.heap.size (.slice a10 q.length c10) (q)) := O10.out.kp hk17 (fun g hg h => by
    have hp := p10.out g hg
    rcases h with h | h
    · omega
    · rcases T16.out g h with h | h
      · have := HLv.out g h; omega
      · omega)
  clear hbk17 hk17 hl17 fr17 HB16 HKp16 T16 O9
  have HIc17 : Hid (∀ g, inC ((cs ++ [(Value.slice a8 u.length c8, u)]) ++ [(Value.slice a9 gl.length c9, gl)]) g → inC cs g ∨ (Value.slice a8 u.length c8).ownBlock = some g ∨ (Value.slice a9 gl.length c9).ownBlock = some g) := fun g h => by
    rcases inC_app h with h | h
    · rcases HIc16.out g h with h | h
      · exact .inl h
      · exact .inr (.inl h)
    · exact .inr (.inr (inC_one h))
  have fr18 : Frs w17 lo Bk lv17 ((cs ++ [(Value.slice a8 u.length c8, u)]) ++ [(Value.slice a9 gl.length c9, gl)]) (Value.slice a10 q.length c10, q) := ⟨O10.out.base (by omega), fun g hg => ⟨by have := p10.out g hg; omega, fun e => by
    have hp := p10.out g hg
    rcases T17.out g e with h | h
    · have := HLv.out g h; omega
    · omega⟩, (fun j y hy g hg e => by
    have hp := p10.out g hg
    have hin := HIc17.out g ⟨j, y, hy, e⟩
    rcases hin with h | h | h
    · have := HCs.out g h; omega
    · have := p8.out g h; omega
    · have := p9.out g h; omega), by show q.length ≤ 1048576; omega⟩
  go_wp2_with fail
  refine (keep_any HB17.out fr18 (by first | omega | (simp; omega))).mono ?_
  rintro e w18 ⟨⟨x18, rfl⟩, lv18, hbk18, hk18, hl18⟩
  have HB18 : Hid (Bkp w18 lo Bk lv18 (((cs ++ [(Value.slice a8 u.length c8, u)]) ++ [(Value.slice a9 gl.length c9, gl)]) ++ [(Value.slice a10 q.length c10, q)])) := hbk18
  have sy18 : w15.heap.size ≤ w18.heap.size := Nat.le_trans sy17 hk18.size
  have T18 : Hid (∀ g, lv18.ownBlock = some g → lv.ownBlock = some g ∨ w15.heap.size ≤ g) := fun g e => by
    rcases hl18 g e with h | h
    · exact T17.out g h
    · exact .inr (by omega)
  have HKp18 : Hid (Kp (fun g => g = Bk ∨ lv.ownBlock = some g) w w18) := HKp17.out.next hk18 (fun g h => by
    rcases h with h | h
    · exact .inl (.inl h)
    · rcases T17.out g h with h | h
      · exact .inl (.inr h)
      · exact .inr (by omega))
  clear hbk18 hk18 hl18 fr18 HB17 HKp17 T17 O10
  go_wp2
  go_ret
  refine ⟨by simp, _, _, HB18.out, by simp, HKp18.out, fun g h => ?_, fun g h => ?_⟩
  · rcases T18.out g h with h | h
    · exact .inl h
    · exact .inr (by omega)
  · rcases inC_app h with h | h
    · rcases HIc17.out g h with h | h | h
      · exact .inl h
      · have := p8.out g h; exact .inr (by omega)
      · have := p9.out g h; exact .inr (by omega)
    · have := p10.out g (inC_one h); exact .inr (by omega)

end Go.Proofs.Ytblkpmelneignac
