import Derived.Test.YticdedcgmofpjaaDoorDkTr
namespace Go.Proofs.YticdedcgmofpjaaDoor.K
open Go.RowKit
set_option linter.unusedVariables false
set_option linter.unusedSimpArgs false

/-- A touch: its kind, a number, a flag, two names, bytes. -/
structure Tx where
  dd : Int
  N : Int
  dn : Bool
  nm : ByteArray
  tn : ByteArray
  zs : List Int
def Tat (W : World) (g o : Nat) (t : Tx) : Prop := ∃ ad nd cd, (∀ (j : Nat) u, (toC t.dd t.N t.dn t.nm t.tn ad nd cd)[j]? = some u → W.cell? ⟨g, o + j, none⟩ = some u) ∧ t.zs.length = nd ∧ nd ≤ 1048576 ∧ Bytey t.zs ∧ Lies .u8 W ad t.zs ∧ (ad = none → nd = 0 ∧ cd = 0) ∧ t.N ≤ 9223372036854775807
def Tl (W : World) (a : Option Addr) (l : List Tx) : Prop := l = [] ∨ ∃ g off, a = some ⟨g, off, none⟩ ∧ ∀ (i : Nat) (t : Tx), l[i]? = some t → Tat W g (off + i * 6) t
def X0 (lo : Nat) : Nat → Prop := fun k => k = lo + 1 ∨ k = lo + 2
def Lj (w : World) (lo n : Nat) (v : Value) (wr : World) : Prop := ∃ (i : Nat) (D : Dk), v = .int .i64 i ∧ i ≤ n ∧ Sx w lo lo (lo + 3) (X0 lo) wr D D ∧ D.Ok (i * 1048576)
theorem pm_new (w : World) (M : Int) : Pm (w.alloc (.cells (bxP (.slice none 0 0) (.slice none 0 0) (.slice none 0 0) (dk0 M)) 35)) w.heap.size (fun k => k = w.heap.size) (dk0 M) :=
  ⟨_, _, _, [], rfl, heap_alloc_new _ _, World.ownsRow_nil _ _ _ _, World.ownsRow_nil _ _ _ _, World.ownsRow_nil _ _ _ _, fun i p hp => by simp at hp, fun i j p q g hp => by simp at hp, rfl, fun g hg => (by cases hg), fun g hg => (by cases hg), fun g hg => (by cases hg), fun i p g hp => by simp at hp⟩
theorem act_r (D : Dk) : actR D ≤ 3 := by unfold actR; split <;> omega
theorem app_r (D : Dk) (s : ByteArray) (zs : List Int) : (appD D s zs).2 ≤ 3 := by
  unfold appD
  split
  · simp
  · split
    · simp
    · exact act_r D
theorem file_r (D : Dk) (s : ByteArray) (g : Nat → List Fl) : (fileD D s g).2 ≤ 3 := by
  unfold fileD
  split
  · simp
  · split
    · simp
    · exact act_r D
theorem cl_low {w V : World} {lo : Nat} {a : Addr} (h : Cl w a) (hl : w.heap.size = lo) (hb : Below lo w V) : Cl V a := by
  obtain ⟨ca, ta, hh⟩ := h
  exact ⟨ca, ta, (hb.block a.block (by rw [← hl]; exact (Array.getElem?_eq_some_iff.1 hh).1)).trans hh⟩
theorem pm_arm {V : World} {x : Nat} {G : Nat → Prop} {E : Dk} {N : Int} {dn : Bool} {M : Int} (h : Pm V x G E) (hM : max N 0 = M) : Pm (((V.setCell ⟨x, 5, none⟩ (.bool true)).setCell ⟨x, 4, none⟩ (.int .i64 M)).setCell ⟨x, 6, none⟩ (.bool dn)) x G (armD E N dn) := by
  have hM2 : nn0 N = M := by rw [← hM]; unfold nn0; split <;> omega
  have h1 := h.set (D' := { E with arm := true }) rfl (j := 5) (u := .bool true) (fun _ _ _ => rfl)
  have h2 := h1.set (D' := { E with arm := true, acts := M }) rfl (j := 4) (u := .int .i64 M) (fun _ _ _ => rfl)
  have h3 := h2.set (D' := { E with arm := true, acts := M, dn := dn }) rfl (j := 6) (u := .bool dn) (fun _ _ _ => rfl)
  unfold armD
  rw [hM2]
  exact h3

set_option maxHeartbeats 64000000 in
set_option maxRecDepth 100000 in
theorem disk_walk (room : Int) (a : Option Addr) (l : List Tx) (cap : Nat) (w : World) (aD aF aN : Addr) (hroom : room ≤ 9223372036854775807) (hE : Er w aD aF aN) (h1 : aD ≠ aF) (h2 : aD ≠ aN) (h3 : aF ≠ aN) (cD : Cl w aD) (cF : Cl w aF) (cN : Cl w aN) (hT : Tl w a l) (hn : l.length ≤ 1048576) :
    Calls Tryd.prog 3 #[.int .i64 room, .slice a l.length cap] w fun e w' => e = .returned (.bool true) ∧ Below w.heap.size w w' := by
  obtain ⟨M, hM⟩ : ∃ M, max room 0 = M := ⟨_, rfl⟩
  have hM2 : nn0 room = M := by rw [← hM]; unfold nn0; split <;> omega
  have HM : Hid (0 ≤ M ∧ M ≤ 9223372036854775807) := ⟨by omega, by omega⟩
  obtain ⟨n, hln⟩ : ∃ n, l.length = n := ⟨_, rfl⟩
  have HT : Hid (Tl w a l ∧ l.length = n) := ⟨hT, hln⟩
  have g1 := World.block_lt_of_cell? w _ hE.d
  have g2 := World.block_lt_of_cell? w _ hE.f
  have g3 := World.block_lt_of_cell? w _ hE.n
  simp only at g1 g2 g3
  rw [hln] at hn ⊢
  have HNew := dNew_any w room
  rw [hM2] at HNew
  obtain ⟨lo, hlo⟩ : ∃ lo, w.heap.size = lo := ⟨_, rfl⟩
  rw [hlo] at HNew g1 g2 g3
  have HE : Hid (aD ≠ aF ∧ aD ≠ aN ∧ aF ≠ aN ∧ ∀ V : World, Below lo w V → Er V aD aF aN ∧ Cl V aD ∧ Cl V aF ∧ Cl V aN) := ⟨h1, h2, h3, fun V hV => ⟨hE.low hV g1 g2 g3, cl_low cD hlo hV, cl_low cF hlo hV, cl_low cN hlo hV⟩⟩
  have HG : Hid (∀ F : Nat → Prop, (∀ k, F k → lo ≤ k) → Ern F) := fun F hF => ⟨fun q => by have := hF _ q; omega, fun q => by have := hF _ q; omega, fun q => by have := hF _ q; omega⟩
  clear hT hE h1 h2 h3 cD cF cN hln hM2 g1 g2 g3
  go_enter Tryd.func3, Tryd.ntmps3
  go_upto_region 4 with (first
    | (go_at_call 4; refine (names_any _).mono ?_; rintro e w2 ⟨rfl, hw2⟩; rw [hw2]; clear hw2)
    | (go_at_call 5; refine (size300 _).mono ?_; rintro e w2 ⟨rfl, hw2⟩; rw [hw2]; clear hw2)
    | (go_at_call 6; refine HNew.mono ?_; rintro e w1 ⟨rfl, hN1, hN2, hN3, hN4⟩; have HN1 : Hid (Dm w1 lo (fun g => g = lo) (dk0 M) ∧ w1.heap.size = lo + 2 ∧ Below lo w w1) := ⟨hN1, hN3, hN4⟩; clear hN1 hN3 hN4))
  clear HNew
  have HDsk := dDisk_any w1 (lo + 1) lo hN2
  rw [HN1.out.2.1] at HDsk
  go_upto_region 5 with (
    go_at_call 7
    refine HDsk.mono ?_
    rintro e w3 ⟨rfl, hw3⟩
    have HW3 : Hid (Dm w3 lo (fun g => g = lo) (dk0 M) ∧ w3.heap.size = lo + 3 ∧ Below lo w w3 ∧ w3.cell? ⟨lo + 1, 0, none⟩ = some (.pointer (some ⟨lo, 0, none⟩)) ∧ w3.cell? ⟨lo + 2, 0, none⟩ = some (.pointer (some ⟨lo, 0, none⟩))) := by
      obtain ⟨q1, q2, q3⟩ := HN1.out
      have hb3 : Below w1.heap.size w1 w3 := by rw [hw3]; exact (Below.refl _ _).alloc (Nat.le_refl _) _
      refine ⟨q1.below hb3, by rw [hw3]; simp [q2], q3.trans (hb3.mono (by omega)), bel_cell hb3 hN2, ?_⟩
      rw [hw3, ← q2]; simp [go_sem]
    clear hw3)
  clear HDsk
  clear HN1 hN2
  go_upto_region 6 with fail
  obtain ⟨W, hW⟩ : ∃ W, w3.alloc (.cells #[.slice none 0 0, .slice none 0 0, .slice none 0 0, .int .i64 M, .int .i64 0, .bool false, .bool false, .bool false] 35) = W := ⟨_, rfl⟩
  have HS : Hid (Sx w lo lo (lo + 3) (X0 lo) W (dk0 M) (dk0 M)) := by
    obtain ⟨q1, q2, q3, q4, q5⟩ := HW3.out
    have hb4 : Below w3.heap.size w3 W := by rw [← hW]; exact (Below.refl _ _).alloc (Nat.le_refl _) _
    have hp := pm_new w3 M
    have hW' : w3.alloc (.cells (bxP (.slice none 0 0) (.slice none 0 0) (.slice none 0 0) (dk0 M)) 35) = W := hW
    rw [hW', q2] at hp
    have hs4 : W.heap.size = lo + 4 := by rw [← hW]; simp [q2]
    exact ⟨q3.trans (hb4.mono (by omega)), by omega, fun k q => by rcases q with q | q <;> omega, ⟨.inl rfl, bel_cell hb4 q4⟩, ⟨.inr rfl, bel_cell hb4 q5⟩, _, _, q1.below hb4, hp, fun k e1 e2 => by omega, fun k e => ⟨by omega, fun q => by rcases q with q | q <;> omega, by omega⟩, fun k e => ⟨by omega, fun q => by rcases q with q | q <;> omega, by omega⟩⟩
  rw [HW3.out.2.1, hW]
  clear hW HW3
  go_wp2
  go_loopw [10] (fun v wr => Lj w lo n v wr) (fun v _ => n - (intOf v).toNat)
  case atStart => exact ⟨0, dk0 M, rfl, by omega, HS.out, by rw [Nat.zero_mul]; exact ok_dk0 HM.out⟩
  case round =>
    obtain ⟨i, D, rfl, hi, hSx, hOk⟩ := hrel
    have HSx : Hid (Sx w lo lo (lo + 3) (X0 lo) wr D D) := hSx
    have HO : Hid (D.Ok (i * 1048576)) := hOk
    by_cases hin : i = n
    · have hin2 := hin.symm
      clear hin
      subst hin2
      have hz : ¬ (n : Int) < (n : Int) := by omega
      clear hSx hOk
      go_wp2
      go_ret
      exact ⟨rfl, HSx.out.bel⟩
    · have hz : (i : Int) < (n : Int) := by omega
      have hi0 : (0 : Int) ≤ (i : Int) := by omega
      have hwi : IntKind.i64.wrap ((i : Int) + 1) = (i : Int) + 1 := by rw [IntKind.wrap_i64]; omega
      have hBj : i * 1048576 + 1048576 ≤ 1099511627776 := by
        have h8 : (i + 1) * 1048576 ≤ 1048576 * 1048576 := Nat.mul_le_mul_right _ (by omega)
        rw [Nat.add_mul, Nat.one_mul, show 1048576 * 1048576 = 1099511627776 from rfl] at h8
        exact h8
      have hBi : i * 1048576 ≤ 1099511627776 := Nat.le_trans (Nat.le_add_right _ _) hBj
      obtain ⟨t, ht⟩ : ∃ t, l[i]? = some t := ⟨_, List.getElem?_eq_getElem (by rw [HT.out.2]; omega)⟩
      obtain ⟨g, off, ha, hTl⟩ := HT.out.1.resolve_left (fun e => by rw [e] at ht; simp at ht)
      subst ha
      obtain ⟨ad, nd, cd, hcs, hzl, hnd, hby, hlz, hnn, hN⟩ := hTl i t ht
      have hgl : g < lo := by have := World.block_lt_of_cell? w _ (hcs 0 _ rfl); simp only at this; omega
      have hlow : ∀ (j : Nat) u, (toC t.dd t.N t.dn t.nm t.tn ad nd cd)[j]? = some u → wr.cell? ⟨g, off + i * 6 + j, none⟩ = some u := fun j u hj => (World.cell?_of_block (a := ⟨g, off + i * 6 + j, none⟩) (hSx.bel.block g hgl)).trans (hcs j u hj)
      have g0 : wr.cell? ⟨g, off + i * 6, none⟩ = some (.int .i64 t.dd) := hlow 0 _ rfl
      have g1 : wr.cell? ⟨g, off + i * 6 + 1, none⟩ = some (.int .i64 t.N) := hlow 1 _ rfl
      have g2 : wr.cell? ⟨g, off + i * 6 + 2, none⟩ = some (.bool t.dn) := hlow 2 _ rfl
      have g3 : wr.cell? ⟨g, off + i * 6 + 3, none⟩ = some (.string t.nm) := hlow 3 _ rfl
      have g4 : wr.cell? ⟨g, off + i * 6 + 4, none⟩ = some (.string t.tn) := hlow 4 _ rfl
      have g5 : wr.cell? ⟨g, off + i * 6 + 5, none⟩ = some (.slice ad nd cd) := hlow 5 _ rfl
      have HZ : Hid (t.zs.length = nd ∧ nd ≤ 1048576 ∧ Bytey t.zs ∧ Lies .u8 w ad t.zs ∧ (ad = none → nd = 0 ∧ cd = 0) ∧ t.N ≤ 9223372036854775807) := ⟨hzl, hnd, hby, hlz, hnn, hN⟩
      clear hTl ht hcs hlow hzl hby hlz hnn hN hSx hOk
      obtain ⟨dd, N, dn, nm, tn, zs⟩ := t
      simp only at g0 g1 g2 g3 g4 g5 HZ
      go_upto_region 10 with fail
      obtain ⟨Tb, hTb⟩ : ∃ Tb, wr.heap.size = Tb := ⟨_, rfl⟩
      obtain ⟨W1, hW1⟩ : ∃ W1, wr.alloc (.cells #[.int .i64 dd, .int .i64 N, .bool dn, .string nm, .string tn, .slice ad nd cd] 38) = W1 := ⟨_, rfl⟩
      have hb1 : Below wr.heap.size wr W1 := by rw [← hW1]; exact (Below.refl _ _).alloc (Nat.le_refl _) _
      have hs1 : W1.heap.size = Tb + 1 := by rw [← hW1, ← hTb]; simp
      have t0 : W1.cell? ⟨Tb, 0, none⟩ = some (.int .i64 dd) := by rw [← hW1, ← hTb]; simp
      have t1 : W1.cell? ⟨Tb, 1, none⟩ = some (.int .i64 N) := by rw [← hW1, ← hTb]; simp
      have t2 : W1.cell? ⟨Tb, 2, none⟩ = some (.bool dn) := by rw [← hW1, ← hTb]; simp
      have t3 : W1.cell? ⟨Tb, 3, none⟩ = some (.string nm) := by rw [← hW1, ← hTb]; simp
      have t4 : W1.cell? ⟨Tb, 4, none⟩ = some (.string tn) := by rw [← hW1, ← hTb]; simp
      have t5 : W1.cell? ⟨Tb, 5, none⟩ = some (.slice ad nd cd) := by rw [← hW1, ← hTb]; simp
      have HB1 : Hid (Below wr.heap.size wr W1 ∧ wr.heap.size = Tb ∧ W1.heap.size = Tb + 1) := ⟨hb1, hTb, hs1⟩
      have HLw : Hid (∀ V : World, Below lo w V → Lies .u8 V ad zs) := fun V hV => HZ.out.2.2.2.1.below (by rw [hlo]; exact hV)
      rw [hW1, hTb]
      clear hW1 hTb hb1 hs1 g0 g1 g2 g3 g4 g5
      go_upto_region 12 with fail
      refine regTd12 _ Tb ad nd cd zs W1 HZ.out.1 HZ.out.2.2.2.2.1 (by have := HZ.out.2.1; omega) (fun V hV => ⟨bel_cell hV t5, HLw.out V (HSx.out.bel.trans ((HB1.out.1.mono HSx.out.lo').trans (hV.mono (Nat.le_trans HSx.out.lo' HB1.out.1.size))))⟩) ?_
      intro v9 W2 r1 r2 r3
      obtain ⟨a9, c9, hv9⟩ := d_shape r1
      subst hv9
      have HDt : Hid (Lies .u8 W2 a9 zs ∧ (a9 = none → nd = 0 ∧ c9 = 0) ∧ ∀ b off, a9 = some ⟨b, off, none⟩ → Tb ≤ b ∧ b < W2.heap.size) := by
        obtain ⟨l1, l2, _, _⟩ := lies_own r1
        refine ⟨l1, l2, fun b off e => ?_⟩
        subst e
        have := r3 b rfl
        have := (d_lt r1 b rfl).2
        have := HB1.out.2.2
        omega
      have hb2 : Below wr.heap.size wr W2 := HB1.out.1.trans (r2.mono HB1.out.1.size)
      obtain ⟨X, hX⟩ : ∃ X : Nat → Prop, (fun k => X0 lo k ∨ (wr.heap.size ≤ k ∧ k < W2.heap.size)) = X := ⟨_, rfl⟩
      have HS2 : Hid (Sx w lo lo (lo + 3) X W2 D D) := by rw [← hX]; exact HSx.out.free hb2
      have HXT : Hid (X Tb ∧ (∀ k, X0 lo k → X k) ∧ (∀ k, Tb ≤ k → k < W2.heap.size → X k)) := by
        rw [← hX]
        have h8 := HB1.out.2.1
        have h9 := r2.size
        have h10 := HB1.out.2.2
        exact ⟨.inr ⟨by omega, by omega⟩, fun k q => .inl q, fun k q q2 => .inr ⟨by omega, q2⟩⟩
      have s0 := bel_cell r2 t0
      have s1 := bel_cell r2 t1
      have s2 := bel_cell r2 t2
      have s3 := bel_cell r2 t3
      have s4 := bel_cell r2 t4
      have s5 := bel_cell r2 t5
      clear t0 t1 t2 t3 t4 t5 r1 r2 r3 hb2 hX HSx HB1
      by_cases hd1 : dd = 1
      · subst hd1
        obtain ⟨⟨D3, r⟩, hR⟩ : ∃ R : Dk × Nat, appD D nm zs = R := ⟨_, rfl⟩
        have HR3 : Hid (r ≤ 3) := by have h8 := app_r D nm zs; rw [hR] at h8; exact h8
        have HO3 : Hid (D3.Ok (i * 1048576 + 1048576)) := by have h8 := ok_app (s := nm) HO.out HZ.out.2.2.1 (by rw [HZ.out.1]; exact HZ.out.2.1) (by omega); rw [hR] at h8; exact h8
        obtain ⟨F, hDm, hF, hFin⟩ := HS2.out.prog
        have HF : Hid ((∀ k, F k → lo ≤ k ∧ ¬ X k) ∧ ∀ (V : World) (D' : Dk), Dm V lo (up F W2) D' → Kd F W2 V → Sx w lo lo (lo + 3) X V D' D) := ⟨hF, hFin⟩
        have hEr := (HE.out.2.2.2 W2 HS2.out.bel).1
        have hErn := HG.out F (fun k q => (hF k q).1)
        have HA := dAppend_any W2 (lo + 2) lo F D nm a9 nd c9 zs (i * 1048576) aD aF aN hDm HO.out hBi HS2.out.dd.2 (fun q => (hF _ q).2 HS2.out.dd.1) hEr hErn HZ.out.1 HDt.out.1 (fun b off _ e q => (hF b q).2 (HXT.out.2.2 b (HDt.out.2.2 b off e).1 (HDt.out.2.2 b off e).2)) HDt.out.2.1 (by have := HZ.out.2.1; omega)
        rw [hR] at HA
        clear hF hFin hDm hEr hErn
        go_upto_region 22 with (
          go_at_call 8
          refine HA.mono ?_
          rintro e V2 ⟨rfl, hD2, hK2⟩
          have HS2' : Hid (Sx w lo lo (lo + 3) X V2 D3 D) := HF.out.2 V2 D3 hD2 hK2
          have u0 := hK2.cell s0 (fun q => (HF.out.1 _ q).2 HXT.out.1)
          have u1 := hK2.cell s1 (fun q => (HF.out.1 _ q).2 HXT.out.1)
          have u2 := hK2.cell s2 (fun q => (HF.out.1 _ q).2 HXT.out.1)
          have u3 := hK2.cell s3 (fun q => (HF.out.1 _ q).2 HXT.out.1)
          have u4' := hK2.cell s4 (fun q => (HF.out.1 _ q).2 HXT.out.1)
          have u5 := hK2.cell s5 (fun q => (HF.out.1 _ q).2 HXT.out.1)
          clear s0 s1 s2 s3 s4 s5 hD2 hK2)
        clear HA HF
        obtain ⟨G, hPm, hGk, hGin⟩ := HS2'.out.page
        have HGi : Hid (∀ (V : World) (E' : Dk), Pm V (lo + 3) (up G V2) E' → Kd G V2 V → Sx w lo lo (lo + 3) X V D3 E') := hGin
        have HTc := touch1 V2 (lo + 3) G D (i * 1048576) N dn nm tn ad nd cd zs HZ.out.1 (HLw.out V2 HS2'.out.bel) (fun b off h0 e q => by have h9 := (hGk b q).1; rcases HZ.out.2.2.2.1 with h8 | ⟨b', off', e', hc⟩; exact h0 h8; rw [e] at e'; cases e'; have := Lies.block hc h0; omega) HZ.out.2.2.2.2.1 (by have := HZ.out.2.1; omega) hPm HO.out hBi
        rw [hR] at HTc
        unfold toC at HTc
        clear hGin hGk hPm
        try simp only at HTc
        try simp only
        obtain ⟨ev, hev⟩ : ∃ ev, evD aD aF aN r = ev := ⟨_, rfl⟩
        rw [hev]
        go_upto_region 43 with (
          go_at_call 9
          refine HTc.mono ?_
          rintro e V3 ⟨rfl, hP3⟩
          have HS3 : Hid (Sx w lo lo (lo + 3) X V3 D3 D3) := HGi.out V3 D3 hP3.out.1 hP3.out.2
          clear hP3 u0 u1 u2 u3 u4' u5)
        clear HTc HGi
        obtain ⟨F3, hDm3, -, -⟩ := HS3.out.prog
        have hFil := dFiles_any V3 (lo + 1) lo F3 D3 (i * 1048576 + 1048576) hDm3 HO3.out hBj HS3.out.hh.2
        clear hDm3
        go_upto_region 44 with (first
          | (go_at_call 20
             refine hFil.mono ?_
             rintro e V4 ⟨vf, Lf, rfl, hFo, hLm, hB4⟩
             obtain ⟨af, cf, hvf⟩ := d_shape hFo.row
             have HS4 : Hid (Sx w lo lo (lo + 3) X V4 D3 D3) := HS3.out.later hB4
             have hSam : Calls Tryd.prog 19 #[.pointer (some ⟨lo + 3, 0, none⟩), vf] V4 fun e w' => e = .returned (.bool true) ∧ Hid (Below V4.heap.size V4 w') := by
               obtain ⟨G4, hPm4, -, -⟩ := HS4.out.page
               exact same_any V4 (lo + 3) G4 D3 (i * 1048576 + 1048576) vf Lf hPm4 HO3.out hBj hFo hLm
             clear hFo hLm hB4
             generalize Lf.length = nf at hvf
             subst hvf)
          | (go_at_call 19
             refine hSam.mono ?_
             rintro e V5 ⟨rfl, HB5⟩))
        clear hFil hSam
        have HS5 : Hid (Sx w lo lo (lo + 3) X V5 D3 D3) := HS4.out.later HB5.out
        obtain ⟨F5, hDm5, -, -⟩ := HS5.out.prog
        obtain ⟨b5, hb5⟩ : ∃ b, D3.dw = b := ⟨_, rfl⟩
        have c7 : V5.cell? ⟨lo + 3, 7, none⟩ = some (.bool b5) := by
          obtain ⟨G5, ⟨_, _, _, _, hc5⟩, -, -⟩ := HS5.out.page
          rw [← hb5]
          exact hc5.c 7
        have HWhat : ∀ U : World, Below V5.heap.size V5 U → Calls Tryd.prog 21 #[ev] U fun e w' => e = .returned (.int .i64 (((r : Nat) : Int))) ∧ w' = U := fun U hU => by
          obtain ⟨q1, q2, q3, q4⟩ := HE.out
          obtain ⟨e1, e2, e3, e4⟩ := q4 U (HS5.out.bel.trans (hU.mono HS5.out.lo'))
          rw [← hev]
          exact what_any U aD aF aN r HR3.out e1 q1 q2 q3 e2 e3 e4
        have HDwn : ∀ U : World, Below V5.heap.size V5 U → Calls Tryd.prog 22 #[.pointer (some ⟨lo + 1, 0, none⟩)] U fun e w' => e = .returned (.bool b5) ∧ w' = U := fun U hU => by
          rw [← hb5]
          exact dDown_any U (lo + 1) lo F5 D3 (hDm5.below hU) (bel_cell hU HS5.out.hh.2)
        clear hDm5 hb5
        have hbb : (b5 != b5) = false := by simp
        have hrr : (((((r : Nat) : Int)) : Int) != (((r : Nat) : Int))) = false := by simp
        go_quiet (first
          | (go_at_call 21; exact Calls.quiet_of_same (HWhat _ ⟨rfl, rfl, rfl, Nat.le_refl _, fun _ _ => rfl⟩))
          | (go_at_call 22; exact Calls.quiet_of_same (HDwn _ ⟨rfl, rfl, rfl, Nat.le_refl _, fun _ _ => rfl⟩)))
        clear HWhat HDwn
        have HEnd : Hid (Lj w lo n (.int .i64 ((i : Int) + 1)) (V5.drewN nq)) := ⟨i + 1, D3, by simp, by omega, (HS5.out.later (V := V5.drewN nq) ⟨rfl, rfl, rfl, Nat.le_refl _, fun _ _ => rfl⟩).drop HXT.out.2.1 (.inl rfl) (.inr rfl), by rw [Nat.add_mul, Nat.one_mul]; exact HO3.out⟩
        clear c7
        go_wp2
        exact ⟨HEnd.out, by simp [intOf]; omega⟩
      by_cases hd2 : dd = 2
      · subst hd2
        obtain ⟨⟨D3, r⟩, hR⟩ : ∃ R : Dk × Nat, fileD D nm (fun i => synF D.fs i) = R := ⟨_, rfl⟩
        have HR3 : Hid (r ≤ 3) := by have h8 := file_r D nm (fun i => synF D.fs i); rw [hR] at h8; exact h8
        have HO3 : Hid (D3.Ok (i * 1048576 + 1048576)) := by have h8 := (ok_file (s := nm) (g := fun i => synF D.fs i) HO.out (fun j => fsok_syn HO.out.files)).up (Nat.le_add_right _ 1048576); rw [hR] at h8; exact h8
        obtain ⟨F, hDm, hF, hFin⟩ := HS2.out.prog
        have HF : Hid ((∀ k, F k → lo ≤ k ∧ ¬ X k) ∧ ∀ (V : World) (D' : Dk), Dm V lo (up F W2) D' → Kd F W2 V → Sx w lo lo (lo + 3) X V D' D) := ⟨hF, hFin⟩
        have hEr := (HE.out.2.2.2 W2 HS2.out.bel).1
        have hErn := HG.out F (fun k q => (hF k q).1)
        have HA := dSync_any W2 (lo + 2) lo F D nm (i * 1048576) aD aF aN hDm HO.out hBi HS2.out.dd.2 (fun q => (hF _ q).2 HS2.out.dd.1) hEr hErn
        rw [hR] at HA
        clear hF hFin hDm hEr hErn
        go_upto_region 25 with (
          go_at_call 10
          refine HA.mono ?_
          rintro e V2 ⟨rfl, hD2, hK2⟩
          have HS2' : Hid (Sx w lo lo (lo + 3) X V2 D3 D) := HF.out.2 V2 D3 hD2 hK2
          have u0 := hK2.cell s0 (fun q => (HF.out.1 _ q).2 HXT.out.1)
          have u1 := hK2.cell s1 (fun q => (HF.out.1 _ q).2 HXT.out.1)
          have u2 := hK2.cell s2 (fun q => (HF.out.1 _ q).2 HXT.out.1)
          have u3 := hK2.cell s3 (fun q => (HF.out.1 _ q).2 HXT.out.1)
          have u4' := hK2.cell s4 (fun q => (HF.out.1 _ q).2 HXT.out.1)
          have u5 := hK2.cell s5 (fun q => (HF.out.1 _ q).2 HXT.out.1)
          clear s0 s1 s2 s3 s4 s5 hD2 hK2)
        clear HA HF
        obtain ⟨G, hPm, hGk, hGin⟩ := HS2'.out.page
        have HGi : Hid (∀ (V : World) (E' : Dk), Pm V (lo + 3) (up G V2) E' → Kd G V2 V → Sx w lo lo (lo + 3) X V D3 E') := hGin
        have HTc := touch2 V2 (lo + 3) G D (i * 1048576) N dn nm tn ad nd cd hPm HO.out hBi
        rw [hR] at HTc
        unfold toC at HTc
        clear hGin hGk hPm
        try simp only at HTc
        try simp only
        obtain ⟨ev, hev⟩ : ∃ ev, evD aD aF aN r = ev := ⟨_, rfl⟩
        rw [hev]
        go_upto_region 43 with (
          go_at_call 9
          refine HTc.mono ?_
          rintro e V3 ⟨rfl, hP3⟩
          have HS3 : Hid (Sx w lo lo (lo + 3) X V3 D3 D3) := HGi.out V3 D3 hP3.out.1 hP3.out.2
          clear hP3 u0 u1 u2 u3 u4' u5)
        clear HTc HGi
        obtain ⟨F3, hDm3, -, -⟩ := HS3.out.prog
        have hFil := dFiles_any V3 (lo + 1) lo F3 D3 (i * 1048576 + 1048576) hDm3 HO3.out hBj HS3.out.hh.2
        clear hDm3
        go_upto_region 44 with (first
          | (go_at_call 20
             refine hFil.mono ?_
             rintro e V4 ⟨vf, Lf, rfl, hFo, hLm, hB4⟩
             obtain ⟨af, cf, hvf⟩ := d_shape hFo.row
             have HS4 : Hid (Sx w lo lo (lo + 3) X V4 D3 D3) := HS3.out.later hB4
             have hSam : Calls Tryd.prog 19 #[.pointer (some ⟨lo + 3, 0, none⟩), vf] V4 fun e w' => e = .returned (.bool true) ∧ Hid (Below V4.heap.size V4 w') := by
               obtain ⟨G4, hPm4, -, -⟩ := HS4.out.page
               exact same_any V4 (lo + 3) G4 D3 (i * 1048576 + 1048576) vf Lf hPm4 HO3.out hBj hFo hLm
             clear hFo hLm hB4
             generalize Lf.length = nf at hvf
             subst hvf)
          | (go_at_call 19
             refine hSam.mono ?_
             rintro e V5 ⟨rfl, HB5⟩))
        clear hFil hSam
        have HS5 : Hid (Sx w lo lo (lo + 3) X V5 D3 D3) := HS4.out.later HB5.out
        obtain ⟨F5, hDm5, -, -⟩ := HS5.out.prog
        obtain ⟨b5, hb5⟩ : ∃ b, D3.dw = b := ⟨_, rfl⟩
        have c7 : V5.cell? ⟨lo + 3, 7, none⟩ = some (.bool b5) := by
          obtain ⟨G5, ⟨_, _, _, _, hc5⟩, -, -⟩ := HS5.out.page
          rw [← hb5]
          exact hc5.c 7
        have HWhat : ∀ U : World, Below V5.heap.size V5 U → Calls Tryd.prog 21 #[ev] U fun e w' => e = .returned (.int .i64 (((r : Nat) : Int))) ∧ w' = U := fun U hU => by
          obtain ⟨q1, q2, q3, q4⟩ := HE.out
          obtain ⟨e1, e2, e3, e4⟩ := q4 U (HS5.out.bel.trans (hU.mono HS5.out.lo'))
          rw [← hev]
          exact what_any U aD aF aN r HR3.out e1 q1 q2 q3 e2 e3 e4
        have HDwn : ∀ U : World, Below V5.heap.size V5 U → Calls Tryd.prog 22 #[.pointer (some ⟨lo + 1, 0, none⟩)] U fun e w' => e = .returned (.bool b5) ∧ w' = U := fun U hU => by
          rw [← hb5]
          exact dDown_any U (lo + 1) lo F5 D3 (hDm5.below hU) (bel_cell hU HS5.out.hh.2)
        clear hDm5 hb5
        have hbb : (b5 != b5) = false := by simp
        have hrr : (((((r : Nat) : Int)) : Int) != (((r : Nat) : Int))) = false := by simp
        go_quiet (first
          | (go_at_call 21; exact Calls.quiet_of_same (HWhat _ ⟨rfl, rfl, rfl, Nat.le_refl _, fun _ _ => rfl⟩))
          | (go_at_call 22; exact Calls.quiet_of_same (HDwn _ ⟨rfl, rfl, rfl, Nat.le_refl _, fun _ _ => rfl⟩)))
        clear HWhat HDwn
        have HEnd : Hid (Lj w lo n (.int .i64 ((i : Int) + 1)) (V5.drewN nq)) := ⟨i + 1, D3, by simp, by omega, (HS5.out.later (V := V5.drewN nq) ⟨rfl, rfl, rfl, Nat.le_refl _, fun _ _ => rfl⟩).drop HXT.out.2.1 (.inl rfl) (.inr rfl), by rw [Nat.add_mul, Nat.one_mul]; exact HO3.out⟩
        clear c7
        go_wp2
        exact ⟨HEnd.out, by simp [intOf]; omega⟩
      by_cases hd3 : dd = 3
      · subst hd3
        obtain ⟨⟨D3, r⟩, hR⟩ : ∃ R : Dk × Nat, fileD D nm (fun i => renF D.fs i tn) = R := ⟨_, rfl⟩
        have HR3 : Hid (r ≤ 3) := by have h8 := file_r D nm (fun i => renF D.fs i tn); rw [hR] at h8; exact h8
        have HO3 : Hid (D3.Ok (i * 1048576 + 1048576)) := by have h8 := (ok_file (s := nm) (g := fun i => renF D.fs i tn) HO.out (fun j => fsok_ren HO.out.files)).up (Nat.le_add_right _ 1048576); rw [hR] at h8; exact h8
        obtain ⟨F, hDm, hF, hFin⟩ := HS2.out.prog
        have HF : Hid ((∀ k, F k → lo ≤ k ∧ ¬ X k) ∧ ∀ (V : World) (D' : Dk), Dm V lo (up F W2) D' → Kd F W2 V → Sx w lo lo (lo + 3) X V D' D) := ⟨hF, hFin⟩
        have hEr := (HE.out.2.2.2 W2 HS2.out.bel).1
        have hErn := HG.out F (fun k q => (hF k q).1)
        have HA := dRename_any W2 (lo + 2) lo F D nm tn (i * 1048576) aD aF aN hDm HO.out hBi HS2.out.dd.2 (fun q => (hF _ q).2 HS2.out.dd.1) hEr hErn
        rw [hR] at HA
        clear hF hFin hDm hEr hErn
        go_upto_region 28 with (
          go_at_call 11
          refine HA.mono ?_
          rintro e V2 ⟨rfl, hD2, hK2⟩
          have HS2' : Hid (Sx w lo lo (lo + 3) X V2 D3 D) := HF.out.2 V2 D3 hD2 hK2
          have u0 := hK2.cell s0 (fun q => (HF.out.1 _ q).2 HXT.out.1)
          have u1 := hK2.cell s1 (fun q => (HF.out.1 _ q).2 HXT.out.1)
          have u2 := hK2.cell s2 (fun q => (HF.out.1 _ q).2 HXT.out.1)
          have u3 := hK2.cell s3 (fun q => (HF.out.1 _ q).2 HXT.out.1)
          have u4' := hK2.cell s4 (fun q => (HF.out.1 _ q).2 HXT.out.1)
          have u5 := hK2.cell s5 (fun q => (HF.out.1 _ q).2 HXT.out.1)
          clear s0 s1 s2 s3 s4 s5 hD2 hK2)
        clear HA HF
        obtain ⟨G, hPm, hGk, hGin⟩ := HS2'.out.page
        have HGi : Hid (∀ (V : World) (E' : Dk), Pm V (lo + 3) (up G V2) E' → Kd G V2 V → Sx w lo lo (lo + 3) X V D3 E') := hGin
        have HTc := touch3 V2 (lo + 3) G D (i * 1048576) N dn nm tn ad nd cd hPm HO.out hBi
        rw [hR] at HTc
        unfold toC at HTc
        clear hGin hGk hPm
        try simp only at HTc
        try simp only
        obtain ⟨ev, hev⟩ : ∃ ev, evD aD aF aN r = ev := ⟨_, rfl⟩
        rw [hev]
        go_upto_region 43 with (
          go_at_call 9
          refine HTc.mono ?_
          rintro e V3 ⟨rfl, hP3⟩
          have HS3 : Hid (Sx w lo lo (lo + 3) X V3 D3 D3) := HGi.out V3 D3 hP3.out.1 hP3.out.2
          clear hP3 u0 u1 u2 u3 u4' u5)
        clear HTc HGi
        obtain ⟨F3, hDm3, -, -⟩ := HS3.out.prog
        have hFil := dFiles_any V3 (lo + 1) lo F3 D3 (i * 1048576 + 1048576) hDm3 HO3.out hBj HS3.out.hh.2
        clear hDm3
        go_upto_region 44 with (first
          | (go_at_call 20
             refine hFil.mono ?_
             rintro e V4 ⟨vf, Lf, rfl, hFo, hLm, hB4⟩
             obtain ⟨af, cf, hvf⟩ := d_shape hFo.row
             have HS4 : Hid (Sx w lo lo (lo + 3) X V4 D3 D3) := HS3.out.later hB4
             have hSam : Calls Tryd.prog 19 #[.pointer (some ⟨lo + 3, 0, none⟩), vf] V4 fun e w' => e = .returned (.bool true) ∧ Hid (Below V4.heap.size V4 w') := by
               obtain ⟨G4, hPm4, -, -⟩ := HS4.out.page
               exact same_any V4 (lo + 3) G4 D3 (i * 1048576 + 1048576) vf Lf hPm4 HO3.out hBj hFo hLm
             clear hFo hLm hB4
             generalize Lf.length = nf at hvf
             subst hvf)
          | (go_at_call 19
             refine hSam.mono ?_
             rintro e V5 ⟨rfl, HB5⟩))
        clear hFil hSam
        have HS5 : Hid (Sx w lo lo (lo + 3) X V5 D3 D3) := HS4.out.later HB5.out
        obtain ⟨F5, hDm5, -, -⟩ := HS5.out.prog
        obtain ⟨b5, hb5⟩ : ∃ b, D3.dw = b := ⟨_, rfl⟩
        have c7 : V5.cell? ⟨lo + 3, 7, none⟩ = some (.bool b5) := by
          obtain ⟨G5, ⟨_, _, _, _, hc5⟩, -, -⟩ := HS5.out.page
          rw [← hb5]
          exact hc5.c 7
        have HWhat : ∀ U : World, Below V5.heap.size V5 U → Calls Tryd.prog 21 #[ev] U fun e w' => e = .returned (.int .i64 (((r : Nat) : Int))) ∧ w' = U := fun U hU => by
          obtain ⟨q1, q2, q3, q4⟩ := HE.out
          obtain ⟨e1, e2, e3, e4⟩ := q4 U (HS5.out.bel.trans (hU.mono HS5.out.lo'))
          rw [← hev]
          exact what_any U aD aF aN r HR3.out e1 q1 q2 q3 e2 e3 e4
        have HDwn : ∀ U : World, Below V5.heap.size V5 U → Calls Tryd.prog 22 #[.pointer (some ⟨lo + 1, 0, none⟩)] U fun e w' => e = .returned (.bool b5) ∧ w' = U := fun U hU => by
          rw [← hb5]
          exact dDown_any U (lo + 1) lo F5 D3 (hDm5.below hU) (bel_cell hU HS5.out.hh.2)
        clear hDm5 hb5
        have hbb : (b5 != b5) = false := by simp
        have hrr : (((((r : Nat) : Int)) : Int) != (((r : Nat) : Int))) = false := by simp
        go_quiet (first
          | (go_at_call 21; exact Calls.quiet_of_same (HWhat _ ⟨rfl, rfl, rfl, Nat.le_refl _, fun _ _ => rfl⟩))
          | (go_at_call 22; exact Calls.quiet_of_same (HDwn _ ⟨rfl, rfl, rfl, Nat.le_refl _, fun _ _ => rfl⟩)))
        clear HWhat HDwn
        have HEnd : Hid (Lj w lo n (.int .i64 ((i : Int) + 1)) (V5.drewN nq)) := ⟨i + 1, D3, by simp, by omega, (HS5.out.later (V := V5.drewN nq) ⟨rfl, rfl, rfl, Nat.le_refl _, fun _ _ => rfl⟩).drop HXT.out.2.1 (.inl rfl) (.inr rfl), by rw [Nat.add_mul, Nat.one_mul]; exact HO3.out⟩
        clear c7
        go_wp2
        exact ⟨HEnd.out, by simp [intOf]; omega⟩
      by_cases hd4 : dd = 4
      · subst hd4
        obtain ⟨⟨D3, r⟩, hR⟩ : ∃ R : Dk × Nat, fileD D nm (fun i => D.fs.eraseIdx i) = R := ⟨_, rfl⟩
        have HR3 : Hid (r ≤ 3) := by have h8 := file_r D nm (fun i => D.fs.eraseIdx i); rw [hR] at h8; exact h8
        have HO3 : Hid (D3.Ok (i * 1048576 + 1048576)) := by have h8 := (ok_file (s := nm) (g := fun i => D.fs.eraseIdx i) HO.out (fun j => fsok_erase HO.out.files)).up (Nat.le_add_right _ 1048576); rw [hR] at h8; exact h8
        obtain ⟨F, hDm, hF, hFin⟩ := HS2.out.prog
        have HF : Hid ((∀ k, F k → lo ≤ k ∧ ¬ X k) ∧ ∀ (V : World) (D' : Dk), Dm V lo (up F W2) D' → Kd F W2 V → Sx w lo lo (lo + 3) X V D' D) := ⟨hF, hFin⟩
        have hEr := (HE.out.2.2.2 W2 HS2.out.bel).1
        have hErn := HG.out F (fun k q => (hF k q).1)
        have HA := dRemove_any W2 (lo + 2) lo F D nm (i * 1048576) aD aF aN hDm HO.out hBi HS2.out.dd.2 (fun q => (hF _ q).2 HS2.out.dd.1) hEr hErn
        rw [hR] at HA
        clear hF hFin hDm hEr hErn
        go_upto_region 31 with (
          go_at_call 12
          refine HA.mono ?_
          rintro e V2 ⟨rfl, hD2, hK2⟩
          have HS2' : Hid (Sx w lo lo (lo + 3) X V2 D3 D) := HF.out.2 V2 D3 hD2 hK2
          have u0 := hK2.cell s0 (fun q => (HF.out.1 _ q).2 HXT.out.1)
          have u1 := hK2.cell s1 (fun q => (HF.out.1 _ q).2 HXT.out.1)
          have u2 := hK2.cell s2 (fun q => (HF.out.1 _ q).2 HXT.out.1)
          have u3 := hK2.cell s3 (fun q => (HF.out.1 _ q).2 HXT.out.1)
          have u4' := hK2.cell s4 (fun q => (HF.out.1 _ q).2 HXT.out.1)
          have u5 := hK2.cell s5 (fun q => (HF.out.1 _ q).2 HXT.out.1)
          clear s0 s1 s2 s3 s4 s5 hD2 hK2)
        clear HA HF
        obtain ⟨G, hPm, hGk, hGin⟩ := HS2'.out.page
        have HGi : Hid (∀ (V : World) (E' : Dk), Pm V (lo + 3) (up G V2) E' → Kd G V2 V → Sx w lo lo (lo + 3) X V D3 E') := hGin
        have HTc := touch4 V2 (lo + 3) G D (i * 1048576) N dn nm tn ad nd cd hPm HO.out hBi
        rw [hR] at HTc
        unfold toC at HTc
        clear hGin hGk hPm
        try simp only at HTc
        try simp only
        obtain ⟨ev, hev⟩ : ∃ ev, evD aD aF aN r = ev := ⟨_, rfl⟩
        rw [hev]
        go_upto_region 43 with (
          go_at_call 9
          refine HTc.mono ?_
          rintro e V3 ⟨rfl, hP3⟩
          have HS3 : Hid (Sx w lo lo (lo + 3) X V3 D3 D3) := HGi.out V3 D3 hP3.out.1 hP3.out.2
          clear hP3 u0 u1 u2 u3 u4' u5)
        clear HTc HGi
        obtain ⟨F3, hDm3, -, -⟩ := HS3.out.prog
        have hFil := dFiles_any V3 (lo + 1) lo F3 D3 (i * 1048576 + 1048576) hDm3 HO3.out hBj HS3.out.hh.2
        clear hDm3
        go_upto_region 44 with (first
          | (go_at_call 20
             refine hFil.mono ?_
             rintro e V4 ⟨vf, Lf, rfl, hFo, hLm, hB4⟩
             obtain ⟨af, cf, hvf⟩ := d_shape hFo.row
             have HS4 : Hid (Sx w lo lo (lo + 3) X V4 D3 D3) := HS3.out.later hB4
             have hSam : Calls Tryd.prog 19 #[.pointer (some ⟨lo + 3, 0, none⟩), vf] V4 fun e w' => e = .returned (.bool true) ∧ Hid (Below V4.heap.size V4 w') := by
               obtain ⟨G4, hPm4, -, -⟩ := HS4.out.page
               exact same_any V4 (lo + 3) G4 D3 (i * 1048576 + 1048576) vf Lf hPm4 HO3.out hBj hFo hLm
             clear hFo hLm hB4
             generalize Lf.length = nf at hvf
             subst hvf)
          | (go_at_call 19
             refine hSam.mono ?_
             rintro e V5 ⟨rfl, HB5⟩))
        clear hFil hSam
        have HS5 : Hid (Sx w lo lo (lo + 3) X V5 D3 D3) := HS4.out.later HB5.out
        obtain ⟨F5, hDm5, -, -⟩ := HS5.out.prog
        obtain ⟨b5, hb5⟩ : ∃ b, D3.dw = b := ⟨_, rfl⟩
        have c7 : V5.cell? ⟨lo + 3, 7, none⟩ = some (.bool b5) := by
          obtain ⟨G5, ⟨_, _, _, _, hc5⟩, -, -⟩ := HS5.out.page
          rw [← hb5]
          exact hc5.c 7
        have HWhat : ∀ U : World, Below V5.heap.size V5 U → Calls Tryd.prog 21 #[ev] U fun e w' => e = .returned (.int .i64 (((r : Nat) : Int))) ∧ w' = U := fun U hU => by
          obtain ⟨q1, q2, q3, q4⟩ := HE.out
          obtain ⟨e1, e2, e3, e4⟩ := q4 U (HS5.out.bel.trans (hU.mono HS5.out.lo'))
          rw [← hev]
          exact what_any U aD aF aN r HR3.out e1 q1 q2 q3 e2 e3 e4
        have HDwn : ∀ U : World, Below V5.heap.size V5 U → Calls Tryd.prog 22 #[.pointer (some ⟨lo + 1, 0, none⟩)] U fun e w' => e = .returned (.bool b5) ∧ w' = U := fun U hU => by
          rw [← hb5]
          exact dDown_any U (lo + 1) lo F5 D3 (hDm5.below hU) (bel_cell hU HS5.out.hh.2)
        clear hDm5 hb5
        have hbb : (b5 != b5) = false := by simp
        have hrr : (((((r : Nat) : Int)) : Int) != (((r : Nat) : Int))) = false := by simp
        go_quiet (first
          | (go_at_call 21; exact Calls.quiet_of_same (HWhat _ ⟨rfl, rfl, rfl, Nat.le_refl _, fun _ _ => rfl⟩))
          | (go_at_call 22; exact Calls.quiet_of_same (HDwn _ ⟨rfl, rfl, rfl, Nat.le_refl _, fun _ _ => rfl⟩)))
        clear HWhat HDwn
        have HEnd : Hid (Lj w lo n (.int .i64 ((i : Int) + 1)) (V5.drewN nq)) := ⟨i + 1, D3, by simp, by omega, (HS5.out.later (V := V5.drewN nq) ⟨rfl, rfl, rfl, Nat.le_refl _, fun _ _ => rfl⟩).drop HXT.out.2.1 (.inl rfl) (.inr rfl), by rw [Nat.add_mul, Nat.one_mul]; exact HO3.out⟩
        clear c7
        go_wp2
        exact ⟨HEnd.out, by simp [intOf]; omega⟩
      by_cases hd5 : dd = 5
      · subst hd5
        obtain ⟨⟨D3, r⟩, hR⟩ : ∃ R : Dk × Nat, fileD D nm (fun i => cutF D.fs i N) = R := ⟨_, rfl⟩
        have HR3 : Hid (r ≤ 3) := by have h8 := file_r D nm (fun i => cutF D.fs i N); rw [hR] at h8; exact h8
        have HO3 : Hid (D3.Ok (i * 1048576 + 1048576)) := by have h8 := (ok_file (s := nm) (g := fun i => cutF D.fs i N) HO.out (fun j => fsok_cut HO.out.files)).up (Nat.le_add_right _ 1048576); rw [hR] at h8; exact h8
        obtain ⟨F, hDm, hF, hFin⟩ := HS2.out.prog
        have HF : Hid ((∀ k, F k → lo ≤ k ∧ ¬ X k) ∧ ∀ (V : World) (D' : Dk), Dm V lo (up F W2) D' → Kd F W2 V → Sx w lo lo (lo + 3) X V D' D) := ⟨hF, hFin⟩
        have hEr := (HE.out.2.2.2 W2 HS2.out.bel).1
        have hErn := HG.out F (fun k q => (hF k q).1)
        have HA := dCut_any W2 (lo + 2) lo F D nm N (i * 1048576) aD aF aN hDm HO.out hBi HS2.out.dd.2 (fun q => (hF _ q).2 HS2.out.dd.1) hEr hErn
        rw [hR] at HA
        clear hF hFin hDm hEr hErn
        go_upto_region 34 with (
          go_at_call 13
          refine HA.mono ?_
          rintro e V2 ⟨rfl, hD2, hK2⟩
          have HS2' : Hid (Sx w lo lo (lo + 3) X V2 D3 D) := HF.out.2 V2 D3 hD2 hK2
          have u0 := hK2.cell s0 (fun q => (HF.out.1 _ q).2 HXT.out.1)
          have u1 := hK2.cell s1 (fun q => (HF.out.1 _ q).2 HXT.out.1)
          have u2 := hK2.cell s2 (fun q => (HF.out.1 _ q).2 HXT.out.1)
          have u3 := hK2.cell s3 (fun q => (HF.out.1 _ q).2 HXT.out.1)
          have u4' := hK2.cell s4 (fun q => (HF.out.1 _ q).2 HXT.out.1)
          have u5 := hK2.cell s5 (fun q => (HF.out.1 _ q).2 HXT.out.1)
          clear s0 s1 s2 s3 s4 s5 hD2 hK2)
        clear HA HF
        obtain ⟨G, hPm, hGk, hGin⟩ := HS2'.out.page
        have HGi : Hid (∀ (V : World) (E' : Dk), Pm V (lo + 3) (up G V2) E' → Kd G V2 V → Sx w lo lo (lo + 3) X V D3 E') := hGin
        have HTc := touch5 V2 (lo + 3) G D (i * 1048576) N dn nm tn ad nd cd hPm HO.out hBi
        rw [hR] at HTc
        unfold toC at HTc
        clear hGin hGk hPm
        try simp only at HTc
        try simp only
        obtain ⟨ev, hev⟩ : ∃ ev, evD aD aF aN r = ev := ⟨_, rfl⟩
        rw [hev]
        go_upto_region 43 with (
          go_at_call 9
          refine HTc.mono ?_
          rintro e V3 ⟨rfl, hP3⟩
          have HS3 : Hid (Sx w lo lo (lo + 3) X V3 D3 D3) := HGi.out V3 D3 hP3.out.1 hP3.out.2
          clear hP3 u0 u1 u2 u3 u4' u5)
        clear HTc HGi
        obtain ⟨F3, hDm3, -, -⟩ := HS3.out.prog
        have hFil := dFiles_any V3 (lo + 1) lo F3 D3 (i * 1048576 + 1048576) hDm3 HO3.out hBj HS3.out.hh.2
        clear hDm3
        go_upto_region 44 with (first
          | (go_at_call 20
             refine hFil.mono ?_
             rintro e V4 ⟨vf, Lf, rfl, hFo, hLm, hB4⟩
             obtain ⟨af, cf, hvf⟩ := d_shape hFo.row
             have HS4 : Hid (Sx w lo lo (lo + 3) X V4 D3 D3) := HS3.out.later hB4
             have hSam : Calls Tryd.prog 19 #[.pointer (some ⟨lo + 3, 0, none⟩), vf] V4 fun e w' => e = .returned (.bool true) ∧ Hid (Below V4.heap.size V4 w') := by
               obtain ⟨G4, hPm4, -, -⟩ := HS4.out.page
               exact same_any V4 (lo + 3) G4 D3 (i * 1048576 + 1048576) vf Lf hPm4 HO3.out hBj hFo hLm
             clear hFo hLm hB4
             generalize Lf.length = nf at hvf
             subst hvf)
          | (go_at_call 19
             refine hSam.mono ?_
             rintro e V5 ⟨rfl, HB5⟩))
        clear hFil hSam
        have HS5 : Hid (Sx w lo lo (lo + 3) X V5 D3 D3) := HS4.out.later HB5.out
        obtain ⟨F5, hDm5, -, -⟩ := HS5.out.prog
        obtain ⟨b5, hb5⟩ : ∃ b, D3.dw = b := ⟨_, rfl⟩
        have c7 : V5.cell? ⟨lo + 3, 7, none⟩ = some (.bool b5) := by
          obtain ⟨G5, ⟨_, _, _, _, hc5⟩, -, -⟩ := HS5.out.page
          rw [← hb5]
          exact hc5.c 7
        have HWhat : ∀ U : World, Below V5.heap.size V5 U → Calls Tryd.prog 21 #[ev] U fun e w' => e = .returned (.int .i64 (((r : Nat) : Int))) ∧ w' = U := fun U hU => by
          obtain ⟨q1, q2, q3, q4⟩ := HE.out
          obtain ⟨e1, e2, e3, e4⟩ := q4 U (HS5.out.bel.trans (hU.mono HS5.out.lo'))
          rw [← hev]
          exact what_any U aD aF aN r HR3.out e1 q1 q2 q3 e2 e3 e4
        have HDwn : ∀ U : World, Below V5.heap.size V5 U → Calls Tryd.prog 22 #[.pointer (some ⟨lo + 1, 0, none⟩)] U fun e w' => e = .returned (.bool b5) ∧ w' = U := fun U hU => by
          rw [← hb5]
          exact dDown_any U (lo + 1) lo F5 D3 (hDm5.below hU) (bel_cell hU HS5.out.hh.2)
        clear hDm5 hb5
        have hbb : (b5 != b5) = false := by simp
        have hrr : (((((r : Nat) : Int)) : Int) != (((r : Nat) : Int))) = false := by simp
        go_quiet (first
          | (go_at_call 21; exact Calls.quiet_of_same (HWhat _ ⟨rfl, rfl, rfl, Nat.le_refl _, fun _ _ => rfl⟩))
          | (go_at_call 22; exact Calls.quiet_of_same (HDwn _ ⟨rfl, rfl, rfl, Nat.le_refl _, fun _ _ => rfl⟩)))
        clear HWhat HDwn
        have HEnd : Hid (Lj w lo n (.int .i64 ((i : Int) + 1)) (V5.drewN nq)) := ⟨i + 1, D3, by simp, by omega, (HS5.out.later (V := V5.drewN nq) ⟨rfl, rfl, rfl, Nat.le_refl _, fun _ _ => rfl⟩).drop HXT.out.2.1 (.inl rfl) (.inr rfl), by rw [Nat.add_mul, Nat.one_mul]; exact HO3.out⟩
        clear c7
        go_wp2
        exact ⟨HEnd.out, by simp [intOf]; omega⟩
      by_cases hd6 : dd = 6
      · subst hd6
        obtain ⟨NM, hNM⟩ : ∃ NM, max N 0 = NM := ⟨_, rfl⟩
        have HO3 : Hid ((armD D N dn).Ok (i * 1048576 + 1048576)) := (ok_arm HO.out HZ.out.2.2.2.2.2).up (Nat.le_add_right _ _)
        have HR3 : Hid (0 ≤ 3) := Nat.zero_le 3
        obtain ⟨F, hDm, hF, hFin⟩ := HS2.out.prog
        have HF : Hid ((∀ k, F k → lo ≤ k ∧ ¬ X k) ∧ ∀ (V : World) (D' : Dk), Dm V lo (up F W2) D' → Kd F W2 V → Sx w lo lo (lo + 3) X V D' D) := ⟨hF, hFin⟩
        have HA := dArm_any W2 (lo + 1) lo F D N dn hDm HS2.out.hh.2 (fun q => (hF _ q).2 HS2.out.hh.1)
        clear hF hFin hDm
        go_upto_region 37 with (
          go_at_call 14
          refine HA.mono ?_
          rintro e V2 ⟨⟨v8, rfl⟩, hD2, hK2⟩
          have HS2' : Hid (Sx w lo lo (lo + 3) X V2 (armD D N dn) D) := HF.out.2 V2 (armD D N dn) (hD2.mono (fun k h _ => .inl h)) hK2
          have u1 := hK2.cell s1 (fun q => (HF.out.1 _ q).2 HXT.out.1)
          have u2 := hK2.cell s2 (fun q => (HF.out.1 _ q).2 HXT.out.1)
          clear s0 s1 s2 s3 s4 s5 hD2 hK2)
        clear HA HF
        obtain ⟨G, hPm, hGk, hGin⟩ := HS2'.out.page
        obtain ⟨_, _, _, _, hcp⟩ := id hPm
        have c4 : V2.cell? ⟨lo + 3, 4, none⟩ = some (.int .i64 D.acts) := hcp.c 4
        have c5 : V2.cell? ⟨lo + 3, 5, none⟩ = some (.bool D.arm) := hcp.c 5
        have c6 : V2.cell? ⟨lo + 3, 6, none⟩ = some (.bool D.dn) := hcp.c 6
        have z4 := hcp.z 4
        have z5 := hcp.z 5
        have z6 := hcp.z 6
        have nTp : Tb ≠ lo + 3 := fun e => (hGk (lo + 3) hcp.fx).2 (e ▸ HXT.out.1)
        have nTp' : lo + 3 ≠ Tb := fun e => nTp e.symm
        have e1 : ∀ y, (V2.setCell ⟨lo + 3, 5, none⟩ y).cell? ⟨Tb, 1, none⟩ = some (.int .i64 N) := fun y => set_cell u1 nTp
        have e2 : ∀ y y', ((V2.setCell ⟨lo + 3, 5, none⟩ y).setCell ⟨lo + 3, 4, none⟩ y').cell? ⟨Tb, 2, none⟩ = some (.bool dn) := fun y y' => set_cell (set_cell u2 nTp) nTp
        have HW3 : Hid (Sx w lo lo (lo + 3) X (((V2.setCell ⟨lo + 3, 5, none⟩ (.bool true)).setCell ⟨lo + 3, 4, none⟩ (.int .i64 NM)).setCell ⟨lo + 3, 6, none⟩ (.bool dn)) (armD D N dn) (armD D N dn)) := hGin _ _ ((pm_arm hPm hNM).mono (fun k h _ => .inl h)) (((Kd.set hcp.fx).trans (Kd.set hcp.fx)).trans (Kd.set hcp.fx))
        clear hGin hGk hPm hcp
        go_upto_region 43 with fail
        obtain ⟨V3, hV3⟩ : ∃ V3, ((V2.setCell ⟨lo + 3, 5, none⟩ (.bool true)).setCell ⟨lo + 3, 4, none⟩ (.int .i64 NM)).setCell ⟨lo + 3, 6, none⟩ (.bool dn) = V3 := ⟨_, rfl⟩
        rw [hV3] at HW3 ⊢
        have HS3 : Hid (Sx w lo lo (lo + 3) X V3 (armD D N dn) (armD D N dn)) := HW3.out
        clear hV3 c4 c5 c6 z4 z5 z6 e1 e2 u1 u2 HW3
        obtain ⟨F3, hDm3, -, -⟩ := HS3.out.prog
        have hFil := dFiles_any V3 (lo + 1) lo F3 (armD D N dn) (i * 1048576 + 1048576) hDm3 HO3.out hBj HS3.out.hh.2
        clear hDm3
        go_upto_region 44 with (first
          | (go_at_call 20
             refine hFil.mono ?_
             rintro e V4 ⟨vf, Lf, rfl, hFo, hLm, hB4⟩
             obtain ⟨af, cf, hvf⟩ := d_shape hFo.row
             have HS4 : Hid (Sx w lo lo (lo + 3) X V4 (armD D N dn) (armD D N dn)) := HS3.out.later hB4
             have hSam : Calls Tryd.prog 19 #[.pointer (some ⟨lo + 3, 0, none⟩), vf] V4 fun e w' => e = .returned (.bool true) ∧ Hid (Below V4.heap.size V4 w') := by
               obtain ⟨G4, hPm4, -, -⟩ := HS4.out.page
               exact same_any V4 (lo + 3) G4 (armD D N dn) (i * 1048576 + 1048576) vf Lf hPm4 HO3.out hBj hFo hLm
             clear hFo hLm hB4
             generalize Lf.length = nf at hvf
             subst hvf)
          | (go_at_call 19
             refine hSam.mono ?_
             rintro e V5 ⟨rfl, HB5⟩))
        clear hFil hSam
        have HS5 : Hid (Sx w lo lo (lo + 3) X V5 (armD D N dn) (armD D N dn)) := HS4.out.later HB5.out
        obtain ⟨F5, hDm5, -, -⟩ := HS5.out.prog
        obtain ⟨b5, hb5⟩ : ∃ b, (armD D N dn).dw = b := ⟨_, rfl⟩
        have c7 : V5.cell? ⟨lo + 3, 7, none⟩ = some (.bool b5) := by
          obtain ⟨G5, ⟨_, _, _, _, hc5⟩, -, -⟩ := HS5.out.page
          rw [← hb5]
          exact hc5.c 7
        have HWhat : ∀ U : World, Below V5.heap.size V5 U → Calls Tryd.prog 21 #[.nilIface] U fun e w' => e = .returned (.int .i64 (0)) ∧ w' = U := fun U hU => by
          obtain ⟨q1, q2, q3, q4⟩ := HE.out
          obtain ⟨e1, e2, e3, e4⟩ := q4 U (HS5.out.bel.trans (hU.mono HS5.out.lo'))
          exact what_any U aD aF aN 0 HR3.out e1 q1 q2 q3 e2 e3 e4
        have HDwn : ∀ U : World, Below V5.heap.size V5 U → Calls Tryd.prog 22 #[.pointer (some ⟨lo + 1, 0, none⟩)] U fun e w' => e = .returned (.bool b5) ∧ w' = U := fun U hU => by
          rw [← hb5]
          exact dDown_any U (lo + 1) lo F5 (armD D N dn) (hDm5.below hU) (bel_cell hU HS5.out.hh.2)
        clear hDm5 hb5
        have hbb : (b5 != b5) = false := by simp
        have hrr : (((0) : Int) != (0)) = false := by simp
        go_quiet (first
          | (go_at_call 21; exact Calls.quiet_of_same (HWhat _ ⟨rfl, rfl, rfl, Nat.le_refl _, fun _ _ => rfl⟩))
          | (go_at_call 22; exact Calls.quiet_of_same (HDwn _ ⟨rfl, rfl, rfl, Nat.le_refl _, fun _ _ => rfl⟩)))
        clear HWhat HDwn
        have HEnd : Hid (Lj w lo n (.int .i64 ((i : Int) + 1)) (V5.drewN nq)) := ⟨i + 1, (armD D N dn), by simp, by omega, (HS5.out.later (V := V5.drewN nq) ⟨rfl, rfl, rfl, Nat.le_refl _, fun _ _ => rfl⟩).drop HXT.out.2.1 (.inl rfl) (.inr rfl), by rw [Nat.add_mul, Nat.one_mul]; exact HO3.out⟩
        clear c7
        go_wp2
        exact ⟨HEnd.out, by simp [intOf]; omega⟩
      by_cases hd7 : dd = 7
      · subst hd7
        have HO3 : Hid ((crD D N).Ok (i * 1048576 + 1048576)) := (ok_cr HO.out).up (Nat.le_add_right _ _)
        have HR3 : Hid (0 ≤ 3) := Nat.zero_le 3
        obtain ⟨F, hDm, hF, hFin⟩ := HS2.out.prog
        have HF : Hid ((∀ k, F k → lo ≤ k ∧ ¬ X k) ∧ ∀ (V : World) (D' : Dk), Dm V lo (up F W2) D' → Kd F W2 V → Sx w lo lo (lo + 3) X V D' D) := ⟨hF, hFin⟩
        have HA := dCrash_any W2 (lo + 1) lo F D N (i * 1048576) hDm HO.out hBi HS2.out.hh.2 (fun q => (hF _ q).2 HS2.out.hh.1)
        clear hF hFin hDm
        go_upto_region 42 with (
          go_at_call 15
          refine HA.mono ?_
          rintro e V2 ⟨⟨v8, rfl⟩, hD2, hK2⟩
          have HS2' : Hid (Sx w lo lo (lo + 3) X V2 (crD D N) D) := HF.out.2 V2 (crD D N) hD2 hK2
          have u1 := hK2.cell s1 (fun q => (HF.out.1 _ q).2 HXT.out.1)
          clear s0 s1 s2 s3 s4 s5 hD2 hK2)
        clear HA HF
        obtain ⟨G, hPm, hGk, hGin⟩ := HS2'.out.page
        have HGi : Hid (∀ (V : World) (E' : Dk), Pm V (lo + 3) (up G V2) E' → Kd G V2 V → Sx w lo lo (lo + 3) X V (crD D N) E') := hGin
        have HTc := pCrash_any V2 (lo + 3) G D N (i * 1048576) hPm HO.out hBi
        clear hGin hGk hPm
        go_upto_region 43 with (
          go_at_call 16
          refine HTc.mono ?_
          rintro e V3 ⟨⟨v7, rfl⟩, hP3⟩
          have HS3 : Hid (Sx w lo lo (lo + 3) X V3 (crD D N) (crD D N)) := HGi.out V3 (crD D N) hP3.out.1 hP3.out.2
          clear hP3 u1)
        clear HTc HGi
        obtain ⟨F3, hDm3, -, -⟩ := HS3.out.prog
        have hFil := dFiles_any V3 (lo + 1) lo F3 (crD D N) (i * 1048576 + 1048576) hDm3 HO3.out hBj HS3.out.hh.2
        clear hDm3
        go_upto_region 44 with (first
          | (go_at_call 20
             refine hFil.mono ?_
             rintro e V4 ⟨vf, Lf, rfl, hFo, hLm, hB4⟩
             obtain ⟨af, cf, hvf⟩ := d_shape hFo.row
             have HS4 : Hid (Sx w lo lo (lo + 3) X V4 (crD D N) (crD D N)) := HS3.out.later hB4
             have hSam : Calls Tryd.prog 19 #[.pointer (some ⟨lo + 3, 0, none⟩), vf] V4 fun e w' => e = .returned (.bool true) ∧ Hid (Below V4.heap.size V4 w') := by
               obtain ⟨G4, hPm4, -, -⟩ := HS4.out.page
               exact same_any V4 (lo + 3) G4 (crD D N) (i * 1048576 + 1048576) vf Lf hPm4 HO3.out hBj hFo hLm
             clear hFo hLm hB4
             generalize Lf.length = nf at hvf
             subst hvf)
          | (go_at_call 19
             refine hSam.mono ?_
             rintro e V5 ⟨rfl, HB5⟩))
        clear hFil hSam
        have HS5 : Hid (Sx w lo lo (lo + 3) X V5 (crD D N) (crD D N)) := HS4.out.later HB5.out
        obtain ⟨F5, hDm5, -, -⟩ := HS5.out.prog
        obtain ⟨b5, hb5⟩ : ∃ b, (crD D N).dw = b := ⟨_, rfl⟩
        have c7 : V5.cell? ⟨lo + 3, 7, none⟩ = some (.bool b5) := by
          obtain ⟨G5, ⟨_, _, _, _, hc5⟩, -, -⟩ := HS5.out.page
          rw [← hb5]
          exact hc5.c 7
        have HWhat : ∀ U : World, Below V5.heap.size V5 U → Calls Tryd.prog 21 #[.nilIface] U fun e w' => e = .returned (.int .i64 (0)) ∧ w' = U := fun U hU => by
          obtain ⟨q1, q2, q3, q4⟩ := HE.out
          obtain ⟨e1, e2, e3, e4⟩ := q4 U (HS5.out.bel.trans (hU.mono HS5.out.lo'))
          exact what_any U aD aF aN 0 HR3.out e1 q1 q2 q3 e2 e3 e4
        have HDwn : ∀ U : World, Below V5.heap.size V5 U → Calls Tryd.prog 22 #[.pointer (some ⟨lo + 1, 0, none⟩)] U fun e w' => e = .returned (.bool b5) ∧ w' = U := fun U hU => by
          rw [← hb5]
          exact dDown_any U (lo + 1) lo F5 (crD D N) (hDm5.below hU) (bel_cell hU HS5.out.hh.2)
        clear hDm5 hb5
        have hbb : (b5 != b5) = false := by simp
        have hrr : (((0) : Int) != (0)) = false := by simp
        go_quiet (first
          | (go_at_call 21; exact Calls.quiet_of_same (HWhat _ ⟨rfl, rfl, rfl, Nat.le_refl _, fun _ _ => rfl⟩))
          | (go_at_call 22; exact Calls.quiet_of_same (HDwn _ ⟨rfl, rfl, rfl, Nat.le_refl _, fun _ _ => rfl⟩)))
        clear HWhat HDwn
        have HEnd : Hid (Lj w lo n (.int .i64 ((i : Int) + 1)) (V5.drewN nq)) := ⟨i + 1, (crD D N), by simp, by omega, (HS5.out.later (V := V5.drewN nq) ⟨rfl, rfl, rfl, Nat.le_refl _, fun _ _ => rfl⟩).drop HXT.out.2.1 (.inl rfl) (.inr rfl), by rw [Nat.add_mul, Nat.one_mul]; exact HO3.out⟩
        clear c7
        go_wp2
        exact ⟨HEnd.out, by simp [intOf]; omega⟩
      have f1 : (dd == 1) = false := by simp [hd1]
      have f2 : (dd == 2) = false := by simp [hd2]
      have f3 : (dd == 3) = false := by simp [hd3]
      have f4 : (dd == 4) = false := by simp [hd4]
      have f5 : (dd == 5) = false := by simp [hd5]
      have f6 : (dd == 6) = false := by simp [hd6]
      have f7 : (dd == 7) = false := by simp [hd7]
      have HO3 : Hid (D.Ok (i * 1048576 + 1048576)) := HO.out.up (Nat.le_add_right _ _)
      obtain ⟨F, hDm, hF, hFin⟩ := HS2.out.prog
      have hEr := (HE.out.2.2.2 W2 HS2.out.bel).1
      have HA := dRead_any W2 (lo + 2) lo F D nm (i * 1048576) aD aF aN hDm HO.out hBi HS2.out.dd.2 hEr
      clear hF hFin hDm hEr
      obtain ⟨r, hr⟩ : ∃ r, rdN D nm = r := ⟨_, rfl⟩
      have HR3 : Hid (r ≤ 3) := by show _ ≤ _; rw [← hr]; unfold rdN; split; omega; split <;> omega
      obtain ⟨ev, hev⟩ : ∃ ev, evD aD aF aN r = ev := ⟨_, rfl⟩
      unfold RdP at HA
      rw [hr, hev] at HA
      go_upto_region 15 with (
        go_at_call 17
        refine HA.mono ?_
        rintro e V2 ⟨a7, n7, c7', rfl, hB2⟩
        have HS3 : Hid (Sx w lo lo (lo + 3) X V2 D D) := HS2.out.later hB2
        have u3 := bel_cell hB2 s3
        clear s0 s1 s2 s3 s4 s5 hB2)
      clear HA
      have HFn : Calls Tryd.prog 18 #[.pointer (some ⟨lo + 3, 0, none⟩), .string nm] V2 fun e w' => e = .returned (.int .i64 (fI D.fs nm)) ∧ w' = V2 := by
        obtain ⟨G, hPm, -, -⟩ := HS3.out.page
        exact pfind_any V2 (lo + 3) G D nm (i * 1048576) hPm HO.out hBi
      obtain ⟨K, hK⟩ : ∃ K, fI D.fs nm = K := ⟨_, rfl⟩
      have HK : Hid (fI D.fs nm = K) := hK
      rw [hK] at HFn
      clear hK
      have c7 : V2.cell? ⟨lo + 3, 7, none⟩ = some (.bool D.dw) := by
        obtain ⟨G5, ⟨_, _, _, _, hc5⟩, -, -⟩ := HS3.out.page
        exact hc5.c 7
      go_upto_region 16 with (
        go_at_call 18
        refine HFn.mono ?_
        rintro e w8 ⟨rfl, hw8⟩
        rw [hw8]
        clear hw8)
      clear HFn
      cases hw : D.dw with
      | true =>
        rw [hw] at c7
        have hr2 : r = 2 := by rw [← hr]; unfold rdN; rw [hw]; rfl
        subst hr2
        clear hr hw
        go_upto_region 43 with fail
        clear c7
        obtain ⟨F3, hDm3, -, -⟩ := HS3.out.prog
        have hFil := dFiles_any V2 (lo + 1) lo F3 D (i * 1048576 + 1048576) hDm3 HO3.out hBj HS3.out.hh.2
        clear hDm3
        go_upto_region 44 with (first
          | (go_at_call 20
             refine hFil.mono ?_
             rintro e V4 ⟨vf, Lf, rfl, hFo, hLm, hB4⟩
             obtain ⟨af, cf, hvf⟩ := d_shape hFo.row
             have HS4 : Hid (Sx w lo lo (lo + 3) X V4 D D) := HS3.out.later hB4
             have hSam : Calls Tryd.prog 19 #[.pointer (some ⟨lo + 3, 0, none⟩), vf] V4 fun e w' => e = .returned (.bool true) ∧ Hid (Below V4.heap.size V4 w') := by
               obtain ⟨G4, hPm4, -, -⟩ := HS4.out.page
               exact same_any V4 (lo + 3) G4 D (i * 1048576 + 1048576) vf Lf hPm4 HO3.out hBj hFo hLm
             clear hFo hLm hB4
             generalize Lf.length = nf at hvf
             subst hvf)
          | (go_at_call 19
             refine hSam.mono ?_
             rintro e V5 ⟨rfl, HB5⟩))
        clear hFil hSam
        have HS5 : Hid (Sx w lo lo (lo + 3) X V5 D D) := HS4.out.later HB5.out
        obtain ⟨F5, hDm5, -, -⟩ := HS5.out.prog
        obtain ⟨b5, hb5⟩ : ∃ b, D.dw = b := ⟨_, rfl⟩
        have c7 : V5.cell? ⟨lo + 3, 7, none⟩ = some (.bool b5) := by
          obtain ⟨G5, ⟨_, _, _, _, hc5⟩, -, -⟩ := HS5.out.page
          rw [← hb5]
          exact hc5.c 7
        have HWhat : ∀ U : World, Below V5.heap.size V5 U → Calls Tryd.prog 21 #[ev] U fun e w' => e = .returned (.int .i64 (2)) ∧ w' = U := fun U hU => by
          obtain ⟨q1, q2, q3, q4⟩ := HE.out
          obtain ⟨e1, e2, e3, e4⟩ := q4 U (HS5.out.bel.trans (hU.mono HS5.out.lo'))
          rw [← hev]
          exact what_any U aD aF aN 2 HR3.out e1 q1 q2 q3 e2 e3 e4
        have HDwn : ∀ U : World, Below V5.heap.size V5 U → Calls Tryd.prog 22 #[.pointer (some ⟨lo + 1, 0, none⟩)] U fun e w' => e = .returned (.bool b5) ∧ w' = U := fun U hU => by
          rw [← hb5]
          exact dDown_any U (lo + 1) lo F5 D (hDm5.below hU) (bel_cell hU HS5.out.hh.2)
        clear hDm5 hb5
        have hbb : (b5 != b5) = false := by simp
        have hrr : (((2) : Int) != (2)) = false := by simp
        go_quiet (first
          | (go_at_call 21; exact Calls.quiet_of_same (HWhat _ ⟨rfl, rfl, rfl, Nat.le_refl _, fun _ _ => rfl⟩))
          | (go_at_call 22; exact Calls.quiet_of_same (HDwn _ ⟨rfl, rfl, rfl, Nat.le_refl _, fun _ _ => rfl⟩)))
        clear HWhat HDwn
        have HEnd : Hid (Lj w lo n (.int .i64 ((i : Int) + 1)) (V5.drewN nq)) := ⟨i + 1, D, by simp, by omega, (HS5.out.later (V := V5.drewN nq) ⟨rfl, rfl, rfl, Nat.le_refl _, fun _ _ => rfl⟩).drop HXT.out.2.1 (.inl rfl) (.inr rfl), by rw [Nat.add_mul, Nat.one_mul]; exact HO3.out⟩
        clear c7
        go_wp2
        exact ⟨HEnd.out, by simp [intOf]; omega⟩
      | false =>
        rw [hw] at c7
        cases hf : fnd D.fs nm with
        | none =>
          have hK2 : K = -1 := by rw [← HK.out]; exact fI_none hf
          have hr2 : r = 3 := by rw [← hr]; unfold rdN; rw [hw, if_neg (by simp), if_pos hf]
          subst hr2 hK2
          clear hr hw hf
          go_upto_region 43 with fail
          clear c7
          obtain ⟨F3, hDm3, -, -⟩ := HS3.out.prog
          have hFil := dFiles_any V2 (lo + 1) lo F3 D (i * 1048576 + 1048576) hDm3 HO3.out hBj HS3.out.hh.2
          clear hDm3
          go_upto_region 44 with (first
            | (go_at_call 20
               refine hFil.mono ?_
               rintro e V4 ⟨vf, Lf, rfl, hFo, hLm, hB4⟩
               obtain ⟨af, cf, hvf⟩ := d_shape hFo.row
               have HS4 : Hid (Sx w lo lo (lo + 3) X V4 D D) := HS3.out.later hB4
               have hSam : Calls Tryd.prog 19 #[.pointer (some ⟨lo + 3, 0, none⟩), vf] V4 fun e w' => e = .returned (.bool true) ∧ Hid (Below V4.heap.size V4 w') := by
                 obtain ⟨G4, hPm4, -, -⟩ := HS4.out.page
                 exact same_any V4 (lo + 3) G4 D (i * 1048576 + 1048576) vf Lf hPm4 HO3.out hBj hFo hLm
               clear hFo hLm hB4
               generalize Lf.length = nf at hvf
               subst hvf)
            | (go_at_call 19
               refine hSam.mono ?_
               rintro e V5 ⟨rfl, HB5⟩))
          clear hFil hSam
          have HS5 : Hid (Sx w lo lo (lo + 3) X V5 D D) := HS4.out.later HB5.out
          obtain ⟨F5, hDm5, -, -⟩ := HS5.out.prog
          obtain ⟨b5, hb5⟩ : ∃ b, D.dw = b := ⟨_, rfl⟩
          have c7 : V5.cell? ⟨lo + 3, 7, none⟩ = some (.bool b5) := by
            obtain ⟨G5, ⟨_, _, _, _, hc5⟩, -, -⟩ := HS5.out.page
            rw [← hb5]
            exact hc5.c 7
          have HWhat : ∀ U : World, Below V5.heap.size V5 U → Calls Tryd.prog 21 #[ev] U fun e w' => e = .returned (.int .i64 (3)) ∧ w' = U := fun U hU => by
            obtain ⟨q1, q2, q3, q4⟩ := HE.out
            obtain ⟨e1, e2, e3, e4⟩ := q4 U (HS5.out.bel.trans (hU.mono HS5.out.lo'))
            rw [← hev]
            exact what_any U aD aF aN 3 HR3.out e1 q1 q2 q3 e2 e3 e4
          have HDwn : ∀ U : World, Below V5.heap.size V5 U → Calls Tryd.prog 22 #[.pointer (some ⟨lo + 1, 0, none⟩)] U fun e w' => e = .returned (.bool b5) ∧ w' = U := fun U hU => by
            rw [← hb5]
            exact dDown_any U (lo + 1) lo F5 D (hDm5.below hU) (bel_cell hU HS5.out.hh.2)
          clear hDm5 hb5
          have hbb : (b5 != b5) = false := by simp
          have hrr : (((3) : Int) != (3)) = false := by simp
          go_quiet (first
            | (go_at_call 21; exact Calls.quiet_of_same (HWhat _ ⟨rfl, rfl, rfl, Nat.le_refl _, fun _ _ => rfl⟩))
            | (go_at_call 22; exact Calls.quiet_of_same (HDwn _ ⟨rfl, rfl, rfl, Nat.le_refl _, fun _ _ => rfl⟩)))
          clear HWhat HDwn
          have HEnd : Hid (Lj w lo n (.int .i64 ((i : Int) + 1)) (V5.drewN nq)) := ⟨i + 1, D, by simp, by omega, (HS5.out.later (V := V5.drewN nq) ⟨rfl, rfl, rfl, Nat.le_refl _, fun _ _ => rfl⟩).drop HXT.out.2.1 (.inl rfl) (.inr rfl), by rw [Nat.add_mul, Nat.one_mul]; exact HO3.out⟩
          clear c7
          go_wp2
          exact ⟨HEnd.out, by simp [intOf]; omega⟩
        | some j =>
          have hK2 : K = (j : Int) := by rw [← HK.out]; exact fI_some hf
          have hr2 : r = 0 := by rw [← hr]; unfold rdN; rw [hw, if_neg (by simp), hf, if_neg (by simp)]
          subst hr2 hK2
          have hj0 : ¬ (j : Int) < 0 := by omega
          clear hr hw hf
          go_upto_region 43 with fail
          clear c7
          obtain ⟨F3, hDm3, -, -⟩ := HS3.out.prog
          have hFil := dFiles_any V2 (lo + 1) lo F3 D (i * 1048576 + 1048576) hDm3 HO3.out hBj HS3.out.hh.2
          clear hDm3
          go_upto_region 44 with (first
            | (go_at_call 20
               refine hFil.mono ?_
               rintro e V4 ⟨vf, Lf, rfl, hFo, hLm, hB4⟩
               obtain ⟨af, cf, hvf⟩ := d_shape hFo.row
               have HS4 : Hid (Sx w lo lo (lo + 3) X V4 D D) := HS3.out.later hB4
               have hSam : Calls Tryd.prog 19 #[.pointer (some ⟨lo + 3, 0, none⟩), vf] V4 fun e w' => e = .returned (.bool true) ∧ Hid (Below V4.heap.size V4 w') := by
                 obtain ⟨G4, hPm4, -, -⟩ := HS4.out.page
                 exact same_any V4 (lo + 3) G4 D (i * 1048576 + 1048576) vf Lf hPm4 HO3.out hBj hFo hLm
               clear hFo hLm hB4
               generalize Lf.length = nf at hvf
               subst hvf)
            | (go_at_call 19
               refine hSam.mono ?_
               rintro e V5 ⟨rfl, HB5⟩))
          clear hFil hSam
          have HS5 : Hid (Sx w lo lo (lo + 3) X V5 D D) := HS4.out.later HB5.out
          obtain ⟨F5, hDm5, -, -⟩ := HS5.out.prog
          obtain ⟨b5, hb5⟩ : ∃ b, D.dw = b := ⟨_, rfl⟩
          have c7 : V5.cell? ⟨lo + 3, 7, none⟩ = some (.bool b5) := by
            obtain ⟨G5, ⟨_, _, _, _, hc5⟩, -, -⟩ := HS5.out.page
            rw [← hb5]
            exact hc5.c 7
          have HWhat : ∀ U : World, Below V5.heap.size V5 U → Calls Tryd.prog 21 #[ev] U fun e w' => e = .returned (.int .i64 (0)) ∧ w' = U := fun U hU => by
            obtain ⟨q1, q2, q3, q4⟩ := HE.out
            obtain ⟨e1, e2, e3, e4⟩ := q4 U (HS5.out.bel.trans (hU.mono HS5.out.lo'))
            rw [← hev]
            exact what_any U aD aF aN 0 HR3.out e1 q1 q2 q3 e2 e3 e4
          have HDwn : ∀ U : World, Below V5.heap.size V5 U → Calls Tryd.prog 22 #[.pointer (some ⟨lo + 1, 0, none⟩)] U fun e w' => e = .returned (.bool b5) ∧ w' = U := fun U hU => by
            rw [← hb5]
            exact dDown_any U (lo + 1) lo F5 D (hDm5.below hU) (bel_cell hU HS5.out.hh.2)
          clear hDm5 hb5
          have hbb : (b5 != b5) = false := by simp
          have hrr : (((0) : Int) != (0)) = false := by simp
          go_quiet (first
            | (go_at_call 21; exact Calls.quiet_of_same (HWhat _ ⟨rfl, rfl, rfl, Nat.le_refl _, fun _ _ => rfl⟩))
            | (go_at_call 22; exact Calls.quiet_of_same (HDwn _ ⟨rfl, rfl, rfl, Nat.le_refl _, fun _ _ => rfl⟩)))
          clear HWhat HDwn
          have HEnd : Hid (Lj w lo n (.int .i64 ((i : Int) + 1)) (V5.drewN nq)) := ⟨i + 1, D, by simp, by omega, (HS5.out.later (V := V5.drewN nq) ⟨rfl, rfl, rfl, Nat.le_refl _, fun _ _ => rfl⟩).drop HXT.out.2.1 (.inl rfl) (.inr rfl), by rw [Nat.add_mul, Nat.one_mul]; exact HO3.out⟩
          clear c7
          go_wp2
          exact ⟨HEnd.out, by simp [intOf]; omega⟩

end Go.Proofs.YticdedcgmofpjaaDoor.K
