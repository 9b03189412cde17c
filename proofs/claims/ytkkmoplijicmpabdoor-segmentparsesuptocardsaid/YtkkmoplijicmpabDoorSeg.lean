import Derived.Test.YtkkmoplijicmpabDoorReport
namespace Go.Proofs.YtkkmoplijicmpabDoor
open Go.RowKit


/-- A segment that lies in memory of its own: its lists' blocks, Head's ahead of B1, those of Data and Claims from there up to B2, Tail's behind. -/
structure SOwn (w : World) (base : Nat) (s : Sg) (hv tv dv cv : Value) (hx tx : List Xr) (B1 B2 : Nat) : Prop where
  le1 : base ≤ B1
  le2 : B1 ≤ B2
  head : XOwn w base hv hx
  headLt : ∀ k, (hv.ownBlock = some k ∨ ∃ x ∈ hx, x.val.ownBlock = some k) → k < B1
  headEq : s.head = hx.map Xr.ex
  data : w.ownsRow B1 5 1 dv s.data.length (s.data.map (Value.int .u8))
  dataLt : ∀ k, dv.ownBlock = some k → k < B2
  dataB : Bytey s.data
  dataS : s.data.length ≤ 70000
  clm : w.ownsRow B1 37 2 cv s.clm.length (s.clm.flatMap spc)
  clmLt : ∀ k, cv.ownBlock = some k → k < B2
  clmS : s.clm.length ≤ 1000
  only : dv.ownBlock = none ∨ cv.ownBlock = none
  tail : XOwn w B2 tv tx
  tailEq : s.tail = tx.map Xr.ex
  few : hx.length ≤ 15 ∧ tx.length ≤ 15

def SegAt (b : Nat) (a : Option Addr) (len cap : Nat) (zs : List Int) (st : St) (w : World) (e : Ending) (w' : World) : Prop :=
  ∃ (s : Sg) (hv tv dv cv : Value) (hx tx : List Xr) (B1 B2 : Nat) (h : Int) (st' : St), e = .returned (.tuple #[]) ∧ At w' b a len cap zs st' (gl h s.typ s.org s.num hv tv s.srv s.off dv s.chk s.rep s.upp s.low cv s.rsn) ∧ SOwn w' w.heap.size s hv tv dv cv hx tx B1 B2 ∧ w.grownBy w' (some b) ∧ Step zs segp st s st'

theorem XOwn.lt {w : World} {base : Nat} {v : Value} {xs : List Xr} (h : XOwn w base v xs) : ∀ k, (v.ownBlock = some k ∨ ∃ x ∈ xs, x.val.ownBlock = some k) → base ≤ k ∧ k < w.heap.size := by
  rintro k (hk | ⟨x, hx, hk⟩)
  · exact h.row.lt k hk
  · exact (h.data x hx).row.lt k hk

/-- What came to the place behind Head: the segment's other fields, in memory from B1 on. -/
structure Mid (w : World) (B1 : Nat) (s : Sg) (dv cv : Value) : Prop where
  data : w.ownsRow B1 5 1 dv s.data.length (s.data.map (Value.int .u8))
  dataB : Bytey s.data
  dataS : s.data.length ≤ 70000
  clm : w.ownsRow B1 37 2 cv s.clm.length (s.clm.flatMap spc)
  clmS : s.clm.length ≤ 1000
  only : dv.ownBlock = none ∨ cv.ownBlock = none

theorem mid_nil (w : World) (B1 : Nat) (s : Sg) (hd : s.data = []) (hc : s.clm = []) : Mid w B1 s (.slice none 0 0) (.slice none 0 0) :=
  ⟨by rw [hd]; exact World.ownsRow_nil _ _ _ _, by rw [hd]; exact (fun z hz => by cases hz), by rw [hd]; simp, by rw [hc]; exact World.ownsRow_nil _ _ _ _, by rw [hc]; simp, .inl rfl⟩

theorem sown_mk {w w1 w2 w3 : World} {b : Nat} {s : Sg} {hv tv dv cv : Value} {hx tx : List Xr} (hb : b < w.heap.size) (hh : XOwn w1 w.heap.size hv hx) (h01 : w.heap.size ≤ w1.heap.size) (he : s.head = hx.map Xr.ex) (hl : hx.length ≤ 15)
    (g12 : w1.grownBy w2 (some b)) (hm : Mid w2 w1.heap.size s dv cv) (g23 : w2.grownBy w3 (some b)) (ht : XOwn w3 w2.heap.size tv tx) (hl2 : tx.length ≤ 15) : SOwn w3 w.heap.size { s with tail := tx.map Xr.ex } hv tv dv cv hx tx w1.heap.size w2.heap.size := by
  refine ⟨h01, g12.size, (hh.keep g12 (by simp; omega)).keep g23 (by simp; omega), fun k hk => (hh.lt k hk).2, he, ?_, fun k hk => (hm.data.lt k hk).2, hm.dataB, hm.dataS, ?_, fun k hk => (hm.clm.lt k hk).2, hm.clmS, hm.only, ht, rfl, hl, hl2⟩
  · exact own_keep hm.data g23 (fun k hk e => by have := (hm.data.lt k hk).1; simp at e; omega)
  · exact own_keep hm.clm g23 (fun k hk e => by have := (hm.clm.lt k hk).1; simp at e; omega)

theorem XOwn.put {w : World} {b i : Nat} {u : Value} {base : Nat} {v : Value} {xs : List Xr} (h : XOwn w base v xs) (hb : b < base) : XOwn (w.setCell ⟨b, i, none⟩ u) base v xs := h.keep (grown_set _ _ _ _) (by simp; omega)

theorem sw0_2 : anyB 0 2 = false := by decide
theorem sw0_8 : anyB 0 8 = false := by decide
theorem sw0_16 : anyB 0 16 = false := by decide
theorem sw0_32 : anyB 0 32 = false := by decide
theorem sw1_2 : anyB 1 2 = false := by decide
theorem sw1_8 : anyB 1 8 = false := by decide
theorem sw1_16 : anyB 1 16 = false := by decide
theorem sw1_32 : anyB 1 32 = false := by decide
theorem sw3_2 : anyB 3 2 = true := by decide
theorem sw3_8 : anyB 3 8 = false := by decide
theorem sw3_16 : anyB 3 16 = false := by decide
theorem sw3_32 : anyB 3 32 = false := by decide
theorem sw7_2 : anyB 7 2 = true := by decide
theorem sw7_8 : anyB 7 8 = false := by decide
theorem sw7_16 : anyB 7 16 = false := by decide
theorem sw7_32 : anyB 7 32 = false := by decide
theorem sw9_2 : anyB 9 2 = false := by decide
theorem sw9_8 : anyB 9 8 = true := by decide
theorem sw9_16 : anyB 9 16 = false := by decide
theorem sw9_32 : anyB 9 32 = false := by decide
theorem sw17_2 : anyB 17 2 = false := by decide
theorem sw17_8 : anyB 17 8 = false := by decide
theorem sw17_16 : anyB 17 16 = true := by decide
theorem sw17_32 : anyB 17 32 = false := by decide
theorem sw33_2 : anyB 33 2 = false := by decide
theorem sw33_8 : anyB 33 8 = false := by decide
theorem sw33_16 : anyB 33 16 = false := by decide
theorem sw33_32 : anyB 33 32 = true := by decide
theorem and15 (m : Nat) (hm : m ≤ 255) : bits .and .i64 (m : Int) 15 = ((m % 16 : Nat) : Int) := by
  have h15 : (BitVec.ofInt 64 15).toNat = 2 ^ 4 - 1 := by decide
  have key : (BitVec.ofInt 64 (m : Int) &&& BitVec.ofInt 64 15).toNat = ((m : Int) % ((2 ^ 64 : Nat) : Int)).toNat % 2 ^ 4 := by
    rw [BitVec.toNat_and, BitVec.toNat_ofInt, h15, Nat.and_two_pow_sub_one_eq_mod]
  show IntKind.i64.wrap ((BitVec.ofInt 64 (m : Int) &&& BitVec.ofInt 64 15).toNat : Nat) = _
  rw [key, IntKind.wrap_i64]
  omega

theorem one17_24 : one (anyB 17 24) = 1 := by decide

set_option maxHeartbeats 8000000 in
theorem segment_at {b len cap : Nat} {a : Option Addr} {zs : List Int} {st : St} {w : World} (h : At w b a len cap zs st (gl 0 0 0 0 (.slice none 0 0) (.slice none 0 0) 0 0 (.slice none 0 0) 0 0 0 0 (.slice none 0 0) 0)) (hT : Tab w) (hb : 0 < b) :
    Calls Tryd.prog 41 #[.pointer (some ⟨b, 0, none⟩)] w (SegAt b a len cap zs st w) := by
  have HH : Hid (At w b a len cap zs st (gl 0 0 0 0 (.slice none 0 0) (.slice none 0 0) 0 0 (.slice none 0 0) 0 0 0 0 (.slice none 0 0) 0)) := h
  have HT : Hid (Tab w) := hT
  have HW : Hid (b < w.heap.size) := h.lt
  clear h hT
  go_enter Tryd.func41, Tryd.ntmps41
  go_wp2_with fail
  refine (kind_at 0 0 HH.out HT.out hb).mono ?_
  rintro e w0 ⟨t, s0, rfl, ha, hg, hs, t0, t1⟩
  have H0 : Hid (At w0 b a len cap zs s0 (gl (shp t) t 0 0 (.slice none 0 0) (.slice none 0 0) 0 0 (.slice none 0 0) 0 0 0 0 (.slice none 0 0) 0)) := ha
  have G0 : Hid (w.grownBy w0 (some b)) := hg
  have SK : Hid (Step zs kindp st t s0) := hs
  clear ha hg hs HH HT
  go_wp2_with fail
  refine (number_at 1 4611686018427387903 (H0.out)).mono ?_
  rintro e w1 ⟨v0, s1, rfl, ha, hg, hs, p0, q0, r0⟩
  have c0 := ha.cell 2 rfl
  have z0 := ha.fz 5
  have H1 : Hid (At (w1.setCell ⟨b, 5, none⟩ (.int .i64 v0)) b a len cap zs s1 (gl (shp t) t v0 0 (.slice none 0 0) (.slice none 0 0) 0 0 (.slice none 0 0) 0 0 0 0 (.slice none 0 0) 0)) := ha.put 2 _ 5 rfl
  have G1 : Hid (w.grownBy (w1.setCell ⟨b, 5, none⟩ (.int .i64 v0)) (some b)) := grown_trans (grown_trans G0.out hg) (grown_set _ _ _ _)
  have S0 : Hid (Step zs (numb 1 4611686018427387903) s0 v0 s1) := hs
  clear ha hg hs
  clear H0 G0
  go_wp2_with fail
  refine (number_at 1 4611686018427387902 (H1.out)).mono ?_
  rintro e w2 ⟨v1, s2, rfl, ha, hg, hs, p1, q1, r1⟩
  have c1 := ha.cell 3 rfl
  have z1 := ha.fz 6
  have H2 : Hid (At (w2.setCell ⟨b, 6, none⟩ (.int .i64 v1)) b a len cap zs s2 (gl (shp t) t v0 v1 (.slice none 0 0) (.slice none 0 0) 0 0 (.slice none 0 0) 0 0 0 0 (.slice none 0 0) 0)) := ha.put 3 _ 6 rfl
  have G2 : Hid (w.grownBy (w2.setCell ⟨b, 6, none⟩ (.int .i64 v1)) (some b)) := grown_trans (grown_trans G1.out hg) (grown_set _ _ _ _)
  have S1 : Hid (Step zs (numb 1 4611686018427387902) s1 v1 s2) := hs
  clear ha hg hs
  clear H1 G1
  go_wp2_with fail
  refine (octet_at H2.out).mono ?_
  rintro e w3 ⟨c, s3, rfl, ha, hg, hs, c0', c1'⟩
  have H3 : Hid (At w3 b a len cap zs s3 (gl (shp t) t v0 v1 (.slice none 0 0) (.slice none 0 0) 0 0 (.slice none 0 0) 0 0 0 0 (.slice none 0 0) 0)) := ha
  have G3 : Hid (w.grownBy w3 (some b)) := grown_trans G2.out hg
  have S2 : Hid (Step zs oct s2 c s3) := hs
  clear ha hg hs H2 G2 p0 q0 r0 p1 q1 r1 c0 z0 c1 z1
  obtain ⟨m, hm⟩ : ∃ m : Nat, c = m := ⟨c.toNat, by omega⟩
  subst hm
  have hm : m ≤ 255 := by omega
  go_wp2_with fail
  rw [show (m : Int) / 16 = ((m / 16 : Nat) : Int) from by omega]
  refine (exts_at (m / 16) (by omega) H3.out).mono ?_
  rintro e w4 ⟨ah, ch, hx, s4, rfl, hxl, hxo, ha, hg, hs⟩
  have c4 := ha.cell 4 rfl
  have z4 := ha.fz 7
  have HXO : Hid (XOwn (w4.setCell ⟨b, 7, none⟩ (.slice ah (m / 16) ch)) w.heap.size (.slice ah (m / 16) ch) hx) := by
    have h1 := HW.out
    have h2 := G3.out.size
    exact XOwn.put ⟨own_base hxo.row h2, fun x hx => ⟨own_base (hxo.data x hx).row h2, (hxo.data x hx).bytes, (hxo.data x hx).small, (hxo.data x hx).tag⟩, hxo.apart, hxo.nodup⟩ h1
  have HXL : Hid (hx.length ≤ 15) := by unfold Hid; omega

  have H4 : Hid (At (w4.setCell ⟨b, 7, none⟩ (.slice ah (m / 16) ch)) b a len cap zs s4 (gl (shp t) t v0 v1 (.slice ah (m / 16) ch) (.slice none 0 0) 0 0 (.slice none 0 0) 0 0 0 0 (.slice none 0 0) 0)) := ha.put 4 _ 7 rfl
  have G4 : Hid (w.grownBy (w4.setCell ⟨b, 7, none⟩ (.slice ah (m / 16) ch)) (some b)) := grown_trans (grown_trans G3.out hg) (grown_set _ _ _ _)
  have S3 : Hid (Step zs (extsp (m / 16) []) s3 (hx.map Xr.ex) s4) := hs
  clear ha hg hs hxo hxl H3 G3
  have hsq : shp t % 2 = 1 ∨ shp t % 2 ≠ 1 := by omega
  rcases shp_cases t with hq | hq | hq | hq | hq | hq | hq
  · rw [hq] at H4
    have lh := H4.out.cell 0 rfl
    go_wp2_with fail
    refine (any_any _ _ _).mono ?_
    rintro e w' ⟨rfl, rfl⟩
    rw [sw0_2]
    go_wp2_with fail
    refine (any_any _ _ _).mono ?_
    rintro e w' ⟨rfl, rfl⟩
    rw [sw0_8]
    go_wp2_with fail
    refine (any_any _ _ _).mono ?_
    rintro e w' ⟨rfl, rfl⟩
    rw [sw0_16]
    go_wp2_with fail
    refine (any_any _ _ _).mono ?_
    rintro e w' ⟨rfl, rfl⟩
    rw [sw0_32]
    have GM : Hid ((w4.setCell ⟨b, 7, none⟩ (.slice ah (m / 16) ch)).grownBy (w4.setCell ⟨b, 7, none⟩ (.slice ah (m / 16) ch)) (some b)) := World.grownBy.refl _ _
    clear lh
    go_wp2_with fail
    rw [and15 m hm]
    refine (exts_at (m % 16) (by omega) H4.out).mono ?_
    rintro e w9 ⟨at', ct', tx, s9, rfl, hxl, hxo, ha, hg, hs⟩
    have c9 := ha.cell 5 rfl
    have z9 := ha.fz 8
    have H9 : Hid (At (w9.setCell ⟨b, 8, none⟩ (.slice at' (m % 16) ct')) b a len cap zs s9 (gl 0 t v0 v1 (.slice ah (m / 16) ch) ((.slice at' (m % 16) ct')) 0 0 (.slice none 0 0) 0 0 0 0 (.slice none 0 0) 0)) := ha.put 5 _ 8 rfl
    have G9 : Hid (w.grownBy (w9.setCell ⟨b, 8, none⟩ (.slice at' (m % 16) ct')) (some b)) := grown_trans (grown_trans G4.out hg) (grown_set _ _ _ _)
    have hb2 : b < (w4.setCell ⟨b, 7, none⟩ (.slice ah (m / 16) ch)).heap.size := by have h1 := G4.out.size; have h2 := HW.out; omega
    have HSO : Hid (SOwn (w9.setCell ⟨b, 8, none⟩ (.slice at' (m % 16) ct')) w.heap.size { { sg0 with typ := t, org := v0, num := v1, head := hx.map Xr.ex } with tail := tx.map Xr.ex } (.slice ah (m / 16) ch) (.slice at' (m % 16) ct') (.slice none 0 0) (.slice none 0 0) hx tx _ _) := sown_mk HW.out HXO.out G4.out.size rfl HXL.out GM.out (mid_nil _ _ _ rfl rfl) (grown_trans hg (grown_set _ _ _ _)) (hxo.put hb2) (by omega)
    have S9 : Hid (Step zs (extsp (m % 16) []) _ (tx.map Xr.ex) s9) := hs
    clear ha hg hs hxo hxl
    go_wp2
    go_end0
    refine ⟨{ { sg0 with typ := t, org := v0, num := v1, head := hx.map Xr.ex } with tail := tx.map Xr.ex }, _, _, _, _, hx, tx, _, _, 0, s9, rfl, H9.out, HSO.out, G9.out, ?_⟩
    refine SK.out.bind (S0.out.bind (S1.out.bind (S2.out.bind ?_)))
    rw [show ((m : Int) / 16).toNat = m / 16 from by omega, show ((m : Int) % 16).toNat = m % 16 from by omega]
    refine S3.out.bind ?_
    rw [hq]
    exact Step.bind (by unfold contp; rw [if_neg (by decide), if_neg (by decide), if_neg (by decide), if_neg (by decide)]; exact Step.ret _) (S9.out.bind (Step.ret _))
  · rw [hq] at H4
    have lh := H4.out.cell 0 rfl
    go_wp2_with fail
    refine (any_any _ _ _).mono ?_
    rintro e w' ⟨rfl, rfl⟩
    rw [sw1_2]
    go_wp2_with fail
    refine (any_any _ _ _).mono ?_
    rintro e w' ⟨rfl, rfl⟩
    rw [sw1_8]
    go_wp2_with fail
    refine (any_any _ _ _).mono ?_
    rintro e w' ⟨rfl, rfl⟩
    rw [sw1_16]
    go_wp2_with fail
    refine (any_any _ _ _).mono ?_
    rintro e w' ⟨rfl, rfl⟩
    rw [sw1_32]
    have GM : Hid ((w4.setCell ⟨b, 7, none⟩ (.slice ah (m / 16) ch)).grownBy (w4.setCell ⟨b, 7, none⟩ (.slice ah (m / 16) ch)) (some b)) := World.grownBy.refl _ _
    clear lh
    go_wp2_with fail
    rw [and15 m hm]
    refine (exts_at (m % 16) (by omega) H4.out).mono ?_
    rintro e w9 ⟨at', ct', tx, s9, rfl, hxl, hxo, ha, hg, hs⟩
    have c9 := ha.cell 5 rfl
    have z9 := ha.fz 8
    have H9 : Hid (At (w9.setCell ⟨b, 8, none⟩ (.slice at' (m % 16) ct')) b a len cap zs s9 (gl 1 t v0 v1 (.slice ah (m / 16) ch) ((.slice at' (m % 16) ct')) 0 0 (.slice none 0 0) 0 0 0 0 (.slice none 0 0) 0)) := ha.put 5 _ 8 rfl
    have G9 : Hid (w.grownBy (w9.setCell ⟨b, 8, none⟩ (.slice at' (m % 16) ct')) (some b)) := grown_trans (grown_trans G4.out hg) (grown_set _ _ _ _)
    have hb2 : b < (w4.setCell ⟨b, 7, none⟩ (.slice ah (m / 16) ch)).heap.size := by have h1 := G4.out.size; have h2 := HW.out; omega
    have HSO : Hid (SOwn (w9.setCell ⟨b, 8, none⟩ (.slice at' (m % 16) ct')) w.heap.size { { sg0 with typ := t, org := v0, num := v1, head := hx.map Xr.ex } with tail := tx.map Xr.ex } (.slice ah (m / 16) ch) (.slice at' (m % 16) ct') (.slice none 0 0) (.slice none 0 0) hx tx _ _) := sown_mk HW.out HXO.out G4.out.size rfl HXL.out GM.out (mid_nil _ _ _ rfl rfl) (grown_trans hg (grown_set _ _ _ _)) (hxo.put hb2) (by omega)
    have S9 : Hid (Step zs (extsp (m % 16) []) _ (tx.map Xr.ex) s9) := hs
    clear ha hg hs hxo hxl
    go_wp2
    go_end0
    refine ⟨{ { sg0 with typ := t, org := v0, num := v1, head := hx.map Xr.ex } with tail := tx.map Xr.ex }, _, _, _, _, hx, tx, _, _, 1, s9, rfl, H9.out, HSO.out, G9.out, ?_⟩
    refine SK.out.bind (S0.out.bind (S1.out.bind (S2.out.bind ?_)))
    rw [show ((m : Int) / 16).toNat = m / 16 from by omega, show ((m : Int) % 16).toNat = m % 16 from by omega]
    refine S3.out.bind ?_
    rw [hq]
    exact Step.bind (by unfold contp; rw [if_neg (by decide), if_neg (by decide), if_neg (by decide), if_neg (by decide)]; exact Step.ret _) (S9.out.bind (Step.ret _))
  · rw [hq] at H4
    have lh := H4.out.cell 0 rfl
    go_wp2_with fail
    refine (any_any _ _ _).mono ?_
    rintro e w' ⟨rfl, rfl⟩
    rw [sw3_2]
    clear lh
    go_wp2_with fail
    refine (block3_at { sg0 with typ := t, org := v0, num := v1, head := hx.map Xr.ex } rfl rfl H4.out).mono ?_
    rintro e w5 ⟨sv', o', ck', rp', ad, cd, d, s5, rfl, ha, hown, hd9, hby, hg, hs⟩
    have H5 : Hid (At w5 b a len cap zs s5 (gl 3 t v0 v1 (.slice ah (m / 16) ch) (.slice none 0 0) sv' o' (.slice ad d.length cd) ck' rp' 0 0 (.slice none 0 0) 0)) := ha
    have G5 : Hid (w.grownBy w5 (some b)) := grown_trans G4.out hg
    have GM : Hid ((w4.setCell ⟨b, 7, none⟩ (.slice ah (m / 16) ch)).grownBy w5 (some b)) := hg
    have HM : Hid (Mid w5 _ { { sg0 with typ := t, org := v0, num := v1, head := hx.map Xr.ex } with srv := sv', off := o', chk := ck', rep := rp', data := d } (.slice ad d.length cd) (.slice none 0 0)) := ⟨hown, hby, hd9, World.ownsRow_nil _ _ _ _, by simp [sg0], .inr rfl⟩
    have SM := hs
    have SM2 : Hid (Step zs (blockp 3 { sg0 with typ := t, org := v0, num := v1, head := hx.map Xr.ex }) s4 _ s5) := hs
    clear ha hg hs hown SM
    go_wp2_with fail
    rw [and15 m hm]
    refine (exts_at (m % 16) (by omega) H5.out).mono ?_
    rintro e w9 ⟨at', ct', tx, s9, rfl, hxl, hxo, ha, hg, hs⟩
    have c9 := ha.cell 5 rfl
    have z9 := ha.fz 8
    have H9 : Hid (At (w9.setCell ⟨b, 8, none⟩ (.slice at' (m % 16) ct')) b a len cap zs s9 (gl 3 t v0 v1 (.slice ah (m / 16) ch) ((.slice at' (m % 16) ct')) sv' o' (.slice ad d.length cd) ck' rp' 0 0 (.slice none 0 0) 0)) := ha.put 5 _ 8 rfl
    have G9 : Hid (w.grownBy (w9.setCell ⟨b, 8, none⟩ (.slice at' (m % 16) ct')) (some b)) := grown_trans (grown_trans G5.out hg) (grown_set _ _ _ _)
    have hb2 : b < w5.heap.size := by have h1 := G5.out.size; have h2 := HW.out; omega
    have HSO : Hid (SOwn (w9.setCell ⟨b, 8, none⟩ (.slice at' (m % 16) ct')) w.heap.size { { { sg0 with typ := t, org := v0, num := v1, head := hx.map Xr.ex } with srv := sv', off := o', chk := ck', rep := rp', data := d } with tail := tx.map Xr.ex } (.slice ah (m / 16) ch) (.slice at' (m % 16) ct') (.slice ad d.length cd) (.slice none 0 0) hx tx _ _) := sown_mk HW.out HXO.out G4.out.size rfl HXL.out GM.out HM.out (grown_trans hg (grown_set _ _ _ _)) (hxo.put hb2) (by omega)
    have S9 : Hid (Step zs (extsp (m % 16) []) _ (tx.map Xr.ex) s9) := hs
    clear ha hg hs hxo hxl
    go_wp2
    go_end0
    refine ⟨{ { { sg0 with typ := t, org := v0, num := v1, head := hx.map Xr.ex } with srv := sv', off := o', chk := ck', rep := rp', data := d } with tail := tx.map Xr.ex }, _, _, _, _, hx, tx, _, _, 3, s9, rfl, H9.out, HSO.out, G9.out, ?_⟩
    refine SK.out.bind (S0.out.bind (S1.out.bind (S2.out.bind ?_)))
    rw [show ((m : Int) / 16).toNat = m / 16 from by omega, show ((m : Int) % 16).toNat = m % 16 from by omega]
    refine S3.out.bind ?_
    rw [hq]
    exact Step.bind (by unfold contp; rw [if_pos (by decide)]; exact SM2.out) (S9.out.bind (Step.ret _))
  · rw [hq] at H4
    have lh := H4.out.cell 0 rfl
    go_wp2_with fail
    refine (any_any _ _ _).mono ?_
    rintro e w' ⟨rfl, rfl⟩
    rw [sw7_2]
    clear lh
    go_wp2_with fail
    refine (block7_at { sg0 with typ := t, org := v0, num := v1, head := hx.map Xr.ex } rfl rfl H4.out).mono ?_
    rintro e w5 ⟨sv', o', ck', rp', ad, cd, d, s5, rfl, ha, hown, hd9, hby, hg, hs⟩
    have H5 : Hid (At w5 b a len cap zs s5 (gl 7 t v0 v1 (.slice ah (m / 16) ch) (.slice none 0 0) sv' o' (.slice ad d.length cd) ck' rp' 0 0 (.slice none 0 0) 0)) := ha
    have G5 : Hid (w.grownBy w5 (some b)) := grown_trans G4.out hg
    have GM : Hid ((w4.setCell ⟨b, 7, none⟩ (.slice ah (m / 16) ch)).grownBy w5 (some b)) := hg
    have HM : Hid (Mid w5 _ { { sg0 with typ := t, org := v0, num := v1, head := hx.map Xr.ex } with srv := sv', off := o', chk := ck', rep := rp', data := d } (.slice ad d.length cd) (.slice none 0 0)) := ⟨hown, hby, hd9, World.ownsRow_nil _ _ _ _, by simp [sg0], .inr rfl⟩
    have SM := hs
    have SM2 : Hid (Step zs (blockp 7 { sg0 with typ := t, org := v0, num := v1, head := hx.map Xr.ex }) s4 _ s5) := hs
    clear ha hg hs hown SM
    go_wp2_with fail
    rw [and15 m hm]
    refine (exts_at (m % 16) (by omega) H5.out).mono ?_
    rintro e w9 ⟨at', ct', tx, s9, rfl, hxl, hxo, ha, hg, hs⟩
    have c9 := ha.cell 5 rfl
    have z9 := ha.fz 8
    have H9 : Hid (At (w9.setCell ⟨b, 8, none⟩ (.slice at' (m % 16) ct')) b a len cap zs s9 (gl 7 t v0 v1 (.slice ah (m / 16) ch) ((.slice at' (m % 16) ct')) sv' o' (.slice ad d.length cd) ck' rp' 0 0 (.slice none 0 0) 0)) := ha.put 5 _ 8 rfl
    have G9 : Hid (w.grownBy (w9.setCell ⟨b, 8, none⟩ (.slice at' (m % 16) ct')) (some b)) := grown_trans (grown_trans G5.out hg) (grown_set _ _ _ _)
    have hb2 : b < w5.heap.size := by have h1 := G5.out.size; have h2 := HW.out; omega
    have HSO : Hid (SOwn (w9.setCell ⟨b, 8, none⟩ (.slice at' (m % 16) ct')) w.heap.size { { { sg0 with typ := t, org := v0, num := v1, head := hx.map Xr.ex } with srv := sv', off := o', chk := ck', rep := rp', data := d } with tail := tx.map Xr.ex } (.slice ah (m / 16) ch) (.slice at' (m % 16) ct') (.slice ad d.length cd) (.slice none 0 0) hx tx _ _) := sown_mk HW.out HXO.out G4.out.size rfl HXL.out GM.out HM.out (grown_trans hg (grown_set _ _ _ _)) (hxo.put hb2) (by omega)
    have S9 : Hid (Step zs (extsp (m % 16) []) _ (tx.map Xr.ex) s9) := hs
    clear ha hg hs hxo hxl
    go_wp2
    go_end0
    refine ⟨{ { { sg0 with typ := t, org := v0, num := v1, head := hx.map Xr.ex } with srv := sv', off := o', chk := ck', rep := rp', data := d } with tail := tx.map Xr.ex }, _, _, _, _, hx, tx, _, _, 7, s9, rfl, H9.out, HSO.out, G9.out, ?_⟩
    refine SK.out.bind (S0.out.bind (S1.out.bind (S2.out.bind ?_)))
    rw [show ((m : Int) / 16).toNat = m / 16 from by omega, show ((m : Int) % 16).toNat = m % 16 from by omega]
    refine S3.out.bind ?_
    rw [hq]
    exact Step.bind (by unfold contp; rw [if_pos (by decide)]; exact SM2.out) (S9.out.bind (Step.ret _))
  · rw [hq] at H4
    have lh := H4.out.cell 0 rfl
    go_wp2_with fail
    refine (any_any _ _ _).mono ?_
    rintro e w' ⟨rfl, rfl⟩
    rw [sw9_2]
    go_wp2_with fail
    refine (any_any _ _ _).mono ?_
    rintro e w' ⟨rfl, rfl⟩
    rw [sw9_8]
    clear lh
    go_wp2_with fail
    refine (report_at { sg0 with typ := t, org := v0, num := v1, head := hx.map Xr.ex } H4.out).mono ?_
    rintro e w5 ⟨rp', ck', up', lo', ad, cd, cl, s5, rfl, ha, hown, hcl, hg, hs⟩
    have H5 : Hid (At w5 b a len cap zs s5 (gl 9 t v0 v1 (.slice ah (m / 16) ch) (.slice none 0 0) 0 0 (.slice none 0 0) ck' rp' up' lo' (.slice ad cl.length cd) 0)) := ha
    have G5 : Hid (w.grownBy w5 (some b)) := grown_trans G4.out hg
    have GM : Hid ((w4.setCell ⟨b, 7, none⟩ (.slice ah (m / 16) ch)).grownBy w5 (some b)) := hg
    have HM : Hid (Mid w5 _ { { sg0 with typ := t, org := v0, num := v1, head := hx.map Xr.ex } with rep := rp', chk := ck', upp := up', low := lo', clm := cl } (.slice none 0 0) (.slice ad cl.length cd)) := ⟨World.ownsRow_nil _ _ _ _, (fun z hz => by cases hz), by simp [sg0], hown, hcl, .inl rfl⟩
    have SM2 : Hid (Step zs (reportp { sg0 with typ := t, org := v0, num := v1, head := hx.map Xr.ex }) s4 _ s5) := hs
    clear ha hg hs hown
    go_wp2_with fail
    rw [and15 m hm]
    refine (exts_at (m % 16) (by omega) H5.out).mono ?_
    rintro e w9 ⟨at', ct', tx, s9, rfl, hxl, hxo, ha, hg, hs⟩
    have c9 := ha.cell 5 rfl
    have z9 := ha.fz 8
    have H9 : Hid (At (w9.setCell ⟨b, 8, none⟩ (.slice at' (m % 16) ct')) b a len cap zs s9 (gl 9 t v0 v1 (.slice ah (m / 16) ch) ((.slice at' (m % 16) ct')) 0 0 (.slice none 0 0) ck' rp' up' lo' (.slice ad cl.length cd) 0)) := ha.put 5 _ 8 rfl
    have G9 : Hid (w.grownBy (w9.setCell ⟨b, 8, none⟩ (.slice at' (m % 16) ct')) (some b)) := grown_trans (grown_trans G5.out hg) (grown_set _ _ _ _)
    have hb2 : b < w5.heap.size := by have h1 := G5.out.size; have h2 := HW.out; omega
    have HSO : Hid (SOwn (w9.setCell ⟨b, 8, none⟩ (.slice at' (m % 16) ct')) w.heap.size { { { sg0 with typ := t, org := v0, num := v1, head := hx.map Xr.ex } with rep := rp', chk := ck', upp := up', low := lo', clm := cl } with tail := tx.map Xr.ex } (.slice ah (m / 16) ch) (.slice at' (m % 16) ct') (.slice none 0 0) (.slice ad cl.length cd) hx tx _ _) := sown_mk HW.out HXO.out G4.out.size rfl HXL.out GM.out HM.out (grown_trans hg (grown_set _ _ _ _)) (hxo.put hb2) (by omega)
    have S9 : Hid (Step zs (extsp (m % 16) []) _ (tx.map Xr.ex) s9) := hs
    clear ha hg hs hxo hxl
    go_wp2
    go_end0
    refine ⟨{ { { sg0 with typ := t, org := v0, num := v1, head := hx.map Xr.ex } with rep := rp', chk := ck', upp := up', low := lo', clm := cl } with tail := tx.map Xr.ex }, _, _, _, _, hx, tx, _, _, 9, s9, rfl, H9.out, HSO.out, G9.out, ?_⟩
    refine SK.out.bind (S0.out.bind (S1.out.bind (S2.out.bind ?_)))
    rw [show ((m : Int) / 16).toNat = m / 16 from by omega, show ((m : Int) % 16).toNat = m % 16 from by omega]
    refine S3.out.bind ?_
    rw [hq]
    exact Step.bind (by unfold contp; rw [if_neg (by decide), if_pos (by decide)]; exact SM2.out) (S9.out.bind (Step.ret _))
  · rw [hq] at H4
    have lh := H4.out.cell 0 rfl
    go_wp2_with fail
    refine (any_any _ _ _).mono ?_
    rintro e w' ⟨rfl, rfl⟩
    rw [sw17_2]
    go_wp2_with fail
    refine (any_any _ _ _).mono ?_
    rintro e w' ⟨rfl, rfl⟩
    rw [sw17_8]
    go_wp2_with fail
    refine (any_any _ _ _).mono ?_
    rintro e w' ⟨rfl, rfl⟩
    rw [sw17_16]
    have G4c : Hid (w.grownBy (w4.setCell ⟨b, 7, none⟩ (.slice ah (m / 16) ch)) (some b)) := G4.out
    have H4b := H4
    have l4_h := H4.out.cell 0 rfl
    go_wp2_with fail
    go_region_with (first
      | (go_at_call 60; refine (leastReport_any _ _).mono ?_; rintro e w' ⟨rfl, rfl⟩; rw [one17_24])
      | (go_at_call 72
         refine (number_at 1 4611686018427387903 (H4.out.drew)).mono ?_
         rintro e w5 ⟨v4, s5, rfl, ha, hg, hs, p4, q4, r4⟩
         have c4 := ha.cell 10 rfl
         have z4 := ha.fz 13
         have H5 : Hid (At (w5.setCell ⟨b, 13, none⟩ (.int .i64 v4)) b a len cap zs s5 (gl 17 t v0 v1 (.slice ah (m / 16) ch) (.slice none 0 0) 0 0 (.slice none 0 0) 0 v4 0 0 (.slice none 0 0) 0)) := ha.put 10 _ 13 rfl
         have G5 : Hid (w.grownBy (w5.setCell ⟨b, 13, none⟩ (.int .i64 v4)) (some b)) := grown_trans (grown_trans G4.out (grown_undrew hg)) (grown_set _ _ _ _)
         have GMx : (w4.setCell ⟨b, 7, none⟩ (.slice ah (m / 16) ch)).grownBy (w5.setCell ⟨b, 13, none⟩ (.int .i64 v4)) (some b) := grown_trans (grown_undrew hg) (grown_set _ _ _ _)
         have S4 : Hid (Step zs (numb 1 4611686018427387903) s4 v4 s5) := hs
         clear ha hg hs))
    clear H4 H4b l4_h lh
    have GM : Hid ((w4.setCell ⟨b, 7, none⟩ (.slice ah (m / 16) ch)).grownBy (w5.setCell ⟨b, 13, none⟩ (.int .i64 v4)) (some b)) := GMx
    clear GMx
    go_wp2_with fail
    rw [and15 m hm]
    refine (exts_at (m % 16) (by omega) H5.out).mono ?_
    rintro e w9 ⟨at', ct', tx, s9, rfl, hxl, hxo, ha, hg, hs⟩
    have c9 := ha.cell 5 rfl
    have z9 := ha.fz 8
    have H9 : Hid (At (w9.setCell ⟨b, 8, none⟩ (.slice at' (m % 16) ct')) b a len cap zs s9 (gl 17 t v0 v1 (.slice ah (m / 16) ch) ((.slice at' (m % 16) ct')) 0 0 (.slice none 0 0) 0 v4 0 0 (.slice none 0 0) 0)) := ha.put 5 _ 8 rfl
    have G9 : Hid (w.grownBy (w9.setCell ⟨b, 8, none⟩ (.slice at' (m % 16) ct')) (some b)) := grown_trans (grown_trans G5.out hg) (grown_set _ _ _ _)
    have hb2 : b < (w5.setCell ⟨b, 13, none⟩ (.int .i64 v4)).heap.size := by have h1 := G5.out.size; have h2 := HW.out; omega
    have HSO : Hid (SOwn (w9.setCell ⟨b, 8, none⟩ (.slice at' (m % 16) ct')) w.heap.size { { { sg0 with typ := t, org := v0, num := v1, head := hx.map Xr.ex } with rep := v4 } with tail := tx.map Xr.ex } (.slice ah (m / 16) ch) (.slice at' (m % 16) ct') (.slice none 0 0) (.slice none 0 0) hx tx _ _) := sown_mk HW.out HXO.out G4.out.size rfl HXL.out GM.out (mid_nil _ _ _ rfl rfl) (grown_trans hg (grown_set _ _ _ _)) (hxo.put hb2) (by omega)
    have S9 : Hid (Step zs (extsp (m % 16) []) _ (tx.map Xr.ex) s9) := hs
    clear ha hg hs hxo hxl
    go_wp2
    go_end0
    refine ⟨{ { { sg0 with typ := t, org := v0, num := v1, head := hx.map Xr.ex } with rep := v4 } with tail := tx.map Xr.ex }, _, _, _, _, hx, tx, _, _, 17, s9, rfl, H9.out, HSO.out, G9.out, ?_⟩
    refine SK.out.bind (S0.out.bind (S1.out.bind (S2.out.bind ?_)))
    rw [show ((m : Int) / 16).toNat = m / 16 from by omega, show ((m : Int) % 16).toNat = m % 16 from by omega]
    refine S3.out.bind ?_
    rw [hq]
    exact Step.bind (by unfold contp; rw [if_neg (by decide), if_neg (by decide), if_pos (by decide)]; exact S4.out.bind (Step.ret _)) (S9.out.bind (Step.ret _))
  · rw [hq] at H4
    have lh := H4.out.cell 0 rfl
    go_wp2_with fail
    refine (any_any _ _ _).mono ?_
    rintro e w' ⟨rfl, rfl⟩
    rw [sw33_2]
    go_wp2_with fail
    refine (any_any _ _ _).mono ?_
    rintro e w' ⟨rfl, rfl⟩
    rw [sw33_8]
    go_wp2_with fail
    refine (any_any _ _ _).mono ?_
    rintro e w' ⟨rfl, rfl⟩
    rw [sw33_16]
    go_wp2_with fail
    refine (any_any _ _ _).mono ?_
    rintro e w' ⟨rfl, rfl⟩
    rw [sw33_32]
    clear lh
    go_wp2_with fail
    refine (reason_at { sg0 with typ := t, org := v0, num := v1, head := hx.map Xr.ex } H4.out).mono ?_
    rintro e w5 ⟨r, s5, rfl, ha, hg, hs⟩
    have H5 : Hid (At w5 b a len cap zs s5 (gl 33 t v0 v1 (.slice ah (m / 16) ch) (.slice none 0 0) 0 0 (.slice none 0 0) 0 0 0 0 (.slice none 0 0) r)) := ha
    have G5 : Hid (w.grownBy w5 (some b)) := grown_trans G4.out hg
    have GM : Hid ((w4.setCell ⟨b, 7, none⟩ (.slice ah (m / 16) ch)).grownBy w5 (some b)) := hg
    have SM2 : Hid (Step zs (reasonp { sg0 with typ := t, org := v0, num := v1, head := hx.map Xr.ex }) s4 _ s5) := hs
    clear ha hg hs
    go_wp2_with fail
    rw [and15 m hm]
    refine (exts_at (m % 16) (by omega) H5.out).mono ?_
    rintro e w9 ⟨at', ct', tx, s9, rfl, hxl, hxo, ha, hg, hs⟩
    have c9 := ha.cell 5 rfl
    have z9 := ha.fz 8
    have H9 : Hid (At (w9.setCell ⟨b, 8, none⟩ (.slice at' (m % 16) ct')) b a len cap zs s9 (gl 33 t v0 v1 (.slice ah (m / 16) ch) ((.slice at' (m % 16) ct')) 0 0 (.slice none 0 0) 0 0 0 0 (.slice none 0 0) r)) := ha.put 5 _ 8 rfl
    have G9 : Hid (w.grownBy (w9.setCell ⟨b, 8, none⟩ (.slice at' (m % 16) ct')) (some b)) := grown_trans (grown_trans G5.out hg) (grown_set _ _ _ _)
    have hb2 : b < w5.heap.size := by have h1 := G5.out.size; have h2 := HW.out; omega
    have HSO : Hid (SOwn (w9.setCell ⟨b, 8, none⟩ (.slice at' (m % 16) ct')) w.heap.size { { { sg0 with typ := t, org := v0, num := v1, head := hx.map Xr.ex } with rsn := r } with tail := tx.map Xr.ex } (.slice ah (m / 16) ch) (.slice at' (m % 16) ct') (.slice none 0 0) (.slice none 0 0) hx tx _ _) := sown_mk HW.out HXO.out G4.out.size rfl HXL.out GM.out (mid_nil _ _ _ rfl rfl) (grown_trans hg (grown_set _ _ _ _)) (hxo.put hb2) (by omega)
    have S9 : Hid (Step zs (extsp (m % 16) []) _ (tx.map Xr.ex) s9) := hs
    clear ha hg hs hxo hxl
    go_wp2
    go_end0
    refine ⟨{ { { sg0 with typ := t, org := v0, num := v1, head := hx.map Xr.ex } with rsn := r } with tail := tx.map Xr.ex }, _, _, _, _, hx, tx, _, _, 33, s9, rfl, H9.out, HSO.out, G9.out, ?_⟩
    refine SK.out.bind (S0.out.bind (S1.out.bind (S2.out.bind ?_)))
    rw [show ((m : Int) / 16).toNat = m / 16 from by omega, show ((m : Int) % 16).toNat = m % 16 from by omega]
    refine S3.out.bind ?_
    rw [hq]
    exact Step.bind (by unfold contp; rw [if_neg (by decide), if_neg (by decide), if_neg (by decide), if_pos (by decide)]; exact SM2.out) (S9.out.bind (Step.ret _))

end Go.Proofs.YtkkmoplijicmpabDoor
