import Derived.Test.YtbehliigemoblaaAwake
import Derived.Test.YtbehliigemoblaaOwned
import Derived.Test.YtbehliigemoblaaColl
import Derived.Test.YtbehliigemoblaaOne
import Derived.Deep.QuietTactic
import Derived.BigQuiet
namespace Go.Proofs.Ytbehliigemoblaa
open Go.RowKit

theorem Try.size_u64 : (Try.prog.info? 27).map (·.size) = some 1 := by kernel_rfl

theorem made_eq64 (n : Nat) : (madeCells (Value.cells (.int .u64 0)) (n * 1)).toList = (List.replicate n (0 : Int)).map (Value.int .u64) := by
  simp [madeCells, Value.cells, Nat.mod_one, List.map_const']

theorem splice_two (ns : List Int) (len : Nat) (hl : ns.length = len) : splice ((List.replicate (len + 2) (0 : Int)).map (Value.int .u64)) 0 (ns.map (Value.int .u64)) = (ns ++ [0, 0]).map (Value.int .u64) := by
  subst hl
  simp [splice, show ns.length + 2 - ns.length = 2 from by omega]

theorem set_two (ns : List Int) (len : Nat) (hl : ns.length = len) : ((ns ++ [0, 0]).set len 71).set (len + 1) 72 = ns ++ [71, 72] := by
  subst hl
  rw [List.set_append_right _ _ (by omega), List.set_append_right _ _ (by omega)]
  simp

theorem lies_src {w : World} {a : Option Addr} {ns : List Int} (h : Lies .u64 w a ns) : 0 < (ns.map (Value.int .u64)).length → ∃ ad, a = some ad ∧ ∀ j v, (ns.map (Value.int .u64))[j]? = some v → w.cell? (ad.add j) = some v := by
  intro hp
  rcases h with rfl | ⟨b, off, rfl, h⟩
  · simp at hp
  · refine ⟨_, rfl, fun j v hj => ?_⟩
    have hjl : j < ns.length := by
      rcases Nat.lt_or_ge j ns.length with q | q
      · exact q
      · rw [List.getElem?_eq_none (by simpa using q)] at hj; cases hj
    rw [List.getElem?_map, List.getElem?_eq_getElem hjl] at hj
    simp only [Option.map_some, Option.some.injEq] at hj
    rw [show (⟨b, off, none⟩ : Addr).add j = ⟨b, off + j, none⟩ from by unfold Addr.add; split <;> simp_all, h j hjl, ← hj]
    simp [List.getD_eq_getElem?_getD, List.getElem?_eq_getElem hjl]

theorem take_left' (ns r : List Int) (len : Nat) (h : ns.length = len) : (ns ++ r).take len = ns := by
  subst h; simp

theorem sv_inj {r : Rw} {g n c : Nat} (h : sv r = .slice (some ⟨g, 0, none⟩) n c) : r = ⟨some g, n, c⟩ := by
  obtain ⟨blk, m, cap⟩ := r
  simp only [sv, adr, Value.slice.injEq] at h
  obtain ⟨h1, rfl, rfl⟩ := h
  cases blk with
  | none => cases h1
  | some b =>
    simp only [Option.map_some, Option.some.injEq, Addr.mk.injEq, and_true] at h1
    rw [h1]

theorem mark71 (ns : List Int) (len : Nat) (h : ns.length = len) : (ns ++ [71, 72]).getD len 0 = 71 := by
  subst h; simp [List.getD_eq_getElem?_getD]
theorem mark72 (ns : List Int) (len : Nat) (h : ns.length = len) : (ns ++ [71, 72]).getD (len + 1) 0 = 72 := by
  subst h; simp [List.getD_eq_getElem?_getD]

theorem grown_drewN {w w' : World} {row : Option Nat} (h : w.grownBy w' row) (n : Nat) : w.grownBy (w'.drewN n) row := ⟨h.os, h.tape, h.output, h.size, h.block⟩

theorem not_own {v : Value} {m lo hi : Nat} (h : ∀ g, v.ownBlock = some g → lo ≤ g ∧ g < hi) (hm : m < lo) : v.ownBlock = none ∨ v.ownBlock ≠ some m := by
  cases hv : v.ownBlock with
  | none => left; rfl
  | some g => right; intro e; simp only [Option.some.injEq] at e; have := h g hv; omega

theorem third_step {W : World} {g : Nat} {t : TypeId} {ns : List Int} {p : Nat} (h : Blk .u64 W g t (((ns ++ [71, 72]).take p).map (fun c => c / 3) ++ (ns ++ [71, 72]).drop p)) (hp : p < ns.length) :
    Blk .u64 (W.setCell ⟨g, p, none⟩ (.int .u64 (ns.getD p 0 / 3))) g t (((ns ++ [71, 72]).take (p + 1)).map (fun c => c / 3) ++ (ns ++ [71, 72]).drop (p + 1)) := by
  have e := halve_step (ns ++ [71, 72]) (fun c => c / 3) p (by simp; omega)
  simp only [getD_append_left' ns [71, 72] p hp] at e
  have := h.set p (ns.getD p 0 / 3)
  rw [e] at this
  exact this

theorem own_blk {r : Rw} {g : Nat} (h : r.blk = some g) : (sv r).ownBlock = some g := by
  simp [sv, adr, h, Value.ownBlock]

theorem two_rows (W : World) (t : TypeId) (x y : Value) : ∀ j u, [x, y][j]? = some u → (W.alloc (.cells #[x, y] t)).cell? ((⟨W.heap.size, 0, none⟩ : Addr).add j) = some u := by
  intro j u hj
  match j, hj with
  | 0, hj => simp at hj; subst hj; simp [Addr.add]
  | 1, hj => simp at hj; subst hj; simp [Addr.add]
  | j + 2, hj => simp at hj

set_option maxRecDepth 100000 in
set_option maxHeartbeats 4000000 in
theorem writes_law (a : Option Addr) (ns : List Int) (len cap : Nat) (w : World) (hn : Nums ns) (hl : ns.length = len) (hlc : len ≤ cap) (hm : cap ≤ 1048576) (hc : Lies .u64 w a ns) (_ : a = none → len = 0 ∧ cap = 0) :
    Calls Try.prog 5 #[.slice a len cap] w fun e w' => e = .returned (.bool true) ∧ Below w.heap.size w w' := by
  obtain ⟨i0, hi, hz0, hz1, hz2⟩ := info_parts Try.info_u64
  obtain ⟨i1, hi', hz0', hz1', hz2'⟩ := info_parts Try.info_bytes
  have HL : Hid (ns.length = len) := hl
  have HN : Hid (Nums ns) := hn
  have HC : Hid (Lies .u64 w a ns) := hc
  have hjl := jn_length ns hn
  rw [hl] at hjl
  clear hl hn hc
  go_enter Try.func5, Try.ntmps5
  go_wp2_with fail
  refine (awake_any _).mono ?_
  rintro e w1 ⟨rfl, hb1⟩
  have HC1 : Hid (∀ W : World, Below w1.heap.size w1 W → 0 < (ns.map (Value.int .u64)).length → ∃ ad, a = some ad ∧ ∀ j v, (ns.map (Value.int .u64))[j]? = some v → W.cell? (ad.add j) = some v) := fun W hW hp => lies_src ((HC.out.below hb1).below hW) hp
  go_wp2_with (first
    | (at_make; refine wpList_make_full _ rfl _ _ 31 rfl w1.heap.size 27 i0 (.int .u64 0) 1 Try.underlying31 hi hz0 hz1 .i64 .i64 _ _ (len + 2) rfl rfl (by omega) (by omega) (by rw [hz2]; omega) (by unfold maxLen; omega) (Nat.le_refl _) ?_; intro w2 hown2 hgrow2; have hb2 : Below w1.heap.size w1 w2 := (Below.refl _ _).grown hgrow2 (Nat.le_refl _) (by intro j hj; cases hj); have hg2 : Hid (w2.heap[w1.heap.size]? = some (.cells ((List.replicate (len + 2) (0 : Int)).map (Value.int .u64)).toArray 27 (0, 0))) := by { rw [made_eq64] at hown2; exact own_full hown2 }; clear hown2 hgrow2)
    | (refine wpList_copy_splice rfl (.tmp 25) (.tmp 26) 31 31 rfl 27 Try.underlying31 Try.size_u64 _ _ _ _ _ _ rfl rfl w1.heap.size 0 _ 27 hg2.out (ns.map (Value.int .u64)) (by have := HL.out; simp; omega) (fun hp => ⟨rfl, HC1.out w2 hb2 hp⟩) (by have := HL.out; simp; omega) (by intro v hv; simp at hv; obtain ⟨x, _, rfl⟩ := hv; rfl) w1.heap.size w1 hb2 (Nat.le_refl _) ?_; intro w3 hg3 hb3; clear hb2 hg2; have hB3 : Blk .u64 w3 w1.heap.size 27 (ns ++ [0, 0]) := (by have := hg3.out; rw [splice_two ns len HL.out] at this; exact this); have c1 := hB3.cell len (by have := HL.out; simp; omega); have c2 := hB3.cell (len + 1) (by have := HL.out; simp; omega); have f1 := hB3.frozen len; have f2 := hB3.frozen (len + 1); have hS := (hB3.set len 71).set (len + 1) 72; rw [set_two ns len HL.out] at hS; have HS : Hid (Blk .u64 ((w3.setCell ⟨w1.heap.size, len, none⟩ (.int .u64 71)).setCell ⟨w1.heap.size, len + 1, none⟩ (.int .u64 72)) w1.heap.size 27 (ns ++ [71, 72])) := hS; clear hS hg3; generalize (ns ++ [0, 0]).getD len 0 = y1 at c1; generalize (ns ++ [0, 0]).getD (len + 1) 0 = y2 at c2; clear hB3)
    | fail)
  have HB2 : Hid (Below w1.heap.size w1 ((w3.setCell ⟨w1.heap.size, len, none⟩ (.int .u64 71)).setCell ⟨w1.heap.size, len + 1, none⟩ (.int .u64 72))) := (hb3.setCell (p := ⟨w1.heap.size, len, none⟩) (Nat.le_refl _) _).setCell (p := ⟨w1.heap.size, len + 1, none⟩) (Nat.le_refl _) _
  generalize (w3.setCell ⟨w1.heap.size, len, none⟩ (.int .u64 71)).setCell ⟨w1.heap.size, len + 1, none⟩ (.int .u64 72) = w2 at HS HB2 ⊢
  have HW2 : Hid (Below w.heap.size w w2) := hb1.trans (HB2.out.mono hb1.size)
  have s1 := hb1.size
  have s2 : w1.heap.size < w2.heap.size := HS.out.lt
  clear c1 c2 f1 f2 hb3 hb1 HC1 HB2
  -- want
  refine (refjoin_any a ns len cap w2 HN.out HL.out (by omega) (HC.out.below HW2.out)).mono ?_
  rintro e w4 ⟨a4, c4, rfl, o4, hb4⟩
  have s4 := hb4.size
  have HW4 : Hid (Below w.heap.size w w4) := HW2.out.trans (hb4.mono (by omega))
  have O4 : Hid (w4.ownsRow w2.heap.size 5 1 (.slice a4 (jn ns).length c4) (jn ns).length ((jn ns).map (Value.int .u8))) := o4
  have HS4 : Hid (Blk .u64 w4 w1.heap.size 27 (ns ++ [71, 72])) := HS.out.below hb4 s2
  clear o4 hb4 HS
  -- a
  have HIn4 : Hid (Lies .u64 w4 (some ⟨w1.heap.size, 0, none⟩) ns) := by have := HS4.out.lies len; rw [take_left' ns [71, 72] len HL.out] at this; exact this
  go_wp2_with fail
  refine (join_any _ ns len (len + 2) w4 HN.out HL.out (by omega) HIn4.out).mono ?_
  rintro e w5 ⟨a5, c5, rfl, o5, hb5⟩
  have s5 := hb5.size
  have HW5 : Hid (Below w.heap.size w w5) := HW4.out.trans (hb5.mono (by omega))
  have O5 : Hid (w5.ownsRow w4.heap.size 5 1 (.slice a5 (jn ns).length c5) (jn ns).length ((jn ns).map (Value.int .u8))) := o5
  have O4_5 : Hid (w5.ownsRow w2.heap.size 5 1 (.slice a4 (jn ns).length c4) (jn ns).length ((jn ns).map (Value.int .u8))) := own_below' O4.out hb5
  have HS5 : Hid (Blk .u64 w5 w1.heap.size 27 (ns ++ [71, 72])) := HS4.out.below hb5 (by omega)
  clear o5 hb5 HS4 O4 HIn4
  go_wp2_with fail
  go_loopw [8, 9] (fun v i wr => ∃ (q : Nat) (rl : List Rw), q ≤ len ∧ q ≤ 100 ∧ i = .int .i64 q ∧ rl.length = 2 * q ∧ Coll 5 25 .u8 w5.heap.size w5.heap.size 10 wr v rl ∧ Below w5.heap.size w5 wr) (fun _ i _ => len - (intOf i).toNat)
  case atStart => exact ⟨0, [], Nat.zero_le _, Nat.zero_le _, rfl, rfl, ⟨List.Pairwise.nil, (fun _ h => by cases h), (fun _ h => by cases h), (fun _ h => by cases h), World.ownsRow_nil _ _ _ _⟩, Below.refl _ _⟩
  case round =>
    obtain ⟨q, rl, hq, hq1, rfl, hrl, hcoll, hbel⟩ := hrel
    have HCo : Hid (Coll 5 25 .u8 w5.heap.size w5.heap.size 10 wr u8 rl) := hcoll
    have HRl : Hid (rl.length = 2 * q) := hrl
    have HBel : Hid (Below w5.heap.size w5 wr) := hbel
    have HWr : Hid (Below w.heap.size w wr) := HW5.out.trans (hbel.mono (by omega))
    have sr := hbel.size
    clear hcoll hrl hbel
    by_cases hgo : q < len ∧ q < 100
    · obtain ⟨hg1, hg2⟩ := hgo
      have hqn : q < ns.length := by have := HL.out; omega
      have hx := nums_at HN.out q hqn
      obtain ⟨b, off, ha, hcb⟩ : ∃ b off, a = some ⟨b, off, none⟩ ∧ ∀ W : World, Below w.heap.size w W → W.cell? ⟨b, off + q, none⟩ = some (.int .u64 (ns.getD q 0)) := by
        rcases HC.out with h0 | ⟨b, off, ha, h⟩
        · rw [h0] at hqn; simp at hqn
        · exact ⟨b, off, ha, fun W hW => (hW.cell (p := ⟨b, off + q, none⟩) (World.block_lt_of_cell? w ⟨b, off + q, none⟩ (h q hqn))).trans (h q hqn)⟩
      subst ha
      have HX : Hid (∀ W : World, Below w.heap.size w W → W.cell? ⟨b, off + q, none⟩ = some (.int .u64 (ns.getD q 0))) := hcb
      clear hcb
      generalize ns.getD q 0 = n at hx HX
      obtain ⟨hx0, hx1⟩ := hx
      have HE : Hid ((enc n).length = sz n) := enc_length n hx0 hx1
      have hs1 := (sz_bounds n hx0 hx1).1
      have hs2 := (sz_bounds n hx0 hx1).2.1
      have hcell := HX.out wr HWr.out
      have hi1 : (q : Int) < (len : Int) := by omega
      have hi2 : (q : Int) < 100 := by omega
      go_wp2_with fail
      refine (size_any n _ hx0 hx1).mono ?_
      rintro e w' ⟨rfl, rfl⟩
      go_wp2_with fail
      refine (bytes_any n _ hx0 hx1).mono ?_
      rintro e wa ⟨gx, cx, rfl, ox, hba⟩
      have sa := hba.size
      have HWa : Hid (Below w.heap.size w wa) := HWr.out.trans (hba.mono (by omega))
      have hcella := HX.out wa HWa.out
      have OX : Hid (wa.ownsRow wr.heap.size 5 1 (.slice (some ⟨gx, 0, none⟩) (sz n) cx) (sz n) ((enc n).map (Value.int .u8))) := ox
      have HCa : Hid (Coll 5 25 .u8 w5.heap.size w5.heap.size 10 wa u8 rl) := HCo.out.below hba
      have HBa : Hid (Below w5.heap.size w5 wa) := HBel.out.trans (hba.mono sr)
      clear ox hba hcell
      go_wp2_with fail
      refine (bytes_any n _ hx0 hx1).mono ?_
      rintro e wb ⟨gy, cy, rfl, oy, hbb⟩
      have sb := hbb.size
      have HWb : Hid (Below w.heap.size w wb) := HWa.out.trans (hbb.mono (by omega))
      have hcellb := HX.out wb HWb.out
      have OY : Hid (wb.ownsRow wa.heap.size 5 1 (.slice (some ⟨gy, 0, none⟩) (sz n) cy) (sz n) ((enc n).map (Value.int .u8))) := oy
      have OXb : Hid (wb.ownsRow wr.heap.size 5 1 (.slice (some ⟨gx, 0, none⟩) (sz n) cx) (sz n) ((enc n).map (Value.int .u8))) := own_below' OX.out hbb
      have PX : Hid (gx < wa.heap.size) := (OX.out.lt gx rfl).2
      have HCb : Hid (Coll 5 25 .u8 w5.heap.size w5.heap.size 10 wb u8 rl) := HCa.out.below hbb
      have HBb : Hid (Below w5.heap.size w5 wb) := HBa.out.trans (hbb.mono (by omega))
      clear oy hbb hcella OX HCa HBa
      go_wp2_with fail
      refine (refbytes_any n _ hx0 hx1).mono ?_
      rintro e wc ⟨gz, cz, rfl, oz, hbc⟩
      have sc := hbc.size
      have PY : Hid (gy < wb.heap.size) := (OY.out.lt gy rfl).2
      have OYc : Hid (wc.ownsRow wa.heap.size 5 1 (.slice (some ⟨gy, 0, none⟩) (sz n) cy) (sz n) ((enc n).map (Value.int .u8))) := own_below' OY.out hbc
      have OXc : Hid (wc.ownsRow wr.heap.size 5 1 (.slice (some ⟨gx, 0, none⟩) (sz n) cx) (sz n) ((enc n).map (Value.int .u8))) := own_below' OXb.out hbc
      have HCc : Hid (Coll 5 25 .u8 w5.heap.size w5.heap.size 10 wc u8 rl) := HCb.out.below hbc
      have HBc : Hid (Below w5.heap.size w5 wc) := HBb.out.trans (hbc.mono (by omega))
      have k1 := conv_any wc _ _ cx _ HE.out (own_lies OXc.out).1
      have k2 := conv_any wc _ _ cy _ HE.out (own_lies OYc.out).1
      have k3 := conv_any wc _ _ cz _ HE.out (own_lies oz).1
      have hown := HCc.out.own
      rw [HRl.out] at hown
      clear oz hbc hcellb OY OXb HCb HBb
      go_wp2_with (at_builtin; refine wpList_append_own _ rfl (.tmp 93) (.tmp 96) 33 rfl w5.heap.size 25 i1 (.slice none 0 0) 1 24 Try.underlying33 hi' hz0' hz1' hz2' rfl (by decide) _ _ _ rfl (hown.alloc _) ⟨wc.heap.size, 0, none⟩ 2 2 [.slice (some ⟨gx, 0, none⟩) (sz n) cx, .slice (some ⟨gy, 0, none⟩) (sz n) cy] rfl rfl (two_rows _ _ _ _) (by intro u hu; simp at hu; rcases hu with rfl | rfl <;> rfl) (by unfold maxLen; omega) (by omega) (by simp; omega) ?_; intro v6 w6 hown6 hg6 _)
      have HS6 : Hid (Coll 5 25 .u8 w5.heap.size w5.heap.size 10 w6 v6 (rl ++ [⟨some gx, sz n, cx⟩, ⟨some gy, sz n, cy⟩])) := by
        obtain ⟨rx, e1, e2, e3, e4⟩ := row_of .u8 OXc.out
        obtain ⟨ry, f1, f2, f3, f4⟩ := row_of .u8 OYc.out
        have g1 : rx = ⟨some gx, sz n, cx⟩ := sv_inj e1
        have g2 : ry = ⟨some gy, sz n, cy⟩ := sv_inj f1
        subst g1; subst g2
        refine HCc.out.add (o := .cells #[.slice (some ⟨gx, 0, none⟩) (sz n) cx, .slice (some ⟨gy, 0, none⟩) (sz n) cy] 25) (by decide) ?_ ?_ ?_ ?_ ?_ hg6 (by rw [HRl.out]; exact hown6)
        · intro e he; simp at he; rcases he with rfl | rfl
          · exact e3
          · exact f3
        · intro e he g hg; simp at he; rcases he with rfl | rfl
          · have := e4 g hg; omega
          · have := f4 g hg; omega
        · intro e he; simp at he; rcases he with rfl | rfl <;> exact hs2
        · simp only [List.pairwise_cons, List.mem_singleton, forall_eq, List.not_mem_nil, false_implies, implies_true, List.Pairwise.nil, and_true]
          exact apt_of (m := wa.heap.size) (fun g hg => by simp only [Option.some.injEq] at hg; have := PX.out; omega) (fun g hg => (f4 g hg).1)
        · intro r hr e he
          have hro : ∀ g, r.blk = some g → g < wr.heap.size := fun g hg => (HCo.out.has r hr).lt hg
          simp at he; rcases he with rfl | rfl
          · exact apt_of hro (fun g hg => (e4 g hg).1)
          · exact apt_of hro (fun g hg => by have := (f4 g hg).1; omega)
      have HB6 : Hid (Below w5.heap.size w5 w6) := (HBc.out.alloc HBc.out.size _).grown hg6 (by have := HBc.out.size; simp; omega) (fun j hj => (hown.lt j hj).1)
      clear hown6 hg6 hown k1 k2 k3 OXc OYc HCc HBc HCo
      go_wp2
      go_roundw
      case rel => exact ⟨q + 1, _, by omega, by omega, by go_num, by have := HRl.out; simp; omega, HS6.out, HB6.out⟩
      case measure => simp [intOf]; omega
    · have hcase : (len : Int) ≤ (q : Int) ∨ ((q : Int) < (len : Int) ∧ (100 : Int) ≤ (q : Int)) := by omega
      have HSr : Hid (Blk .u64 wr w1.heap.size 27 (ns ++ [71, 72])) := HS5.out.below HBel.out (by omega)
      have OAr : Hid (wr.ownsRow w4.heap.size 5 1 (.slice a5 (jn ns).length c5) (jn ns).length ((jn ns).map (Value.int .u8))) := own_below' O5.out HBel.out
      have OWr : Hid (wr.ownsRow w2.heap.size 5 1 (.slice a4 (jn ns).length c4) (jn ns).length ((jn ns).map (Value.int .u8))) := own_below' O4_5.out HBel.out
      have HInr : Hid (Lies .u64 wr (some ⟨w1.heap.size, 0, none⟩) ns) := by have := HSr.out.lies len; rw [take_left' ns [71, 72] len HL.out] at this; exact this
      have PA : Hid (∀ g, (Value.slice a5 (jn ns).length c5).ownBlock = some g → w4.heap.size ≤ g ∧ g < w5.heap.size) := fun g hg => O5.out.lt g hg
      clear HS5 O5 O4_5 hgo
      rcases hcase with hi1 | ⟨hi1, hi2⟩
      all_goals
        go_wp2_with fail
        refine (join_any _ ns len (len + 2) wr HN.out HL.out (by omega) HInr.out).mono ?_
        rintro e w7 ⟨a7, c7, rfl, o7, hb7⟩
        have s7 := hb7.size
        have HW7 : Hid (Below w.heap.size w w7) := HWr.out.trans (hb7.mono (by omega))
        have PB : Hid (∀ g, (Value.slice a7 (jn ns).length c7).ownBlock = some g → wr.heap.size ≤ g ∧ g < w7.heap.size) := fun g hg => o7.lt g hg
        have OB : Hid (w7.ownsRow wr.heap.size 5 1 (.slice a7 (jn ns).length c7) (jn ns).length ((jn ns).map (Value.int .u8))) := o7
        have OA : Hid (w7.ownsRow w4.heap.size 5 1 (.slice a5 (jn ns).length c5) (jn ns).length ((jn ns).map (Value.int .u8))) := own_below' OAr.out hb7
        have OW := own_below' OWr.out hb7
        have HSb : Hid (Blk .u64 w7 w1.heap.size 27 (ns ++ [71, 72])) := HSr.out.below hb7 (by omega)
        have HCo7 : Hid (Coll 5 25 .u8 w5.heap.size w5.heap.size 10 w7 u8 rl) := HCo.out.below hb7
        have HRo : Hid (∀ r ∈ rl, ∀ g, r.blk = some g → g < wr.heap.size) := fun r hr g hg => (HCo.out.has r hr).lt hg
        have k1 := conv_any w7 _ _ c5 _ rfl (own_lies OA.out).1
        have k2 := conv_any w7 _ _ c4 _ rfl (own_lies OW).1
        have k3 := conv_any w7 _ _ c7 _ rfl (own_lies OB.out).1
        have m1 := HSb.out.cell len (by have := HL.out; simp; omega)
        have m2 := HSb.out.cell (len + 1) (by have := HL.out; simp; omega)
        rw [mark71 ns len HL.out] at m1
        rw [mark72 ns len HL.out] at m2
        have j1 : (len : Int) < ((len + 2 : Nat) : Int) := by omega
        have j2 : ((len + 1 : Nat) : Int) < ((len + 2 : Nat) : Int) := by omega
        clear o7 hb7 OW OWr OAr HSr HInr HCo
        go_wp2_with fail
        clear k1 k2 k3 m1 m2 j1 j2
        go_loopw [15] (fun i wr' => ∃ p : Nat, p ≤ len ∧ i = .int .i64 p ∧ Blk .u64 wr' w1.heap.size 27 (((ns ++ [71, 72]).take p).map (fun c => c / 3) ++ (ns ++ [71, 72]).drop p) ∧ w7.grownBy wr' (some w1.heap.size)) (fun i _ => len - (intOf i).toNat)
        case atStart => exact ⟨0, Nat.zero_le _, rfl, by simpa using HSb.out, World.grownBy.refl _ _⟩
        case round =>
          obtain ⟨p, hp, rfl, hbk, hgr⟩ := hrel
          have HGr : Hid (w7.grownBy wr (some w1.heap.size)) := hgr
          have HW8 : Hid (Below w.heap.size w wr) := HW7.out.grown hgr (by omega) (by intro j hj; simp at hj; omega)
          have HBk : Hid (Blk .u64 wr w1.heap.size 27 (((ns ++ [71, 72]).take p).map (fun c => c / 3) ++ (ns ++ [71, 72]).drop p)) := hbk
          clear hgr HSb
          by_cases hpl : p < len
          · have hpn : p < ns.length := by have := HL.out; omega
            have hpc : p < (ns ++ [71, 72]).length := by simp; omega
            obtain ⟨b, off, ha, hcb⟩ : ∃ b off, a = some ⟨b, off, none⟩ ∧ wr.cell? ⟨b, off + p, none⟩ = some (.int .u64 (ns.getD p 0)) := by
              rcases HC.out with h0 | ⟨b, off, ha, h⟩
              · rw [h0] at hpn; simp at hpn
              · exact ⟨b, off, ha, (HW8.out.cell (p := ⟨b, off + p, none⟩) (World.block_lt_of_cell? w ⟨b, off + p, none⟩ (h p hpn))).trans (h p hpn)⟩
            subst ha
            have hce := hbk.cell p (by have := HL.out; simp; omega)
            have hfr := hbk.frozen p
            rw [halve_at _ _ p hpc, getD_append_left' ns [71, 72] p hpn] at hce
            have hxb := nums_at HN.out p hpn
            have HSt : Hid (Blk .u64 (wr.setCell ⟨w1.heap.size, p, none⟩ (.int .u64 (ns.getD p 0 / 3))) w1.heap.size 27 (((ns ++ [71, 72]).take (p + 1)).map (fun c => c / 3) ++ (ns ++ [71, 72]).drop (p + 1))) := third_step hbk hpn
            clear hbk
            generalize ns.getD p 0 = x at hcb hce hxb HSt
            obtain ⟨hx0, hx1⟩ := hxb
            have HGs : Hid (w7.grownBy (wr.setCell ⟨w1.heap.size, p, none⟩ (.int .u64 (x / 3))) (some w1.heap.size)) := grown_trans HGr.out (grown_set _ _ _ _)
            have ip1 : (p : Int) < (len : Int) := by omega
            have ip2 : (p : Int) < ((len + 2 : Nat) : Int) := by omega
            go_wp2_with fail
            go_quiet (fail)
            go_wp2
            go_roundw
            case rel => exact ⟨p + 1, by omega, by go_num, HSt.out, grown_drewN HGs.out _⟩
            case measure => simp [intOf]; omega
          · have hpe : p = len := by omega
            have HIn : Hid (Lies .u64 wr (some ⟨w1.heap.size, 0, none⟩) (ns.map fun c => c / 3)) := by
              have h := hbk.lies len
              rw [hpe, take_left' ns [71, 72] len HL.out, take_left' (ns.map fun c => c / 3) _ len (by simpa using HL.out)] at h
              exact h
            have HNm : Hid (Nums (ns.map fun c => c / 3)) := by
              intro z hz
              obtain ⟨y, hy, rfl⟩ := List.mem_map.1 hz
              have := HN.out y hy
              omega
            have HLm : Hid ((ns.map fun c => c / 3).length = len) := by unfold Hid; rw [List.length_map]; exact HL.out
            have OAs : Hid (wr.ownsRow w4.heap.size 5 1 (.slice a5 (jn ns).length c5) (jn ns).length ((jn ns).map (Value.int .u8))) := OA.out.kept HGr.out (not_own PA.out (by omega))
            have OBs : Hid (wr.ownsRow _ 5 1 (.slice a7 (jn ns).length c7) (jn ns).length ((jn ns).map (Value.int .u8))) := OB.out.kept HGr.out (not_own PB.out (by omega))
            have HCos : Hid (Coll 5 25 .u8 w5.heap.size w5.heap.size 10 wr u8 rl) := HCo7.out.kept HGr.out (by omega) (by omega)
            have s8 := HGr.out.size
            clear hbk HBk HGr OA OB HCo7
            generalize (ns.map fun c => c / 3) = ms at HIn HNm HLm
            have hjm := jn_length ms HNm.out
            rw [HLm.out] at hjm
            have ip1 : (len : Int) ≤ (p : Int) := by omega
            go_wp2_with fail
            refine (join_any _ ms len (len + 2) wr HNm.out HLm.out (by omega) HIn.out).mono ?_
            rintro e w9 ⟨a9, c9, rfl, o9, hb9⟩
            have s9 := hb9.size
            have HW9 : Hid (Below w.heap.size w w9) := HW8.out.trans (hb9.mono (by omega))
            have HIn9 : Hid (Lies .u64 w9 (some ⟨w1.heap.size, 0, none⟩) ms) := HIn.out.below hb9
            have OC : Hid (w9.ownsRow wr.heap.size 5 1 (.slice a9 (jn ms).length c9) (jn ms).length ((jn ms).map (Value.int .u8))) := o9
            have OA9 : Hid (w9.ownsRow w4.heap.size 5 1 (.slice a5 (jn ns).length c5) (jn ns).length ((jn ns).map (Value.int .u8))) := own_below' OAs.out hb9
            have OB9 : Hid (w9.ownsRow _ 5 1 (.slice a7 (jn ns).length c7) (jn ns).length ((jn ns).map (Value.int .u8))) := own_below' OBs.out hb9
            have HCo9 : Hid (Coll 5 25 .u8 w5.heap.size w5.heap.size 10 w9 u8 rl) := HCos.out.below hb9
            clear o9 hb9 OAs OBs HCos HIn
            go_wp2_with fail
            refine (refjoin_any _ ms len (len + 2) w9 HNm.out HLm.out (by omega) HIn9.out).mono ?_
            rintro e w10 ⟨a10, c10, rfl, o10, hb10⟩
            have s10 := hb10.size
            have HW10 : Hid (Below w.heap.size w w10) := HW9.out.trans (hb10.mono (by omega))
            have OC10 : Hid (w10.ownsRow wr.heap.size 5 1 (.slice a9 (jn ms).length c9) (jn ms).length ((jn ms).map (Value.int .u8))) := own_below' OC.out hb10
            have OA10 : Hid (w10.ownsRow w4.heap.size 5 1 (.slice a5 (jn ns).length c5) (jn ns).length ((jn ns).map (Value.int .u8))) := own_below' OA9.out hb10
            have OB10 : Hid (w10.ownsRow _ 5 1 (.slice a7 (jn ns).length c7) (jn ns).length ((jn ns).map (Value.int .u8))) := own_below' OB9.out hb10
            have HCo10 : Hid (Coll 5 25 .u8 w4.heap.size w5.heap.size 10485760 w10 u8 rl) := (HCo9.out.below hb10).mono (by omega) (by omega)
            have HLw : Hid (∀ r ∈ rl, ∀ g, r.blk = some g → w5.heap.size ≤ g) := HCo9.out.low
            have k1 := conv_any w10 _ _ c9 _ rfl (own_lies OC10.out).1
            have k2 := conv_any w10 _ _ c10 _ rfl (own_lies o10).1
            have hown := HCo10.out.own
            rw [HRl.out] at hown
            clear o10 hb10 OC OA9 OB9 HCo9
            go_wp2_with (at_builtin; refine wpList_append_own _ rfl (.tmp 165) (.tmp 169) 33 rfl w5.heap.size 25 i1 (.slice none 0 0) 1 24 Try.underlying33 hi' hz0' hz1' hz2' rfl (by decide) _ _ _ rfl (hown.alloc _) ⟨w10.heap.size, 0, none⟩ 3 3 [.slice a5 (jn ns).length c5, .slice a7 (jn ns).length c7, .slice a9 (jn ms).length c9] rfl rfl (three_cells _ _ _ _ _) (by intro u hu; simp at hu; rcases hu with rfl | rfl | rfl <;> rfl) (by unfold maxLen; omega) (by omega) (by simp; omega) ?_; intro v11 w11 hown11 hg11 _)
            have HCf : Hid (∃ rl' : List Rw, rl'.length = 2 * q + 3 ∧ Coll 5 25 .u8 w4.heap.size w5.heap.size 10485760 w11 v11 rl') := by
              obtain ⟨ra, e1, e2, e3, e4⟩ := row_of .u8 OA10.out
              obtain ⟨rb, f1, f2, f3, f4⟩ := row_of .u8 OB10.out
              obtain ⟨rc, g1, g2, g3, g4⟩ := row_of .u8 OC10.out
              have pa : ∀ g, ra.blk = some g → w4.heap.size ≤ g ∧ g < w5.heap.size := fun g hg => PA.out g (by rw [← e1]; exact own_blk hg)
              have pb : ∀ g, rb.blk = some g → _ ≤ g ∧ g < w7.heap.size := fun g hg => PB.out g (by rw [← f1]; exact own_blk hg)
              refine ⟨rl ++ [ra, rb, rc], by have := HRl.out; simp; omega, ?_⟩
              refine HCo10.out.add (o := .cells #[.slice a5 (jn ns).length c5, .slice a7 (jn ns).length c7, .slice a9 (jn ms).length c9] 25) (by decide) ?_ ?_ ?_ ?_ ?_ hg11 (by rw [HRl.out]; simpa [e1, f1, g1] using hown11)
              · intro e he; simp at he; rcases he with rfl | rfl | rfl
                · exact e3
                · exact f3
                · exact g3
              · intro e he g hg; simp at he; rcases he with rfl | rfl | rfl
                · exact (pa g hg).1
                · have := (pb g hg).1; omega
                · have := (g4 g hg).1; omega
              · intro e he; simp at he; rcases he with rfl | rfl | rfl <;> omega
              · simp only [List.pairwise_cons, List.mem_cons, List.not_mem_nil, or_false, false_implies, implies_true, List.Pairwise.nil, and_true, forall_eq_or_imp, forall_eq]
                exact ⟨⟨apt_of (fun g hg => (pa g hg).2) (fun g hg => by have := (pb g hg).1; omega), apt_of (fun g hg => (pa g hg).2) (fun g hg => by have := (g4 g hg).1; omega)⟩, apt_of (fun g hg => (pb g hg).2) (fun g hg => by have := (g4 g hg).1; omega)⟩
              · intro r hr e he
                have r1 := HRo.out r hr
                have r2 := HLw.out r hr
                simp at he; rcases he with rfl | rfl | rfl
                · exact (apt_of (fun g hg => (pa g hg).2) r2).symm
                · exact apt_of r1 (fun g hg => (pb g hg).1)
                · exact apt_of r1 (fun g hg => by have := (g4 g hg).1; omega)
            have HB11 : Hid (Below w.heap.size w w11) := ((HW10.out.alloc HW10.out.size _).grown hg11 (by have := HW10.out.size; simp; omega) (fun j hj => by have := (hown.lt j hj).1; omega))
            obtain ⟨rl', hrl', hco⟩ := HCf.out
            obtain ⟨L, cl, hv11⟩ : ∃ L cl, v11 = .slice (some ⟨L, 0, none⟩) rl'.length cl := by
              obtain ⟨_, ⟨_, h0⟩ | ⟨g, cc, _, hv, _⟩⟩ := hco.own
              · omega
              · exact ⟨g, cc, hv⟩
            subst hv11
            have HGi := hco.given (B := w.heap.size) (by decide) (by omega) HB11.out.size
            have HGs := hco.getD_small
            clear hown11 hg11 hown HCf HCo10 k1 k2 OA10 OB10 OC10 hco
            refine (owned_any w11 rl'.length L cl w.heap.size _ HGi (by omega) (by omega) (fun i hi => Nat.le_trans (HGs i hi) (by omega))).mono ?_
            rintro e w12 ⟨rfl, hb12⟩
            have HB12 : Hid (Below w.heap.size w w12) := HB11.out.trans hb12
            clear HGi HGs hb12
            go_wp2
            go_ret
            exact ⟨by simp, HB12.out⟩

end Go.Proofs.Ytbehliigemoblaa
