import Derived.Test.YthkphihgdklbbaaDoorNums
import Derived.Test.YthkphihgdklbbaaDoorCur
import Derived.Test.YthkphihgdklbbaaDoorRead
import Derived.Test.YthkphihgdklbbaaDoorBrSt1
namespace Go.Proofs.YthkphihgdklbbaaDoor
open Go.RowKit

theorem Tryd.size_u8 : (Tryd.prog.info? 5).map (·.size) = some 1 := by kernel_rfl

/-- Bytes in a list of their own, nine marks behind them. -/
def marked (zs : List Int) : List Int := zs ++ List.replicate 9 201
theorem marked_length (zs : List Int) : (marked zs).length = zs.length + 9 := by simp [marked]

theorem made_eq (n : Nat) : (madeCells (Value.cells (.int .u8 0)) (n * 1)).toList = (List.replicate n (0 : Int)).map (Value.int .u8) := by
  simp [madeCells, Value.cells, Nat.mod_one, List.map_const']

theorem own_full {w : World} {base n g : Nat} {e : TypeId} {xs : List Value} (h : w.ownsRow base e 1 (.slice (some ⟨g, 0, none⟩) n n) n xs) : w.heap[g]? = some (.cells xs.toArray e (0, 0)) := by
  obtain ⟨_, ⟨hv, _⟩ | ⟨g', cap, cur, hv, _, hg, _, _, hs, ht⟩⟩ := h
  · cases hv
  · simp only [Value.slice.injEq, Option.some.injEq, Addr.mk.injEq, and_true, true_and] at hv
    obtain ⟨rfl, rfl⟩ := hv
    rw [List.take_of_length_le (by simp; omega)] at ht
    rw [hg, ← ht]

theorem mark_step (zs : List Int) (j : Nat) (h : j < 9) : (zs ++ (List.replicate j 201 ++ List.replicate (9 - j) 0)).set (zs.length + j) 201 = zs ++ (List.replicate (j + 1) 201 ++ List.replicate (9 - (j + 1)) 0) := by
  rw [List.set_append_right _ _ (by omega), show zs.length + j - zs.length = j from by omega, List.set_append_right _ _ (by simp)]
  obtain ⟨m, hm⟩ : ∃ m, 9 - j = m + 1 := ⟨8 - j, by omega⟩
  rw [hm, show 9 - (j + 1) = m from by omega, List.length_replicate, Nat.sub_self, List.replicate_succ, List.set_cons_zero, List.replicate_succ' (n := j)]
  simp

theorem splice_zero (zs : List Int) (len : Nat) (hl : zs.length = len) : splice ((List.replicate (len + 9) (0 : Int)).map (Value.int .u8)) 0 (zs.map (Value.int .u8)) = (zs ++ (List.replicate 0 201 ++ List.replicate (9 - 0) 0)).map (Value.int .u8) := by
  subst hl
  simp [splice, show zs.length + 9 - zs.length = 9 from by omega]

set_option maxRecDepth 100000 in
set_option maxHeartbeats 1000000 in
theorem lent_any (a : Option Addr) (zs : List Int) (len cap : Nat) (w : World) (hl : zs.length = len) (hm : len ≤ 140737488355328) (hc : Lies .u8 w a zs) :
    Calls Tryd.prog 21 #[.slice a len cap] w fun e w' => e = .returned (.slice (some ⟨w.heap.size, 0, none⟩) (len + 9) (len + 9)) ∧
      Blk .u8 w' w.heap.size 5 (marked zs) ∧ Below w.heap.size w w' := by
  obtain ⟨i0, hi, hz0, hz1, hz2⟩ := info_parts Tryd.info_u8
  go_enter Tryd.func21, Tryd.ntmps21
  have hcs : Hid (∀ W : World, Below w.heap.size w W → 0 < (zs.map (Value.int .u8)).length → (some ⟨w.heap.size, 0, none⟩ : Option Addr) = some ⟨w.heap.size, 0, none⟩ ∧ ∃ ad, a = some ad ∧ ∀ j v, (zs.map (Value.int .u8))[j]? = some v → W.cell? (ad.add j) = some v) := by
    intro W hW hp
    refine ⟨rfl, ?_⟩
    rcases hc.below hW with rfl | ⟨b, off, rfl, h⟩
    · simp at hp
    · refine ⟨_, rfl, fun j v hj => ?_⟩
      have hjl : j < zs.length := by
        rcases Nat.lt_or_ge j zs.length with q | q
        · exact q
        · rw [List.getElem?_eq_none (by simpa using q)] at hj; cases hj
      rw [List.getElem?_map, List.getElem?_eq_getElem hjl] at hj
      simp only [Option.map_some, Option.some.injEq] at hj
      rw [show (⟨b, off, none⟩ : Addr).add j = ⟨b, off + j, none⟩ from by unfold Addr.add; split <;> simp_all, h j hjl, ← hj]
      simp [List.getD_eq_getElem?_getD, List.getElem?_eq_getElem hjl]
  go_wp2_with (first
    | (at_make; refine wpList_make_full _ rfl _ _ 36 rfl w.heap.size 5 i0 (.int .u8 0) 1 Tryd.underlying36 hi hz0 hz1 .i64 .i64 _ _ (len + 9) rfl rfl (by omega) (by omega) (by rw [hz2]; omega) (by unfold maxLen; omega) (Nat.le_refl _) ?_; intro w1 hown hgrow; have hb1 : Below w.heap.size w w1 := (Below.refl _ _).grown hgrow (Nat.le_refl _) (by intro j hj; cases hj); have hg1 : Hid (w1.heap[w.heap.size]? = some (.cells ((List.replicate (len + 9) (0 : Int)).map (Value.int .u8)).toArray 5 (0, 0))) := by { rw [made_eq] at hown; exact own_full hown }; clear hown hgrow)
    | (refine wpList_copy_splice rfl (.tmp 9) (.tmp 10) 36 36 rfl 5 Tryd.underlying36 Tryd.size_u8 _ _ _ _ _ _ rfl rfl w.heap.size 0 _ 5 hg1.out (zs.map (Value.int .u8)) (by simp; omega) (hcs.out w1 hb1) (by simp; omega) (by intro v hv; simp at hv; obtain ⟨x, _, rfl⟩ := hv; rfl) w.heap.size w hb1 (Nat.le_refl _) ?_; intro w2 hg2 hb2; clear hb1 hg1))
  have hblk : Blk .u8 w2 w.heap.size 5 (zs ++ (List.replicate 0 201 ++ List.replicate (9 - 0) 0)) := by
    have := hg2.out; rw [splice_zero zs len hl] at this; exact this
  clear hg2 hcs
  have hlz : Hid (zs.length = len) := hl
  clear hl hc
  go_loopw [4] (fun i wr => ∃ j : Nat, i = .int .i64 ((len + j : Nat) : Int) ∧ j ≤ 9 ∧ Blk .u8 wr w.heap.size 5 (zs ++ (List.replicate j 201 ++ List.replicate (9 - j) 0)) ∧ Below w.heap.size w wr) (fun i _ => len + 9 - (intOf i).toNat)
  case atStart => exact ⟨0, rfl, by omega, hblk, hb2⟩
  case round =>
    obtain ⟨j, rfl, hj, hbk, hbel⟩ := hrel
    clear hblk hb2
    have hfr := hbk.frozen (len + j)
    by_cases hlt : j < 9
    · have hce := hbk.cell (len + j) (by have := hlz.out; simp; omega)
      have hst := hbk.set (len + j) 201
      rw [← hlz.out, mark_step zs j hlt, hlz.out] at hst
      have hb3 := hbel.setCell (p := ⟨w.heap.size, len + j, none⟩) (Nat.le_refl _) (.int .u8 201)
      have HS : Hid (Blk .u8 (wr.setCell ⟨w.heap.size, len + j, none⟩ (.int .u8 201)) w.heap.size 5 (zs ++ (List.replicate (j + 1) 201 ++ List.replicate (9 - (j + 1)) 0))) := hst
      have HB : Hid (Below w.heap.size w (wr.setCell ⟨w.heap.size, len + j, none⟩ (.int .u8 201))) := hb3
      clear hst hb3 hbk hbel
      generalize (zs ++ (List.replicate j 201 ++ List.replicate (9 - j) 0)).getD (len + j) 0 = x at hce
      have hi1 : ((len + j : Nat) : Int) < ((len + 9 : Nat) : Int) := by omega
      go_wp2
      go_roundw
      case rel => exact ⟨j + 1, by go_num, by omega, HS.out, HB.out⟩
      case measure => simp [intOf]; omega
    · have hj9 : j = 9 := by omega
      subst hj9
      have HS : Hid (Blk .u8 wr w.heap.size 5 (marked zs)) := by unfold Hid; simpa [marked] using hbk
      have HB : Hid (Below w.heap.size w wr) := hbel
      clear hbk hbel
      go_wp2
      go_ret
      exact ⟨rfl, HS.out, HB.out⟩

def xr (c : Int) : Int := bits .xor .u8 c 33
theorem xr_all : ∀ n : Fin 256, 0 ≤ xr (n.val : Int) ∧ xr (n.val : Int) ≤ 255 := by decide +kernel
theorem xr_byte {c : Int} (h : 0 ≤ c ∧ c ≤ 255) : 0 ≤ xr c ∧ xr c ≤ 255 := by
  have := xr_all ⟨c.toNat, by omega⟩
  simp only at this
  rw [show ((c.toNat : Nat) : Int) = c by omega] at this
  exact this
/-- What 'back' leaves in the list. -/
def halved (cs : List Int) : List Int := cs.map xr
theorem halved_length (cs : List Int) : (halved cs).length = cs.length := by simp [halved]

theorem marked_bytes {zs : List Int} (h : Bytey zs) : Bytey (marked zs) := by
  intro z hz
  rw [marked, List.mem_append, List.mem_replicate] at hz
  rcases hz with hz | ⟨_, rfl⟩
  · exact h z hz
  · omega

theorem getD_bytes {cs : List Int} (h : Bytey cs) (k : Nat) (hk : k < cs.length) : 0 ≤ cs.getD k 0 ∧ cs.getD k 0 ≤ 255 := by
  rw [List.getD_eq_getElem?_getD, List.getElem?_eq_getElem hk]; exact h _ (List.getElem_mem hk)

theorem halved_bytes {cs : List Int} (h : Bytey cs) : Bytey (halved cs) := by
  intro z hz
  rw [halved, List.mem_map] at hz
  obtain ⟨x, hx, rfl⟩ := hz
  exact xr_byte (h x hx)

set_option maxRecDepth 100000 in
set_option maxHeartbeats 1000000 in
theorem back_any (g : Nat) (a : Option Addr) (zs : List Int) (len n cap : Nat) (w : World) (hb : Bytey zs) (hl : zs.length = len) (hn : n = len + 9) (hm : len ≤ 140737488355328) (hc : Lies .u8 w a zs) (hsep : zs ≠ [] → ∀ b off, a = some ⟨b, off, none⟩ → b ≠ g)
    (hg : Blk .u8 w g 5 (marked zs)) :
    Calls Tryd.prog 25 #[.slice (some ⟨g, 0, none⟩) n n, .slice a len cap] w fun e w' => e = .returned (.bool true) ∧
      Blk .u8 w' g 5 (halved (marked zs)) ∧ w.grownBy w' (some g) := by
  have hlen := marked_length zs
  have HM : Hid ((marked zs).length = n) := by unfold Hid; omega
  have HL : Hid (zs.length = len) := hl
  have HB : Hid (Bytey (marked zs)) := marked_bytes hb
  have HC : Hid (Lies .u8 w a zs) := hc
  have HP : Hid (zs ≠ [] → ∀ b off, a = some ⟨b, off, none⟩ → b ≠ g) := hsep
  have HN : Hid (n = len + 9) := hn
  have HG : Hid (Blk .u8 w g 5 (marked zs)) := hg
  have hn2 : n ≤ 140737488355337 := by omega
  clear hlen hl hb hc hsep hn hg
  go_enter Tryd.func25, Tryd.ntmps25
  go_wp2
  go_loopw [5, 6] (fun ok i wr => ∃ k : Nat, k ≤ n ∧ i = .int .i64 k ∧ ok = .bool true ∧ Blk .u8 wr g 5 (((marked zs).take k).map xr ++ (marked zs).drop k) ∧ w.grownBy wr (some g)) (fun _ i _ => n - (intOf i).toNat)
  case atStart => exact ⟨0, Nat.zero_le _, rfl, rfl, by simpa using HG.out, World.grownBy.refl _ _⟩
  case round =>
    obtain ⟨k, hk, rfl, rfl, hbk, hgr⟩ := hrel
    clear HG
    have HW : Hid (w.grownBy wr (some g)) := hgr
    clear hgr
    have hfr := hbk.frozen k
    by_cases hlt : k < n
    · have hk1 : k < (marked zs).length := by have := HM.out; omega
      have hce := hbk.cell k (by have := HM.out; simp; omega)
      rw [halve_at _ _ k hk1] at hce
      have hst := hbk.set k (xr ((marked zs).getD k 0))
      rw [halve_step (marked zs) xr k hk1] at hst
      have HS : Hid (Blk .u8 (wr.setCell ⟨g, k, none⟩ (.int .u8 (xr ((marked zs).getD k 0)))) g 5 (((marked zs).take (k + 1)).map xr ++ (marked zs).drop (k + 1))) := hst
      have hxb := getD_bytes HB.out k hk1
      clear hst hbk
      obtain ⟨hx0, hx1⟩ := hxb
      have hi1 : (k : Int) < (n : Int) := by omega
      by_cases hz : k < len
      · have hkz : k < zs.length := by have := HL.out; omega
        have HE : Hid (zs.getD k 0 = (marked zs).getD k 0) := by unfold Hid marked; rw [getD_append_left' _ _ _ hkz]
        obtain ⟨b, off, ha, hcz⟩ : ∃ b off, a = some ⟨b, off, none⟩ ∧ wr.cell? ⟨b, off + k, none⟩ = some (.int .u8 ((marked zs).getD k 0)) := by
          rcases HC.out with h0 | ⟨b, off, ha, h⟩
          · rw [h0] at hkz; simp at hkz
          · exact ⟨b, off, ha, HW.out.cell ((h k hkz).trans (by rw [HE.out])) (fun e => HP.out (fun h0 => by rw [h0] at hkz; simp at hkz) b off ha (by simpa using e))⟩
        subst ha
        generalize (marked zs).getD k 0 = x at hce hcz hx0 hx1 HS
        have hi2 : (k : Int) < (len : Int) := by omega
        have hxr : bits BinOp.xor IntKind.u8 x 33 = xr x := rfl
        go_wp2
        go_roundw
        case rel => exact ⟨k + 1, by omega, by go_num, rfl, HS.out, grown_trans HW.out (grown_set _ _ _ _)⟩
        case measure => simp [intOf]; omega
      · have HE : Hid ((marked zs).getD k 0 = 201) := by unfold Hid marked; have := HL.out; have := HN.out; exact getD_repl zs 9 201 k (by omega) (by omega)
        rw [HE.out] at hce HS
        clear hx0 hx1
        have hi2 : (len : Int) ≤ (k : Int) := by omega
        have hxr : bits BinOp.xor IntKind.u8 201 33 = xr 201 := rfl
        go_wp2
        go_roundw
        case rel => exact ⟨k + 1, by omega, by go_num, rfl, HS.out, grown_trans HW.out (grown_set _ _ _ _)⟩
        case measure => simp [intOf]; omega
    · have hkn : k = n := by omega
      have HS : Hid (Blk .u8 wr g 5 (halved (marked zs))) := by
        have e := HM.out
        rw [List.take_of_length_le (by omega), List.drop_eq_nil_of_le (by omega), List.append_nil] at hbk
        exact hbk
      clear hbk hfr
      go_wp2
      go_ret
      exact ⟨rfl, HS.out, HW.out⟩

theorem marked_take (zs : List Int) (len : Nat) (h : zs.length = len) : (marked zs).take len = zs := by
  subst h; simp [marked]

theorem Lies.apart {k : IntKind} {w : World} {a : Option Addr} {zs : List Int} (h : Lies k w a zs) {g : Nat} (hg : w.heap.size ≤ g) : zs ≠ [] → ∀ b off, a = some ⟨b, off, none⟩ → b ≠ g := by
  intro hz b off ha
  rcases h with h0 | ⟨b', off', ha', h⟩
  · exact absurd h0 hz
  · rw [ha] at ha'
    simp only [Option.some.injEq, Addr.mk.injEq, and_true] at ha'
    have := Lies.block h hz
    omega

end Go.Proofs.YthkphihgdklbbaaDoor

namespace Go.Proofs.YthkphihgdklbbaaDoor.C
open Go.RowKit Go.Shelf
set_option linter.unusedVariables false
set_option linter.unusedSimpArgs false

theorem put_dr {b b' : Bf} {at' : Int} {zs : List Int} {fr cl er : Int} (h : PutR b at' zs fr cl er b') : b'.dr = b.dr := by
  rcases h with ⟨_, _, _, _, rfl⟩ | ⟨_, _, _, _, _, rfl⟩ | ⟨_, u, _, ⟨_, _, _, _, rfl⟩ | ⟨_, _, _, _, rfl⟩⟩ <;> rfl
theorem cell_kf {F : Nat → Prop} {w w' : World} (h : Kf F w w') {g i : Nat} {u : Value} (hg : g < w.heap.size) (hn : ¬ F g) (hc : w.cell? ⟨g, i, none⟩ = some u) : w'.cell? ⟨g, i, none⟩ = some u := (World.cell?_of_block (a := ⟨g, i, none⟩) (h.same g hg hn)).trans hc
theorem cell_bel {w w' : World} {B : Nat} (h : Below B w w') {g i : Nat} {u : Value} (hg : g < B) (hc : w.cell? ⟨g, i, none⟩ = some u) : w'.cell? ⟨g, i, none⟩ = some u := (World.cell?_of_block (a := ⟨g, i, none⟩) (h.block g hg)).trans hc
def CK4 (g : Nat) (w w' : World) : Prop := ∀ i u, w.cell? ⟨g, i, none⟩ = some u → w'.cell? ⟨g, i, none⟩ = some u

set_option maxHeartbeats 8000000 in
set_option maxRecDepth 100000 in
theorem step_put (base q n : Nat) (kd : Int) (k : Bool) (at' : Int) (ad : Option Addr) (nd cd : Nat) (f t : Int) (w : World) (h : Ws4 base w q n) (hkd : kd = 1) (zs : List Int) (hnd : zs.length = nd) (hmx : nd ≤ 140737488355328) (hzb : Bytey zs) (hz : ∀ V, Below base w V → Lies .u8 V ad zs) (hlo : zs ≠ [] → ∀ b off, ad = some ⟨b, off, none⟩ → b < base) :
    Calls Tryd.prog 7 #[.pointer (some ⟨q, 0, none⟩), .agg (opC kd k at' ad nd cd f t)] w fun e w' => e = .returned (.bool true) ∧ Ws4 base w' q (n + 1) ∧ Below base w w' := by
  obtain ⟨own, B, R, b, P, vr, vw, vs, vx, rs, ws, ss, xs, C, S, hW0, hl1, hl2, hl3, hl4, hC, hS, h0, hbs⟩ := h
  obtain ⟨gx, hgx⟩ : ∃ g, w.heap.size = g := ⟨_, rfl⟩
  obtain ⟨W, hWe⟩ : ∃ W, w.alloc (.cells #[.int .i64 kd, .bool k, .int .i64 at', .slice ad nd cd, .int .i64 f, .int .i64 t] 40) = W := ⟨_, rfl⟩
  have hbW : Below w.heap.size w W := by rw [← hWe]; exact (Below.refl _ _).alloc (Nat.le_refl _) _
  have hW := hW0.fresh hbW 0
  have hgW : gx < W.heap.size := by rw [← hgx, ← hWe]; simp
  have c0 : W.cell? ⟨gx, 0, none⟩ = some (.int .i64 kd) := by rw [← hWe, ← hgx]; simp
  have c1 : W.cell? ⟨gx, 1, none⟩ = some (.bool k) := by rw [← hWe, ← hgx]; simp
  have c2 : W.cell? ⟨gx, 2, none⟩ = some (.int .i64 at') := by rw [← hWe, ← hgx]; simp
  have c3 : W.cell? ⟨gx, 3, none⟩ = some (.slice ad nd cd) := by rw [← hWe, ← hgx]; simp
  have c4 : W.cell? ⟨gx, 4, none⟩ = some (.int .i64 f) := by rw [← hWe, ← hgx]; simp
  have c5 : W.cell? ⟨gx, 5, none⟩ = some (.int .i64 t) := by rw [← hWe, ← hgx]; simp
  obtain ⟨own1, hown1⟩ : ∃ o, tg own w 0 = o := ⟨_, rfl⟩
  rw [hown1] at hW
  have HWo : Hid (Wo4 own1 W q B R b P vr vw vs vx rs ws ss xs C S) := hW
  have H0 : Hid ((∀ g, g < base → own1 g = 0) ∧ base ≤ w.heap.size ∧ Below w.heap.size w W) := ⟨fun g hg => by rw [← hown1]; exact (tg_old (by omega)).trans (h0 g hg), hbs, hbW⟩
  have HTg : Hid (own1 gx = 0 ∧ gx < W.heap.size ∧ w.heap.size = gx) := ⟨by rw [← hown1, ← hgx]; exact tg_new (Nat.le_refl _), hgW, hgx⟩
  have HL : Hid (rs.length = ws.length ∧ ss.length = xs.length ∧ rs.length ≤ 2 * n ∧ ss.length ≤ 2 * n ∧ (∀ j, (C j).length ≤ 65536) ∧ (∀ j, (S j).length ≤ 2000)) := ⟨hl1, hl2, hl3, hl4, hC, hS⟩
  have HGx : Hid (w.heap.size = gx ∧ w.alloc (.cells #[.int .i64 kd, .bool k, .int .i64 at', .slice ad nd cd, .int .i64 f, .int .i64 t] 40) = W) := ⟨hgx, hWe⟩
  have hbx := hW.x.box
  have HE : Hid (if k = true then W.cell? ⟨q, 1, none⟩ = some (.pointer (some ⟨B k, 0, none⟩)) ∧ W.cell? ⟨q, 3, none⟩ = some (.pointer (some ⟨R k, 0, none⟩)) else W.cell? ⟨q, 0, none⟩ = some (.pointer (some ⟨B k, 0, none⟩)) ∧ W.cell? ⟨q, 2, none⟩ = some (.pointer (some ⟨R k, 0, none⟩))) := by
    cases k
    · exact ⟨cell_of_row _ _ 0 _ _ _ hbx, cell_of_row _ _ 2 _ _ _ hbx⟩
    · exact ⟨cell_of_row _ _ 1 _ _ _ hbx, cell_of_row _ _ 3 _ _ _ hbx⟩
  clear hW hW0 hbW hl1 hl2 hl3 hl4 hC hS h0 hbs hbx hgx hWe hown1
  subst hkd
  have hC : Calls Tryd.prog 21 #[.slice ad nd cd] W fun e w1 => ∃ gc, e = .returned (.slice (some ⟨gc, 0, none⟩) (nd + 9) (nd + 9)) ∧ Hid (CK4 gx W w1) ∧ Hid (∀ V, Below w1.heap.size w1 V → Calls Tryd.prog 19 #[.pointer (some ⟨B k, 0, none⟩), .int .i64 at', .slice (some ⟨gc, 0, none⟩) nd (nd + 9)] V fun e w2 => ∃ fr cl er, e = .returned (.tuple #[.int .i64 fr, .int .i64 cl, .int .i64 er]) ∧ Hid (CK4 gx w1 w2) ∧
      Hid (Calls Tryd.prog 22 #[.pointer (some ⟨R k, 0, none⟩), .int .i64 at', .slice ad nd cd] w2 fun e w3 => e = .returned (.tuple #[.int .i64 fr, .int .i64 cl, .int .i64 er]) ∧ Hid (CK4 gx w2 w3) ∧ Hid (Calls Tryd.prog 25 #[.slice (some ⟨gc, 0, none⟩) (nd + 9) (nd + 9), .slice ad nd cd] w3 fun e w4 => e = .returned (.bool true) ∧ Hid (Ws4 base w4 q (n + 1) ∧ Below base w w4)))) := by
    refine (lent_any ad zs nd cd W hnd hmx (hz W (belowDn H0.out.2.2 H0.out.2.1))).mono ?_
    rintro e w1 ⟨rfl, hk1, hb1⟩
    have hsW := H0.out.2.2.size
    have hbs := H0.out.2.1
    have hbw := belowDn H0.out.2.2 hbs
    have hgl := HTg.out.2.1
    refine ⟨_, rfl, fun i u hu => cell_bel hb1 hgl hu, fun V hV => ?_⟩
    have hbV := belowUp hb1 hV
    have hWV := HWo.out.fresh hbV 0
    have hs1 := hb1.size
    have hsV := hbV.size
    have hkV : Blk .u8 V W.heap.size 5 (marked zs) := hk1.below hV hk1.lt
    have hgc := hkV.lt
    have hLV : Lies .u8 V (some ⟨W.heap.size, 0, none⟩) zs := by have := hkV.lies nd; rw [marked_take zs nd hnd] at this; exact this
    have o0 : tg own1 W 0 W.heap.size = 0 := tg_new (Nat.le_refl _)
    have og : tg own1 W 0 gx = 0 := (tg_old hgl).trans HTg.out.1
    have tb := tgB_or k
    have tq := tgQ_or k
    have hbwV : Below base w V := hbw.trans (belowDn hbV (by omega))
    have h0V : ∀ g, g < base → tg own1 W 0 g = 0 := fun g hg => (tg_old (by omega)).trans (H0.out.1 g hg)
    have hcV : CK4 gx w1 V := fun i u hu => cell_bel hV (by omega) hu
    refine (put_any (B k) (b k) _ at' (some ⟨W.heap.size, 0, none⟩) nd (nd + 9) zs V (hWV.b.bu k) hzb hnd hmx (by omega) (by omega) hLV (fun g hg e => by simp only [Value.ownBlock, Option.some.injEq] at hg; subst hg; rw [o0] at e; omega)).mono ?_
    rintro e w2 ⟨fr, cl, er, b', rfl, hp, hB2, hK2⟩
    have hs2 := hK2.size
    have hb2 : Below base V w2 := bel_tag h0V (by omega) (by omega) hK2
    refine ⟨fr, cl, er, rfl, fun i u hu => cell_kf hK2 (by omega) (by rw [og]; omega) (hcV i u hu), ?_⟩
    have hB2' : Bu w2 (B k) (fun g => tg own1 W 0 g = tgB k ∧ g < V.heap.size ∨ V.heap.size ≤ g) b' := hB2.mono (fun g e => e.elim (fun e => (Nat.lt_or_ge g V.heap.size).elim (fun hg => .inl ⟨e, hg⟩) .inr) .inr)
    have hR2 := (hWV.b.prog k hK2 hB2' (fun _ _ => trivial)).2.2 k
    refine (putR_any (R k) (b k) (P k) _ at' ad nd cd zs w2 hR2 (hWV.b.rel k) (hWV.b.bu k).ok hnd hmx (hz w2 (hbwV.trans hb2)) hzb).mono ?_
    rintro e w3 ⟨fr', cl', er', b'', P', rfl, hp', hR3, hr3, hK3⟩
    obtain ⟨rfl, rfl, rfl, rfl⟩ := hp.uniq hp'
    have hs3 := hK3.size
    have og2 : tg (tg own1 W 0) V (tgB k) gx = 0 := (tg_old (by omega)).trans og
    have oc2 : tg (tg own1 W 0) V (tgB k) W.heap.size = 0 := (tg_old hgc).trans o0
    refine ⟨rfl, fun i u hu => cell_kf hK3 (by omega) (by rw [og2]; omega) hu, ?_⟩
    obtain ⟨⟨o3, hW3, ho3⟩, hWs3, hb3⟩ := two_ws (n := n) hWV HL.out h0V (by omega) k hK2 hB2 hK3 (by rw [put_dr hp]; exact hR3) hr3
    have hk3 : Blk .u8 w3 W.heap.size 5 (marked zs) := (hK3.same _ (by omega) (by rw [oc2]; omega)).trans ((hK2.same _ hgc (by rw [o0]; omega)).trans hkV)
    refine (back_any W.heap.size ad zs nd (nd + 9) cd w3 hzb hnd rfl hmx (hz w3 (hbwV.trans hb3)) (fun hne b off ha e => by have := hlo hne b off ha; omega) hk3).mono ?_
    rintro e w4 ⟨rfl, _, hg4⟩
    refine ⟨rfl, ?_⟩
    have hW4 := hW3.other (Kg.grown hg4 (fun g e => by cases e; exact (ho3 _ hgc).trans o0))
    obtain ⟨k1, k2, k3, k4, k5, k6⟩ := HL.out
    have hs4 := hg4.size
    exact ⟨⟨_, B, R, _, _, vr, vw, vs, vx, rs, ws, ss, xs, C, S, hW4, k1, k2, by omega, by omega, k5, k6, fun g hg => (tg_old (by omega)).trans ((ho3 g (by omega)).trans (h0V g hg)), by omega⟩,
      (hbwV.trans hb3).trans ⟨hg4.os, hg4.tape, hg4.output, hg4.size, fun g hg => hg4.block g (by omega) (fun e => by cases e; omega)⟩⟩
  clear HWo HL H0 HTg hz hlo hzb
  generalize hBk : B k = Bk at hC HE
  generalize hRk : R k = Rk at hC HE
  clear hBk hRk hnd
  unfold opC
  cases k <;>
  · have hE := HE.out
    simp only [if_true, Bool.false_eq_true, reduceIte] at hE
    obtain ⟨f0, f1⟩ := hE
    clear HE
    go_enter Tryd.func7, Tryd.ntmps7
    have hWg := HGx.out.2
    have hGg := HGx.out.1
    have hsl : (nd : Int) ≤ (nd : Int) + 9 := by omega
    go_wp2_with (first
      | (go_at_call 21
         refine hC.mono ?_
         rintro e w1 ⟨gc, rfl, hc1, h1⟩
         replace c0 := hc1.out _ _ c0
         replace c2 := hc1.out _ _ c2
         replace c3 := hc1.out _ _ c3
         clear hC hc1 c1 c4 c5 f0 f1 hgW)
      | go_in)
    go_region_with (first
      | (go_at_call 19
         refine (h1.out _ (Below.drew (Below.refl _ _))).mono ?_
         rintro e w2 ⟨fr, cl, er, rfl, hc2, h2⟩
         replace c0 := hc2.out _ _ c0
         replace c2 := hc2.out _ _ c2
         replace c3 := hc2.out _ _ c3
         clear hc2 h1))
    all_goals (
      go_wp2_with (first
        | (go_at_call 22
           refine h2.out.mono ?_
           rintro e w3 ⟨rfl, hc3, h3⟩
           replace c0 := hc3.out _ _ c0
           replace c2 := hc3.out _ _ c2
           replace c3 := hc3.out _ _ c3
           clear hc3 h2)
        | (go_at_call 25
           refine h3.out.mono ?_
           rintro e w4 ⟨rfl, h4⟩
           clear h3)
        | go_in)
      go_ret
      exact ⟨rfl, h4.out⟩)

set_option maxHeartbeats 8000000 in
set_option maxRecDepth 100000 in
theorem step_look (base q n : Nat) (kd : Int) (k : Bool) (at' : Int) (ad : Option Addr) (nd cd : Nat) (f t : Int) (w : World) (h : Ws4 base w q n) (hkd : kd = 2) (zs : List Int) (hnd : zs.length = nd) (hmx : nd ≤ 140737488355328) (hzb : Bytey zs) (hz : ∀ V, Below base w V → Lies .u8 V ad zs) (hlo : zs ≠ [] → ∀ b off, ad = some ⟨b, off, none⟩ → b < base) :
    Calls Tryd.prog 7 #[.pointer (some ⟨q, 0, none⟩), .agg (opC kd k at' ad nd cd f t)] w fun e w' => e = .returned (.bool true) ∧ Ws4 base w' q (n + 1) ∧ Below base w w' := by
  obtain ⟨own, B, R, b, P, vr, vw, vs, vx, rs, ws, ss, xs, C, S, hW0, hl1, hl2, hl3, hl4, hC, hS, h0, hbs⟩ := h
  obtain ⟨gx, hgx⟩ : ∃ g, w.heap.size = g := ⟨_, rfl⟩
  obtain ⟨W, hWe⟩ : ∃ W, w.alloc (.cells #[.int .i64 kd, .bool k, .int .i64 at', .slice ad nd cd, .int .i64 f, .int .i64 t] 40) = W := ⟨_, rfl⟩
  have hbW : Below w.heap.size w W := by rw [← hWe]; exact (Below.refl _ _).alloc (Nat.le_refl _) _
  have hW := hW0.fresh hbW 0
  have hgW : gx < W.heap.size := by rw [← hgx, ← hWe]; simp
  have c0 : W.cell? ⟨gx, 0, none⟩ = some (.int .i64 kd) := by rw [← hWe, ← hgx]; simp
  have c1 : W.cell? ⟨gx, 1, none⟩ = some (.bool k) := by rw [← hWe, ← hgx]; simp
  have c2 : W.cell? ⟨gx, 2, none⟩ = some (.int .i64 at') := by rw [← hWe, ← hgx]; simp
  have c3 : W.cell? ⟨gx, 3, none⟩ = some (.slice ad nd cd) := by rw [← hWe, ← hgx]; simp
  have c4 : W.cell? ⟨gx, 4, none⟩ = some (.int .i64 f) := by rw [← hWe, ← hgx]; simp
  have c5 : W.cell? ⟨gx, 5, none⟩ = some (.int .i64 t) := by rw [← hWe, ← hgx]; simp
  obtain ⟨own1, hown1⟩ : ∃ o, tg own w 0 = o := ⟨_, rfl⟩
  rw [hown1] at hW
  have HWo : Hid (Wo4 own1 W q B R b P vr vw vs vx rs ws ss xs C S) := hW
  have H0 : Hid ((∀ g, g < base → own1 g = 0) ∧ base ≤ w.heap.size ∧ Below w.heap.size w W) := ⟨fun g hg => by rw [← hown1]; exact (tg_old (by omega)).trans (h0 g hg), hbs, hbW⟩
  have HTg : Hid (own1 gx = 0 ∧ gx < W.heap.size ∧ w.heap.size = gx) := ⟨by rw [← hown1, ← hgx]; exact tg_new (Nat.le_refl _), hgW, hgx⟩
  have HL : Hid (rs.length = ws.length ∧ ss.length = xs.length ∧ rs.length ≤ 2 * n ∧ ss.length ≤ 2 * n ∧ (∀ j, (C j).length ≤ 65536) ∧ (∀ j, (S j).length ≤ 2000)) := ⟨hl1, hl2, hl3, hl4, hC, hS⟩
  have HGx : Hid (w.heap.size = gx ∧ w.alloc (.cells #[.int .i64 kd, .bool k, .int .i64 at', .slice ad nd cd, .int .i64 f, .int .i64 t] 40) = W) := ⟨hgx, hWe⟩
  have hbx := hW.x.box
  have HE : Hid (if k = true then W.cell? ⟨q, 1, none⟩ = some (.pointer (some ⟨B k, 0, none⟩)) ∧ W.cell? ⟨q, 3, none⟩ = some (.pointer (some ⟨R k, 0, none⟩)) else W.cell? ⟨q, 0, none⟩ = some (.pointer (some ⟨B k, 0, none⟩)) ∧ W.cell? ⟨q, 2, none⟩ = some (.pointer (some ⟨R k, 0, none⟩))) := by
    cases k
    · exact ⟨cell_of_row _ _ 0 _ _ _ hbx, cell_of_row _ _ 2 _ _ _ hbx⟩
    · exact ⟨cell_of_row _ _ 1 _ _ _ hbx, cell_of_row _ _ 3 _ _ _ hbx⟩
  clear hW hW0 hbW hl1 hl2 hl3 hl4 hC hS h0 hbs hbx hgx hWe hown1
  subst hkd
  have hC : Calls Tryd.prog 21 #[.slice ad nd cd] W fun e w1 => ∃ gc, e = .returned (.slice (some ⟨gc, 0, none⟩) (nd + 9) (nd + 9)) ∧ Hid (CK4 gx W w1) ∧ Hid (∀ V, Below w1.heap.size w1 V → Calls Tryd.prog 23 #[.pointer (some ⟨B k, 0, none⟩), .int .i64 at', .slice (some ⟨gc, 0, none⟩) nd (nd + 9)] V fun e w2 => ∃ fr cl er, e = .returned (.tuple #[.int .i64 fr, .int .i64 cl, .int .i64 er]) ∧ Hid (CK4 gx w1 w2) ∧
      Hid (Calls Tryd.prog 24 #[.pointer (some ⟨R k, 0, none⟩), .int .i64 at', .slice ad nd cd] w2 fun e w3 => e = .returned (.tuple #[.int .i64 fr, .int .i64 cl, .int .i64 er]) ∧ Hid (CK4 gx w2 w3) ∧ Hid (Calls Tryd.prog 25 #[.slice (some ⟨gc, 0, none⟩) (nd + 9) (nd + 9), .slice ad nd cd] w3 fun e w4 => e = .returned (.bool true) ∧ Hid (Ws4 base w4 q (n + 1) ∧ Below base w w4)))) := by
    refine (lent_any ad zs nd cd W hnd hmx (hz W (belowDn H0.out.2.2 H0.out.2.1))).mono ?_
    rintro e w1 ⟨rfl, hk1, hb1⟩
    have hsW := H0.out.2.2.size
    have hbs := H0.out.2.1
    have hbw := belowDn H0.out.2.2 hbs
    have hgl := HTg.out.2.1
    refine ⟨_, rfl, fun i u hu => cell_bel hb1 hgl hu, fun V hV => ?_⟩
    have hbV := belowUp hb1 hV
    have hWV := HWo.out.fresh hbV 0
    have hs1 := hb1.size
    have hsV := hbV.size
    have hkV : Blk .u8 V W.heap.size 5 (marked zs) := hk1.below hV hk1.lt
    have hgc := hkV.lt
    have hLV : Lies .u8 V (some ⟨W.heap.size, 0, none⟩) zs := by have := hkV.lies nd; rw [marked_take zs nd hnd] at this; exact this
    have o0 : tg own1 W 0 W.heap.size = 0 := tg_new (Nat.le_refl _)
    have og : tg own1 W 0 gx = 0 := (tg_old hgl).trans HTg.out.1
    have tb := tgB_or k
    have tq := tgQ_or k
    have hbwV : Below base w V := hbw.trans (belowDn hbV (by omega))
    have h0V : ∀ g, g < base → tg own1 W 0 g = 0 := fun g hg => (tg_old (by omega)).trans (H0.out.1 g hg)
    have hcV : CK4 gx w1 V := fun i u hu => cell_bel hV (by omega) hu
    refine (look_any (B k) (b k) _ at' (some ⟨W.heap.size, 0, none⟩) nd (nd + 9) zs V (hWV.b.bu k) hnd hmx hLV).mono ?_
    rintro e w2 ⟨fr, cl, er, b', rfl, hp, hb2⟩
    have hs2 := hb2.size
    refine ⟨fr, cl, er, rfl, fun i u hu => cell_bel hb2 (by omega) (hcV i u hu), ?_⟩
    refine (lookR_any (R k) (b k) (P k) _ at' ad nd cd zs w2 ((hWV.b.rf k).below hb2) (hWV.b.rel k) (hWV.b.bu k).ok hnd hmx (hz w2 (hbwV.trans (belowDn hb2 (by omega)))) hzb).mono ?_
    rintro e w3 ⟨fr', cl', er', b'', rfl, hp', hb3'⟩
    obtain ⟨rfl, rfl, rfl, rfl⟩ := hp.uniq hp'
    have hs3 := hb3'.size
    refine ⟨rfl, fun i u hu => cell_bel hb3' (by omega) hu, ?_⟩
    have hb23 := belowUp hb2 hb3'
    have hW3 := hWV.fresh hb23 0
    have ho3 : ∀ g, g < V.heap.size → tg (tg own1 W 0) V 0 g = tg own1 W 0 g := fun g hg => tg_old hg
    have hb3 : Below base V w3 := belowDn hb23 (by omega)
    have hk3 : Blk .u8 w3 W.heap.size 5 (marked zs) := (hb23.block _ hgc).trans hkV
    refine (back_any W.heap.size ad zs nd (nd + 9) cd w3 hzb hnd rfl hmx (hz w3 (hbwV.trans hb3)) (fun hne b off ha e => by have := hlo hne b off ha; omega) hk3).mono ?_
    rintro e w4 ⟨rfl, _, hg4⟩
    refine ⟨rfl, ?_⟩
    have hW4 := hW3.other (Kg.grown hg4 (fun g e => by cases e; exact (ho3 _ hgc).trans o0))
    obtain ⟨k1, k2, k3, k4, k5, k6⟩ := HL.out
    have hs4 := hg4.size
    exact ⟨⟨_, B, R, _, _, vr, vw, vs, vx, rs, ws, ss, xs, C, S, hW4, k1, k2, by omega, by omega, k5, k6, fun g hg => (tg_old (by omega)).trans ((ho3 g (by omega)).trans (h0V g hg)), by omega⟩,
      (hbwV.trans hb3).trans ⟨hg4.os, hg4.tape, hg4.output, hg4.size, fun g hg => hg4.block g (by omega) (fun e => by cases e; omega)⟩⟩
  clear HWo HL H0 HTg hz hlo hzb
  generalize hBk : B k = Bk at hC HE
  generalize hRk : R k = Rk at hC HE
  clear hBk hRk hnd
  unfold opC
  cases k <;>
  · have hE := HE.out
    simp only [if_true, Bool.false_eq_true, reduceIte] at hE
    obtain ⟨f0, f1⟩ := hE
    clear HE
    go_enter Tryd.func7, Tryd.ntmps7
    have hWg := HGx.out.2
    have hGg := HGx.out.1
    have hsl : (nd : Int) ≤ (nd : Int) + 9 := by omega
    go_wp2_with (first
      | (go_at_call 21
         refine hC.mono ?_
         rintro e w1 ⟨gc, rfl, hc1, h1⟩
         replace c0 := hc1.out _ _ c0
         replace c2 := hc1.out _ _ c2
         replace c3 := hc1.out _ _ c3
         clear hC hc1 c1 c4 c5 f0 f1 hgW)
      | go_in)
    go_region_with (first
      | (go_at_call 23
         refine (h1.out _ (Below.drew (Below.refl _ _))).mono ?_
         rintro e w2 ⟨fr, cl, er, rfl, hc2, h2⟩
         replace c0 := hc2.out _ _ c0
         replace c2 := hc2.out _ _ c2
         replace c3 := hc2.out _ _ c3
         clear hc2 h1))
    all_goals (
      go_wp2_with (first
        | (go_at_call 24
           refine h2.out.mono ?_
           rintro e w3 ⟨rfl, hc3, h3⟩
           replace c0 := hc3.out _ _ c0
           replace c2 := hc3.out _ _ c2
           replace c3 := hc3.out _ _ c3
           clear hc3 h2)
        | (go_at_call 25
           refine h3.out.mono ?_
           rintro e w4 ⟨rfl, h4⟩
           clear h3)
        | go_in)
      go_ret
      exact ⟨rfl, h4.out⟩)

end Go.Proofs.YthkphihgdklbbaaDoor.C

namespace Go.Proofs.YthkphihgdklbbaaDoor.C
open Go.RowKit Go.Shelf
set_option linter.unusedVariables false
set_option linter.unusedSimpArgs false

theorem br_spans4 : (Tryd.prog.info? 59).map (fun i => (i.zero, i.size, i.bytes)) = some (some (.slice none 0 0), 1, 24) := by kernel_rfl
/-- Behind the three lists: where each lies, and whose it is. -/
structure Hp (base : Nat) (w0 w : World) (q : Nat) (B R : Bool → Nat) (b : Bool → Bf) (P : Bool → List Int) (vr vw vs vx : Value) (rs ws ss xs : List Value) (C : Nat → List Int) (S : Nat → List Sp) (L : List Sp) (l m x : Value) (own : Nat → Nat) : Prop where
  wo : Wo4 own w q B R b P vr vw vs vx rs ws ss xs C S
  l1 : SOwn w 0 l L
  l2 : ∀ g, l.ownBlock = some g → own g = 21 + 2 * ss.length
  m1 : SOwn w 0 m L
  m2 : ∀ g, m.ownBlock = some g → own g = 21 + 2 * (ss.length + 1)
  x1 : SOwn w 0 x L
  x2 : ∀ g, x.ownBlock = some g → own g = 7
  z : ∀ g, g < base → own g = 0
  sz : base ≤ w.heap.size
  bel : Below base w0 w

set_option maxHeartbeats 8000000 in
set_option maxRecDepth 100000 in
theorem step_have (base q n : Nat) (kd : Int) (k : Bool) (at' : Int) (ad : Option Addr) (nd cd : Nat) (f t : Int) (w : World) (h : Ws4 base w q n) (hkd : kd = 3) (hnn : n ≤ 274877906944) :
    Calls Tryd.prog 7 #[.pointer (some ⟨q, 0, none⟩), .agg (opC kd k at' ad nd cd f t)] w fun e w' => e = .returned (.bool true) ∧ Ws4 base w' q (n + 1) ∧ Below base w w' := by
  obtain ⟨own, B, R, b, P, vr, vw, vs, vx, rs, ws, ss, xs, C, S, hW0, hl1, hl2, hl3, hl4, hC, hS, h0, hbs⟩ := h
  obtain ⟨gx, hgx⟩ : ∃ g, w.heap.size = g := ⟨_, rfl⟩
  obtain ⟨W, hWe⟩ : ∃ W, w.alloc (.cells #[.int .i64 kd, .bool k, .int .i64 at', .slice ad nd cd, .int .i64 f, .int .i64 t] 40) = W := ⟨_, rfl⟩
  have hbW : Below w.heap.size w W := by rw [← hWe]; exact (Below.refl _ _).alloc (Nat.le_refl _) _
  have hW := hW0.fresh hbW 0
  have hgW : gx < W.heap.size := by rw [← hgx, ← hWe]; simp
  have c0 : W.cell? ⟨gx, 0, none⟩ = some (.int .i64 kd) := by rw [← hWe, ← hgx]; simp
  have c1 : W.cell? ⟨gx, 1, none⟩ = some (.bool k) := by rw [← hWe, ← hgx]; simp
  have c2 : W.cell? ⟨gx, 2, none⟩ = some (.int .i64 at') := by rw [← hWe, ← hgx]; simp
  have c3 : W.cell? ⟨gx, 3, none⟩ = some (.slice ad nd cd) := by rw [← hWe, ← hgx]; simp
  have c4 : W.cell? ⟨gx, 4, none⟩ = some (.int .i64 f) := by rw [← hWe, ← hgx]; simp
  have c5 : W.cell? ⟨gx, 5, none⟩ = some (.int .i64 t) := by rw [← hWe, ← hgx]; simp
  obtain ⟨own1, hown1⟩ : ∃ o, tg own w 0 = o := ⟨_, rfl⟩
  rw [hown1] at hW
  have HWo : Hid (Wo4 own1 W q B R b P vr vw vs vx rs ws ss xs C S) := hW
  have H0 : Hid ((∀ g, g < base → own1 g = 0) ∧ base ≤ w.heap.size ∧ Below w.heap.size w W) := ⟨fun g hg => by rw [← hown1]; exact (tg_old (by omega)).trans (h0 g hg), hbs, hbW⟩
  have HTg : Hid (own1 gx = 0 ∧ gx < W.heap.size ∧ w.heap.size = gx) := ⟨by rw [← hown1, ← hgx]; exact tg_new (Nat.le_refl _), hgW, hgx⟩
  have HL : Hid (rs.length = ws.length ∧ ss.length = xs.length ∧ rs.length ≤ 2 * n ∧ ss.length ≤ 2 * n ∧ (∀ j, (C j).length ≤ 65536) ∧ (∀ j, (S j).length ≤ 2000)) := ⟨hl1, hl2, hl3, hl4, hC, hS⟩
  have HGx : Hid (w.heap.size = gx ∧ w.alloc (.cells #[.int .i64 kd, .bool k, .int .i64 at', .slice ad nd cd, .int .i64 f, .int .i64 t] 40) = W) := ⟨hgx, hWe⟩
  have hbx := hW.x.box
  have HE : Hid (if k = true then W.cell? ⟨q, 1, none⟩ = some (.pointer (some ⟨B k, 0, none⟩)) ∧ W.cell? ⟨q, 3, none⟩ = some (.pointer (some ⟨R k, 0, none⟩)) else W.cell? ⟨q, 0, none⟩ = some (.pointer (some ⟨B k, 0, none⟩)) ∧ W.cell? ⟨q, 2, none⟩ = some (.pointer (some ⟨R k, 0, none⟩))) := by
    cases k
    · exact ⟨cell_of_row _ _ 0 _ _ _ hbx, cell_of_row _ _ 2 _ _ _ hbx⟩
    · exact ⟨cell_of_row _ _ 1 _ _ _ hbx, cell_of_row _ _ 3 _ _ _ hbx⟩
  clear hW hW0 hbW hl1 hl2 hl3 hl4 hC hS h0 hbs hbx hgx hWe hown1
  subst hkd
  obtain ⟨N, hN⟩ : ∃ N, (b k).l.length = N := ⟨_, rfl⟩
  have hNb : N ≤ 2000 := by rw [← hN]; exact (HWo.out.b.bu k).ok.set.1
  have hC : Calls Tryd.prog 14 #[.pointer (some ⟨B k, 0, none⟩)] W fun e w1 => ∃ a1 d1, e = .returned (.slice a1 N d1) ∧ Hid (Calls Tryd.prog 14 #[.pointer (some ⟨B k, 0, none⟩)] w1 fun e w2 => ∃ a2 d2, e = .returned (.slice a2 N d2) ∧ Hid (Calls Tryd.prog 26 #[.pointer (some ⟨R k, 0, none⟩)] w2 fun e w3 => ∃ a3 d3, e = .returned (.slice a3 N d3) ∧
      Hid (Calls Tryd.prog 27 #[.slice a1 N d1, .slice a3 N d3] w3 fun e w4 => e = .returned (.bool true) ∧ Hid (Calls Tryd.prog 27 #[.slice a2 N d2, .slice a3 N d3] w4 fun e w5 => e = .returned (.bool true) ∧ ∃ own5, Hid (Hp base w w5 q B R b P vr vw vs vx rs ws ss xs C S (b k).l (.slice a1 N d1) (.slice a2 N d2) (.slice a3 N d3) own5))))) := by
    have hbs := H0.out.2.1
    have hsW := H0.out.2.2.size
    refine (have_any _ _ _ W (HWo.out.b.bu k)).mono ?_
    rintro e w1 ⟨l, rfl, hS1, hb1⟩
    obtain ⟨a1, d1, rfl⟩ := hS1.shape
    have hW1 := HWo.out.fresh hb1 (21 + 2 * ss.length)
    have t1 : ∀ g, (Value.slice a1 (b k).l.length d1).ownBlock = some g → tg own1 W (21 + 2 * ss.length) g = 21 + 2 * ss.length := fun g hg => tg_new (hS1.lt g hg).1
    refine ⟨a1, d1, by rw [← hN], ?_⟩
    refine (have_any _ _ _ w1 (hW1.b.bu k)).mono ?_
    rintro e w2 ⟨m, rfl, hS2, hb2⟩
    obtain ⟨a2, d2, rfl⟩ := hS2.shape
    have hW2 := hW1.fresh hb2 (21 + 2 * (ss.length + 1))
    refine ⟨a2, d2, by rw [← hN], ?_⟩
    refine (haveR_any _ _ _ _ w2 (hW2.b.rf k) (hW2.b.rel k) (hW2.b.bu k).ok).mono ?_
    rintro e w3 ⟨x, rfl, hS3, hb3⟩
    obtain ⟨a3, d3, rfl⟩ := hS3.shape
    have hW3 := hW2.fresh hb3 7
    refine ⟨a3, d3, by rw [← hN], ?_⟩
    have hs1 := hb1.size
    have hs2 := hb2.size
    have hs3 := hb3.size
    have l3 := (hS1.below hb2).below hb3
    have m3 := hS2.below hb3
    rw [hN] at l3 m3 hS3
    refine (sameSpans4_eq a1 a3 d1 d3 N (b k).l w3 hN (by omega) l3.spa hS3.spa).mono ?_
    rintro e w4 ⟨rfl, nd4, rfl⟩
    refine ⟨rfl, ?_⟩
    refine (sameSpans4_eq a2 a3 d2 d3 N (b k).l (w3.drewN nd4) hN (by omega) (m3.drewN nd4).spa (hS3.drewN nd4).spa).mono ?_
    rintro e w5 ⟨rfl, nd5, rfl⟩
    refine ⟨rfl, _, ⟨⟨hW3.x.box, hW3.x.tag⟩, ⟨fun j => (hW3.b.bu j).same (fun _ _ _ => rfl), fun j => (hW3.b.rf j).same (fun _ _ _ => rfl), hW3.b.rel⟩, hW3.l.keep (D := fun _ => False) ⟨Nat.le_refl _, fun _ _ _ => rfl⟩ (fun _ _ => rfl) (fun _ e => e.elim)⟩, l3.base (Nat.zero_le _), fun g hg => ?_, m3.base (Nat.zero_le _), fun g hg => ?_, hS3.base (Nat.zero_le _), fun g hg => tg_new (hS3.lt g hg).1, fun g hg => ?_, ?_, ?_⟩
    · have h1 := ((hN ▸ hS1 : SOwn w1 W.heap.size (.slice a1 N d1) (b k).l)).lt g hg
      exact (tg_old (by omega)).trans ((tg_old h1.2).trans (tg_new h1.1))
    · have h1 := ((hN ▸ hS2 : SOwn w2 w1.heap.size (.slice a2 N d2) (b k).l)).lt g hg
      exact (tg_old h1.2).trans (tg_new h1.1)
    · exact (tg_old (by omega)).trans ((tg_old (by omega)).trans ((tg_old (by omega)).trans (H0.out.1 g hg)))
    · show base ≤ w3.heap.size; omega
    · have h := belowDn (belowUp H0.out.2.2 (belowUp hb1 (belowUp hb2 hb3))) hbs
      exact ⟨h.os, h.tape, h.output, h.size, h.block⟩
  obtain ⟨aS, cS, hvs⟩ := own_shape HWo.out.l.s1
  obtain ⟨aX, cX, hvx⟩ := own_shape HWo.out.l.x1
  obtain ⟨hl1, hl2, hl3, hl4, hl5, hl6⟩ := HL.out
  have HLL : Hid ((b k).l.length ≤ 2000 ∧ rs.length = ws.length ∧ rs.length ≤ 2 * n ∧ (∀ j, (C j).length ≤ 65536) ∧ (∀ j, (S j).length ≤ 2000) ∧ ss.length = xs.length ∧ ss.length ≤ 2 * n) := ⟨by omega, hl1, hl3, hl5, hl6, hl2, hl4⟩
  have hsb : ss.length ≤ 549755813888 := by omega
  rw [← hl2] at hvx
  obtain ⟨nS, hnS⟩ : ∃ n, ss.length = n := ⟨_, rfl⟩
  rw [hnS] at hvs hvx hsb
  have HnS : Hid (ss.length = nS ∧ xs.length = nS) := ⟨hnS, by omega⟩
  subst hvs
  subst hvx
  obtain ⟨i1, hi1, hy0, hy1, hy2⟩ := info_parts br_spans4
  clear HWo HL H0 HTg hl1 hl2 hl3 hl4 hl5 hl6 hnS hN
  generalize (b k).l = Lk at hC HLL
  generalize hBk : B k = Bk at hC HE
  generalize hRk : R k = Rk at hC HE
  clear hBk hRk
  unfold opC
  cases k <;>
  · have hE := HE.out
    simp only [if_true, Bool.false_eq_true, reduceIte] at hE
    obtain ⟨f0, f1⟩ := hE
    clear HE
    go_enter Tryd.func7, Tryd.ntmps7
    have hWg := HGx.out.2
    have hGg := HGx.out.1
    go_upto_region 27 with (first
      | (go_at_call 14
         first
           | (refine hC.mono ?_
              rintro e w1 ⟨a1, d1, rfl, h1⟩
              clear hC c0 c1 c2 c3 c4 c5 f0 f1 hgW)
           | (refine h1.out.mono ?_
              rintro e w2 ⟨a2, d2, rfl, h2⟩
              clear h1))
      | (go_at_call 26
         refine h2.out.mono ?_
         rintro e w3 ⟨a3, d3, rfl, h3⟩
         clear h2)
      | (go_at_call 27
         first
           | (refine h3.out.mono ?_
              rintro e w4 ⟨rfl, h4⟩
              clear h3)
           | (refine h4.out.mono ?_
              rintro e w5 ⟨rfl, own5, HP⟩
              clear h4)))
    have e6 : w5.cell? ⟨q, 6, none⟩ = some (.slice aS nS cS) := cell_of_row _ _ 6 _ _ _ HP.out.wo.x.box
    go_upto_region 28 with (first
      | (at_builtin; refine wpList_append_own_at _ rfl _ _ 31 rfl 0 59 i1 (.slice none 0 0) 1 24 Tryd.underlying31 hi1 hy0 hy1 hy2 rfl (by decide) (.slice aS nS cS) ss.length ss rfl (World.ownsRow.alloc HP.out.wo.l.s1 _) ⟨w5.heap.size, 0, none⟩ 2 2 [.slice a1 N d1, .slice a2 N d2] rfl rfl (cell_two_new _ _ _ _) (by simp [Value.oneCell']) (by unfold maxLen; have := HnS.out; omega) (by have := HnS.out; omega) (by simp) ?_
         intro v6 w6 hown6 hgrow6 hnil6 hat6; clear hnil6
         obtain ⟨a6, c6, hvv⟩ := own_shape hown6
         obtain ⟨n6, hnn6⟩ : ∃ m, ss.length + 2 = m := ⟨_, rfl⟩
         replace hvv : v6 = Value.slice a6 (ss.length + 2) c6 := hvv
         rw [hnn6] at hvv
         clear hnn6
         subst hvv
         have HG6 : Hid (w5.grownBy w6 (Value.slice aS nS cS).ownBlock) := (World.grownBy_alloc w5 _ _).trans hgrow6
         have HO6 : Hid (w6.ownsRow 0 59 1 (.slice a6 n6 c6) (ss.length + 2) (ss ++ [.slice a1 N d1, .slice a2 N d2])) := hown6
         have HA6 : Hid ((Value.slice a6 n6 c6).ownBlock = (Value.slice aS nS cS).ownBlock ∨ ∃ g, (Value.slice a6 n6 c6).ownBlock = some g ∧ w5.heap.size ≤ g) := hat6.imp id (fun e => ⟨_, e, by simp⟩)
         have HQ6 : Hid (w6.heap[q]? = some (.cells (bxW B R vr vw (.slice aS nS cS) (.slice aX nS cX)) 33 (0, 0))) := (HG6.out.block q HP.out.wo.x.lt (fun e => by have := HP.out.wo.l.s2 q e.symm; rw [HP.out.wo.x.tag] at this; cases this)).trans HP.out.wo.x.box
         have g6 : w6.cell? ⟨q, 6, none⟩ = some (.slice aS nS cS) := cell_of_row _ _ 6 _ _ _ HQ6.out
         have k6 : w6.frozen? ⟨q, 6, none⟩ = false := frozen_of_row _ _ 6 _ _ HQ6.out
         clear hown6 hgrow6 hat6))
    have HP7 : Hid (Wo4 (tg own5 w5 4) (w6.setCell ⟨q, 6, none⟩ (.slice a6 n6 c6)) q B R b P vr vw (.slice a6 n6 c6) (.slice aX nS cX) rs ws (ss ++ [.slice a1 N d1, .slice a2 N d2]) xs C (nx S ss.length Lk)) :=
      HP.out.wo.pushS HG6.out HO6.out HA6.out HP.out.l1 HP.out.l2 HP.out.m1 HP.out.m2 (by have := HnS.out; omega)
    have HX7 : Hid (SOwn (w6.setCell ⟨q, 6, none⟩ (.slice a6 n6 c6)) 0 (.slice a3 N d3) Lk ∧ (∀ g, (Value.slice a3 N d3).ownBlock = some g → tg own5 w5 4 g = 7) ∧ (∀ g, g < base → tg own5 w5 4 g = 0) ∧ base ≤ (w6.setCell ⟨q, 6, none⟩ (.slice a6 n6 c6)).heap.size ∧ Below base w (w6.setCell ⟨q, 6, none⟩ (.slice a6 n6 c6))) := by
      have hp := HP.out
      have k1 : Kg (fun x => x = 4) own5 w5 w6 := Kg.grown HG6.out hp.wo.l.s2
      have h6 : SOwn w6 0 (.slice a3 N d3) Lk := row_keep hp.x1 hp.x2 k1 (by decide)
      have t6 : ∀ g, (Value.slice a3 N d3).ownBlock = some g → tg own5 w5 4 g = 7 := tag_keep hp.x1 hp.x2 (fun _ => tg_old)
      have hq : tg own5 w5 4 q = 1 := (tg_old hp.wo.x.lt).trans hp.wo.x.tag
      have k2 : Kg (fun x => x = 1) (tg own5 w5 4) w6 (w6.setCell ⟨q, 6, none⟩ (.slice a6 n6 c6)) := Kg.cell hq
      have hs1 := k1.size
      have hs2 := k2.size
      have hsz := hp.sz
      have z6 : ∀ g, g < base → tg own5 w5 4 g = 0 := fun g hg => (tg_old (by omega)).trans (hp.z g hg)
      have b1 : Below base w5 w6 := ⟨HG6.out.os, HG6.out.tape, HG6.out.output, HG6.out.size, fun g hg => k1.same g (by omega) (by rw [hp.z g hg]; decide)⟩
      have b2 : Below base w6 (w6.setCell ⟨q, 6, none⟩ (.slice a6 n6 c6)) := ⟨rfl, rfl, rfl, k2.size, fun g hg => k2.same g (by omega) (by rw [z6 g hg]; decide)⟩
      exact ⟨row_keep h6 t6 k2 (by decide), t6, z6, by omega, (hp.bel.trans b1).trans b2⟩
    obtain ⟨w7, hw7⟩ : ∃ w7, w6.setCell ⟨q, 6, none⟩ (.slice a6 n6 c6) = w7 := ⟨_, rfl⟩
    obtain ⟨own7, ho7⟩ : ∃ o, tg own5 w5 4 = o := ⟨_, rfl⟩
    rw [hw7, ho7] at HP7 HX7
    rw [hw7]
    clear HG6 HO6 HA6 HQ6 g6 k6 HP hw7 ho7 e6
    have e7 : w7.cell? ⟨q, 7, none⟩ = some (.slice aX nS cX) := cell_of_row _ _ 7 _ _ _ HP7.out.x.box
    have HxN : Hid (nx S ss.length Lk xs.length = Lk ∧ nx S ss.length Lk (xs.length + 1) = Lk) := ⟨nx_new (by have := HnS.out; omega), nx_new (by have := HnS.out; omega)⟩
    go_upto_region 29 with (first
      | (at_builtin; refine wpList_append_own_at _ rfl _ _ 31 rfl 0 59 i1 (.slice none 0 0) 1 24 Tryd.underlying31 hi1 hy0 hy1 hy2 rfl (by decide) (.slice aX nS cX) xs.length xs rfl (World.ownsRow.alloc HP7.out.l.x1 _) ⟨w7.heap.size, 0, none⟩ 2 2 [.slice a3 N d3, .slice a3 N d3] rfl rfl (cell_two_new _ _ _ _) (by simp [Value.oneCell']) (by unfold maxLen; have := HnS.out; omega) (by have := HnS.out; omega) (by simp) ?_
         intro v8 w8 hown6 hgrow6 hnil6 hat6; clear hnil6
         obtain ⟨a8, c8, hvv⟩ := own_shape hown6
         obtain ⟨n8, hnn8⟩ : ∃ m, xs.length + 2 = m := ⟨_, rfl⟩
         replace hvv : v8 = Value.slice a8 (xs.length + 2) c8 := hvv
         rw [hnn8] at hvv
         clear hnn8
         subst hvv
         have HG8 : Hid (w7.grownBy w8 (Value.slice aX nS cX).ownBlock) := (World.grownBy_alloc w7 _ _).trans hgrow6
         have HO8 : Hid (w8.ownsRow 0 59 1 (.slice a8 n8 c8) (xs.length + 2) (xs ++ [.slice a3 N d3, .slice a3 N d3])) := hown6
         have HA8 : Hid ((Value.slice a8 n8 c8).ownBlock = (Value.slice aX nS cX).ownBlock ∨ ∃ g, (Value.slice a8 n8 c8).ownBlock = some g ∧ w7.heap.size ≤ g) := hat6.imp id (fun e => ⟨_, e, by simp⟩)
         have HQ8 : Hid (w8.heap[q]? = some (.cells (bxW B R vr vw (.slice a6 n6 c6) (.slice aX nS cX)) 33 (0, 0))) := (HG8.out.block q HP7.out.x.lt (fun e => by have := HP7.out.l.x2 q e.symm; rw [HP7.out.x.tag] at this; cases this)).trans HP7.out.x.box
         have g8 : w8.cell? ⟨q, 7, none⟩ = some (.slice aX nS cX) := cell_of_row _ _ 7 _ _ _ HQ8.out
         have k8 : w8.frozen? ⟨q, 7, none⟩ = false := frozen_of_row _ _ 7 _ _ HQ8.out
         clear hown6 hgrow6 hat6))
    have HEnd : Hid (Ws4 base (w8.setCell ⟨q, 7, none⟩ (.slice a8 n8 c8)) q (n + 1) ∧ Below base w (w8.setCell ⟨q, 7, none⟩ (.slice a8 n8 c8))) := by
      obtain ⟨x1, x2, x3, x4, x5⟩ := HX7.out
      obtain ⟨y1, y2, y3, y4, y5, y6, y7⟩ := HLL.out
      have h9 := HP7.out.pushX HG8.out HO8.out HA8.out (by rw [HxN.out.1]; exact x1) x2 (by rw [HxN.out.2]; exact x1) x2
      have k1 : Kg (fun x => x = 6) own7 w7 w8 := Kg.grown HG8.out HP7.out.l.x2
      have hq : tg own7 w7 6 q = 1 := (tg_old HP7.out.x.lt).trans HP7.out.x.tag
      have k2 : Kg (fun x => x = 1) (tg own7 w7 6) w8 (w8.setCell ⟨q, 7, none⟩ (.slice a8 n8 c8)) := Kg.cell hq
      have hs1 := k1.size
      have hs2 := k2.size
      have z8 : ∀ g, g < base → tg own7 w7 6 g = 0 := fun g hg => (tg_old (by omega)).trans (x3 g hg)
      have b1 : Below base w7 w8 := ⟨HG8.out.os, HG8.out.tape, HG8.out.output, HG8.out.size, fun g hg => k1.same g (by omega) (by rw [x3 g hg]; decide)⟩
      have b2 : Below base w8 (w8.setCell ⟨q, 7, none⟩ (.slice a8 n8 c8)) := ⟨rfl, rfl, rfl, k2.size, fun g hg => k2.same g (by omega) (by rw [z8 g hg]; decide)⟩
      refine ⟨⟨_, B, R, b, P, vr, vw, .slice a6 n6 c6, .slice a8 n8 c8, rs, ws, _, _, C, _, h9, y2, by simp [y6], by omega, by simp; omega, y4, fun j => ?_, z8, by omega⟩, (x5.trans b1).trans b2⟩
      by_cases e : j < ss.length
      · rw [nx_old e]; exact y5 j
      · rw [nx_new (by omega)]; exact y1
    obtain ⟨w9, hw9⟩ : ∃ w9, w8.setCell ⟨q, 7, none⟩ (.slice a8 n8 c8) = w9 := ⟨_, rfl⟩
    rw [hw9] at HEnd ⊢
    clear HG8 HO8 HA8 HQ8 g8 k8 HP7 HX7 hw9 e7
    go_wp2
    go_ret
    exact ⟨rfl, HEnd.out⟩

end Go.Proofs.YthkphihgdklbbaaDoor.C
