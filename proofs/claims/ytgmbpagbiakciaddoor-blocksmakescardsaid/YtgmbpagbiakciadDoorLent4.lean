import Derived.Test.YtgmbpagbiakciadDoorNums
import Derived.Test.YtgmbpagbiakciadDoorCur
import Derived.Test.YtgmbpagbiakciadDoorRead
namespace Go.Proofs.YtgmbpagbiakciadDoor
open Go.RowKit

theorem Tryd.size_u8 : (Tryd.prog.info? 5).map (·.size) = some 1 := by kernel_rfl

/-- Bytes in a list of their own, nine marks behind them. -/
def marked (zs : List Int) : List Int := zs ++ List.replicate 9 201
theorem marked_length (zs : List Int) : (marked zs).length = zs.length + 9 := by simp [marked]

theorem made_eq (n : Nat) : (madeCells (Value.cells (.int .u8 0)) (n * 1)).toList = (List.replicate n (0 : Int)).map (Value.int .u8) := by
  simp [madeCells, Value.cells, Nat.mod_one, List.map_const']

theorem own_full {w : World} {base n g : Nat} {e : TypeId} {xs : List Value} (h : w.ownsRow base e 1 (.slice (some ⟨g, 0, none⟩) n n) n xs) : w.heap[g]? = some (.cells xs.toArray e (0, 0)) := by
  obtain ⟨_, ⟨hv, _⟩ | ⟨g', cap, cur, hv, _, hg, _, _, hs, ht⟩⟩ := h
  · cases hv
  · simp only [Value.slice.injEq, Option.some.injEq, Addr.mk.injEq, and_true, true_and] at hv
    obtain ⟨rfl, rfl⟩ := hv
    rw [List.take_of_length_le (by simp; omega)] at ht
    rw [hg, ← ht]

theorem mark_step (zs : List Int) (j : Nat) (h : j < 9) : (zs ++ (List.replicate j 201 ++ List.replicate (9 - j) 0)).set (zs.length + j) 201 = zs ++ (List.replicate (j + 1) 201 ++ List.replicate (9 - (j + 1)) 0) := by
  rw [List.set_append_right _ _ (by omega), show zs.length + j - zs.length = j from by omega, List.set_append_right _ _ (by simp)]
  obtain ⟨m, hm⟩ : ∃ m, 9 - j = m + 1 := ⟨8 - j, by omega⟩
  rw [hm, show 9 - (j + 1) = m from by omega, List.length_replicate, Nat.sub_self, List.replicate_succ, List.set_cons_zero, List.replicate_succ' (n := j)]
  simp

theorem splice_zero (zs : List Int) (len : Nat) (hl : zs.length = len) : splice ((List.replicate (len + 9) (0 : Int)).map (Value.int .u8)) 0 (zs.map (Value.int .u8)) = (zs ++ (List.replicate 0 201 ++ List.replicate (9 - 0) 0)).map (Value.int .u8) := by
  subst hl
  simp [splice, show zs.length + 9 - zs.length = 9 from by omega]

set_option maxRecDepth 100000 in
set_option maxHeartbeats 1000000 in
theorem lent_any (a : Option Addr) (zs : List Int) (len cap : Nat) (w : World) (hl : zs.length = len) (hm : len ≤ 140737488355328) (hc : Lies .u8 w a zs) :
    Calls Tryd.prog 17 #[.slice a len cap] w fun e w' => e = .returned (.slice (some ⟨w.heap.size, 0, none⟩) (len + 9) (len + 9)) ∧
      Blk .u8 w' w.heap.size 5 (marked zs) ∧ Below w.heap.size w w' := by
  obtain ⟨i0, hi, hz0, hz1, hz2⟩ := info_parts Tryd.info_u8
  go_enter Tryd.func17, Tryd.ntmps17
  have hcs : Hid (∀ W : World, Below w.heap.size w W → 0 < (zs.map (Value.int .u8)).length → (some ⟨w.heap.size, 0, none⟩ : Option Addr) = some ⟨w.heap.size, 0, none⟩ ∧ ∃ ad, a = some ad ∧ ∀ j v, (zs.map (Value.int .u8))[j]? = some v → W.cell? (ad.add j) = some v) := by
    intro W hW hp
    refine ⟨rfl, ?_⟩
    rcases hc.below hW with rfl | ⟨b, off, rfl, h⟩
    · simp at hp
    · refine ⟨_, rfl, fun j v hj => ?_⟩
      have hjl : j < zs.length := by
        rcases Nat.lt_or_ge j zs.length with q | q
        · exact q
        · rw [List.getElem?_eq_none (by simpa using q)] at hj; cases hj
      rw [List.getElem?_map, List.getElem?_eq_getElem hjl] at hj
      simp only [Option.map_some, Option.some.injEq] at hj
      rw [show (⟨b, off, none⟩ : Addr).add j = ⟨b, off + j, none⟩ from by unfold Addr.add; split <;> simp_all, h j hjl, ← hj]
      simp [List.getD_eq_getElem?_getD, List.getElem?_eq_getElem hjl]
  go_wp2_with (first
    | (at_make; refine wpList_make_full _ rfl _ _ 47 rfl w.heap.size 5 i0 (.int .u8 0) 1 Tryd.underlying47 hi hz0 hz1 .i64 .i64 _ _ (len + 9) rfl rfl (by omega) (by omega) (by rw [hz2]; omega) (by unfold maxLen; omega) (Nat.le_refl _) ?_; intro w1 hown hgrow; have hb1 : Below w.heap.size w w1 := (Below.refl _ _).grown hgrow (Nat.le_refl _) (by intro j hj; cases hj); have hg1 : Hid (w1.heap[w.heap.size]? = some (.cells ((List.replicate (len + 9) (0 : Int)).map (Value.int .u8)).toArray 5 (0, 0))) := by { rw [made_eq] at hown; exact own_full hown }; clear hown hgrow)
    | (refine wpList_copy_splice rfl (.tmp 9) (.tmp 10) 47 47 rfl 5 Tryd.underlying47 Tryd.size_u8 _ _ _ _ _ _ rfl rfl w.heap.size 0 _ 5 hg1.out (zs.map (Value.int .u8)) (by simp; omega) (hcs.out w1 hb1) (by simp; omega) (by intro v hv; simp at hv; obtain ⟨x, _, rfl⟩ := hv; rfl) w.heap.size w hb1 (Nat.le_refl _) ?_; intro w2 hg2 hb2; clear hb1 hg1))
  have hblk : Blk .u8 w2 w.heap.size 5 (zs ++ (List.replicate 0 201 ++ List.replicate (9 - 0) 0)) := by
    have := hg2.out; rw [splice_zero zs len hl] at this; exact this
  clear hg2 hcs
  have hlz : Hid (zs.length = len) := hl
  clear hl hc
  go_loopw [4] (fun i wr => ∃ j : Nat, i = .int .i64 ((len + j : Nat) : Int) ∧ j ≤ 9 ∧ Blk .u8 wr w.heap.size 5 (zs ++ (List.replicate j 201 ++ List.replicate (9 - j) 0)) ∧ Below w.heap.size w wr) (fun i _ => len + 9 - (intOf i).toNat)
  case atStart => exact ⟨0, rfl, by omega, hblk, hb2⟩
  case round =>
    obtain ⟨j, rfl, hj, hbk, hbel⟩ := hrel
    clear hblk hb2
    have hfr := hbk.frozen (len + j)
    by_cases hlt : j < 9
    · have hce := hbk.cell (len + j) (by have := hlz.out; simp; omega)
      have hst := hbk.set (len + j) 201
      rw [← hlz.out, mark_step zs j hlt, hlz.out] at hst
      have hb3 := hbel.setCell (p := ⟨w.heap.size, len + j, none⟩) (Nat.le_refl _) (.int .u8 201)
      have HS : Hid (Blk .u8 (wr.setCell ⟨w.heap.size, len + j, none⟩ (.int .u8 201)) w.heap.size 5 (zs ++ (List.replicate (j + 1) 201 ++ List.replicate (9 - (j + 1)) 0))) := hst
      have HB : Hid (Below w.heap.size w (wr.setCell ⟨w.heap.size, len + j, none⟩ (.int .u8 201))) := hb3
      clear hst hb3 hbk hbel
      generalize (zs ++ (List.replicate j 201 ++ List.replicate (9 - j) 0)).getD (len + j) 0 = x at hce
      have hi1 : ((len + j : Nat) : Int) < ((len + 9 : Nat) : Int) := by omega
      go_wp2
      go_roundw
      case rel => exact ⟨j + 1, by go_num, by omega, HS.out, HB.out⟩
      case measure => simp [intOf]; omega
    · have hj9 : j = 9 := by omega
      subst hj9
      have HS : Hid (Blk .u8 wr w.heap.size 5 (marked zs)) := by unfold Hid; simpa [marked] using hbk
      have HB : Hid (Below w.heap.size w wr) := hbel
      clear hbk hbel
      go_wp2
      go_ret
      exact ⟨rfl, HS.out, HB.out⟩

def xr (c : Int) : Int := bits .xor .u8 c 33
theorem xr_all : ∀ n : Fin 256, 0 ≤ xr (n.val : Int) ∧ xr (n.val : Int) ≤ 255 := by decide +kernel
theorem xr_byte {c : Int} (h : 0 ≤ c ∧ c ≤ 255) : 0 ≤ xr c ∧ xr c ≤ 255 := by
  have := xr_all ⟨c.toNat, by omega⟩
  simp only at this
  rw [show ((c.toNat : Nat) : Int) = c by omega] at this
  exact this
/-- What 'back' leaves in the list. -/
def halved (cs : List Int) : List Int := cs.map xr
theorem halved_length (cs : List Int) : (halved cs).length = cs.length := by simp [halved]

theorem marked_bytes {zs : List Int} (h : Bytey zs) : Bytey (marked zs) := by
  intro z hz
  rw [marked, List.mem_append, List.mem_replicate] at hz
  rcases hz with hz | ⟨_, rfl⟩
  · exact h z hz
  · omega

theorem getD_bytes {cs : List Int} (h : Bytey cs) (k : Nat) (hk : k < cs.length) : 0 ≤ cs.getD k 0 ∧ cs.getD k 0 ≤ 255 := by
  rw [List.getD_eq_getElem?_getD, List.getElem?_eq_getElem hk]; exact h _ (List.getElem_mem hk)

theorem halved_bytes {cs : List Int} (h : Bytey cs) : Bytey (halved cs) := by
  intro z hz
  rw [halved, List.mem_map] at hz
  obtain ⟨x, hx, rfl⟩ := hz
  exact xr_byte (h x hx)

set_option maxRecDepth 100000 in
set_option maxHeartbeats 1000000 in
theorem back_any (g : Nat) (a : Option Addr) (zs : List Int) (len n cap : Nat) (w : World) (hb : Bytey zs) (hl : zs.length = len) (hn : n = len + 9) (hm : len ≤ 140737488355328) (hc : Lies .u8 w a zs) (hsep : zs ≠ [] → ∀ b off, a = some ⟨b, off, none⟩ → b ≠ g)
    (hg : Blk .u8 w g 5 (marked zs)) :
    Calls Tryd.prog 19 #[.slice (some ⟨g, 0, none⟩) n n, .slice a len cap] w fun e w' => e = .returned (.bool true) ∧
      Blk .u8 w' g 5 (halved (marked zs)) ∧ w.grownBy w' (some g) := by
  have hlen := marked_length zs
  have HM : Hid ((marked zs).length = n) := by unfold Hid; omega
  have HL : Hid (zs.length = len) := hl
  have HB : Hid (Bytey (marked zs)) := marked_bytes hb
  have HC : Hid (Lies .u8 w a zs) := hc
  have HP : Hid (zs ≠ [] → ∀ b off, a = some ⟨b, off, none⟩ → b ≠ g) := hsep
  have HN : Hid (n = len + 9) := hn
  have HG : Hid (Blk .u8 w g 5 (marked zs)) := hg
  have hn2 : n ≤ 140737488355337 := by omega
  clear hlen hl hb hc hsep hn hg
  go_enter Tryd.func19, Tryd.ntmps19
  go_wp2
  go_loopw [5, 6] (fun ok i wr => ∃ k : Nat, k ≤ n ∧ i = .int .i64 k ∧ ok = .bool true ∧ Blk .u8 wr g 5 (((marked zs).take k).map xr ++ (marked zs).drop k) ∧ w.grownBy wr (some g)) (fun _ i _ => n - (intOf i).toNat)
  case atStart => exact ⟨0, Nat.zero_le _, rfl, rfl, by simpa using HG.out, World.grownBy.refl _ _⟩
  case round =>
    obtain ⟨k, hk, rfl, rfl, hbk, hgr⟩ := hrel
    clear HG
    have HW : Hid (w.grownBy wr (some g)) := hgr
    clear hgr
    have hfr := hbk.frozen k
    by_cases hlt : k < n
    · have hk1 : k < (marked zs).length := by have := HM.out; omega
      have hce := hbk.cell k (by have := HM.out; simp; omega)
      rw [halve_at _ _ k hk1] at hce
      have hst := hbk.set k (xr ((marked zs).getD k 0))
      rw [halve_step (marked zs) xr k hk1] at hst
      have HS : Hid (Blk .u8 (wr.setCell ⟨g, k, none⟩ (.int .u8 (xr ((marked zs).getD k 0)))) g 5 (((marked zs).take (k + 1)).map xr ++ (marked zs).drop (k + 1))) := hst
      have hxb := getD_bytes HB.out k hk1
      clear hst hbk
      obtain ⟨hx0, hx1⟩ := hxb
      have hi1 : (k : Int) < (n : Int) := by omega
      by_cases hz : k < len
      · have hkz : k < zs.length := by have := HL.out; omega
        have HE : Hid (zs.getD k 0 = (marked zs).getD k 0) := by unfold Hid marked; rw [getD_append_left' _ _ _ hkz]
        obtain ⟨b, off, ha, hcz⟩ : ∃ b off, a = some ⟨b, off, none⟩ ∧ wr.cell? ⟨b, off + k, none⟩ = some (.int .u8 ((marked zs).getD k 0)) := by
          rcases HC.out with h0 | ⟨b, off, ha, h⟩
          · rw [h0] at hkz; simp at hkz
          · exact ⟨b, off, ha, HW.out.cell ((h k hkz).trans (by rw [HE.out])) (fun e => HP.out (fun h0 => by rw [h0] at hkz; simp at hkz) b off ha (by simpa using e))⟩
        subst ha
        generalize (marked zs).getD k 0 = x at hce hcz hx0 hx1 HS
        have hi2 : (k : Int) < (len : Int) := by omega
        have hxr : bits BinOp.xor IntKind.u8 x 33 = xr x := rfl
        go_wp2
        go_roundw
        case rel => exact ⟨k + 1, by omega, by go_num, rfl, HS.out, grown_trans HW.out (grown_set _ _ _ _)⟩
        case measure => simp [intOf]; omega
      · have HE : Hid ((marked zs).getD k 0 = 201) := by unfold Hid marked; have := HL.out; have := HN.out; exact getD_repl zs 9 201 k (by omega) (by omega)
        rw [HE.out] at hce HS
        clear hx0 hx1
        have hi2 : (len : Int) ≤ (k : Int) := by omega
        have hxr : bits BinOp.xor IntKind.u8 201 33 = xr 201 := rfl
        go_wp2
        go_roundw
        case rel => exact ⟨k + 1, by omega, by go_num, rfl, HS.out, grown_trans HW.out (grown_set _ _ _ _)⟩
        case measure => simp [intOf]; omega
    · have hkn : k = n := by omega
      have HS : Hid (Blk .u8 wr g 5 (halved (marked zs))) := by
        have e := HM.out
        rw [List.take_of_length_le (by omega), List.drop_eq_nil_of_le (by omega), List.append_nil] at hbk
        exact hbk
      clear hbk hfr
      go_wp2
      go_ret
      exact ⟨rfl, HS.out, HW.out⟩

theorem marked_take (zs : List Int) (len : Nat) (h : zs.length = len) : (marked zs).take len = zs := by
  subst h; simp [marked]

theorem Lies.apart {k : IntKind} {w : World} {a : Option Addr} {zs : List Int} (h : Lies k w a zs) {g : Nat} (hg : w.heap.size ≤ g) : zs ≠ [] → ∀ b off, a = some ⟨b, off, none⟩ → b ≠ g := by
  intro hz b off ha
  rcases h with h0 | ⟨b', off', ha', h⟩
  · exact absurd h0 hz
  · rw [ha] at ha'
    simp only [Option.some.injEq, Addr.mk.injEq, and_true] at ha'
    have := Lies.block h hz
    omega

end Go.Proofs.YtgmbpagbiakciadDoor
