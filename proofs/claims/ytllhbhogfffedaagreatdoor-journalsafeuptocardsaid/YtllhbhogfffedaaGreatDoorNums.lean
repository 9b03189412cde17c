import Derived.Test.YtllhbhogfffedaaGreatDoorChecked
import Derived.Test.YtllhbhogfffedaaGreatDoorLen
import Derived.WalkKit
import Derived.WalkSpells
import Derived.WalkLawsBesides
import Derived.Laws.BitsAllLaws
import Derived.Test.YtllhbhogfffedaaGreatDoorRead
import Derived.Test.YtllhbhogfffedaaGreatDoorMath
import Derived.Laws.Bits64
namespace Go.Proofs.YtllhbhogfffedaaGreatDoor
open Go.RowKit

theorem or_one (n : Int) (h0 : 0 ≤ n) (h1 : n ≤ 18446744073709551615) : bits .or .u64 n 1 = ((Nat.lor n.toNat 1 : Nat) : Int) := by
  rw [u64_or n 1 h0 (by omega) (by omega) (by omega)]; rfl
theorem or_one_lt (n : Int) (h0 : 0 ≤ n) (h1 : n ≤ 18446744073709551615) : ((Nat.lor n.toNat 1 : Nat) : Int) ≤ 18446744073709551615 := by
  rw [lor_one]; omega

set_option maxHeartbeats 400000 in
theorem size_any (n : Int) (w : World) (h0 : 0 ≤ n) (h1 : n ≤ 18446744073709551615) :
    Calls Tryz.prog 140 #[.int .u64 n] w fun e w' => e = .returned (.int .i64 (sz n)) ∧ w = w' := by
  have ho := or_one n h0 h1
  have hl := or_one_lt n h0 h1
  have hb : Lib.bitLen (Nat.lor n.toNat 1) ≤ 64 := Lib.bitLen_le _ 64 (Nat.le_refl _) (by omega)
  have hn : (0 : Int) ≤ ((Nat.lor n.toNat 1 : Nat) : Int) := by omega
  have hs : Hid ((sz n : Int) = ((Lib.bitLen (Nat.lor n.toNat 1) : Int) + 6) / 7) := by unfold Hid sz; omega
  generalize Nat.lor n.toNat 1 = y at ho hl hb hn hs
  go_enter Tryz.func140, Tryz.ntmps140
  go_wp2_with (go_at_call 142; refine (len64_any _ _ hn hl).mono ?_; rintro e w' ⟨rfl, rfl⟩)
  go_ret
  refine ⟨congrArg Ending.returned (congrArg (Value.int IntKind.i64) ?_), rfl⟩
  rw [hs.out]; omega

theorem pow7 (k : Nat) : (2 : Int) ^ (7 * k) = 128 ^ k := by rw [Int.pow_mul]; rfl

theorem hi_digit (n : Int) (k : Nat) (h0 : 0 ≤ n) : bits .or .u8 (n / 2 ^ (7 * k) % 256) 128 = n / 128 ^ k % 128 + 128 := by
  rw [pow7]
  have hq : 0 ≤ n / 128 ^ k := Int.ediv_nonneg h0 (Int.pow_nonneg (by omega))
  generalize n / 128 ^ k = q at hq ⊢
  rw [u8_or _ _ (by omega) (by omega) (by omega) (by omega)]
  obtain ⟨x, hx⟩ : ∃ x : Nat, q = x := ⟨q.toNat, by omega⟩
  subst hx
  have e : (((x : Int) % 256).toNat ||| (128 : Int).toNat) = x % 128 + 128 := by
    rw [show ((x : Int) % 256).toNat = x % 256 from by omega, show (128 : Int).toNat = 2 ^ 7 from rfl]
    by_cases hb : x % 256 < 128
    · rw [Nat.or_comm, nat_join 7 (2 ^ 7) (x % 256) (by omega) (by omega)]; omega
    · rw [show x % 256 = 2 ^ 7 ||| (x % 128) from by rw [nat_join 7 (2 ^ 7) (x % 128) (by omega) (by omega)]; omega]
      rw [Nat.or_comm, ← Nat.or_assoc, Nat.or_self, nat_join 7 (2 ^ 7) (x % 128) (by omega) (by omega)]; omega
  rw [e]; omega

theorem lo_digit (n : Int) (h0 : 0 ≤ n) : bits .andNot .u8 (n % 256) 128 = n % 128 := by
  rw [u8_andNot _ _ (by omega) (by omega) (by omega) (by omega)]
  obtain ⟨x, hx⟩ : ∃ x : Nat, n = x := ⟨n.toNat, by omega⟩
  subst hx
  rw [show ((x : Int) % 256).toNat = x % 256 from by omega, show 255 - (128 : Int).toNat = 127 from rfl, nat_mask7]
  omega

theorem Tryz.info_u8 : (Tryz.prog.info? 5).map (fun i => (i.zero, i.size, i.bytes)) = some (some (.int .u8 0), 1, 1) := by kernel_rfl

set_option maxHeartbeats 400000 in
theorem put_any (v : Value) (m : Nat) (xs : List Value) (base : Nat) (n : Int) (w : World) (h0 : 0 ≤ n) (h1 : n ≤ 18446744073709551615)
    (hown : w.ownsRow base 5 1 v m xs) (hbase : base ≤ w.heap.size) (hm : m + 10 ≤ 140737488355328) :
    Calls Tryz.prog 138 #[v, .int .u64 n] w fun e w' => ∃ g cap, e = .returned (.slice (some ⟨g, 0, none⟩) (m + sz n) cap) ∧
      w'.ownsRow base 5 1 (.slice (some ⟨g, 0, none⟩) (m + sz n) cap) (m + sz n) (xs ++ (enc n).map (Value.int .u8)) ∧ Below base w w' := by
  have hs := sz_bounds n h0 h1
  obtain ⟨hs1, hs2, hs3, hs4⟩ := hs
  clear hs3 hs4
  obtain ⟨i0, hi, hz0, hz1, hz2⟩ := info_parts Tryz.info_u8
  go_enter Tryz.func138, Tryz.ntmps138
  go_wp2_with (go_at_call 140; refine (size_any _ _ (by omega) (by omega)).mono ?_; rintro e w' ⟨rfl, rfl⟩)
  go_loopw [0, 5] (fun v' i wr => ∃ k : Nat, ∃ pre : List Int, i = .int .i64 k ∧ k ≤ 9 ∧ k + pre.length + 1 = sz n ∧ pre ++ tl n k = enc n ∧ wr.ownsRow base 5 1 v' (m + pre.length) (xs ++ pre.map (Value.int .u8)) ∧ Below base w wr) (fun _ i _ => (intOf i).toNat)
  case atStart => exact ⟨sz n - 1, [], by go_num, by omega, by simp; omega, rfl, by simpa using hown, Below.refl _ _⟩
  case round =>
    obtain ⟨k, pre, rfl, hk, hlen, hpre, hown', hbel⟩ := hrel
    have hpre' : Hid (pre ++ tl n k = enc n) := hpre
    have hlen' : Hid (k + pre.length + 1 = sz n) := hlen
    have hpl : pre.length ≤ 9 := by omega
    clear hpre hlen hown
    have hsz := hbel.size
    by_cases hz : 0 < k
    · have hz' : (0 : Int) < (k : Int) := by omega
      have h7 : (7 * (k : Int)) ≤ 63 := by omega
      go_wp2_with (at_builtin; refine wpList_append_own _ rfl _ _ 35 rfl base 5 i0 (.int .u8 0) 1 1 Tryz.underlying35 hi hz0 hz1 hz2 rfl (by decide) _ _ _ rfl (hown'.alloc _) ⟨wr.heap.size, 0, none⟩ 1 1 [.int .u8 (bits BinOp.or IntKind.u8 (n / 2 ^ (7 * k) % 256) 128)] rfl rfl ?c1 ?c2 ?c3 ?c4 ?c5 ?_)
      case c1 => exact cell_one_new _ _ _
      case c2 => intro u hu; simp at hu; subst hu; rfl
      case c3 => unfold maxLen; omega
      case c4 => omega
      case c5 => simp; omega
      intro v' w1 hown1 hgrow _
      have hb1 : Below base w w1 := (hbel.alloc (by omega) _).grown hgrow (by simp; omega) (by intro j hj; obtain ⟨_, _ | ⟨g, cap, cur, hv, hg, _⟩⟩ := hown' <;> simp_all [Value.ownBlock])
      rw [hi_digit n k h0] at hown1
      clear hown' hbel hgrow hsz
      go_wp2
      go_roundw
      case rel =>
        obtain ⟨k, rfl⟩ : ∃ k', k = k' + 1 := ⟨k - 1, by omega⟩
        refine ⟨k, pre ++ [n / 128 ^ (k + 1) % 128 + 128], by go_num, by omega, by have := hlen'.out; simp; omega, by have := hpre'.out; simpa [tl] using this, ?_, hb1⟩
        simpa [Nat.add_assoc] using hown1
      case measure => simp [intOf]; omega
    · have hk0 : k = 0 := by omega
      subst hk0
      go_wp2_with (at_builtin; refine wpList_append_own _ rfl _ _ 35 rfl base 5 i0 (.int .u8 0) 1 1 Tryz.underlying35 hi hz0 hz1 hz2 rfl (by decide) _ _ _ rfl (hown'.alloc _) ⟨wr.heap.size, 0, none⟩ 1 1 [.int .u8 (bits BinOp.andNot IntKind.u8 (n % 256) 128)] rfl rfl ?e1 ?e2 ?e3 ?e4 ?e5 ?_)
      case e1 => exact cell_one_new _ _ _
      case e2 => intro u hu; simp at hu; subst hu; rfl
      case e3 => unfold maxLen; omega
      case e4 => omega
      case e5 => simp; omega
      intro v' w1 hown1 hgrow _
      have hb1 : Below base w w1 := (hbel.alloc (by omega) _).grown hgrow (by simp; omega) (by intro j hj; obtain ⟨_, _ | ⟨g, cap, cur, hv, hg, _⟩⟩ := hown' <;> simp_all [Value.ownBlock])
      rw [lo_digit n h0] at hown1
      clear hown' hbel hgrow hsz
      have hend : ∃ g cap, v' = .slice (some ⟨g, 0, none⟩) (m + sz n) cap ∧ w1.ownsRow base 5 1 (.slice (some ⟨g, 0, none⟩) (m + sz n) cap) (m + sz n) (xs ++ (enc n).map (Value.int .u8)) := by
        have e1 : m + pre.length + 1 = m + sz n := by have := hlen'.out; omega
        have e2 : enc n = pre ++ [n % 128] := hpre'.out.symm
        rw [e1] at hown1
        rw [e2, List.map_append]
        obtain ⟨hl, ⟨_, h⟩ | ⟨g, cap, cur, hv, r⟩⟩ := hown1
        · omega
        · subst hv
          exact ⟨g, cap, rfl, hl, .inr ⟨g, cap, cur, rfl, r⟩⟩
      obtain ⟨g, cap, hv, hown2⟩ := hend
      subst hv
      go_wp2
      go_ret
      exact ⟨g, cap, rfl, hown2, hb1⟩

set_option maxHeartbeats 400000 in
theorem bytes_any (n : Int) (w : World) (h0 : 0 ≤ n) (h1 : n ≤ 18446744073709551615) :
    Calls Tryz.prog 135 #[.int .u64 n] w fun e w' => ∃ g cap, e = .returned (.slice (some ⟨g, 0, none⟩) (sz n) cap) ∧
      w'.ownsRow w.heap.size 5 1 (.slice (some ⟨g, 0, none⟩) (sz n) cap) (sz n) ((enc n).map (Value.int .u8)) ∧ Below w.heap.size w w' := by
  go_enter Tryz.func135, Tryz.ntmps135
  go_wp2_with (go_at_call 138; refine (put_any (.slice none 0 0) 0 [] w.heap.size n w h0 h1 (World.ownsRow_nil _ _ _ _) (Nat.le_refl _) (by omega)).mono ?_; rintro e w' ⟨g, cap, rfl, hown, hb⟩)
  go_ret
  simp only [Nat.zero_add, List.nil_append] at hown
  exact ⟨g, cap, by simp, hown, hb⟩

end Go.Proofs.YtllhbhogfffedaaGreatDoor

namespace Go.Proofs.YtllhbhogfffedaaGreatDoor
open Go.RowKit

theorem own_shape {w : World} {base n sz : Nat} {e : TypeId} {v : Value} {xs : List Value} (h : w.ownsRow base e sz v n xs) : ∃ a cap, v = .slice a n cap := by
  obtain ⟨_, ⟨rfl, rfl⟩ | ⟨g, cap, cur, rfl, _⟩⟩ := h
  · exact ⟨none, 0, rfl⟩
  · exact ⟨_, cap, rfl⟩

theorem own_lies {w : World} {base n cap : Nat} {e : TypeId} {a : Option Addr} {k : IntKind} {xs : List Int} (h : w.ownsRow base e 1 (.slice a n cap) n (xs.map (Value.int k))) : Lies k w a xs ∧ xs.length = n := by
  have hl : xs.length = n := by have := h.1; simpa using this
  refine ⟨?_, hl⟩
  obtain ⟨_, ⟨_, h0⟩ | ⟨g, cap', cur, hv, hb, hg, hn, hm, hs, ht⟩⟩ := id h
  · exact .inl (List.eq_nil_of_length_eq_zero (by omega))
  · simp only [Value.slice.injEq] at hv
    obtain ⟨rfl, _, rfl⟩ := hv
    refine .inr ⟨g, 0, rfl, fun i hi => ?_⟩
    rw [Nat.zero_add, h.cellAt i (by omega), List.getElem?_map, List.getD_eq_getElem?_getD, List.getElem?_eq_getElem hi]
    rfl

theorem own_grown {w0 w w' : World} {base n sz : Nat} {e : TypeId} {v : Value} {xs : List Value} (hb : Below base w0 w) (hg : w.grownBy w' v.ownBlock) (h : w.ownsRow base e sz v n xs) (hs : base ≤ w.heap.size) : Below base w0 w' :=
  hb.grown hg hs (fun j hj => (h.lt j hj).1)

end Go.Proofs.YtllhbhogfffedaaGreatDoor

namespace Go.Proofs.YtllhbhogfffedaaGreatDoor

/-- One shift of the register. -/
def cst (c : Nat) : Nat := if c % 2 = 1 then (c / 2) ^^^ 3988292384 else c / 2
/-- Some shifts. -/
def cit : Nat → Nat → Nat
  | 0, c => c
  | n + 1, c => cit n (cst c)
/-- The register behind some bytes. -/
def crc : Nat → List Int → Nat
  | c, [] => c
  | c, z :: l => crc (cit 8 (c ^^^ z.toNat)) l

theorem cst_lt {c : Nat} (h : c < 4294967296) : cst c < 4294967296 := by
  unfold cst
  split
  · have : (c / 2) ^^^ 3988292384 < 2 ^ 32 := Nat.xor_lt_two_pow (by omega) (by omega)
    omega
  · omega
theorem cit_lt : ∀ (n : Nat) {c : Nat}, c < 4294967296 → cit n c < 4294967296
  | 0, _, h => h
  | n + 1, _, h => cit_lt n (cst_lt h)
theorem cit_succ : ∀ (n : Nat) (c : Nat), cit (n + 1) c = cst (cit n c)
  | 0, _ => rfl
  | n + 1, c => by
    show cit (n + 1) (cst c) = cst (cit n (cst c))
    exact cit_succ n (cst c)
theorem xb_lt {c : Nat} {z : Int} (hc : c < 4294967296) (hz : z.toNat < 256) : c ^^^ z.toNat < 4294967296 := by
  have : c ^^^ z.toNat < 2 ^ 32 := Nat.xor_lt_two_pow (by omega) (by omega)
  omega
theorem crc_lt : ∀ (l : List Int) {c : Nat}, (∀ z ∈ l, z.toNat < 256) → c < 4294967296 → crc c l < 4294967296
  | [], _, _, h => h
  | z :: l, _, hl, h => crc_lt l (fun y hy => hl y (List.mem_cons_of_mem _ hy)) (cit_lt 8 (xb_lt h (hl z (List.mem_cons_self ..))))
theorem crc_snoc : ∀ (l : List Int) (c : Nat) (z : Int), crc c (l ++ [z]) = cit 8 (crc c l ^^^ z.toNat)
  | [], _, _ => rfl
  | y :: l, c, z => crc_snoc l (cit 8 (c ^^^ y.toNat)) z
/-- The sum of some bytes. -/
def crs (l : List Int) : Nat := crc 4294967295 l ^^^ 4294967295
theorem crs_lt {l : List Int} (hl : ∀ z ∈ l, 0 ≤ z ∧ z ≤ 255) : crs l < 4294967296 := by
  have h1 := crc_lt (c := 4294967295) l (fun z hz => by have := hl z hz; omega) (by omega)
  have : crs l < 2 ^ 32 := Nat.xor_lt_two_pow (by omega) (by omega)
  omega
/-! ## How the program and the document reckon it. -/
theorem wrap_u32 (n : Int) : IntKind.u32.wrap n = n % 4294967296 := by simp [IntKind.wrap, IntKind.bits, IntKind.signed]
theorem ofInt32 {a : Nat} (h : a < 4294967296) : (BitVec.ofInt 32 (a : Int)).toNat = a := by
  rw [BitVec.ofInt_natCast, BitVec.toNat_ofNat]; exact Nat.mod_eq_of_lt (by omega)
theorem xor_u32 {a b : Nat} (ha : a < 4294967296) (hb : b < 4294967296) : bits .xor .u32 (a : Int) (b : Int) = ((a ^^^ b : Nat) : Int) := by
  have hx : a ^^^ b < 2 ^ 32 := Nat.xor_lt_two_pow (by omega) (by omega)
  show IntKind.u32.wrap ((BitVec.ofInt 32 (a : Int) ^^^ BitVec.ofInt 32 (b : Int)).toNat : Int) = _
  rw [BitVec.toNat_xor, ofInt32 ha, ofInt32 hb, wrap_u32]
  omega
theorem and1_u32 {a : Nat} (ha : a < 4294967296) : bits .and .u32 (a : Int) 1 = ((a % 2 : Nat) : Int) := by
  show IntKind.u32.wrap ((BitVec.ofInt 32 (a : Int) &&& BitVec.ofInt 32 ((1 : Nat) : Int)).toNat : Int) = _
  rw [BitVec.toNat_and, ofInt32 ha, ofInt32 (by omega), wrap_u32, Nat.and_one_is_mod]
  omega
/-- A shift, as the program does it. -/
theorem shift_u32 {a : Nat} (ha : a < 4294967296) : bits .xor .u32 ((a : Int) / 2) (3988292384 * ((a : Int) % 2)) = ((cst a : Nat) : Int) := by
  have h1 : 3988292384 * ((a : Int) % 2) = ((3988292384 * (a % 2) : Nat) : Int) := by omega
  have h2 : ((a : Int) / 2) = ((a / 2 : Nat) : Int) := by omega
  rw [h1, h2, xor_u32 (by omega) (by omega)]
  unfold cst
  rcases Nat.mod_two_eq_zero_or_one a with h | h
  · rw [h, if_neg (by decide), Nat.mul_zero, Nat.xor_zero]
  · rw [h, if_pos rfl, Nat.mul_one]
/-- And as the document does. -/
theorem shift_odd {a : Nat} (ha : a < 4294967296) (h : a % 2 = 1) : bits .xor .u32 ((a : Int) / 2) 3988292384 = ((cst a : Nat) : Int) := by
  have h2 : ((a : Int) / 2) = ((a / 2 : Nat) : Int) := by omega
  have h3 := xor_u32 (a := a / 2) (b := 3988292384) (by omega) (by omega)
  rw [h2, show (3988292384 : Int) = ((3988292384 : Nat) : Int) from rfl, h3]
  unfold cst
  rw [if_pos h]
theorem shift_even {a : Nat} (h : ¬ a % 2 = 1) : (a : Int) / 2 = ((cst a : Nat) : Int) := by
  unfold cst
  rw [if_neg h]
  omega
end Go.Proofs.YtllhbhogfffedaaGreatDoor

namespace Go.Proofs.YtllhbhogfffedaaGreatDoor
open Go.RowKit

theorem byte_at {zs : List Int} {k : Nat} (hb : Bytey zs) (h : k < zs.length) : 0 ≤ zs.getD k 0 ∧ zs.getD k 0 ≤ 255 := by
  rw [List.getD_eq_getElem?_getD, List.getElem?_eq_getElem h]; exact hb _ (List.getElem_mem h)
theorem take_snoc' (l : List Int) (k : Nat) (h : k < l.length) : l.take (k + 1) = l.take k ++ [l.getD k 0] := by
  rw [List.take_add_one, List.getD_eq_getElem?_getD, List.getElem?_eq_getElem h]; rfl
theorem crc_byte {zs : List Int} {k : Nat} (hb : Bytey zs) : crc 4294967295 (zs.take k) < 4294967296 :=
  crc_lt _ (fun z hz => by have := hb z (List.mem_of_mem_take hz); omega) (by omega)
theorem xor_byte {x : Nat} {z : Int} (hx : x < 4294967296) (h0 : 0 ≤ z) (h1 : z ≤ 255) : bits .xor .u32 (x : Int) z = ((x ^^^ z.toNat : Nat) : Int) := by
  have := xor_u32 (a := x) (b := z.toNat) hx (by omega)
  rwa [Int.toNat_of_nonneg h0] at this

set_option maxHeartbeats 400000 in
theorem sum_some (b off : Nat) (zs : List Int) (cap : Nat) (w : World) (hb : Bytey zs) (hl : zs.length ≤ 140737488355328)
    (hc : ∀ i, i < zs.length → w.cell? ⟨b, off + i, none⟩ = some (.int .u8 (zs.getD i 0))) :
    Calls Tryz.prog 103 #[.slice (some ⟨b, off, none⟩) zs.length cap] w fun e w' => e = .returned (.int .u32 (crs zs : Nat)) ∧ w = w' := by
  have HB : Hid (Bytey zs) := hb
  clear hb
  go_enter Tryz.func103, Tryz.ntmps103
  go_wp2_with fail
  go_loop [3, 8] (fun c i => ∃ k : Nat, k ≤ zs.length ∧ i = .int .i64 k ∧ c = .int .u32 (crc 4294967295 (zs.take k) : Nat)) (fun _ i => zs.length - (intOf i).toNat)
  case atStart => exact ⟨0, Nat.zero_le _, rfl, rfl⟩
  case round =>
    obtain ⟨k, hk, rfl, rfl⟩ := hrel
    by_cases hlt : k < zs.length
    · have hcx := hc k hlt
      obtain ⟨hz0, hz1⟩ := byte_at HB.out hlt
      have HT : Hid (crc 4294967295 (zs.take (k + 1)) = cit 8 (crc 4294967295 (zs.take k) ^^^ (zs.getD k 0).toNat)) := by
        unfold Hid; rw [take_snoc' zs k hlt, crc_snoc]
      have hx := crc_byte (k := k) HB.out
      generalize crc 4294967295 (zs.take k) = x at *
      generalize zs.getD k 0 = z at *
      have hxz := xor_byte hx hz0 hz1
      have hy : x ^^^ z.toNat < 4294967296 := xb_lt hx (by omega)
      generalize x ^^^ z.toNat = y at *
      clear hc
      go_wp2_with fail
      go_loop [3, 16] (fun c i => ∃ j : Nat, j ≤ 8 ∧ i = .int .i64 j ∧ c = .int .u32 (cit j y : Nat)) (fun _ i => 8 - (intOf i).toNat)
      case atStart => exact ⟨0, Nat.zero_le _, rfl, rfl⟩
      case round =>
        obtain ⟨j, hj, rfl, rfl⟩ := hrel
        by_cases hj8 : j < 8
        · have hcy := cit_lt j hy
          have HC : Hid (cit (j + 1) y = cst (cit j y)) := cit_succ j y
          generalize cit j y = u at *
          have h1 := and1_u32 hcy
          have h2 := shift_u32 hcy
          go_wp2
          go_round
          case rel => exact ⟨j + 1, by omega, congrArg (Value.int IntKind.i64) (by omega), by rw [HC.out, ← h2]⟩
          case measure => simp [intOf]; omega
        · have he : j = 8 := by omega
          subst he
          go_wp2
          go_round
          case rel => exact ⟨k + 1, by omega, congrArg (Value.int IntKind.i64) (by omega), by rw [HT.out]⟩
          case measure => simp [intOf]; omega
    · have he : k = zs.length := by omega
      subst he
      have hx := crc_byte (k := zs.length) HB.out
      rw [List.take_length] at hx ⊢
      have HE : Hid (crs zs = crc 4294967295 zs ^^^ 4294967295) := rfl
      generalize crc 4294967295 zs = x at *
      have hxx := xor_u32 (a := 4294967295) (b := x) (by omega) hx
      rw [Nat.xor_comm] at hxx
      go_wp2
      go_ret
      exact ⟨congrArg (fun n => Ending.returned (Value.int IntKind.u32 n)) (hxx.trans (by rw [HE.out])), rfl⟩

set_option maxHeartbeats 400000 in
theorem sum_none (a : Option Addr) (cap : Nat) (w : World) :
    Calls Tryz.prog 103 #[.slice a 0 cap] w fun e w' => e = .returned (.int .u32 (crs [] : Nat)) ∧ w = w' := by
  go_enter Tryz.func103, Tryz.ntmps103
  go_wp2_with fail
  refine wp_loop_rounds 1 ?_
  rw [rounds_succ]
  go_wp2
  go_ret
  exact ⟨rfl, rfl⟩
theorem sum_any (a : Option Addr) (zs : List Int) (len cap : Nat) (w : World) (hb : Bytey zs) (hl : zs.length = len) (hm : len ≤ 140737488355328) (hc : Lies .u8 w a zs) :
    Calls Tryz.prog 103 #[.slice a len cap] w fun e w' => e = .returned (.int .u32 (crs zs : Nat)) ∧ w = w' := by
  subst hl
  rcases hc with rfl | ⟨b, off, rfl, hc⟩
  · exact sum_none a cap w
  · exact sum_some b off zs cap w hb hm hc

set_option maxHeartbeats 400000 in
theorem rsum_some (b off : Nat) (zs : List Int) (cap : Nat) (w : World) (hb : Bytey zs) (hl : zs.length ≤ 140737488355328)
    (hc : ∀ i, i < zs.length → w.cell? ⟨b, off + i, none⟩ = some (.int .u8 (zs.getD i 0))) :
    Calls Tryz.prog 53 #[.slice (some ⟨b, off, none⟩) zs.length cap] w fun e w' => e = .returned (.int .u32 (crs zs : Nat)) ∧ w = w' := by
  have HB : Hid (Bytey zs) := hb
  clear hb
  go_enter Tryz.func53, Tryz.ntmps53
  go_wp2_with fail
  go_loop [3, 4] (fun c i => ∃ k : Nat, k ≤ zs.length ∧ i = .int .i64 k ∧ c = .int .u32 (crc 4294967295 (zs.take k) : Nat)) (fun _ i => zs.length - (intOf i).toNat)
  case atStart => exact ⟨0, Nat.zero_le _, rfl, rfl⟩
  case round =>
    obtain ⟨k, hk, rfl, rfl⟩ := hrel
    by_cases hlt : k < zs.length
    · have hcx := hc k hlt
      obtain ⟨hz0, hz1⟩ := byte_at HB.out hlt
      have HT : Hid (crc 4294967295 (zs.take (k + 1)) = cit 8 (crc 4294967295 (zs.take k) ^^^ (zs.getD k 0).toNat)) := by
        unfold Hid; rw [take_snoc' zs k hlt, crc_snoc]
      have hx := crc_byte (k := k) HB.out
      generalize crc 4294967295 (zs.take k) = x at *
      generalize zs.getD k 0 = z at *
      have hxz := xor_byte hx hz0 hz1
      have hy : x ^^^ z.toNat < 4294967296 := xb_lt hx (by omega)
      generalize x ^^^ z.toNat = y at *
      clear hc
      go_wp2_with fail
      go_loop [3, 5] (fun c i => ∃ j : Nat, j ≤ 8 ∧ i = .int .i64 j ∧ c = .int .u32 (cit j y : Nat)) (fun _ i => 8 - (intOf i).toNat)
      case atStart => exact ⟨0, Nat.zero_le _, rfl, rfl⟩
      case round =>
        obtain ⟨j, hj, rfl, rfl⟩ := hrel
        by_cases hj8 : j < 8
        · have hcy := cit_lt j hy
          have HC : Hid (cit (j + 1) y = cst (cit j y)) := cit_succ j y
          generalize cit j y = u at *
          by_cases ho : u % 2 = 1
          · have ho' : (u : Int) % 2 = 1 := by omega
            have h2 := shift_odd hcy ho
            go_wp2
            go_round
            case rel => exact ⟨j + 1, by omega, congrArg (Value.int IntKind.i64) (by omega), by rw [HC.out, ← h2]⟩
            case measure => simp [intOf]; omega
          · have ho' : ¬ (u : Int) % 2 = 1 := by omega
            have h2 := shift_even ho
            go_wp2
            go_round
            case rel => exact ⟨j + 1, by omega, congrArg (Value.int IntKind.i64) (by omega), by rw [HC.out, ← h2]⟩
            case measure => simp [intOf]; omega
        · have he : j = 8 := by omega
          subst he
          go_wp2
          go_round
          case rel => exact ⟨k + 1, by omega, congrArg (Value.int IntKind.i64) (by omega), by rw [HT.out]⟩
          case measure => simp [intOf]; omega
    · have he : k = zs.length := by omega
      subst he
      have hx := crc_byte (k := zs.length) HB.out
      rw [List.take_length] at hx ⊢
      have HE : Hid (crs zs = crc 4294967295 zs ^^^ 4294967295) := rfl
      generalize crc 4294967295 zs = x at *
      have hxx := xor_u32 (a := x) (b := 4294967295) hx (by omega)
      go_wp2
      go_ret
      exact ⟨congrArg (fun n => Ending.returned (Value.int IntKind.u32 n)) (hxx.trans (by rw [HE.out])), rfl⟩
set_option maxHeartbeats 400000 in
theorem rsum_none (a : Option Addr) (cap : Nat) (w : World) :
    Calls Tryz.prog 53 #[.slice a 0 cap] w fun e w' => e = .returned (.int .u32 (crs [] : Nat)) ∧ w = w' := by
  go_enter Tryz.func53, Tryz.ntmps53
  go_wp2_with fail
  refine wp_loop_rounds 1 ?_
  rw [rounds_succ]
  go_wp2
  go_ret
  exact ⟨rfl, rfl⟩
theorem rsum_any (a : Option Addr) (zs : List Int) (len cap : Nat) (w : World) (hb : Bytey zs) (hl : zs.length = len) (hm : len ≤ 140737488355328) (hc : Lies .u8 w a zs) :
    Calls Tryz.prog 53 #[.slice a len cap] w fun e w' => e = .returned (.int .u32 (crs zs : Nat)) ∧ w = w' := by
  subst hl
  rcases hc with rfl | ⟨b, off, rfl, hc⟩
  · exact rsum_none a cap w
  · exact rsum_some b off zs cap w hb hm hc
end Go.Proofs.YtllhbhogfffedaaGreatDoor

namespace Go.Proofs.YtllhbhogfffedaaGreatDoor
open Go.RowKit

/-- Is a field one of these? -/
def hasB (f : Int) (i : Nat) : Bool := bits .and .u16 f (2 ^ i) != 0

set_option maxHeartbeats 400000 in
theorem rhas_any (f : Int) (i : Nat) (w : World) (hi : i < 10) :
    Calls Tryz.prog 122 #[.int .u16 f, .int .i64 i] w fun e w' => e = .returned (.bool (hasB f i)) ∧ w = w' := by
  have h63 : (i : Int) < 64 := by omega
  have h2 : (2 : Int) ^ i ≤ 512 := by
    have : i = 0 ∨ i = 1 ∨ i = 2 ∨ i = 3 ∨ i = 4 ∨ i = 5 ∨ i = 6 ∨ i = 7 ∨ i = 8 ∨ i = 9 := by omega
    rcases this with rfl | rfl | rfl | rfl | rfl | rfl | rfl | rfl | rfl | rfl <;> decide
  have h20 : (0 : Int) < (2 : Int) ^ i := Int.pow_pos (by omega)
  have hw : IntKind.u16.wrap ((2 : Int) ^ i) = 2 ^ i := by simp only [IntKind.wrap, IntKind.bits, IntKind.signed]; simp; omega
  go_enter Tryz.func122, Tryz.ntmps122
  go_wp2
  go_ret
  exact ⟨rfl, rfl⟩

set_option maxHeartbeats 400000 in
theorem rbetween_any (n lo hi : Int) (w : World) :
    Calls Tryz.prog 132 #[.int .i64 n, .int .i64 lo, .int .i64 hi] w fun e w' => e = .returned (.bool (decide (lo ≤ n) && decide (n ≤ hi))) ∧ w = w' := by
  by_cases h1 : lo ≤ n
  · have h1' : decide (lo ≤ n) = true := decide_eq_true h1
    go_enter Tryz.func132, Tryz.ntmps132
    go_wp2
    go_ret
    exact ⟨by rw [h1']; rfl, rfl⟩
  · have h1' : decide (lo ≤ n) = false := decide_eq_false h1
    go_enter Tryz.func132, Tryz.ntmps132
    go_wp2
    go_ret
    exact ⟨rfl, rfl⟩

/-- A number that a field may be. -/
def numB (i : Nat) (n : Int) : Bool := if i = 0 then (decide (1 ≤ n) && decide (n ≤ 4611686018427387903)) else if i = 1 then (decide (1 ≤ n) && decide (n ≤ 4611686018427387902)) else (decide (0 ≤ n) && decide (n ≤ 4611686018427387903))
set_option maxHeartbeats 400000 in
theorem numberMayBe_any (i : Nat) (n : Int) (w : World) :
    Calls Tryz.prog 131 #[.int .i64 i, .int .i64 n] w fun e w' => e = .returned (.bool (numB i n)) ∧ w = w' := by
  by_cases h0 : i = 0
  · subst h0
    go_enter Tryz.func131, Tryz.ntmps131
    go_wp2_with (go_at_call 132; refine (rbetween_any _ _ _ _).mono ?_; rintro e w' ⟨rfl, rfl⟩)
    go_ret
    exact ⟨rfl, rfl⟩
  · by_cases h1 : i = 1
    · subst h1
      go_enter Tryz.func131, Tryz.ntmps131
      go_wp2_with (go_at_call 132; refine (rbetween_any _ _ _ _).mono ?_; rintro e w' ⟨rfl, rfl⟩)
      go_ret
      exact ⟨rfl, rfl⟩
    · have h0' : ¬ (i : Int) = 0 := by omega
      have h1' : ¬ (i : Int) = 1 := by omega
      have hn : numB i n = (decide (0 ≤ n) && decide (n ≤ 4611686018427387903)) := by unfold numB; rw [if_neg h0, if_neg h1]
      rw [hn]
      clear hn
      go_enter Tryz.func131, Tryz.ntmps131
      go_wp2_with (go_at_call 132; refine (rbetween_any _ _ _ _).mono ?_; rintro e w' ⟨rfl, rfl⟩)
      go_ret
      exact ⟨rfl, rfl⟩

/-- The kinds' fields. -/
def kiT : List Int := [0, 65, 64, 623, 131, 3, 635, 3, 131, 3, 3, 320, 107]
/-- The table of the kinds' fields lies where its initialiser laid it. -/
def Tab6 (w : World) : Prop := ∀ i : Nat, i < 13 → w.cell? ⟨4, i, none⟩ = some (.int .u16 (kiT.getD i 0))
theorem Tab6.below {w w' : World} {B : Nat} (h : Tab6 w) (hb : Below B w w') (hB : 4 < B) : Tab6 w' := fun i hi => (hb.cell (p := ⟨4, i, none⟩) hB).trans (h i hi)
theorem tab6_pos {w : World} (h : Tab6 w) : 4 < w.heap.size := World.block_lt_of_cell? w ⟨4, 0, none⟩ (h 0 (by omega))

abbrev nextV : Value := .agg #[.int .i64 2, .int .i64 0, .int .i64 0, .int .i64 0, .int .i64 0, .int .i64 0, .int .i64 0, .int .i64 300, .int .i64 0, .slice none 0 0, .slice none 0 0]
abbrev nextO : Obj := .cells #[.int .i64 2, .int .i64 0, .int .i64 0, .int .i64 0, .int .i64 0, .int .i64 0, .int .i64 0, .int .i64 300, .int .i64 0, .slice none 0 0, .slice none 0 0] 81
abbrev nextN : Value := .agg #[.int .i64 0, .int .i64 0, .int .i64 0, .int .i64 0, .int .i64 0, .int .i64 0, .int .i64 300, .int .i64 0]

theorem heap_new6 (w : World) (o : Obj) : (w.alloc o).heap[w.heap.size]? = some o := by
  have : (w.alloc o).heap = w.heap.push o := rfl
  rw [this]; simp
theorem next_cells {W : World} {g : Nat} (h : W.heap[g]? = some nextO) : W.cell? ⟨g, 0, none⟩ = some (.int .i64 2) ∧ W.cell? ⟨g, 1, none⟩ = some (.int .i64 0) ∧ W.cell? ⟨g, 2, none⟩ = some (.int .i64 0) ∧ W.cell? ⟨g, 3, none⟩ = some (.int .i64 0) ∧ W.cell? ⟨g, 4, none⟩ = some (.int .i64 0) ∧ W.cell? ⟨g, 5, none⟩ = some (.int .i64 0) ∧ W.cell? ⟨g, 6, none⟩ = some (.int .i64 0) ∧ W.cell? ⟨g, 7, none⟩ = some (.int .i64 300) ∧ W.cell? ⟨g, 8, none⟩ = some (.int .i64 0) ∧ W.cell? ⟨g, 9, none⟩ = some (.slice none 0 0) ∧ W.cell? ⟨g, 10, none⟩ = some (.slice none 0 0) :=
  ⟨cell_of_row _ _ 0 _ _ _ h, cell_of_row _ _ 1 _ _ _ h, cell_of_row _ _ 2 _ _ _ h, cell_of_row _ _ 3 _ _ _ h, cell_of_row _ _ 4 _ _ _ h, cell_of_row _ _ 5 _ _ _ h, cell_of_row _ _ 6 _ _ _ h, cell_of_row _ _ 7 _ _ _ h, cell_of_row _ _ 8 _ _ _ h, cell_of_row _ _ 9 _ _ _ h, cell_of_row _ _ 10 _ _ _ h⟩
theorem own_below6 {w w' : World} {base size n : Nat} {e : TypeId} {v : Value} {xs : List Value} (h : w.ownsRow base e size v n xs) (hg : Below w.heap.size w w') : w'.ownsRow base e size v n xs := by
  have hlt := h.lt
  obtain ⟨hl, h | ⟨g, cap, cur, rfl, hb, hh, r⟩⟩ := h
  · exact ⟨hl, .inl h⟩
  · refine ⟨hl, .inr ⟨g, cap, cur, rfl, hb, ?_, r⟩⟩
    rw [hg.block g (hlt g rfl).2]; exact hh

/-- What is no bytes stays as it is. -/
def Keeps8 (w w' : World) : Prop := ∀ (g : Nat) (cs : Array Value) (t : TypeId) (fr : Nat × Nat), w.heap[g]? = some (.cells cs t fr) → t ≠ 5 → w'.heap[g]? = some (.cells cs t fr)
theorem Keeps8.trans {w w' w'' : World} (h : Keeps8 w w') (h' : Keeps8 w' w'') : Keeps8 w w'' := fun g cs t fr hg ht => h' g cs t fr (h g cs t fr hg ht) ht
theorem Keeps8.below {w w' : World} (h : Below w.heap.size w w') : Keeps8 w w' := fun g _ _ _ hg _ => (h.block g (Array.getElem?_eq_some_iff.mp hg).1).trans hg
theorem Keeps8.grown {w w' : World} {base n : Nat} {v : Value} {xs : List Value} (ho : w.ownsRow base 5 1 v n xs) (hg : w.grownBy w' v.ownBlock) : Keeps8 w w' := fun g cs t fr hc ht => by
  refine (hg.block g (Array.getElem?_eq_some_iff.mp hc).1 ?_).trans hc
  intro e
  obtain ⟨_, ⟨rfl, _⟩ | ⟨g', cap, cur, rfl, _, hh, _⟩⟩ := ho
  · cases e
  · have e' : g = g' := by simpa [Value.ownBlock] using e
    subst e'
    rw [hh] at hc
    simp only [Option.some.injEq, Obj.cells.injEq] at hc
    exact ht hc.2.1.symm

set_option maxRecDepth 100000 in
set_option maxHeartbeats 1000000 in
theorem putNumber_any (v : Value) (m : Nat) (xs : List Value) (base : Nat) (n : Int) (w : World) (h0 : 0 ≤ n) (h1 : n ≤ 4611686018427387903)
    (hown : w.ownsRow base 5 1 v m xs) (hbase : base ≤ w.heap.size) (hm : m + 10 ≤ 140737488355328) :
    Calls Tryz.prog 123 #[v, .int .i64 n] w fun e w' => ∃ v', e = .returned v' ∧
      w'.ownsRow base 5 1 v' (m + sz n) (xs ++ (enc n).map (Value.int .u8)) ∧ Below base w w' ∧ Keeps8 w w' := by
  obtain ⟨i0, hi, hz0, hz1, hz2⟩ := info_parts Tryz.info_u8
  have hs := sz_bounds n h0 (by omega)
  have hwr : IntKind.u64.wrap n = n := by rw [IntKind.wrap_u64]; omega
  go_enter Tryz.func123, Tryz.ntmps123
  go_wp2_with (first
    | (go_at_call 135; refine (bytes_any n w h0 (by omega)).mono ?_; rintro e w1 ⟨g, cap, rfl, ho1, hb1⟩; have HO1 := own_below6 hown hb1; have HL := own_lies ho1; have hs1 := hb1.size)
    | (at_builtin; refine append_any _ rfl _ _ 35 rfl base 5 i0 (.int .u8 0) 1 Tryz.underlying35 hi hz0 hz1 hz2 rfl _ _ _ rfl HO1 .u8 _ _ _ (enc n) rfl (by intro h; cases h) HL.2 HL.1 (by unfold maxLen; omega) (by omega) (by omega) ?_; intro v2 w2 hown2 hg2))
  go_ret
  exact ⟨v2, rfl, hown2, own_grown (hb1.mono hbase) hg2 HO1 (by omega), (Keeps8.below hb1).trans (Keeps8.grown HO1 hg2)⟩

theorem own_base6 {w : World} {base base' size n : Nat} {e : TypeId} {v : Value} {xs : List Value} (h : w.ownsRow base e size v n xs) (hb : base' ≤ base) : w.ownsRow base' e size v n xs :=
  ⟨h.1, h.2.imp id fun ⟨g, cap, cur, h1, h2, h3⟩ => ⟨g, cap, cur, h1, Nat.le_trans hb h2, h3⟩⟩
/-- What stands in the row as the numbers are put there. -/
def FrmO (w : World) (base : Nat) (v : Value) (k : Nat) : Prop :=
  (k ≤ 6 ∧ w.ownsRow base 5 1 v 1 [.int .u8 2]) ∨ (6 < k ∧ w.ownsRow base 5 1 v 3 [.int .u8 2, .int .u8 130, .int .u8 44])
end Go.Proofs.YtllhbhogfffedaaGreatDoor
