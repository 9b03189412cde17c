import Derived.Test.YtbehliigemoblaaAwake
import Derived.Test.YtbehliigemoblaaJoin
import Derived.Test.YtbehliigemoblaaSame
import Derived.Test.YtbehliigemoblaaAppend
namespace Go.Proofs.Ytbehliigemoblaa
open Go.RowKit

theorem lies_alloc {k : IntKind} {w : World} {a : Option Addr} {zs : List Int} (h : Lies k w a zs) (o : Obj) : Lies k (w.alloc o) a zs :=
  h.below ((Below.refl _ _).alloc (Nat.le_refl _) o)

theorem own_cap {w : World} {base n cap : Nat} {e : TypeId} {a : Option Addr} {xs : List Value} (h : w.ownsRow base e 1 (.slice a n cap) n xs) : n ≤ cap ∧ cap ≤ 9223372036854775807 := by
  obtain ⟨_, ⟨hv, h0⟩ | ⟨g, cap', cur, hv, _, _, h1, h2, _⟩⟩ := h
  · simp only [Value.slice.injEq] at hv
    omega
  · simp only [Value.slice.injEq] at hv
    unfold maxLen at h2
    omega

set_option maxHeartbeats 2000000 in
theorem back_some (b off : Nat) (l : List Int) (cap : Nat) (a' : Option Addr) (zs : List Int) (len' cap' : Nat) (w : World) (hn : Nums l) (hb : Bytey zs) (hm : l.length ≤ 1048576) (hl' : zs.length = len') (hm' : len' ≤ 1048576)
    (hc : ∀ i, i < l.length → w.cell? ⟨b, off + i, none⟩ = some (.int .u64 (l.getD i 0))) (hc' : Lies .u8 w a' zs) (hn' : a' = none → len' = 0 ∧ cap' = 0) :
    Calls Try.prog 7 #[.slice (some ⟨b, off, none⟩) l.length cap, .slice a' len' cap'] w fun e w' => e = .returned (.bool true) ∧ Below w.heap.size w w' := by
  obtain ⟨i0, hi, hz0, hz1, hz2⟩ := info_parts Try.info_u8
  have HN : Hid (Nums l) := hn
  have HB : Hid (Bytey zs) := hb
  have HC : Hid (∀ i, i < l.length → w.cell? ⟨b, off + i, none⟩ = some (.int .u64 (l.getD i 0))) := hc
  have HC' : Hid (Lies .u8 w a' zs) := hc'
  have HL' : Hid (zs.length = len') := hl'
  have HN' : Hid (a' = none → len' = 0 ∧ cap' = 0) := hn'
  clear hn hb hc hc' hl' hn'
  go_enter Try.func7, Try.ntmps7
  go_wp2_with fail
  refine (awake_any _).mono ?_
  rintro e w1 ⟨rfl, hb1⟩
  go_wp2_with fail
  go_loopw [6] (fun i wr => ∃ k : Nat, k ≤ l.length ∧ i = .int .i64 k ∧ Below w.heap.size w wr) (fun i _ => l.length - (intOf i).toNat)
  case atStart => exact ⟨0, Nat.zero_le _, rfl, hb1⟩
  case round =>
    obtain ⟨k, hk, rfl, hbel⟩ := hrel
    clear hb1
    by_cases hlt : k < l.length
    · have hx := nums_at HN.out k hlt
      have hlow := World.block_lt_of_cell? w ⟨b, off + k, none⟩ (HC.out k hlt)
      have HX : Hid (∀ W : World, Below w.heap.size w W → W.cell? ⟨b, off + k, none⟩ = some (.int .u64 (l.getD k 0))) := fun W hW => (hW.cell (p := ⟨b, off + k, none⟩) hlow).trans (HC.out k hlt)
      have hcell := HX.out wr hbel
      generalize l.getD k 0 = n at hx hcell HX
      obtain ⟨hx0, hx1⟩ := hx
      have HE : Hid ((enc n).length = sz n) := enc_length n hx0 hx1
      have hs := sz_bounds n hx0 hx1
      have hs2 := hs.2.1
      have hs1 := hs.1
      have HR := rd_enc n hx0 hx1 zs
      have HR2 : Hid (rd (enc n ++ zs) = (n, (sz n : Int), 0)) := HR
      clear hs HR
      have hi1 : (k : Int) < (l.length : Int) := by omega
      go_wp2_with fail
      refine (bytes_any n _ hx0 hx1).mono ?_
      rintro e w2 ⟨g, c, rfl, hown, hb2⟩
      have HB2 : Hid (Below w.heap.size w w2) := hbel.trans (hb2.mono hbel.size)
      have HLn : Hid (Lies .u8 w2 (some ⟨g, 0, none⟩) (enc n)) := (own_lies hown).1
      have hcell2 := HX.out w2 HB2.out
      clear hcell hown hb2 hbel
      go_wp2_with fail
      refine (size_any n _ hx0 hx1).mono ?_
      rintro e w' ⟨rfl, rfl⟩
      go_wp2_with (first
        | (at_builtin; refine append_any _ rfl (.tmp 33) (.tmp 34) 25 rfl w2.heap.size 5 i0 (.int .u8 0) 1 Try.underlying25 hi hz0 hz1 hz2 rfl _ 0 [] rfl (World.ownsRow_lit w2 #[] 0 (Nat.le_refl _) (Nat.zero_le _) rfl) .u8 _ _ _ (enc n) rfl (by intro h; cases h) HE.out (lies_alloc HLn.out _) (by unfold maxLen; omega) (by omega) (by simp) ?_; intro v3 w3 hown3 hgrow3; have HB3 : Hid (Below w2.heap.size w2 w3) := own_grown ((Below.refl _ _).alloc (Nat.le_refl _) _) hgrow3 (World.ownsRow_lit w2 #[] 0 (Nat.le_refl _) (Nat.zero_le _) rfl) (by simp); have HW3 : Hid (Below w.heap.size w w3) := HB2.out.trans (HB3.out.mono HB2.out.size); clear hgrow3)
        | (at_builtin; refine append_any _ rfl (.tmp 35) (.tmp 36) 25 rfl w2.heap.size 5 i0 (.int .u8 0) 1 Try.underlying25 hi hz0 hz1 hz2 rfl _ _ _ rfl hown3 .u8 _ _ _ zs rfl HN'.out HL'.out (HC'.out.below HW3.out) (by unfold maxLen; omega) (by omega) HB3.out.size ?_; intro v4 w4 hown4 hgrow4)
        | fail)
      have hown5 : w4.ownsRow w2.heap.size 5 1 v4 (sz n + len') ((enc n ++ zs).map (Value.int .u8)) := by simpa using hown4
      have HW4 : Hid (Below w.heap.size w w4) := HW3.out.grown hgrow4 HW3.out.size (fun j hj => Nat.le_trans HB2.out.size (hown3.lt j hj).1)
      clear hown3 hown4 hgrow4
      obtain ⟨a4, c4, hv4⟩ := own_shape hown5
      subst hv4
      have HL4 : Hid (Lies .u8 w4 a4 (enc n ++ zs)) := (own_lies hown5).1
      have hcell4 := HX.out w4 HW4.out
      clear hown5 hcell2
      refine (read_any a4 (enc n ++ zs) (sz n + len') c4 _ (fun z hz => (List.mem_append.1 hz).elim (enc_bytes n z) (HB.out z)) (by rw [List.length_append, HE.out, HL'.out]) (by omega) HL4.out).mono ?_
      rintro e w' ⟨rfl, rfl⟩
      rw [HR2.out]
      go_wp2
      go_roundw
      case rel => exact ⟨k + 1, by omega, by go_num, HW4.out⟩
      case measure => simp [intOf]; omega
    · have HBel : Hid (Below w.heap.size w wr) := hbel
      have HJ := al_jn l HN.out
      have HA : Hid (al (jn l) = (l, 0)) := HJ
      have hjl := jn_length l HN.out
      clear hbel HJ
      go_wp2_with fail
      refine (join_any _ l l.length cap wr HN.out rfl (by omega) (.inr ⟨b, off, rfl, fun i hi => (HBel.out.cell (p := ⟨b, off + i, none⟩) (World.block_lt_of_cell? w ⟨b, off + i, none⟩ (HC.out i hi))).trans (HC.out i hi)⟩)).mono ?_
      rintro e w2 ⟨a2, c2, rfl, hown2, hb2⟩
      have HW2 : Hid (Below w.heap.size w w2) := HBel.out.trans (hb2.mono HBel.out.size)
      have hcc := own_cap hown2
      have HL2 : Hid (Lies .u8 w2 a2 (jn l)) := (own_lies hown2).1
      clear hown2 hb2
      go_wp2_with fail
      refine (all_any a2 (jn l) (jn l).length c2 w2 (jn_bytes l) rfl hcc.1 (by omega) hcc.2 HL2.out).mono ?_
      rintro e w3 ⟨a3, c3, rfl, hown3, hb3⟩
      rw [HA.out] at hown3
      rw [HA.out]
      have HW3 : Hid (Below w.heap.size w w3) := HW2.out.trans (hb3.mono HW2.out.size)
      have HL3 : Hid (Lies .u64 w3 a3 l) := (own_lies hown3).1
      clear hown3 hb3 hcc hjl
      go_wp2_with fail
      refine (same_any a3 _ l l.length _ _ w3 rfl (by omega) HL3.out (.inr ⟨b, off, rfl, fun i hi => (HW3.out.cell (p := ⟨b, off + i, none⟩) (World.block_lt_of_cell? w ⟨b, off + i, none⟩ (HC.out i hi))).trans (HC.out i hi)⟩)).mono ?_
      rintro e w4 ⟨rfl, nd, hw4⟩
      subst hw4
      go_wp2
      go_ret
      exact ⟨rfl, below_drewN HW3.out _⟩

set_option maxHeartbeats 1000000 in
theorem back_none (a : Option Addr) (cap : Nat) (v : Value) (w : World) :
    Calls Try.prog 7 #[.slice a 0 cap, v] w fun e w' => e = .returned (.bool true) ∧ Below w.heap.size w w' := by
  go_enter Try.func7, Try.ntmps7
  go_wp2_with fail
  refine (awake_any _).mono ?_
  rintro e w1 ⟨rfl, hb1⟩
  go_wp2_with fail
  refine wp_loop_rounds 1 ?_
  rw [rounds_succ]
  go_wp2_with fail
  refine (join_none a cap w1).mono ?_
  rintro e w' ⟨rfl, rfl⟩
  go_wp2_with fail
  refine (all_none none 0 w1).mono ?_
  rintro e w' ⟨rfl, rfl⟩
  go_wp2_with fail
  refine (same_none none a 0 cap w1).mono ?_
  rintro e w4 ⟨rfl, nd, hw4⟩
  subst hw4
  go_wp2
  go_ret
  exact ⟨rfl, below_drewN hb1 _⟩

theorem back_law (a : Option Addr) (l : List Int) (len cap : Nat) (a' : Option Addr) (zs : List Int) (len' cap' : Nat) (w : World) (hn : Nums l) (hb : Bytey zs) (hl : l.length = len) (hl' : zs.length = len') (hlc : len ≤ cap) (hlc' : len' ≤ cap') (hm : cap ≤ 1048576) (hm' : cap' ≤ 1048576)
    (hc : Lies .u64 w a l) (hc' : Lies .u8 w a' zs) (_ : a = none → len = 0 ∧ cap = 0) (hn' : a' = none → len' = 0 ∧ cap' = 0) :
    Calls Try.prog 7 #[.slice a len cap, .slice a' len' cap'] w fun e w' => e = .returned (.bool true) ∧ Below w.heap.size w w' := by
  subst hl
  rcases hc with rfl | ⟨b, off, rfl, hc⟩
  · exact back_none a cap _ w
  · exact back_some b off l cap a' zs len' cap' w hn hb (by omega) hl' (by omega) hc hc' hn'

end Go.Proofs.Ytbehliigemoblaa
