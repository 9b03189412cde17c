import Derived.Test.YtbehliigemoblaaAwake
import Derived.Test.YtbehliigemoblaaRefRead
import Derived.Test.YtbehliigemoblaaLent
namespace Go.Proofs.Ytbehliigemoblaa
open Go.RowKit

set_option maxHeartbeats 1000000 in
theorem reads_any (a : Option Addr) (zs : List Int) (len cap : Nat) (a' : Option Addr) (zs' : List Int) (len' cap' : Nat) (w : World) (hb : Bytey zs) (hb' : Bytey zs') (hl : zs.length = len) (hl' : zs'.length = len')
    (hlc : len ≤ cap) (hlc' : len' ≤ cap') (hm : cap ≤ 140737488351232) (hm' : cap' ≤ 140737488351232) (hc : Lies .u8 w a zs) (hc' : Lies .u8 w a' zs') (_ : a = none → len = 0 ∧ cap = 0) (_ : a' = none → len' = 0 ∧ cap' = 0) :
    Calls Try.prog 4 #[.slice a len cap, .slice a' len' cap'] w fun e w' => e = .returned (.bool true) ∧ Below w.heap.size w w' := by
  have HL : Hid (zs.length = len) := hl
  have HL' : Hid (zs'.length = len') := hl'
  have HB : Hid (Bytey zs) := hb
  have HB' : Hid (Bytey zs') := hb'
  have HC : Hid (Lies .u8 w a zs) := hc
  have HC' : Hid (Lies .u8 w a' zs') := hc'
  clear hl hl' hb hb' hc hc'
  go_enter Try.func4, Try.ntmps4
  go_wp2_with fail
  refine (awake_any _).mono ?_
  rintro e w1 ⟨rfl, hb1⟩
  go_wp2_with fail
  refine (lent_any a zs len cap w1 HL.out (by omega) (HC.out.below hb1)).mono ?_
  rintro e w2 ⟨rfl, hg2, hb2⟩
  have HW2 : Hid (Below w.heap.size w w2) := hb1.trans (hb2.mono hb1.size)
  have HG2 : Hid (Blk .u8 w2 w1.heap.size 5 (marked zs)) := hg2
  have hsz := hb1.size
  have HIn : Hid (Lies .u8 w2 (some ⟨w1.heap.size, 0, none⟩) zs) := by have := HG2.out.lies len; rw [marked_take zs len HL.out] at this; exact this
  clear hb1 hb2 hg2
  go_wp2_with fail
  refine (read_any _ zs len _ w2 HB.out HL.out (by omega) HIn.out).mono ?_
  rintro e w' ⟨rfl, rfl⟩
  go_wp2_with fail
  refine (read_any _ zs' len' _ w2 HB'.out HL'.out (by omega) (HC'.out.below HW2.out)).mono ?_
  rintro e w' ⟨rfl, rfl⟩
  go_wp2_with fail
  refine (read_any _ zs len _ w2 HB.out HL.out (by omega) HIn.out).mono ?_
  rintro e w' ⟨rfl, rfl⟩
  go_wp2_with fail
  refine (back_any w1.heap.size a zs len (len + 9) cap w2 HB.out HL.out rfl (by omega) (HC.out.below HW2.out) (HC.out.apart hsz) HG2.out).mono ?_
  rintro e w3 ⟨rfl, hg3, hgr⟩
  have HW3 : Hid (Below w.heap.size w w3) := HW2.out.grown hgr (Nat.le_trans hsz (Nat.le_of_lt HG2.out.lt)) (by intro j hj; simp at hj; omega)
  have HG3 : Hid (Lies .u8 w3 (some ⟨w1.heap.size, 0, none⟩) ((halved (marked zs)).take len)) := hg3.lies len
  have HL3 : Hid (((halved (marked zs)).take len).length = len) := by unfold Hid; rw [List.length_take, halved_length, marked_length]; have := HL.out; omega
  have HB3 : Hid (Bytey ((halved (marked zs)).take len)) := fun z hz => halved_bytes (marked_bytes HB.out) z (List.mem_of_mem_take hz)
  clear hgr hg3
  generalize (halved (marked zs)).take len = ys at HG3 HL3 HB3
  go_wp2_with fail
  refine (read_any _ ys len _ w3 HB3.out HL3.out (by omega) HG3.out).mono ?_
  rintro e w' ⟨rfl, rfl⟩
  go_wp2_with fail
  refine (refread_any _ zs len _ w3 HB.out HL.out (by omega) (HC.out.below HW3.out)).mono ?_
  rintro e w' ⟨rfl, rfl⟩
  go_wp2_with fail
  refine (refread_any _ zs' len' _ w3 HB'.out HL'.out (by omega) (HC'.out.below HW3.out)).mono ?_
  rintro e w' ⟨rfl, rfl⟩
  go_wp2_with fail
  refine (refread_any _ ys len _ w3 HB3.out HL3.out (by omega) HG3.out).mono ?_
  rintro e w' ⟨rfl, rfl⟩
  go_wp2
  go_ret
  exact ⟨rfl, HW3.out⟩

end Go.Proofs.Ytbehliigemoblaa
