import Derived.Test.YtcfodcioeefbeaaDoorMay
namespace Go.Proofs.YtcfodcioeefbeaaDoor
open Go.RowKit

set_option maxRecDepth 100000 in
set_option maxHeartbeats 8000000 in
theorem fields_5 (h : Int) (s : Sg) (ah at' ad ac : Option Addr) (ch ct cd cc : Nat) (hx tx : List Xr) (w : World) (hs : SIn w s (.slice ah hx.length ch) (.slice at' tx.length ct) (.slice ad s.data.length cd) (.slice ac s.clm.length cc) hx tx) (hb0 : btw s.org 1 4611686018427387903 = true) (hb1 : btw s.num 1 4611686018427387902 = true) (hb2 : xsOk hx = true) (hb3 : xsOk tx = true) (hb4 : alw h s.srv 2 0 4611686018427387903 = true) (hb5 : alw h (s.data.length : Int) 2 1 65536 = false) :
    Calls Tryd.prog 41 #[.agg (svC s (.slice ah hx.length ch) (.slice at' tx.length ct) (.slice ad s.data.length cd) (.slice ac s.clm.length cc)), .int .u8 h] w fun e w' => e = .returned (.bool false) ∧ ∃ y, w' = ext w y := by
  have hdl : (s.data.length : Int) ≤ 1048576 := by have := hs.data.small; omega
  have HB : Hid (∀ x, SIn (ext (w.alloc (svO s (.slice ah hx.length ch) (.slice at' tx.length ct) (.slice ad s.data.length cd) (.slice ac s.clm.length cc))) x) s (.slice ah hx.length ch) (.slice at' tx.length ct) (.slice ad s.data.length cd) (.slice ac s.clm.length cc) hx tx) := fun x => (hs.below ((Below.refl _ _).alloc (Nat.le_refl _) _)).below (ext_below _ x)
  have HH0 : Hid (btw s.org 1 4611686018427387903 = true) := hb0
  have HH1 : Hid (btw s.num 1 4611686018427387902 = true) := hb1
  have HH2 : Hid (xsOk hx = true) := hb2
  have HH3 : Hid (xsOk tx = true) := hb3
  have HH4 : Hid (alw h s.srv 2 0 4611686018427387903 = true) := hb4
  have HH5 : Hid (alw h (s.data.length : Int) 2 1 65536 = false) := hb5
  clear hs hb0 hb1 hb2 hb3 hb4 hb5
  go_enter Tryd.func41, Tryd.ntmps41
  go_wp2_with fail
  have hc : ∀ (x : Xt) (j : Nat), (ext (w.alloc (svO s (.slice ah hx.length ch) (.slice at' tx.length ct) (.slice ad s.data.length cd) (.slice ac s.clm.length cc))) x).cell? ⟨w.heap.size, j, none⟩ = (w.alloc (svO s (.slice ah hx.length ch) (.slice at' tx.length ct) (.slice ad s.data.length cd) (.slice ac s.clm.length cc))).cell? ⟨w.heap.size, j, none⟩ := fun x j => ext_cell _ x _ (by simp)
  refine wp_region_ext (by kernel_rfl) lex29 ?_
  simp only [List.append_eq, List.cons_append, List.nil_append]
  repeat (go_big_quiet_step (first
    | (go_at_call_of 44 (Value.int .i64 s.org); exact ext_same (between_v _ _ _ _ _ HH0.out))
    | (go_at_call_of 44 (Value.int .i64 s.num); exact ext_same (between_v _ _ _ _ _ HH1.out))
    | (go_at_call_of 45 (Value.slice ah hx.length ch); exact ext_more (exts_v _ hx _ (HB.out _).head _ HH2.out))
    | (go_at_call_of 45 (Value.slice at' tx.length ct); exact ext_more (exts_v _ tx _ (HB.out _).tail _ HH3.out))
    | (go_at_call_of 46 (Value.int .i64 s.srv); exact ext_same (allow_v _ _ _ _ _ _ _ HH4.out))
    | (go_at_call_of 46 (Value.int .i64 (s.data.length : Int)); exact ext_same (allow_v _ _ _ _ _ _ _ HH5.out))))
  refine wpQuiet_nil ?_
  intro w' hw'
  obtain ⟨x, hw''⟩ := hw'
  subst hw''
  go_wp2
  go_ret
  exact ⟨rfl, ⟨_ :: x.os, x.n⟩, rfl⟩

set_option maxRecDepth 100000 in
set_option maxHeartbeats 8000000 in
theorem fields_6 (h : Int) (s : Sg) (ah at' ad ac : Option Addr) (ch ct cd cc : Nat) (hx tx : List Xr) (w : World) (hs : SIn w s (.slice ah hx.length ch) (.slice at' tx.length ct) (.slice ad s.data.length cd) (.slice ac s.clm.length cc) hx tx) (hb0 : btw s.org 1 4611686018427387903 = true) (hb1 : btw s.num 1 4611686018427387902 = true) (hb2 : xsOk hx = true) (hb3 : xsOk tx = true) (hb4 : alw h s.srv 2 0 4611686018427387903 = true) (hb5 : alw h (s.data.length : Int) 2 1 65536 = true) (hb6 : alw h s.off 2 0 (65536 - (s.data.length : Int)) = false) :
    Calls Tryd.prog 41 #[.agg (svC s (.slice ah hx.length ch) (.slice at' tx.length ct) (.slice ad s.data.length cd) (.slice ac s.clm.length cc)), .int .u8 h] w fun e w' => e = .returned (.bool false) ∧ ∃ y, w' = ext w y := by
  have hdl : (s.data.length : Int) ≤ 1048576 := by have := hs.data.small; omega
  have HB : Hid (∀ x, SIn (ext (w.alloc (svO s (.slice ah hx.length ch) (.slice at' tx.length ct) (.slice ad s.data.length cd) (.slice ac s.clm.length cc))) x) s (.slice ah hx.length ch) (.slice at' tx.length ct) (.slice ad s.data.length cd) (.slice ac s.clm.length cc) hx tx) := fun x => (hs.below ((Below.refl _ _).alloc (Nat.le_refl _) _)).below (ext_below _ x)
  have HH0 : Hid (btw s.org 1 4611686018427387903 = true) := hb0
  have HH1 : Hid (btw s.num 1 4611686018427387902 = true) := hb1
  have HH2 : Hid (xsOk hx = true) := hb2
  have HH3 : Hid (xsOk tx = true) := hb3
  have HH4 : Hid (alw h s.srv 2 0 4611686018427387903 = true) := hb4
  have HH5 : Hid (alw h (s.data.length : Int) 2 1 65536 = true) := hb5
  have HH6 : Hid (alw h s.off 2 0 (65536 - (s.data.length : Int)) = false) := hb6
  clear hs hb0 hb1 hb2 hb3 hb4 hb5 hb6
  go_enter Tryd.func41, Tryd.ntmps41
  go_wp2_with fail
  have hc : ∀ (x : Xt) (j : Nat), (ext (w.alloc (svO s (.slice ah hx.length ch) (.slice at' tx.length ct) (.slice ad s.data.length cd) (.slice ac s.clm.length cc))) x).cell? ⟨w.heap.size, j, none⟩ = (w.alloc (svO s (.slice ah hx.length ch) (.slice at' tx.length ct) (.slice ad s.data.length cd) (.slice ac s.clm.length cc))).cell? ⟨w.heap.size, j, none⟩ := fun x j => ext_cell _ x _ (by simp)
  refine wp_region_ext (by kernel_rfl) lex29 ?_
  simp only [List.append_eq, List.cons_append, List.nil_append]
  repeat (go_big_quiet_step (first
    | (go_at_call_of 44 (Value.int .i64 s.org); exact ext_same (between_v _ _ _ _ _ HH0.out))
    | (go_at_call_of 44 (Value.int .i64 s.num); exact ext_same (between_v _ _ _ _ _ HH1.out))
    | (go_at_call_of 45 (Value.slice ah hx.length ch); exact ext_more (exts_v _ hx _ (HB.out _).head _ HH2.out))
    | (go_at_call_of 45 (Value.slice at' tx.length ct); exact ext_more (exts_v _ tx _ (HB.out _).tail _ HH3.out))
    | (go_at_call_of 46 (Value.int .i64 s.srv); exact ext_same (allow_v _ _ _ _ _ _ _ HH4.out))
    | (go_at_call_of 46 (Value.int .i64 (s.data.length : Int)); exact ext_same (allow_v _ _ _ _ _ _ _ HH5.out))
    | (go_at_call_of 46 (Value.int .i64 s.off); exact ext_same (allow_v _ _ _ _ _ _ _ HH6.out))))
  refine wpQuiet_nil ?_
  intro w' hw'
  obtain ⟨x, hw''⟩ := hw'
  subst hw''
  go_wp2
  go_ret
  exact ⟨rfl, ⟨_ :: x.os, x.n⟩, rfl⟩

set_option maxRecDepth 100000 in
set_option maxHeartbeats 8000000 in
theorem fields_7 (h : Int) (s : Sg) (ah at' ad ac : Option Addr) (ch ct cd cc : Nat) (hx tx : List Xr) (w : World) (hs : SIn w s (.slice ah hx.length ch) (.slice at' tx.length ct) (.slice ad s.data.length cd) (.slice ac s.clm.length cc) hx tx) (hb0 : btw s.org 1 4611686018427387903 = true) (hb1 : btw s.num 1 4611686018427387902 = true) (hb2 : xsOk hx = true) (hb3 : xsOk tx = true) (hb4 : alw h s.srv 2 0 4611686018427387903 = true) (hb5 : alw h (s.data.length : Int) 2 1 65536 = true) (hb6 : alw h s.off 2 0 (65536 - (s.data.length : Int)) = true) (hb7 : alw h s.chk 12 (one (anyB h 4)) 4611686018427387903 = false) :
    Calls Tryd.prog 41 #[.agg (svC s (.slice ah hx.length ch) (.slice at' tx.length ct) (.slice ad s.data.length cd) (.slice ac s.clm.length cc)), .int .u8 h] w fun e w' => e = .returned (.bool false) ∧ ∃ y, w' = ext w y := by
  have hdl : (s.data.length : Int) ≤ 1048576 := by have := hs.data.small; omega
  have HB : Hid (∀ x, SIn (ext (w.alloc (svO s (.slice ah hx.length ch) (.slice at' tx.length ct) (.slice ad s.data.length cd) (.slice ac s.clm.length cc))) x) s (.slice ah hx.length ch) (.slice at' tx.length ct) (.slice ad s.data.length cd) (.slice ac s.clm.length cc) hx tx) := fun x => (hs.below ((Below.refl _ _).alloc (Nat.le_refl _) _)).below (ext_below _ x)
  have HH0 : Hid (btw s.org 1 4611686018427387903 = true) := hb0
  have HH1 : Hid (btw s.num 1 4611686018427387902 = true) := hb1
  have HH2 : Hid (xsOk hx = true) := hb2
  have HH3 : Hid (xsOk tx = true) := hb3
  have HH4 : Hid (alw h s.srv 2 0 4611686018427387903 = true) := hb4
  have HH5 : Hid (alw h (s.data.length : Int) 2 1 65536 = true) := hb5
  have HH6 : Hid (alw h s.off 2 0 (65536 - (s.data.length : Int)) = true) := hb6
  have HH7 : Hid (alw h s.chk 12 (one (anyB h 4)) 4611686018427387903 = false) := hb7
  clear hs hb0 hb1 hb2 hb3 hb4 hb5 hb6 hb7
  go_enter Tryd.func41, Tryd.ntmps41
  go_wp2_with fail
  have hc : ∀ (x : Xt) (j : Nat), (ext (w.alloc (svO s (.slice ah hx.length ch) (.slice at' tx.length ct) (.slice ad s.data.length cd) (.slice ac s.clm.length cc))) x).cell? ⟨w.heap.size, j, none⟩ = (w.alloc (svO s (.slice ah hx.length ch) (.slice at' tx.length ct) (.slice ad s.data.length cd) (.slice ac s.clm.length cc))).cell? ⟨w.heap.size, j, none⟩ := fun x j => ext_cell _ x _ (by simp)
  refine wp_region_ext (by kernel_rfl) lex29 ?_
  simp only [List.append_eq, List.cons_append, List.nil_append]
  repeat (go_big_quiet_step (first
    | (go_at_call_of 44 (Value.int .i64 s.org); exact ext_same (between_v _ _ _ _ _ HH0.out))
    | (go_at_call_of 44 (Value.int .i64 s.num); exact ext_same (between_v _ _ _ _ _ HH1.out))
    | (go_at_call_of 45 (Value.slice ah hx.length ch); exact ext_more (exts_v _ hx _ (HB.out _).head _ HH2.out))
    | (go_at_call_of 45 (Value.slice at' tx.length ct); exact ext_more (exts_v _ tx _ (HB.out _).tail _ HH3.out))
    | (go_at_call_of 46 (Value.int .i64 s.srv); exact ext_same (allow_v _ _ _ _ _ _ _ HH4.out))
    | (go_at_call_of 46 (Value.int .i64 (s.data.length : Int)); exact ext_same (allow_v _ _ _ _ _ _ _ HH5.out))
    | (go_at_call_of 46 (Value.int .i64 s.off); exact ext_same (allow_v _ _ _ _ _ _ _ HH6.out))
    | (go_at_call_of 46 (Value.int .i64 s.chk); exact ext_same (allow_v _ _ _ _ _ _ _ HH7.out))
    | (go_at_call 47; exact ext_same (leastCheck_any _ _))))
  refine wpQuiet_nil ?_
  intro w' hw'
  obtain ⟨x, hw''⟩ := hw'
  subst hw''
  go_wp2
  go_ret
  exact ⟨rfl, ⟨_ :: x.os, x.n⟩, rfl⟩

set_option maxRecDepth 100000 in
set_option maxHeartbeats 8000000 in
theorem fields_8 (h : Int) (s : Sg) (ah at' ad ac : Option Addr) (ch ct cd cc : Nat) (hx tx : List Xr) (w : World) (hs : SIn w s (.slice ah hx.length ch) (.slice at' tx.length ct) (.slice ad s.data.length cd) (.slice ac s.clm.length cc) hx tx) (hb0 : btw s.org 1 4611686018427387903 = true) (hb1 : btw s.num 1 4611686018427387902 = true) (hb2 : xsOk hx = true) (hb3 : xsOk tx = true) (hb4 : alw h s.srv 2 0 4611686018427387903 = true) (hb5 : alw h (s.data.length : Int) 2 1 65536 = true) (hb6 : alw h s.off 2 0 (65536 - (s.data.length : Int)) = true) (hb7 : alw h s.chk 12 (one (anyB h 4)) 4611686018427387903 = true) (hb8 : alw h s.rep 28 (one (anyB h 24)) 4611686018427387903 = false) :
    Calls Tryd.prog 41 #[.agg (svC s (.slice ah hx.length ch) (.slice at' tx.length ct) (.slice ad s.data.length cd) (.slice ac s.clm.length cc)), .int .u8 h] w fun e w' => e = .returned (.bool false) ∧ ∃ y, w' = ext w y := by
  have hdl : (s.data.length : Int) ≤ 1048576 := by have := hs.data.small; omega
  have HB : Hid (∀ x, SIn (ext (w.alloc (svO s (.slice ah hx.length ch) (.slice at' tx.length ct) (.slice ad s.data.length cd) (.slice ac s.clm.length cc))) x) s (.slice ah hx.length ch) (.slice at' tx.length ct) (.slice ad s.data.length cd) (.slice ac s.clm.length cc) hx tx) := fun x => (hs.below ((Below.refl _ _).alloc (Nat.le_refl _) _)).below (ext_below _ x)
  have HH0 : Hid (btw s.org 1 4611686018427387903 = true) := hb0
  have HH1 : Hid (btw s.num 1 4611686018427387902 = true) := hb1
  have HH2 : Hid (xsOk hx = true) := hb2
  have HH3 : Hid (xsOk tx = true) := hb3
  have HH4 : Hid (alw h s.srv 2 0 4611686018427387903 = true) := hb4
  have HH5 : Hid (alw h (s.data.length : Int) 2 1 65536 = true) := hb5
  have HH6 : Hid (alw h s.off 2 0 (65536 - (s.data.length : Int)) = true) := hb6
  have HH7 : Hid (alw h s.chk 12 (one (anyB h 4)) 4611686018427387903 = true) := hb7
  have HH8 : Hid (alw h s.rep 28 (one (anyB h 24)) 4611686018427387903 = false) := hb8
  clear hs hb0 hb1 hb2 hb3 hb4 hb5 hb6 hb7 hb8
  go_enter Tryd.func41, Tryd.ntmps41
  go_wp2_with fail
  have hc : ∀ (x : Xt) (j : Nat), (ext (w.alloc (svO s (.slice ah hx.length ch) (.slice at' tx.length ct) (.slice ad s.data.length cd) (.slice ac s.clm.length cc))) x).cell? ⟨w.heap.size, j, none⟩ = (w.alloc (svO s (.slice ah hx.length ch) (.slice at' tx.length ct) (.slice ad s.data.length cd) (.slice ac s.clm.length cc))).cell? ⟨w.heap.size, j, none⟩ := fun x j => ext_cell _ x _ (by simp)
  refine wp_region_ext (by kernel_rfl) lex29 ?_
  simp only [List.append_eq, List.cons_append, List.nil_append]
  repeat (go_big_quiet_step (first
    | (go_at_call_of 44 (Value.int .i64 s.org); exact ext_same (between_v _ _ _ _ _ HH0.out))
    | (go_at_call_of 44 (Value.int .i64 s.num); exact ext_same (between_v _ _ _ _ _ HH1.out))
    | (go_at_call_of 45 (Value.slice ah hx.length ch); exact ext_more (exts_v _ hx _ (HB.out _).head _ HH2.out))
    | (go_at_call_of 45 (Value.slice at' tx.length ct); exact ext_more (exts_v _ tx _ (HB.out _).tail _ HH3.out))
    | (go_at_call_of 46 (Value.int .i64 s.srv); exact ext_same (allow_v _ _ _ _ _ _ _ HH4.out))
    | (go_at_call_of 46 (Value.int .i64 (s.data.length : Int)); exact ext_same (allow_v _ _ _ _ _ _ _ HH5.out))
    | (go_at_call_of 46 (Value.int .i64 s.off); exact ext_same (allow_v _ _ _ _ _ _ _ HH6.out))
    | (go_at_call_of 46 (Value.int .i64 s.chk); exact ext_same (allow_v _ _ _ _ _ _ _ HH7.out))
    | (go_at_call_of 46 (Value.int .i64 s.rep); exact ext_same (allow_v _ _ _ _ _ _ _ HH8.out))
    | (go_at_call 47; exact ext_same (leastCheck_any _ _))
    | (go_at_call 48; exact ext_same (leastReport_any _ _))))
  refine wpQuiet_nil ?_
  intro w' hw'
  obtain ⟨x, hw''⟩ := hw'
  subst hw''
  go_wp2
  go_ret
  exact ⟨rfl, ⟨_ :: x.os, x.n⟩, rfl⟩

end Go.Proofs.YtcfodcioeefbeaaDoor
