import Derived.Test.YticdedcgmofpjaaDoorDkPa
namespace Go.Proofs.YticdedcgmofpjaaDoor.K
open Go.RowKit
set_option linter.unusedVariables false
set_option linter.unusedSimpArgs false

/-- A touch's cells. -/
def toC (dd N : Int) (dn : Bool) (s s2 : ByteArray) (ad : Option Addr) (nd cd : Nat) : Array Value := #[.int .i64 dd, .int .i64 N, .bool dn, .string s, .string s2, .slice ad nd cd]
def refN (D : Dk) (dd : Int) (s : ByteArray) (nd : Nat) : Int := if D.dw = true then 2 else if dd = 1 ∧ D.room - (usd D.fs : Int) < (nd : Int) then 1 else if dd ≠ 1 ∧ fnd D.fs s = none then 3 else 0

set_option maxHeartbeats 8000000 in
set_option maxRecDepth 100000 in
theorem refused_any (w : World) (x : Nat) (F : Nat → Prop) (D : Dk) (B : Nat) (dd N : Int) (dn : Bool) (s s2 : ByteArray) (ad : Option Addr) (nd cd : Nat) (h : Pm w x F D) (hk : D.Ok B) (hB : B ≤ 1099511627776) :
    Calls Tryd.prog 31 #[.pointer (some ⟨x, 0, none⟩), .agg (toC dd N dn s s2 ad nd cd)] w fun e w' => e = .returned (.int .i64 (refN D dd s nd)) ∧ Hid (Below w.heap.size w w') := by
  obtain ⟨W, hW⟩ : ∃ W, w.alloc (.cells #[.int .i64 dd, .int .i64 N, .bool dn, .string s, .string s2, .slice ad nd cd] 38) = W := ⟨_, rfl⟩
  obtain ⟨Tb, hTb⟩ : ∃ g, w.heap.size = g := ⟨_, rfl⟩
  have hbw : Below w.heap.size w W := by rw [← hW]; exact (Below.refl _ _).alloc (Nat.le_refl _) _
  have t0 : W.cell? ⟨Tb, 0, none⟩ = some (.int .i64 dd) := by rw [← hW, ← hTb]; simp
  have t3 : W.cell? ⟨Tb, 3, none⟩ = some (.string s) := by rw [← hW, ← hTb]; simp
  have t5 : W.cell? ⟨Tb, 5, none⟩ = some (.slice ad nd cd) := by rw [← hW, ← hTb]; simp
  have hPW := h.below hbw
  have HFn := pfind_any W x F D s B hPW hk hB
  obtain ⟨vn, vb, vs, L, hc⟩ := hPW
  obtain ⟨n, hn⟩ : ∃ n, L.length = n := ⟨_, rfl⟩
  have hnb : n ≤ 1099511627776 := by have := hk.len; have := hc.len; omega
  obtain ⟨ab, cb, hvb⟩ := d_shape hc.rb
  rw [hn] at hvb
  subst hvb
  have c1 : W.cell? ⟨x, 1, none⟩ = some (.slice ab n cb) := hc.c 1
  have c3 : W.cell? ⟨x, 3, none⟩ = some (.int .i64 D.room) := hc.c 3
  have c7 : W.cell? ⟨x, 7, none⟩ = some (.bool D.dw) := hc.c 7
  have HC : Hid (Pc W x F D vn (.slice ab n cb) vs L ∧ L.length = n) := ⟨hc, hn⟩
  have HU : Hid (usd D.fs ≤ 1099511627776 ∧ 0 ≤ D.room ∧ D.room ≤ 9223372036854775807) := ⟨Nat.le_trans hk.used hB, hk.room⟩
  have HBe : Hid (Below w.heap.size w W) := hbw
  clear hc hn hk h hbw
  unfold toC
  go_enter Tryd.func31, Tryd.ntmps31
  go_wp2_with fail
  clear hW hTb
  go_loopw [5, 6] (fun v5 v6 wr => LpU W n D.fs v5 v6 wr) (fun _ v _ => n - (intOf v).toNat)
  case atStart => exact lpU (i := 0) (u := 0) rfl rfl (by omega) (by simp [usd])
  case round =>
    obtain ⟨i, u, rfl, rfl, hi, hJ, hwr⟩ := hrel
    rw [hwr]
    clear hwr
    have HJ : Hid (u = (usd (D.fs.take i) : Nat)) := hJ
    clear hJ
    by_cases hin : i = n
    · have hin2 := hin.symm
      clear hin
      subst hin2
      have hz : ¬ (n : Int) < (n : Int) := by omega
      have HR : Hid (u = (usd D.fs : Nat)) := by show _ = _; rw [HJ.out, ← HC.out.2, ← HC.out.1.len, List.take_length]
      obtain ⟨K, hK⟩ : ∃ K, fI D.fs s = K := ⟨_, rfl⟩
      have HK : Hid (fI D.fs s = K) := hK
      rw [hK] at HFn
      clear hK
      have hwu : IntKind.i64.wrap (D.room - u) = D.room - u := by have := HU.out; have := HR.out; rw [IntKind.wrap_i64]; omega
      go_upto_region 7 with (go_at_call 18; refine HFn.mono ?_; rintro e w2 ⟨rfl, hw2⟩; rw [hw2]; clear hw2)
      clear HFn
      cases hw : D.dw with
      | true =>
        rw [hw] at c7
        have HE : Hid (refN D dd s nd = 2) := by show _ = _; unfold refN; rw [hw]; rfl
        go_wp2
        go_ret
        exact ⟨by rw [HE.out]; rfl, HBe.out⟩
      | false =>
        rw [hw] at c7
        by_cases hd1 : dd = 1
        · subst hd1
          by_cases hf : D.room - u < (nd : Int)
          · have HE : Hid (refN D 1 s nd = 1) := by show _ = _; unfold refN; rw [hw, if_neg (by simp), ← HR.out, if_pos ⟨rfl, hf⟩]
            go_wp2_with fail
            go_quiet (fail)
            go_wp2
            go_ret
            exact ⟨by rw [HE.out]; rfl, ⟨HBe.out.os, HBe.out.tape, HBe.out.output, HBe.out.size, HBe.out.block⟩⟩
          · have HE : Hid (refN D 1 s nd = 0) := by show _ = _; unfold refN; rw [hw, if_neg (by simp), ← HR.out, if_neg (fun q => hf q.2), if_neg (fun q => q.1 rfl)]
            go_wp2_with fail
            go_quiet (fail)
            go_wp2
            go_ret
            exact ⟨by rw [HE.out]; rfl, ⟨HBe.out.os, HBe.out.tape, HBe.out.output, HBe.out.size, HBe.out.block⟩⟩
        · have hde : (dd == 1) = false := by simp [hd1]
          have hdd : decide (dd = 1) = false := by simp [hd1]
          have hdn : (dd != 1) = true := by simp [hd1]
          cases hf : fnd D.fs s with
          | none =>
            have hK2 : K = -1 := by rw [← HK.out]; exact fI_none hf
            subst hK2
            have HE : Hid (refN D dd s nd = 3) := by show _ = _; unfold refN; rw [hw, if_neg (by simp), if_neg (fun q => hd1 q.1), if_pos ⟨hd1, hf⟩]
            go_wp2_with fail
            go_quiet (fail)
            go_wp2
            go_ret
            exact ⟨by rw [HE.out]; rfl, ⟨HBe.out.os, HBe.out.tape, HBe.out.output, HBe.out.size, HBe.out.block⟩⟩
          | some k =>
            have hK2 : K = (k : Int) := by rw [← HK.out]; exact fI_some hf
            have hkz : ¬ K < 0 := by omega
            have HE : Hid (refN D dd s nd = 0) := by show _ = _; unfold refN; rw [hw, if_neg (by simp), if_neg (fun q => hd1 q.1), if_neg (fun q => by rw [hf] at q; cases q.2)]
            clear hK2
            go_wp2_with fail
            go_quiet (fail)
            go_wp2
            go_ret
            exact ⟨by rw [HE.out]; rfl, ⟨HBe.out.os, HBe.out.tape, HBe.out.output, HBe.out.size, HBe.out.block⟩⟩
    · have hz : (i : Int) < (n : Int) := by omega
      have hwi : IntKind.i64.wrap ((i : Int) + 1) = (i : Int) + 1 := by rw [IntKind.wrap_i64]; omega
      obtain ⟨p, hp⟩ : ∃ p, L[i]? = some p := ⟨_, List.getElem?_eq_getElem (by rw [HC.out.2]; omega)⟩
      obtain ⟨g, cap, hv, _, k1, _⟩ := row_cell HC.out.1.rb (i := i) (u := p.2) (by rw [List.getElem?_map, hp]; rfl)
      obtain ⟨rfl, hmm, rfl⟩ : ab = some ⟨g, 0, none⟩ ∧ n = L.length ∧ cb = cap := by simpa using hv
      obtain ⟨av, cv, hb⟩ := d_shape (HC.out.1.byt i p hp)
      rw [hb] at k1
      have h2 := usd_take_succ (HC.out.1.file hp)
      have h3 := usd_take_le D.fs (i + 1)
      obtain ⟨m, hm⟩ : ∃ m, p.1.bs.length = m := ⟨_, rfl⟩
      rw [hm] at k1 h2
      have HJ2 : Hid (u + (m : Int) = (usd (D.fs.take (i + 1)) : Nat)) := by show _ = _; rw [h2, HJ.out]; simp
      have hwu : IntKind.i64.wrap (u + (m : Int)) = u + (m : Int) := by have := HU.out; have := HJ.out; rw [IntKind.wrap_i64]; omega
      clear hp hv hmm hb h2 h3 hm HFn
      go_wp2
      exact ⟨lpU (i := i + 1) (u := u + (m : Int)) rfl (by simp) (by omega) HJ2.out, by simp [intOf]; omega⟩

end Go.Proofs.YticdedcgmofpjaaDoor.K
