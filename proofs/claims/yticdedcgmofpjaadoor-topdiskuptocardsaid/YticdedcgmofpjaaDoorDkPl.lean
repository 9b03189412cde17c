import Derived.Test.YticdedcgmofpjaaDoorDkFil
import Derived.LaidEql
import Derived.Stop.Asserts
namespace Go.Proofs.YticdedcgmofpjaaDoor.K
open Go.RowKit
set_option linter.unusedVariables false
set_option linter.unusedSimpArgs false

theorem ba_loop (a : ByteArray) : ∀ (k i : Nat) (r : List UInt8), a.size - i = k → ByteArray.toList.loop a i r = r.reverse ++ a.data.toList.drop i
  | 0, i, r, h => by
    unfold ByteArray.toList.loop
    have hs : a.data.toList.length = a.size := rfl
    rw [if_neg (by omega), List.drop_of_length_le (by omega)]; simp
  | k + 1, i, r, h => by
    unfold ByteArray.toList.loop
    have hs : a.data.toList.length = a.size := rfl
    have hi : i < a.data.toList.length := by omega
    rw [if_pos (by omega), ba_loop a k (i + 1) _ (by omega), List.drop_eq_getElem_cons hi]
    have : a.get! i = a.data.toList[i] := by
      show a.data[i]! = _
      rw [getElem!_pos a.data i (by simpa using hi)]; rfl
    rw [this]; simp
theorem ba_inj {a b : ByteArray} (h : a.toList = b.toList) : a = b := by
  have e : ∀ c : ByteArray, c.toList = c.data.toList := fun c => by
    unfold ByteArray.toList; rw [ba_loop c (c.size - 0) 0 [] rfl]; simp
  rw [e, e] at h
  exact ByteArray.ext (Array.toList_inj.mp h)

/-! ## The page's disk -/
def bxP (vn vb vs : Value) (D : Dk) : Array Value := #[vn, vb, vs, .int .i64 D.room, .int .i64 D.acts, .bool D.arm, .bool D.dn, .bool D.dw]
def nmV (p : Fv) : Value := .string p.1.nm
def sfV (p : Fv) : Value := .int .i64 p.1.sf
structure Pc (w : World) (x : Nat) (F : Nat → Prop) (D : Dk) (vn vb vs : Value) (L : List Fv) : Prop where
  map : L.map (·.1) = D.fs
  box : w.heap[x]? = some (.cells (bxP vn vb vs D) 35 (0, 0))
  rn : w.ownsRow 0 9 1 vn L.length (L.map nmV)
  rb : w.ownsRow 0 36 1 vb L.length (L.map (·.2))
  rs : w.ownsRow 0 3 1 vs L.length (L.map sfV)
  byt : ∀ (i : Nat) p, L[i]? = some p → w.ownsRow 0 5 1 p.2 p.1.bs.length (p.1.bs.map (Value.int .u8))
  dis : ∀ (i j : Nat) p q g, L[i]? = some p → L[j]? = some q → p.2.ownBlock = some g → q.2.ownBlock = some g → i = j
  fx : F x
  fn : ∀ g, vn.ownBlock = some g → F g
  fb : ∀ g, vb.ownBlock = some g → F g
  fs : ∀ g, vs.ownBlock = some g → F g
  fy : ∀ (i : Nat) p g, L[i]? = some p → p.2.ownBlock = some g → F g
def Pm (w : World) (x : Nat) (F : Nat → Prop) (D : Dk) : Prop := ∃ vn vb vs L, Pc w x F D vn vb vs L
section
variable {w w' : World} {x : Nat} {F G : Nat → Prop} {D : Dk} {vn vb vs : Value} {L : List Fv}
theorem Pc.xlt (h : Pc w x F D vn vb vs L) : x < w.heap.size := (Array.getElem?_eq_some_iff.1 h.box).1
theorem Pc.len (h : Pc w x F D vn vb vs L) : D.fs.length = L.length := by rw [← h.map]; simp
theorem Pc.file (h : Pc w x F D vn vb vs L) {i : Nat} {p : Fv} (hp : L[i]? = some p) : D.fs[i]? = some p.1 := by rw [← h.map, List.getElem?_map, hp]; rfl
theorem Pc.same (h : Pc w x F D vn vb vs L) (hs : ∀ k, F k → k < w.heap.size → w'.heap[k]? = w.heap[k]?) : Pc w' x F D vn vb vs L :=
  ⟨h.map, (hs x h.fx h.xlt).trans h.box, d_blk h.rn (fun g hg => hs g (h.fn g hg) (d_lt h.rn g hg).2), d_blk h.rb (fun g hg => hs g (h.fb g hg) (d_lt h.rb g hg).2), d_blk h.rs (fun g hg => hs g (h.fs g hg) (d_lt h.rs g hg).2), fun i p hp => d_blk (h.byt i p hp) (fun g hg => hs g (h.fy i p g hp hg) (d_lt (h.byt i p hp) g hg).2), h.dis, h.fx, h.fn, h.fb, h.fs, h.fy⟩
theorem Pc.mono (h : Pc w x F D vn vb vs L) (hf : ∀ k, F k → k < w.heap.size → G k) : Pc w x G D vn vb vs L :=
  ⟨h.map, h.box, h.rn, h.rb, h.rs, h.byt, h.dis, hf x h.fx h.xlt, fun g hg => hf g (h.fn g hg) (d_lt h.rn g hg).2, fun g hg => hf g (h.fb g hg) (d_lt h.rb g hg).2, fun g hg => hf g (h.fs g hg) (d_lt h.rs g hg).2, fun i p g hp hg => hf g (h.fy i p g hp hg) (d_lt (h.byt i p hp) g hg).2⟩
theorem Pm.same (h : Pm w x F D) (hs : ∀ k, F k → k < w.heap.size → w'.heap[k]? = w.heap[k]?) : Pm w' x F D := by
  obtain ⟨vn, vb, vs, L, h⟩ := h; exact ⟨vn, vb, vs, L, h.same hs⟩
theorem Pm.mono (h : Pm w x F D) (hf : ∀ k, F k → k < w.heap.size → G k) : Pm w x G D := by
  obtain ⟨vn, vb, vs, L, h⟩ := h; exact ⟨vn, vb, vs, L, h.mono hf⟩
theorem Pm.below (h : Pm w x F D) (hb : Below w.heap.size w w') : Pm w' x F D := h.same (fun k _ hk => hb.block k hk)
theorem Pc.c (h : Pc w x F D vn vb vs L) (j : Nat) : w.cell? ⟨x, j, none⟩ = (bxP vn vb vs D)[j]? := cell_of_row _ _ j _ _ _ h.box
theorem Pc.z (h : Pc w x F D vn vb vs L) (j : Nat) : w.frozen? ⟨x, j, none⟩ = false := frozen_of_row _ _ j _ _ h.box
/-- One of the box's plain cells. -/
theorem Pc.boxed (h : Pc w x F D vn vb vs L) {D' : Dk} (hf : D'.fs = D.fs) (hB : w'.heap[x]? = some (.cells (bxP vn vb vs D') 35 (0, 0))) (hs : ∀ k, k ≠ x → w'.heap[k]? = w.heap[k]?) : Pc w' x F D' vn vb vs L :=
  ⟨by rw [h.map, hf], hB, d_blk h.rn (fun g hg => hs g (fun e => d_box h.rn h.box (by decide) (by rw [← e]; exact hg))), d_blk h.rb (fun g hg => hs g (fun e => d_box h.rb h.box (by decide) (by rw [← e]; exact hg))), d_blk h.rs (fun g hg => hs g (fun e => d_box h.rs h.box (by decide) (by rw [← e]; exact hg))), fun i p hp => d_blk (h.byt i p hp) (fun g hg => hs g (fun e => d_box (h.byt i p hp) h.box (by decide) (by rw [← e]; exact hg))), h.dis, h.fx, h.fn, h.fb, h.fs, h.fy⟩
theorem Pm.set (h : Pm w x F D) {D' : Dk} (hf : D'.fs = D.fs) {j : Nat} {u : Value} (hb : ∀ vn vb vs, (bxP vn vb vs D).set! j u = bxP vn vb vs D') : Pm (w.setCell ⟨x, j, none⟩ u) x F D' := by
  obtain ⟨vn, vb, vs, L, h⟩ := h
  refine ⟨vn, vb, vs, L, h.boxed hf ?_ (fun k hk => heap_setCell_other _ _ _ _ hk)⟩
  rw [← hb]
  exact heap_setCell_same w x j _ _ _ h.box
/-- An entry's cell in a row. -/
theorem row_cell {e : TypeId} {v : Value} {n : Nat} {xs : List Value} {i : Nat} {u : Value} (h : w.ownsRow 0 e 1 v n xs) (hu : xs[i]? = some u) : ∃ g c, v = .slice (some ⟨g, 0, none⟩) n c ∧ i < n ∧ w.cell? ⟨g, i, none⟩ = some u ∧ ∀ j, w.frozen? ⟨g, j, none⟩ = false := by
  have hl := (List.getElem?_eq_some_iff.mp hu).1
  have hn : i < n := by have := h.1; omega
  obtain ⟨g, c, hv⟩ := d_some h (by omega)
  subst hv
  exact ⟨g, c, rfl, hn, (World.ownsRow.cellAt h i (by omega)).trans hu, fun j => World.ownsRow.frozenAt h _⟩
end

set_option maxHeartbeats 2000000 in
theorem pfind_any (w : World) (x : Nat) (F : Nat → Prop) (D : Dk) (s : ByteArray) (B : Nat) (h : Pm w x F D) (hk : D.Ok B) (hB : B ≤ 1099511627776) : Calls Tryd.prog 18 #[.pointer (some ⟨x, 0, none⟩), .string s] w fun e w' => e = .returned (.int .i64 (fI D.fs s)) ∧ w' = w := by
  obtain ⟨vn, vb, vs, L, h⟩ := h
  have HD : Hid (Pc w x F D vn vb vs L) := h
  obtain ⟨af, cf, hv⟩ := d_shape h.rn
  obtain ⟨n, hn⟩ : ∃ n, L.length = n := ⟨_, rfl⟩
  have hnb : n ≤ 1099511627776 := by have := hk.len; have := h.len; omega
  rw [hn] at hv
  subst hv
  have HN : Hid (L.length = n) := hn
  have c0 : w.cell? ⟨x, 0, none⟩ = some (.slice af n cf) := h.c 0
  clear h hn hk
  go_enter Tryd.func18, Tryd.ntmps18
  obtain ⟨Z, hZ⟩ : ∃ Z, w = Z := ⟨_, rfl⟩
  rw [hZ] at HD c0 ⊢
  go_wp2
  go_loopw [5] (fun v wr => LpF Z n L s v wr) (fun v _ => n - (intOf v).toNat)
  case atStart => exact lpF (i := 0) rfl (by omega) (fun j p hj => by omega)
  case round =>
    obtain ⟨i, rfl, hi, hJ, hwr⟩ := hrel
    have HJ : Hid (∀ j p, j < i → L[j]? = some p → isN s p.1 = false) := hJ
    clear hJ
    rw [hwr]
    clear hwr
    by_cases hin : i = n
    · subst hin
      have hz : ¬ (i : Int) < (i : Int) := by omega
      have HR : Hid (fI D.fs s = -1) := fI_none (fnd_none (fun j g hj hg => by
        rw [← HD.out.map, List.getElem?_map] at hg
        obtain ⟨p, hp⟩ : ∃ p, L[j]? = some p := ⟨_, List.getElem?_eq_getElem (by rw [HD.out.len] at hj; exact hj)⟩
        rw [hp] at hg
        simp at hg
        subst hg
        exact HJ.out j p (by rw [HD.out.len, HN.out] at hj; exact hj) hp))
      go_wp2
      go_ret
      exact ⟨by rw [HR.out]; rfl, rfl⟩
    · have hz : (i : Int) < (n : Int) := by omega
      have hwi : IntKind.i64.wrap ((i : Int) + 1) = (i : Int) + 1 := by rw [IntKind.wrap_i64]; omega
      obtain ⟨p, hp⟩ : ∃ p, L[i]? = some p := ⟨_, List.getElem?_eq_getElem (by rw [HN.out]; omega)⟩
      obtain ⟨g, cap, hv, _, k0, _⟩ := row_cell HD.out.rn (i := i) (u := .string p.1.nm) (by rw [List.getElem?_map, hp]; rfl)
      obtain ⟨rfl, hmm, rfl⟩ : af = some ⟨g, 0, none⟩ ∧ n = L.length ∧ cf = cap := by simpa using hv
      clear hv hmm
      by_cases he : (p.1.nm.toList == s.toList) = true
      · have HR : Hid (fI D.fs s = (i : Int)) := fI_some (fnd_some (fun j f hj hf => by
          rw [← HD.out.map, List.getElem?_map] at hf
          cases hq : L[j]? with
          | none => rw [hq] at hf; cases hf
          | some r => rw [hq] at hf; simp at hf; subst hf; exact HJ.out j r hj hq) (HD.out.file hp) he)
        clear hp
        go_wp2
        go_ret
        exact ⟨by rw [HR.out]; rfl, rfl⟩
      · have he' : (p.1.nm.toList == s.toList) = false := by simpa using he
        have HJ2 : Hid (∀ j q, j < i + 1 → L[j]? = some q → isN s q.1 = false) := fun j q hj hq => by
          by_cases e : j = i
          · subst e; rw [hp] at hq; cases hq; exact he'
          · exact HJ.out j q (by omega) hq
        clear hp he
        go_wp2
        exact ⟨lpF (i := i + 1) (by simp) (by omega) HJ2.out, by simp [intOf]; omega⟩


/-- An act of the page's: is it carried out, and does it answer that it is down? -/
def tkD (D : Dk) : Dk := if actB D = true then { D with dw := true } else { D with acts := if D.arm = true then D.acts - 1 else D.acts }
set_option maxHeartbeats 4000000 in
theorem takes_any (w : World) (x : Nat) (F : Nat → Prop) (D : Dk) (B : Nat) (h : Pm w x F D) (hk : D.Ok B) : Calls Tryd.prog 32 #[.pointer (some ⟨x, 0, none⟩)] w fun e w' => e = .returned (.tuple #[.bool (if actB D = true then D.dn else true), .bool (actB D)]) ∧ Hid (Pm w' x F (tkD D) ∧ Kd F w w' ∧ w'.heap.size = w.heap.size) := by
  have HP : Hid (Pm w x F D) := h
  have HF : Hid (F x) := by obtain ⟨_, _, _, _, h⟩ := h; exact h.fx
  obtain ⟨vn, vb, vs, L, hc⟩ := h
  have k4 : w.cell? ⟨x, 4, none⟩ = some (.int .i64 D.acts) := hc.c 4
  have k5 : w.cell? ⟨x, 5, none⟩ = some (.bool D.arm) := hc.c 5
  have k6 : w.cell? ⟨x, 6, none⟩ = some (.bool D.dn) := hc.c 6
  have k7 : w.cell? ⟨x, 7, none⟩ = some (.bool D.dw) := hc.c 7
  have z4 := hc.z 4
  have z7 := hc.z 7
  have hac := hk.acts
  clear hc hk
  cases ha : D.arm with
  | false =>
    rw [ha] at k5
    have hb : actB D = false := by unfold actB; rw [ha]; rfl
    have HR : Hid (tkD D = D) := by show _ = _; unfold tkD; rw [hb, if_neg (by simp), if_neg (by rw [ha]; simp)]
    rw [hb]
    go_enter Tryd.func32, Tryd.ntmps32
    go_wp2
    go_ret2
    refine ⟨by simp, ?_⟩
    rw [HR.out]
    exact ⟨HP.out, Kd.refl _ _, rfl⟩
  | true =>
    rw [ha] at k5
    by_cases h0 : D.acts = 0
    · have hb : actB D = true := by unfold actB; rw [ha, h0]; rfl
      have HR : Hid (tkD D = { D with dw := true }) := by show _ = _; unfold tkD; rw [hb]; rfl
      rw [hb]
      rw [h0] at k4
      have k6' : (w.setCell ⟨x, 7, none⟩ (.bool true)).cell? ⟨x, 6, none⟩ = some (.bool D.dn) := (World.cell?_setCell_other _ _ _ _ (by simp)).trans k6
      go_enter Tryd.func32, Tryd.ntmps32
      go_wp2
      go_ret2
      refine ⟨by simp, ?_⟩
      rw [HR.out]
      exact ⟨HP.out.set (D' := { D with dw := true }) rfl (fun _ _ _ => rfl), Kd.set HF.out, by simp [World.setCell]⟩
    · have hb : actB D = false := by unfold actB; rw [ha]; simp [h0]
      have HR : Hid (tkD D = { D with acts := D.acts - 1 }) := by show _ = _; unfold tkD; rw [hb, if_neg (by simp), if_pos ha]
      have hzb : (D.acts == 0) = false := by simp [h0]
      have hwa : IntKind.i64.wrap (D.acts - 1) = D.acts - 1 := by rw [IntKind.wrap_i64]; omega
      rw [hb]
      go_enter Tryd.func32, Tryd.ntmps32
      go_wp2
      go_ret2
      refine ⟨by simp, ?_⟩
      rw [HR.out]
      exact ⟨HP.out.set (D' := { D with acts := D.acts - 1 }) rfl (fun _ _ _ => rfl), Kd.set HF.out, by simp [World.setCell]⟩

def Cl (w : World) (a : Addr) : Prop := ∃ (ca : Array Value) (ta : TypeId), w.heap[a.block]? = some (.cells ca ta (0, 0))
/-- What an error is, as a number. -/
theorem what_any (w : World) (aD aF aN : Addr) (r : Nat) (hr : r ≤ 3) (hE : Er w aD aF aN) (h1 : aD ≠ aF) (h2 : aD ≠ aN) (h3 : aF ≠ aN) (cD : Cl w aD) (cF : Cl w aF) (cN : Cl w aN) : Calls Tryd.prog 21 #[evD aD aF aN r] w fun e w' => e = .returned (.int .i64 (r : Int)) ∧ w' = w := by
  have e1 : w.cell? ⟨0, 0, none⟩ = some (.iface 71 (.pointer (some aD))) := hE.d
  have e2 : w.cell? ⟨1, 0, none⟩ = some (.iface 71 (.pointer (some aF))) := hE.f
  have e3 : w.cell? ⟨2, 0, none⟩ = some (.iface 71 (.pointer (some aN))) := hE.n
  have q1 : (Tryd.prog.info? 71).map (·.comparable) = some true := by kernel_rfl
  have q2 : (Tryd.prog.info? 88).map (·.size) = some 1 := by kernel_rfl
  obtain ⟨i, hi, hc⟩ := Option.map_eq_some_iff.1 q1
  obtain ⟨j, hj, hs⟩ := Option.map_eq_some_iff.1 q2
  have hs' : j.size ≠ 0 := by omega
  obtain ⟨ca, ta, kD⟩ := cD
  obtain ⟨cb, tb, kF⟩ := cF
  obtain ⟨cc, tc, kN⟩ := cN
  have sD := run_eql_iface_ptr_same (P := Tryd.prog) w aD Tryd.underlying40 Tryd.underlying71 hi hc hj
  have sF := run_eql_iface_ptr_same (P := Tryd.prog) w aF Tryd.underlying40 Tryd.underlying71 hi hc hj
  have sN := run_eql_iface_ptr_same (P := Tryd.prog) w aN Tryd.underlying40 Tryd.underlying71 hi hc hj
  have oDF := run_eql_iface_ptr_other (P := Tryd.prog) w Tryd.underlying40 Tryd.underlying71 hi hc hj hs' h1 kD kF
  have oND := run_eql_iface_ptr_other (P := Tryd.prog) w Tryd.underlying40 Tryd.underlying71 hi hc hj hs' (fun e => h2 e.symm) kN kD
  have oNF := run_eql_iface_ptr_other (P := Tryd.prog) w Tryd.underlying40 Tryd.underlying71 hi hc hj hs' (fun e => h3 e.symm) kN kF
  clear hE kD kF kN h1 h2 h3 hi hj hs hs' hc q1 q2
  match r, hr with
  | 0, _ =>
    show Calls _ _ #[.nilIface] _ _
    go_enter Tryd.func21, Tryd.ntmps21
    go_wp2
    go_ret
    exact ⟨rfl, rfl⟩
  | 1, _ =>
    show Calls _ _ #[.iface 71 (.pointer (some aF))] _ _
    go_enter Tryd.func21, Tryd.ntmps21
    go_wp2
    go_ret
    exact ⟨rfl, rfl⟩
  | 2, _ =>
    show Calls _ _ #[.iface 71 (.pointer (some aD))] _ _
    go_enter Tryd.func21, Tryd.ntmps21
    go_wp2
    go_ret
    exact ⟨rfl, rfl⟩
  | 3, _ =>
    show Calls _ _ #[.iface 71 (.pointer (some aN))] _ _
    go_enter Tryd.func21, Tryd.ntmps21
    go_wp2
    go_ret
    exact ⟨rfl, rfl⟩

end Go.Proofs.YticdedcgmofpjaaDoor.K
