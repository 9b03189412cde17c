import Derived.Test.YtllhbhogfffedaaGreatDoorJkOpn
import Derived.Test.YtllhbhogfffedaaGreatDoorRcSc2
import Derived.Test.YtllhbhogfffedaaGreatDoorJnAwk
namespace Go.Proofs.YtllhbhogfffedaaGreatDoor.K
open Go.RowKit
set_option linter.unusedVariables false
set_option linter.unusedSimpArgs false

/-- What lies ahead of the law's own blocks: the sentinels and the table. -/
structure S0 (w : World) (aD aF aN : Addr) : Prop where
  er : Er w aD aF aN
  df : aD ≠ aF
  dn : aD ≠ aN
  fn : aF ≠ aN
  cD : ∃ (ca : Array Value) (ta : TypeId), w.heap[aD.block]? = some (.cells ca ta (0, 0))
  cF : ∃ (ca : Array Value) (ta : TypeId), w.heap[aF.block]? = some (.cells ca ta (0, 0))
  cN : ∃ (ca : Array Value) (ta : TypeId), w.heap[aN.block]? = some (.cells ca ta (0, 0))
  tb : Tab6 w
theorem S0.later {w V : World} {aD aF aN : Addr} (h : S0 w aD aF aN) (hb : Below w.heap.size w V) : S0 V aD aF aN := by
  have k : ∀ {a : Addr}, (∃ (ca : Array Value) (ta : TypeId), w.heap[a.block]? = some (.cells ca ta (0, 0))) → (∃ (ca : Array Value) (ta : TypeId), V.heap[a.block]? = some (.cells ca ta (0, 0))) := fun ⟨ca, ta, hh⟩ => ⟨ca, ta, (hb.block _ (Array.getElem?_eq_some_iff.1 hh).1).trans hh⟩
  exact ⟨h.er.below hb, h.df, h.dn, h.fn, k h.cD, k h.cF, k h.cN, h.tb.below hb (tab6_pos h.tb)⟩
/-- The sentinels and the table, at a world that keeps what lay ahead, and a footprint that lies behind it. -/
theorem S0.snt {W w : World} {F : Nat → Prop} {aD aF aN : Addr} (h : S0 W aD aF aN) (hb : Below W.heap.size W w) (hF : ∀ k, F k → W.heap.size ≤ k) : Snt w F aD aF aN ∧ Tab6 w ∧ ¬ F 4 := by
  have h' := h.later hb
  have n : ∀ {b : Nat} {v : Value}, W.cell? ⟨b, 0, none⟩ = some v → ¬ F b := fun hc q => by have := hF _ q; have := cell_lt hc; omega
  have m : ∀ {a : Addr}, (∃ (ca : Array Value) (ta : TypeId), W.heap[a.block]? = some (.cells ca ta (0, 0))) → ¬ F a.block := fun ⟨ca, ta, hh⟩ q => by have := hF _ q; have := (Array.getElem?_eq_some_iff.1 hh).1; omega
  exact ⟨⟨h'.er, ⟨n h.er.d, n h.er.f, n h.er.n⟩, h.df, h.dn, h.fn, ⟨h'.cD, m h.cD⟩, ⟨h'.cF, m h.cF⟩, ⟨h'.cN, m h.cN⟩⟩, h'.tb, fun q => by have := hF _ q; have := tab6_pos h.tb; omega⟩

/-- The law's world: the disk D in blocks of its own, none of them below W's end, none of X; nothing below W's end has changed. -/
structure Sj (W : World) (X : Nat → Prop) (w : World) (D : Dk) : Prop where
  bel : Below W.heap.size W w
  xs : ∀ k, X k → k < w.heap.size
  hh : X (W.heap.size + 1) ∧ w.cell? ⟨W.heap.size + 1, 0, none⟩ = some (.pointer (some ⟨W.heap.size, 0, none⟩))
  dd : X (W.heap.size + 2) ∧ w.cell? ⟨W.heap.size + 2, 0, none⟩ = some (.pointer (some ⟨W.heap.size, 0, none⟩))
  foot : ∃ F : Nat → Prop, Dm w W.heap.size F D ∧ ∀ k, F k → W.heap.size ≤ k ∧ ¬ X k ∧ k < w.heap.size
section
variable {W w V : World} {X : Nat → Prop} {D D' : Dk}
theorem Sj.later (h : Sj W X w D) (hb : Below w.heap.size w V) : Sj W X V D := by
  obtain ⟨F, h1, h2⟩ := h.foot
  have hs := hb.size
  exact ⟨h.bel.trans (hb.mono h.bel.size), fun k q => Nat.lt_of_lt_of_le (h.xs k q) hs, ⟨h.hh.1, bel_cell hb h.hh.2⟩, ⟨h.dd.1, bel_cell hb h.dd.2⟩, F, h1.below hb, fun k hk => ⟨(h2 k hk).1, (h2 k hk).2.1, Nat.lt_of_lt_of_le (h2 k hk).2.2 hs⟩⟩
/-- What is new is nobody's. -/
theorem Sj.free (h : Sj W X w D) (hb : Below w.heap.size w V) : Sj W (fun k => X k ∨ (w.heap.size ≤ k ∧ k < V.heap.size)) V D := by
  obtain ⟨F, h1, h2⟩ := h.foot
  have hs := hb.size
  exact ⟨h.bel.trans (hb.mono h.bel.size), fun k q => q.elim (fun q => Nat.lt_of_lt_of_le (h.xs k q) hs) (·.2), ⟨.inl h.hh.1, bel_cell hb h.hh.2⟩, ⟨.inl h.dd.1, bel_cell hb h.dd.2⟩, F, h1.below hb, fun k hk => ⟨(h2 k hk).1, fun q => q.elim (h2 k hk).2.1 (fun q => by have := (h2 k hk).2.2; omega), Nat.lt_of_lt_of_le (h2 k hk).2.2 hs⟩⟩
theorem Sj.drop {Y : Nat → Prop} (h : Sj W X w D) (hY : ∀ k, Y k → X k) (h1 : Y (W.heap.size + 1)) (h2 : Y (W.heap.size + 2)) : Sj W Y w D := by
  obtain ⟨F, q1, q2⟩ := h.foot
  exact ⟨h.bel, fun k q => h.xs k (hY k q), ⟨h1, h.hh.2⟩, ⟨h2, h.dd.2⟩, F, q1, fun k hk => ⟨(q2 k hk).1, fun q => (q2 k hk).2.1 (hY k q), (q2 k hk).2.2⟩⟩
theorem Sj.call (h : Sj W X w D) : ∃ F, Dm w W.heap.size F D ∧ (∀ k, F k → W.heap.size ≤ k ∧ ¬ X k ∧ k < w.heap.size) ∧ ∀ (V : World) (D' : Dk) (F' : Nat → Prop), Dm V W.heap.size F' D' → (∀ k, F' k → F k ∨ w.heap.size ≤ k) → Kd F w V → Sj W X V D' ∧ ∀ k, X k → V.heap[k]? = w.heap[k]? := by
  obtain ⟨F, h1, h2⟩ := h.foot
  refine ⟨F, h1, h2, fun V D' F' hD hF hK => ?_⟩
  have hs := hK.size
  have hl := h.bel.size
  have hx : ∀ k, X k → V.heap[k]? = w.heap[k]? := fun k hk => hK.same k (h.xs k hk) (fun q => (h2 k q).2.1 hk)
  refine ⟨⟨h.bel.trans ⟨hK.os, hK.tape, hK.output, hK.size, fun k hk => hK.same k (by omega) (fun q => by have := (h2 k q).1; omega)⟩, fun k q => Nat.lt_of_lt_of_le (h.xs k q) hs, ⟨h.hh.1, hK.cell h.hh.2 (fun q => (h2 _ q).2.1 h.hh.1)⟩, ⟨h.dd.1, hK.cell h.dd.2 (fun q => (h2 _ q).2.1 h.dd.1)⟩, K.fc F' V, hD.fc, fun k q => ?_⟩, hx⟩
  rcases hF k q.1 with q1 | q1
  · exact ⟨(h2 k q1).1, (h2 k q1).2.1, q.2⟩
  · exact ⟨by omega, fun q => by have := h.xs k q; omega, q.2⟩
end
/-- A disk that is new, and its Disk. -/
theorem Sj.start {W V : World} {M : Int} (h1 : Dm V W.heap.size (fun g => g = W.heap.size) (dk0 M)) (h2 : V.cell? ⟨W.heap.size + 1, 0, none⟩ = some (.pointer (some ⟨W.heap.size, 0, none⟩))) (h3 : V.heap.size = W.heap.size + 2) (h4 : Below W.heap.size W V) :
    Sj W (fun k => k = W.heap.size + 1 ∨ k = W.heap.size + 2) (V.alloc (.cells #[.pointer (some ⟨W.heap.size, 0, none⟩)] 102)) (dk0 M) := by
  have hb : Below V.heap.size V (V.alloc (.cells #[.pointer (some ⟨W.heap.size, 0, none⟩)] 102)) := (Below.refl _ _).alloc (Nat.le_refl _) _
  have hz : (V.alloc (.cells #[.pointer (some ⟨W.heap.size, 0, none⟩)] 102)).heap.size = W.heap.size + 3 := by simp [h3]
  refine ⟨h4.trans (hb.mono (by omega)), fun k q => by rw [hz]; omega, ⟨.inl rfl, bel_cell hb h2⟩, ⟨.inr rfl, ?_⟩, fun g => g = W.heap.size, h1.below hb, fun k hk => by rw [hz]; subst hk; exact ⟨Nat.le_refl _, by omega, by omega⟩⟩
  have := cell_of_row _ V.heap.size 0 _ _ _ (heap_new6 V (.cells #[.pointer (some ⟨W.heap.size, 0, none⟩)] 102))
  rw [h3] at this
  exact this

/-! ## The law's calls -/
section
variable {W w : World} {X : Nat → Prop} {D : Dk} {aD aF aN : Addr} {B : Nat}
/-- A call on the disk, and what it answers. -/
def MJ (W : World) (X : Nat → Prop) (R : Dk × Nat) (aD aF aN : Addr) (w : World) (e : Ending) (w' : World) : Prop := e = .returned (evD aD aF aN R.2) ∧ Sj W X w' R.1 ∧ ∀ k, X k → w'.heap[k]? = w.heap[k]?
theorem Sj.app (h : Sj W X w D) (hs : S0 W aD aF aN) (hk : D.Ok B) (hB : B ≤ 1099511627776) (s : ByteArray) (a : Option Addr) (n c : Nat) (zs : List Int) (hl : zs.length = n) (hz : Lies .u8 W a zs) (hnn : a = none → n = 0 ∧ c = 0) (hn : n ≤ 1099511627776) :
    Calls Tryz.prog 25 #[.pointer (some ⟨W.heap.size + 2, 0, none⟩), .string s, .slice a n c] w fun e w' => MJ W X (appD D s zs) aD aF aN w e w' := by
  obtain ⟨F, h1, h2, h3⟩ := h.call
  obtain ⟨hS, hT, nT⟩ := hs.snt h.bel (fun k q => (h2 k q).1)
  have hzw := lies_bel h.bel hz
  refine (dAppend_any w (W.heap.size + 2) W.heap.size F D s a n c zs B aD aF aN h1 hk hB h.dd.2 (fun q => (h2 _ q).2.1 h.dd.1) hS.er hS.nf hl hzw (fun b off hne e q => ?_) hnn hn).mono ?_
  · rcases hz with hz | ⟨g, o, he, hc⟩
    · exact hne hz
    · rw [e] at he
      cases he
      have h0 : 0 < zs.length := by cases zs with | nil => exact absurd rfl hne | cons _ _ => simp
      have := cell_lt (hc 0 h0)
      have := (h2 _ q).1
      omega
  · rintro e w' ⟨rfl, hD, hK⟩
    obtain ⟨q1, q2⟩ := h3 w' _ _ hD (fun k q => q) hK
    exact ⟨rfl, q1, q2⟩
theorem Sj.syn (h : Sj W X w D) (hs : S0 W aD aF aN) (hk : D.Ok B) (hB : B ≤ 1099511627776) (s : ByteArray) :
    Calls Tryz.prog 26 #[.pointer (some ⟨W.heap.size + 2, 0, none⟩), .string s] w fun e w' => MJ W X (fileD D s (fun i => synF D.fs i)) aD aF aN w e w' := by
  obtain ⟨F, h1, h2, h3⟩ := h.call
  obtain ⟨hS, hT, nT⟩ := hs.snt h.bel (fun k q => (h2 k q).1)
  refine (dSync_any w (W.heap.size + 2) W.heap.size F D s B aD aF aN h1 hk hB h.dd.2 (fun q => (h2 _ q).2.1 h.dd.1) hS.er hS.nf).mono ?_
  rintro e w' ⟨rfl, hD, hK⟩
  obtain ⟨q1, q2⟩ := h3 w' _ _ hD (fun k q => q) hK
  exact ⟨rfl, q1, q2⟩
theorem Sj.armed (h : Sj W X w D) (N : Int) (dn : Bool) :
    Calls Tryz.prog 14 #[.pointer (some ⟨W.heap.size + 1, 0, none⟩), .int .i64 N, .bool dn] w fun e w' => (∃ v, e = .returned v) ∧ Sj W X w' (armD D N dn) ∧ ∀ k, X k → w'.heap[k]? = w.heap[k]? := by
  obtain ⟨F, h1, h2, h3⟩ := h.call
  refine (dArm_any w (W.heap.size + 1) W.heap.size F D N dn h1 h.hh.2 (fun q => (h2 _ q).2.1 h.hh.1)).mono ?_
  rintro e w' ⟨he, hD, hK⟩
  obtain ⟨q1, q2⟩ := h3 w' _ _ hD (fun k q => .inl q) hK
  exact ⟨he, q1, q2⟩
theorem Sj.crash (h : Sj W X w D) (hk : D.Ok B) (hB : B ≤ 1099511627776) (keep : Int) :
    Calls Tryz.prog 21 #[.pointer (some ⟨W.heap.size + 1, 0, none⟩), .int .i64 keep] w fun e w' => (∃ v, e = .returned v) ∧ Sj W X w' (crD D keep) ∧ ∀ k, X k → w'.heap[k]? = w.heap[k]? := by
  obtain ⟨F, h1, h2, h3⟩ := h.call
  refine (dCrash_any w (W.heap.size + 1) W.heap.size F D keep B h1 hk hB h.hh.2 (fun q => (h2 _ q).2.1 h.hh.1)).mono ?_
  rintro e w' ⟨he, hD, hK⟩
  obtain ⟨q1, q2⟩ := h3 w' _ _ hD (fun k q => q) hK
  exact ⟨he, q1, q2⟩
theorem Sj.files (h : Sj W X w D) (hk : D.Ok B) (hB : B ≤ 1099511627776) :
    Calls Tryz.prog 28 #[.pointer (some ⟨W.heap.size + 1, 0, none⟩)] w fun e w' => FilP D.fs w e w' := by
  obtain ⟨F, h1, h2, h3⟩ := h.call
  exact dFiles_any w (W.heap.size + 1) W.heap.size F D B h1 hk hB h.hh.2
theorem Sj.disk (h : Sj W X w D) :
    Calls Tryz.prog 13 #[.pointer (some ⟨W.heap.size + 1, 0, none⟩)] w fun e w' => e = .returned (.pointer (some ⟨w.heap.size, 0, none⟩)) ∧ Sj W (fun k => X k ∨ (w.heap.size ≤ k ∧ k < w'.heap.size)) w' D ∧ w'.heap.size = w.heap.size + 1 ∧ w'.cell? ⟨w.heap.size, 0, none⟩ = some (.pointer (some ⟨W.heap.size, 0, none⟩)) ∧ Below w.heap.size w w' := by
  refine (dDisk_any w (W.heap.size + 1) W.heap.size h.hh.2).mono ?_
  rintro e w' ⟨rfl, rfl⟩
  have hb : Below w.heap.size w (w.alloc (.cells #[.pointer (some ⟨W.heap.size, 0, none⟩)] 102)) := (Below.refl _ _).alloc (Nat.le_refl _) _
  exact ⟨rfl, h.free hb, by simp, cell_of_row _ w.heap.size 0 _ _ _ (heap_new6 w (.cells #[.pointer (some ⟨W.heap.size, 0, none⟩)] 102)), hb⟩
/-- What Open answers, in the law's world. -/
def OJ (W : World) (X : Nat → Prop) (d : Nat) (O : Opn) (aD aF aN : Addr) (w : World) (e : Ending) (w' : World) : Prop :=
  ∃ pj v, e = .returned (.tuple #[pj, v, evD aD aF aN O.r]) ∧ Sj W X w' O.d ∧ (∀ k, X k → w'.heap[k]? = w.heap[k]?) ∧ w.heap.size ≤ w'.heap.size ∧ (O.r ≠ 0 → pj = .pointer none ∧ v = .slice none 0 0) ∧
    (O.r = 0 → ∃ j os, pj = .pointer (some ⟨j, 0, none⟩) ∧ Jn w' j d (O.n : Nat) (O.k : Nat) ∧ Rl w' w.heap.size v os ∧ os.map Ro.r = O.l)
theorem Sj.opn (h : Sj W X w D) (hs : S0 W aD aF aN) (hk : D.Ok B) (hB : B ≤ 1099511627776) (d : Nat) (hd : X d) (hc : w.cell? ⟨d, 0, none⟩ = some (.pointer (some ⟨W.heap.size, 0, none⟩))) :
    Calls Tryz.prog 12 #[.pointer (some ⟨d, 0, none⟩)] w fun e w' => OJ W X d (opX D) aD aF aN w e w' := by
  obtain ⟨F, h1, h2, h3⟩ := h.call
  obtain ⟨hS, hT, nT⟩ := hs.snt h.bel (fun k q => (h2 k q).1)
  refine (open_any w d W.heap.size F D B aD aF aN h1 hk hB hc (fun q => (h2 _ q).2.1 hd) hS hT nT).mono ?_
  rintro e w' ⟨pj, v, F', rfl, hD, hF, hK, hno, hyes⟩
  obtain ⟨q1, q2⟩ := h3 w' _ _ hD hF hK
  refine ⟨pj, v, rfl, q1, q2, hK.size, hno, fun hr => ?_⟩
  obtain ⟨j, os, e1, e2, e3, e4, e5, e6, e7⟩ := hyes hr
  exact ⟨j, os, e1, ⟨cell_of_row _ _ 0 _ _ _ e3, cell_of_row _ _ 1 _ _ _ e3, cell_of_row _ _ 2 _ _ _ e3, cell_of_row _ _ 3 _ _ _ e3⟩, e5, e6⟩
end
/-- Number of what a call answers: nil and ErrDown. -/
theorem number_down (w : World) (F : Nat → Prop) (aD aF aN : Addr) (h : Snt w F aD aF aN) : Calls Tryz.prog 16 #[.iface 218 (.pointer (some aD))] w fun e w' => e = .returned (.int .i64 6) ∧ Hid (Below w.heap.size w w') := by
  have hb : Below w.heap.size w (w.alloc (.cells #[.int .i64 0] 55)) := (Below.refl _ _).alloc (Nat.le_refl _) _
  have HI : Hid (∀ V, Calls Tryz.prog 43 #[.iface 218 (.pointer (some aD)), .iface 218 (.pointer (some aD))] V fun e w' => e = .returned (.bool true) ∧ w' = V) := fun V => isSame7 aD V
  have e0 : (w.alloc (.cells #[.int .i64 0] 55)).cell? ⟨0, 0, none⟩ = some (.iface 218 (.pointer (some aD))) := (h.er.below hb).d
  clear h
  go_enter Tryz.func16, Tryz.ntmps16
  go_wp2_with (go_at_call 43; refine (HI.out _).mono ?_; rintro e w9 ⟨rfl, hw9⟩; rw [hw9]; clear hw9)
  go_ret
  exact ⟨rfl, hb⟩
end Go.Proofs.YtllhbhogfffedaaGreatDoor.K

namespace Go.Proofs.YtllhbhogfffedaaGreatDoor.K
open Go.RowKit
set_option linter.unusedVariables false
set_option linter.unusedSimpArgs false

abbrev dkF (fs : List Fl) (M : Int) : Dk := ⟨fs, M, false, 0, false, false⟩
theorem act_plain (fs gs : List Fl) (M : Int) : actD (dkF fs M) gs = dkF gs M ∧ actR (dkF fs M) = 0 := by
  have h : ¬ actB (dkF fs M) = true := by unfold actB; simp
  unfold actD actR
  rw [if_neg h, if_neg h]
  exact ⟨rfl, rfl⟩
theorem app_dk0 {M : Int} {Bs : List Int} (h : (Bs.length : Int) ≤ M) : appD (dk0 M) jN Bs = (dkF [⟨jN, Bs, 0⟩] M, 0) := by
  unfold appD
  rw [if_neg (by simp [dk0]), if_neg (by show ¬ (M - ((0 : Nat) : Int) < (Bs.length : Int)); omega)]
  have e : addF (dk0 M).fs jN Bs = [⟨jN, Bs, 0⟩] := addF_new rfl
  rw [e]
  exact Prod.ext (act_plain [] [⟨jN, Bs, 0⟩] M).1 (act_plain [] [] M).2
theorem syn_one {M : Int} {Bs : List Int} : fileD (dkF [⟨jN, Bs, 0⟩] M) jN (fun i => synF (dkF [⟨jN, Bs, 0⟩] M).fs i) = (dkF [⟨jN, Bs, (Bs.length : Int)⟩] M, 0) := by
  unfold fileD
  rw [if_neg (by simp), fnd_j]
  exact Prod.ext (act_plain [⟨jN, Bs, 0⟩] [⟨jN, Bs, (Bs.length : Int)⟩] M).1 (act_plain [⟨jN, Bs, 0⟩] [] M).2
theorem app_left {M : Int} {Bs Ls : List Int} (h : (Bs.length : Int) + Ls.length ≤ M) : appD (dkF [⟨jN, Bs, (Bs.length : Int)⟩] M) jnN Ls = (dkF [⟨jN, Bs, (Bs.length : Int)⟩, ⟨jnN, Ls, 0⟩] M, 0) := by
  unfold appD
  rw [if_neg (by simp), if_neg (by show ¬ (M - ((Bs.length + 0 : Nat) : Int) < (Ls.length : Int)); omega)]
  have e : addF (dkF [⟨jN, Bs, (Bs.length : Int)⟩] M).fs jnN Ls = [⟨jN, Bs, (Bs.length : Int)⟩, ⟨jnN, Ls, 0⟩] := addF_new (fnd_n1 _ _)
  rw [e]
  exact Prod.ext (act_plain [⟨jN, Bs, (Bs.length : Int)⟩] [⟨jN, Bs, (Bs.length : Int)⟩, ⟨jnN, Ls, 0⟩] M).1 (act_plain [⟨jN, Bs, (Bs.length : Int)⟩] [] M).2
/-- The law's disks, with how many bytes there may be. -/
structure PJ (Bs : List Int) (B : Nat) (act : Int) (D : Dk) : Prop where
  jd : Jd Bs D
  dw : D.dw = false
  ok : D.Ok B
  arm : D.arm = true → 0 ≤ act
theorem ok_dkF {fs : List Fl} {M : Int} {B : Nat} (h : FsOk fs B) (hM : 0 ≤ M ∧ M ≤ 9223372036854775807) : (dkF fs M).Ok B := ⟨h.fs, h.len, h.used, hM, ⟨Int.le_refl _, by show (0 : Int) ≤ 9223372036854775807; omega⟩⟩
theorem pj_one {Bs : List Int} {M act : Int} {B : Nat} (hb : Bytey Bs) (hM : 0 ≤ M ∧ M ≤ 9223372036854775807) (hB : Bs.length + 2 ≤ B) : PJ Bs B act (dkF [⟨jN, Bs, (Bs.length : Int)⟩] M) :=
  ⟨⟨Bs, .inl rfl, .inl rfl⟩, rfl, ok_dkF ⟨fun f hf => by simp at hf; subst hf; exact ⟨hb, by simp, by simp⟩, by simp; omega, by simp [usd]; omega⟩ hM, fun h => by cases h⟩
theorem pj_two {Bs Ls : List Int} {M act : Int} {B : Nat} (hb : Bytey Bs) (hl : Bytey Ls) (hM : 0 ≤ M ∧ M ≤ 9223372036854775807) (hB : Bs.length + Ls.length + 2 ≤ B) : PJ Bs B act (dkF [⟨jN, Bs, (Bs.length : Int)⟩, ⟨jnN, Ls, 0⟩] M) :=
  ⟨⟨Bs, .inl rfl, .inr ⟨Ls, 0, rfl⟩⟩, rfl, ok_dkF ⟨fun f hf => by simp at hf; rcases hf with rfl | rfl; exact ⟨hb, by simp, by simp⟩; exact ⟨hl, by simp, by simp⟩, by simp; omega, by simp [usd]; omega⟩ hM, fun h => by cases h⟩
theorem pj_arm {Bs : List Int} {act : Int} {B : Nat} {D : Dk} {dn : Bool} (h : PJ Bs B act D) (ha : 0 ≤ act) (hm : act ≤ 9223372036854775807) : PJ Bs B act (armD D act dn) :=
  ⟨h.jd, h.dw, ok_arm h.ok hm, fun _ => ha⟩
theorem ok_opx {D : Dk} {B : Nat} (h : D.Ok B) : (opX D).d.Ok B := by
  have h1 : (rmD D).1.Ok B := ok_file h (fun i => fsok_erase h.files)
  unfold opX
  split
  · unfold opB
    split
    · unfold opC
      split
      · split
        · exact ok_file h1 (fun i => fsok_cut h1.files)
        · exact ok_file h1 (fun i => fsok_cut h1.files)
      · exact h1
    · exact h1
  · exact h1
/-- What the first Open leaves and answers. -/
theorem pj_open {Bs : List Int} (hb : Bytey Bs) {act : Int} {B : Nat} {D : Dk} (h : PJ Bs B act D) : Jd Bs (opX D).d ∧ (opX D).d.Ok B ∧ (((opX D).r = 0 ∧ (opX D).l = (scR Bs).1 ∧ (opX D).n = (scR Bs).2) ∨ ((opX D).r = 2 ∧ 0 ≤ act)) := by
  have h1 := jd_open hb h.jd h.dw
  exact ⟨h1.jd, ok_opx h.ok, h1.or.elim (fun q => .inl ⟨q.1, q.2.1, q.2.2.1⟩) (fun q => .inr ⟨q.1, h.arm q.2⟩)⟩
/-- Disks that are up and not armed. -/
structure PU (Bs : List Int) (B : Nat) (D : Dk) : Prop where
  jd : Jd Bs D
  dw : D.dw = false
  arm : D.arm = false
  ok : D.Ok B
theorem pu_crash {Bs : List Int} {B : Nat} {D : Dk} (h : Jd Bs D) (hk : D.Ok B) (keep : Int) : PU Bs B (crD D keep) := ⟨jd_crash keep h, rfl, rfl, ok_cr hk⟩
theorem pu_open {Bs : List Int} (hb : Bytey Bs) {B : Nat} {D : Dk} (h : PU Bs B D) : PU Bs B (opX D).d ∧ (opX D).r = 0 ∧ (opX D).l = (scR Bs).1 ∧ (opX D).n = (scR Bs).2 ∧ (opX D).d.fs = [⟨jN, Bs.take (scR Bs).2, ((scR Bs).2 : Int)⟩] := by
  have h1 := jd_open hb h.jd h.dw
  rcases h1.or with ⟨q1, q2, q3, q4, q5⟩ | ⟨_, q⟩
  · exact ⟨⟨h1.jd, q5, h1.arm.trans h.arm, ok_opx h.ok⟩, q1, q2, q3, q4⟩
  · rw [h.arm] at q; cases q
theorem jn_below {w V : World} {j d : Nat} {n m : Int} (h : Jn w j d n m) (hb : Below w.heap.size w V) : Jn V j d n m := ⟨bel_cell hb h.1, bel_cell hb h.2.1, bel_cell hb h.2.2.1, bel_cell hb h.2.2.2⟩
/-- One file: its cells. -/
theorem fo_one {w : World} {v : Value} {L : List Fv} {f : Fl} (h : Fo w v L) (hm : L.map (·.1) = [f]) : ∃ g cap a c, v = .slice (some ⟨g, 0, none⟩) 1 cap ∧ w.cell? ⟨g, 0, none⟩ = some (.string f.nm) ∧ w.cell? ⟨g, 1, none⟩ = some (.slice a f.bs.length c) := by
  obtain ⟨p, rfl⟩ : ∃ p, L = [p] := by
    have hl : L.length = 1 := by have := congrArg List.length hm; simpa using this
    exact List.length_eq_one_iff.mp hl
  have hp : p.1 = f := by simpa using hm
  obtain ⟨g, cap, hv⟩ := d_some h.row (by simp)
  obtain ⟨k0, k1, _⟩ := fcell_get (L := [p]) (i := 0) (p := p) rfl
  obtain ⟨a, c, hb⟩ := d_shape (h.byt 0 p rfl)
  have h2 := h.row
  rw [hv] at h2
  refine ⟨g, cap, a, c, by rw [hv]; rfl, ?_, ?_⟩
  · exact (World.ownsRow.cellAt h2 _ (by simp)).trans (by rw [← hp]; exact k0)
  · exact (World.ownsRow.cellAt h2 _ (by simp)).trans (by rw [← hp, ← hb]; exact k1)
/-- Two lists of records that are told alike: same says so. -/
theorem same_rl {w : World} {l1 l2 : Nat} {v u : Value} {os ps : List Ro} (h1 : Rl w l1 v os) (h2 : Rl w l2 u ps) (he : os.map Ro.r = ps.map Ro.r) (hn : os.length ≤ 140737488355328) :
    Calls Tryz.prog 24 #[v, u] w fun e w' => e = .returned (.bool true) ∧ Below w.heap.size w w' := by
  obtain ⟨a, c, hv, k1⟩ := h1.rlin
  obtain ⟨b, d, hu, k2⟩ := h2.rlin
  have hl : os.length = ps.length := by have := congrArg List.length he; simpa using this
  rw [hv, hu, ← hl]
  rw [← he] at k2
  refine same7_eq (os.map Ro.r) a b os.length c d w (by simp) hn k1 k2 (fun r hr => ?_)
  obtain ⟨o, ho, rfl⟩ := List.mem_map.mp hr
  obtain ⟨i, hi, e⟩ := List.getElem_of_mem ho
  have h3 := (h1.sml i hi).2
  unfold oAt at h3
  rw [List.getD_eq_getElem?_getD, List.getElem?_eq_getElem hi, e] at h3
  simp only [Option.getD_some] at h3
  omega
end Go.Proofs.YtllhbhogfffedaaGreatDoor.K
