import Derived.Test.YtnfbfdngdkkffabDoorExts
namespace Go.Proofs.YtnfbfdngdkkffabDoor
open Go.RowKit

def tabl : List Int := [3, 7, 7, 7, 3, 0, 0, 3, 9, 17, 0, 0, 33, 1, 33, 1]
/-- The table of the types lies in its variable. -/
def Tab (w : World) : Prop := ∀ i : Nat, i < 16 → w.cell? ⟨0, i, none⟩ = some (.int .u8 (tabl.getD i 0))

theorem Tab.grown {w w' : World} {row : Option Nat} (h : Tab w) (hg : w.grownBy w' row) (hr : row ≠ some 0) : Tab w' := fun i hi => hg.cell (h i hi) (fun e => hr e.symm)
theorem Tab.below {w w' : World} {B : Nat} (h : Tab w) (hb : Below B w w') (hB : 0 < B) : Tab w' := fun i hi => (hb.cell (p := ⟨0, i, none⟩) hB).trans (h i hi)

theorem shp_cases (t : Int) : shp t = 0 ∨ shp t = 1 ∨ shp t = 3 ∨ shp t = 7 ∨ shp t = 9 ∨ shp t = 17 ∨ shp t = 33 := by
  unfold shp
  split
  · simp
  · rename_i h
    have : t.toNat < 16 := by omega
    generalize t.toNat = k at this
    have h : k = 0 ∨ k = 1 ∨ k = 2 ∨ k = 3 ∨ k = 4 ∨ k = 5 ∨ k = 6 ∨ k = 7 ∨ k = 8 ∨ k = 9 ∨ k = 10 ∨ k = 11 ∨ k = 12 ∨ k = 13 ∨ k = 14 ∨ k = 15 := by omega
    rcases h with rfl | rfl | rfl | rfl | rfl | rfl | rfl | rfl | rfl | rfl | rfl | rfl | rfl | rfl | rfl | rfl <;> simp

set_option maxHeartbeats 400000 in
theorem shapeOf_any (t : Int) (w : World) (h : Tab w) :
    Calls Tryd.prog 27 #[.int .i64 t] w fun e w' => e = .returned (.int .u8 (shp t)) ∧ w = w' := by
  by_cases h0 : t < 0
  · have hs : Hid (shp t = 0) := by unfold Hid shp; rw [if_pos (by omega)]
    generalize shp t = q at *
    go_enter Tryd.func27, Tryd.ntmps27
    go_wp2
    go_ret
    exact ⟨by rw [hs.out]; rfl, rfl⟩
  · by_cases h1 : 16 ≤ t
    · have hs : Hid (shp t = 0) := by unfold Hid shp; rw [if_pos (by omega)]
      generalize shp t = q at *
      have h0' : decide (t < 0) = false := by simpa using h0
      go_enter Tryd.func27, Tryd.ntmps27
      go_wp2
      go_ret
      exact ⟨by rw [hs.out]; rfl, rfl⟩
    · have hs : Hid (shp t = tabl.getD t.toNat 0) := by unfold Hid shp; rw [if_neg (by omega)]; rfl
      generalize shp t = q at *
      have hc := h t.toNat (by omega)
      obtain ⟨k, rfl⟩ : ∃ k : Nat, t = k := ⟨t.toNat, by omega⟩
      rw [Int.toNat_natCast] at hc hs
      generalize tabl.getD k 0 = z at *
      have h2 : (k : Int) < 16 := by omega
      have h3 : 0 ≤ (k : Int) := by omega
      clear h h0 h1
      go_enter Tryd.func27, Tryd.ntmps27
      go_wp2
      go_ret
      exact ⟨by rw [hs.out]; rfl, rfl⟩

def anyB (p s : Int) : Bool := bits .and .u8 p s != 0
set_option maxHeartbeats 400000 in
theorem any_any (p s : Int) (w : World) :
    Calls Tryd.prog 28 #[.int .u8 p, .int .u8 s] w fun e w' => e = .returned (.bool (anyB p s)) ∧ w = w' := by
  go_enter Tryd.func28, Tryd.ntmps28
  go_wp2
  go_ret
  exact ⟨rfl, rfl⟩

def one (q : Bool) : Int := if q then 1 else 0
set_option maxHeartbeats 400000 in
theorem oneIf_any (q : Bool) (w : World) :
    Calls Tryd.prog 79 #[.bool q] w fun e w' => e = .returned (.int .i64 (one q)) ∧ w = w' := by
  cases q
  · go_enter Tryd.func79, Tryd.ntmps79
    go_wp2
    go_ret
    exact ⟨rfl, rfl⟩
  · go_enter Tryd.func79, Tryd.ntmps79
    go_wp2
    go_ret
    exact ⟨rfl, rfl⟩
set_option maxHeartbeats 400000 in
theorem leastCheck_any (p : Int) (w : World) :
    Calls Tryd.prog 59 #[.int .u8 p] w fun e w' => e = .returned (.int .i64 (one (anyB p 4))) ∧ w = w' := by
  go_enter Tryd.func59, Tryd.ntmps59
  go_wp2_with (first | (go_at_call 28; refine (any_any _ _ _).mono ?_; rintro e w' ⟨rfl, rfl⟩) | (go_at_call 79; refine (oneIf_any _ _).mono ?_; rintro e w' ⟨rfl, rfl⟩))
  go_ret
  exact ⟨rfl, rfl⟩
set_option maxHeartbeats 400000 in
theorem leastReport_any (p : Int) (w : World) :
    Calls Tryd.prog 60 #[.int .u8 p] w fun e w' => e = .returned (.int .i64 (one (anyB p 24))) ∧ w = w' := by
  go_enter Tryd.func60, Tryd.ntmps60
  go_wp2_with (first | (go_at_call 28; refine (any_any _ _ _).mono ?_; rintro e w' ⟨rfl, rfl⟩) | (go_at_call 79; refine (oneIf_any _ _).mono ?_; rintro e w' ⟨rfl, rfl⟩))
  go_ret
  exact ⟨rfl, rfl⟩

theorem fail_at {b len cap : Nat} {a : Option Addr} {zs : List Int} {st : St} {tl : List Value} {w : World} (x : Int) (hx : 0 < x ∧ x ≤ 100) (h : At w b a len cap zs st tl) :
    Calls Tryd.prog 43 #[.pointer (some ⟨b, 0, none⟩), .int .i64 x] w fun e w' => e = .returned (.tuple #[]) ∧ At w' b a len cap zs (if st.1 = 0 then x else st.1, st.2) tl ∧ w.grownBy w' (some b) := by
  refine (fail_any b len cap a st tl x w h.cur).mono ?_
  rintro e w' ⟨rfl, hc, hg, _⟩
  refine ⟨rfl, ⟨hc, h.src.grown hg, h.place, ?_⟩, hg⟩
  have := h.errs; simp only; split <;> omega

theorem step_fail {α : Type} {zs : List Int} {p : Pr α} {st : St} (v : α) (x : Int) (hx : x ≠ 0) (hp : st.1 = 0 → p (zs.drop st.2) = .bad x) : Step zs p st v (if st.1 = 0 then x else st.1, st.2) := by
  by_cases hf : st.1 = 0
  · rw [if_pos hf]; exact Step.fault _ _ _ hf hx (hp hf)
  · rw [if_neg hf]; exact Step.bad _ hf

theorem anyB_odd (t : Int) : anyB (shp t) 1 = decide (shp t % 2 = 1) := by
  rcases shp_cases t with h | h | h | h | h | h | h <;> rw [h] <;> decide

def KindAt (b : Nat) (a : Option Addr) (len cap : Nat) (zs : List Int) (st : St) (r : List Value) (w : World) (e : Ending) (w' : World) : Prop :=
  ∃ t st', e = .returned (.tuple #[]) ∧ At w' b a len cap zs st' (.int .u8 (shp t) :: .int .i64 t :: r) ∧ w.grownBy w' (some b) ∧ Step zs kindp st t st' ∧ 0 ≤ t ∧ t ≤ 255

set_option maxHeartbeats 1000000 in
theorem kind_at {b len cap : Nat} {a : Option Addr} {zs : List Int} {st : St} {r : List Value} {w : World} (h0 t0 : Int) (h : At w b a len cap zs st (.int .u8 h0 :: .int .i64 t0 :: r)) (hT : Tab w) (hb : 0 < b) :
    Calls Tryd.prog 71 #[.pointer (some ⟨b, 0, none⟩)] w (KindAt b a len cap zs st r w) := by
  have HA : Hid (At w b a len cap zs st (.int .u8 h0 :: .int .i64 t0 :: r)) := h
  have HT : Hid (Tab w) := hT
  clear h hT
  go_enter Tryd.func71, Tryd.ntmps71
  go_wp2_with fail
  refine (octet_at HA.out).mono ?_
  rintro e w1 ⟨t, st1, rfl, hat1, hg1, hs1, ht0, ht1⟩
  have c4 := hat1.cell 1 rfl
  have z4 := hat1.fz 4
  have HA1 := hat1.put 1 (.int .i64 t) 4 rfl
  have d4 := HA1.cell 1 rfl
  have HB1 : Hid (At (w1.setCell ⟨b, 4, none⟩ (.int .i64 t)) b a len cap zs st1 (.int .u8 h0 :: .int .i64 t :: r)) := HA1
  have HT1 : Hid (Tab (w1.setCell ⟨b, 4, none⟩ (.int .i64 t))) := (HT.out.grown hg1 (by simp; omega)).grown (grown_set _ _ _ _) (by simp; omega)
  have HG1 : Hid (w.grownBy (w1.setCell ⟨b, 4, none⟩ (.int .i64 t)) (some b)) := grown_trans hg1 (grown_set _ _ _ _)
  have HS1 : Hid (Step zs oct st t st1) := hs1
  clear hat1 hg1 hs1 HA1
  go_wp2_with fail
  refine (shapeOf_any t _ HT1.out).mono ?_
  rintro e w2 ⟨rfl, rfl⟩
  have c3 := HB1.out.cell 0 rfl
  have z3 := HB1.out.fz 3
  have HA2 := HB1.out.put 0 (.int .u8 (shp t)) 3 rfl
  have d3 := HA2.cell 0 rfl
  have HB2 : Hid (At ((w1.setCell ⟨b, 4, none⟩ (.int .i64 t)).setCell ⟨b, 3, none⟩ (.int .u8 (shp t))) b a len cap zs st1 (.int .u8 (shp t) :: .int .i64 t :: r)) := HA2
  have HG2 : Hid (w.grownBy ((w1.setCell ⟨b, 4, none⟩ (.int .i64 t)).setCell ⟨b, 3, none⟩ (.int .u8 (shp t))) (some b)) := grown_trans HG1.out (grown_set _ _ _ _)
  have hodd := anyB_odd t
  clear HA2 HB1 HG1 HT1
  go_wp2_with fail
  refine (any_any _ _ _).mono ?_
  rintro e w3 ⟨rfl, rfl⟩
  by_cases hk : shp t % 2 = 1
  · have hk' : anyB (shp t) 1 = true := by rw [hodd]; simp [hk]
    rw [hk']
    clear hodd hk'
    go_wp2
    go_end0
    exact ⟨t, st1, rfl, HB2.out, HG2.out, HS1.out.bind (by simp only [if_pos hk]; exact Step.ret t), ht0, ht1⟩
  · have hk' : anyB (shp t) 1 = false := by rw [hodd]; simp [hk]
    rw [hk']
    clear hodd hk'
    go_wp2_with fail
    refine (fail_at 21 (by omega) HB2.out).mono ?_
    rintro e w4 ⟨rfl, hat4, hg4⟩
    go_wp2
    go_end0
    exact ⟨t, _, rfl, hat4, grown_trans HG2.out hg4, HS1.out.bind (by simp only [if_neg hk]; exact step_fail t 21 (by omega) (fun _ => rfl)), ht0, ht1⟩

end Go.Proofs.YtnfbfdngdkkffabDoor
