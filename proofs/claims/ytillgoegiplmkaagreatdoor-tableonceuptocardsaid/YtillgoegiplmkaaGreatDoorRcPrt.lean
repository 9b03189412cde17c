import Derived.Test.YtillgoegiplmkaaGreatDoorRcSui
namespace Go.Proofs.YtillgoegiplmkaaGreatDoor
open Go.RowKit

/-- The numbers as bytes. -/
def nmB (f : Int) (r : Rc) (k : Nat) : List Int := (List.range k).flatMap fun i => if hasB f i then enc (nmA r i) else []
/-- A record's bytes. -/
def tailB (f : Int) (r : Rc) : List Int := (if hasB f 8 then spB r.spans else []) ++ (if hasB f 9 then enc r.data.length ++ r.data else [])
def prB (r : Rc) : List Int := r.kind :: (nmB (kf r.kind) r 8 ++ tailB (kf r.kind) r)

theorem kf_bd {k : Int} (h : kf k ≠ 0) : 0 ≤ k ∧ k < 13 := by
  unfold kf at h
  split at h
  · assumption
  · exact absurd rfl h

end Go.Proofs.YtillgoegiplmkaaGreatDoor

namespace Go.Proofs.YtillgoegiplmkaaGreatDoor
open Go.RowKit

theorem kf_cases {k : Int} (h : kf k ≠ 0) : k = 1 ∨ k = 2 ∨ k = 3 ∨ k = 4 ∨ k = 5 ∨ k = 6 ∨ k = 7 ∨ k = 8 ∨ k = 9 ∨ k = 10 ∨ k = 11 ∨ k = 12 := by
  have hb := kf_bd h
  by_cases h0 : k = 0
  · subst h0; exact absurd rfl h
  · omega
/-- What Print answers. -/
def prR (r : Rc) : List Int × Int := if mayB6 r then (prB r, 0) else ([], 60)
def PrPost (p : List Int × Int) (w : World) (e : Ending) (w' : World) : Prop :=
  ∃ v', e = .returned (.tuple #[v', .int .i64 p.2]) ∧ w'.ownsRow w.heap.size 5 1 v' p.1.length (p.1.map (Value.int .u8)) ∧ Below w.heap.size w w'
/-- A record that lies somewhere. -/
structure RIn (w : World) (r : Rc) (sa da : Option Addr) (ns nd sc dc : Nat) : Prop where
  spn : r.spans.length = ns
  dat : r.data.length = nd
  big : nd ≤ 140737488355328
  spa : C.Ls w (.slice sa ns sc) r.spans
  lie : Lies .u8 w da r.data
  nil : da = none → nd = 0 ∧ dc = 0
theorem RIn.below {w w' : World} {r : Rc} {sa da : Option Addr} {ns nd sc dc : Nat} (h : RIn w r sa da ns nd sc dc) (hb : Below w.heap.size w w') : RIn w' r sa da ns nd sc dc :=
  ⟨h.spn, h.dat, h.big, h.spa.below hb, h.lie.below hb, h.nil⟩
set_option maxRecDepth 100000 in
set_option maxHeartbeats 1000000 in
theorem rright_any (r : Rc) (sa da : Option Addr) (ns nd sc dc : Nat) (w : World) (hT : Tab6 w) (hr : RIn w r sa da ns nd sc dc) :
    Calls Tryz.prog 33 #[.agg (rcC r (.slice sa ns sc) (.slice da nd dc))] w fun e w' => e = .returned (.int .i64 (prR r).2) ∧ Below w.heap.size w w' := by
  have HB : Hid (Below w.heap.size w (w.alloc (rcO r (.slice sa ns sc) (.slice da nd dc)))) := (Below.refl _ _).alloc (Nat.le_refl _) _
  have hr1 := hr.below HB.out
  have HM : Hid (Calls Tryz.prog 70 #[.agg (rcC r (.slice sa ns sc) (.slice da nd dc))] (w.alloc (rcO r (.slice sa ns sc) (.slice da nd dc))) fun e w' => e = .returned (.bool (mayB6 r)) ∧ Below (w.alloc (rcO r (.slice sa ns sc) (.slice da nd dc))).heap.size (w.alloc (rcO r (.slice sa ns sc) (.slice da nd dc))) w') := mayBe_any r sa da ns nd sc dc _ (hT.below HB.out (tab6_pos hT)) hr1.spn hr1.dat hr1.big hr1.spa
  cases hm : mayB6 r with
  | false =>
    have HP : Hid (prR r = ([], 60)) := by unfold Hid prR; rw [hm]; rfl
    rw [hm] at HM
    rw [HP.out]
    clear HP hm hr hr1 hT
    go_enter Tryz.func33, Tryz.ntmps33
    go_wp2_with (go_at_call 70; refine HM.out.mono ?_; rintro e w1 ⟨rfl, hb1⟩)
    go_ret
    exact ⟨rfl, HB.out.trans (hb1.mono HB.out.size)⟩
  | true =>
    have HP : Hid (prR r = (prB r, 0)) := by unfold Hid prR; rw [hm]; rfl
    rw [hm] at HM
    rw [HP.out]
    clear HP hm hr hr1 hT
    go_enter Tryz.func33, Tryz.ntmps33
    go_wp2_with (go_at_call 70; refine HM.out.mono ?_; rintro e w1 ⟨rfl, hb1⟩)
    go_ret
    exact ⟨rfl, HB.out.trans (hb1.mono HB.out.size)⟩
end Go.Proofs.YtillgoegiplmkaaGreatDoor
