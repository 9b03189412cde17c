import Derived.Test.YtillgoegiplmkaaGreatDoorRcAwk
namespace Go.Proofs.YtillgoegiplmkaaGreatDoor
open Go.RowKit

/-- A record: its kind, its eight numbers in their order, its spans and its bytes. -/
structure Rc where
  kind : Int
  org : Int
  num : Int
  peer : Int
  srv : Int
  off : Int
  red : Int
  size : Int
  how : Int
  spans : List (Int × Int)
  data : List Int
abbrev rcC (r : Rc) (sv dv : Value) : Array Value := #[.int .i64 r.kind, .int .i64 r.org, .int .i64 r.num, .int .i64 r.peer, .int .i64 r.srv, .int .i64 r.off, .int .i64 r.red, .int .i64 r.size, .int .i64 r.how, sv, dv]
abbrev rcO (r : Rc) (sv dv : Value) : Obj := .cells (rcC r sv dv) 35
abbrev nmV (r : Rc) : Value := .agg #[.int .i64 r.org, .int .i64 r.num, .int .i64 r.peer, .int .i64 r.srv, .int .i64 r.off, .int .i64 r.red, .int .i64 r.size, .int .i64 r.how]
def nmL (r : Rc) : List Int := [r.org, r.num, r.peer, r.srv, r.off, r.red, r.size, r.how]
def nmA (r : Rc) (i : Nat) : Int := (nmL r).getD i 0

theorem rc_cells {W : World} {g : Nat} {r : Rc} {sv dv : Value} (h : W.heap[g]? = some (rcO r sv dv)) :
    W.cell? ⟨g, 0, none⟩ = some (.int .i64 r.kind) ∧ W.cell? ⟨g, 1, none⟩ = some (.int .i64 r.org) ∧ W.cell? ⟨g, 2, none⟩ = some (.int .i64 r.num) ∧ W.cell? ⟨g, 3, none⟩ = some (.int .i64 r.peer) ∧ W.cell? ⟨g, 4, none⟩ = some (.int .i64 r.srv) ∧ W.cell? ⟨g, 5, none⟩ = some (.int .i64 r.off) ∧ W.cell? ⟨g, 6, none⟩ = some (.int .i64 r.red) ∧ W.cell? ⟨g, 7, none⟩ = some (.int .i64 r.size) ∧ W.cell? ⟨g, 8, none⟩ = some (.int .i64 r.how) ∧ W.cell? ⟨g, 9, none⟩ = some sv ∧ W.cell? ⟨g, 10, none⟩ = some dv :=
  ⟨cell_of_row _ _ 0 _ _ _ h, cell_of_row _ _ 1 _ _ _ h, cell_of_row _ _ 2 _ _ _ h, cell_of_row _ _ 3 _ _ _ h, cell_of_row _ _ 4 _ _ _ h, cell_of_row _ _ 5 _ _ _ h, cell_of_row _ _ 6 _ _ _ h, cell_of_row _ _ 7 _ _ _ h, cell_of_row _ _ 8 _ _ _ h, cell_of_row _ _ 9 _ _ _ h, cell_of_row _ _ 10 _ _ _ h⟩

theorem index_nm (r : Rc) (i : Nat) (hi : i < 8) (w : World) : (Instr.index 180 (nmV r) (.int .i64 i)).run Tryz.prog w = .ok (.int .i64 (nmA r i)) w := by
  have : i = 0 ∨ i = 1 ∨ i = 2 ∨ i = 3 ∨ i = 4 ∨ i = 5 ∨ i = 6 ∨ i = 7 := by omega
  have i0 : (Instr.index 180 (nmV r) (.int .i64 0)).run Tryz.prog w = .ok (.int .i64 r.org) w := by kernel_rfl
  have i1 : (Instr.index 180 (nmV r) (.int .i64 1)).run Tryz.prog w = .ok (.int .i64 r.num) w := by kernel_rfl
  have i2 : (Instr.index 180 (nmV r) (.int .i64 2)).run Tryz.prog w = .ok (.int .i64 r.peer) w := by kernel_rfl
  have i3 : (Instr.index 180 (nmV r) (.int .i64 3)).run Tryz.prog w = .ok (.int .i64 r.srv) w := by kernel_rfl
  have i4 : (Instr.index 180 (nmV r) (.int .i64 4)).run Tryz.prog w = .ok (.int .i64 r.off) w := by kernel_rfl
  have i5 : (Instr.index 180 (nmV r) (.int .i64 5)).run Tryz.prog w = .ok (.int .i64 r.red) w := by kernel_rfl
  have i6 : (Instr.index 180 (nmV r) (.int .i64 6)).run Tryz.prog w = .ok (.int .i64 r.size) w := by kernel_rfl
  have i7 : (Instr.index 180 (nmV r) (.int .i64 7)).run Tryz.prog w = .ok (.int .i64 r.how) w := by kernel_rfl
  rcases this with rfl | rfl | rfl | rfl | rfl | rfl | rfl | rfl
  · exact i0
  · exact i1
  · exact i2
  · exact i3
  · exact i4
  · exact i5
  · exact i6
  · exact i7

/-- A kind's fields. -/
def kf (kind : Int) : Int := if 0 ≤ kind ∧ kind < 13 then kiT.getD kind.toNat 0 else 0

set_option maxHeartbeats 400000 in
theorem fieldsOf_any (kind : Int) (w : World) (hT : Tab6 w) :
    Calls Tryz.prog 127 #[.int .i64 kind] w fun e w' => e = .returned (.int .u16 (kf kind)) ∧ w = w' := by
  by_cases h0 : 0 ≤ kind
  · by_cases h1 : kind < 13
    · obtain ⟨n, rfl⟩ : ∃ n : Nat, kind = n := ⟨kind.toNat, by omega⟩
      have h2 := hT n (by omega)
      have hk : kf n = kiT.getD n 0 := by unfold kf; rw [if_pos (by omega)]; rfl
      rw [hk]
      generalize kiT.getD n 0 = y at *
      clear hT hk
      go_enter Tryz.func127, Tryz.ntmps127
      go_wp2
      go_ret
      exact ⟨rfl, rfl⟩
    · have hk : kf kind = 0 := by unfold kf; rw [if_neg (by omega)]
      rw [hk]
      clear hT hk
      go_enter Tryz.func127, Tryz.ntmps127
      go_wp2
      go_ret
      exact ⟨rfl, rfl⟩
  · have hk : kf kind = 0 := by unfold kf; rw [if_neg (by omega)]
    rw [hk]
    clear hT hk
    go_enter Tryz.func127, Tryz.ntmps127
    go_wp2
    go_ret
    exact ⟨rfl, rfl⟩

set_option maxRecDepth 100000 in
set_option maxHeartbeats 400000 in
theorem numbersOf_any (r : Rc) (sv dv : Value) (w : World) :
    Calls Tryz.prog 152 #[.agg (rcC r sv dv)] w fun e w' => e = .returned (nmV r) ∧ Below w.heap.size w w' := by
  go_enter Tryz.func152, Tryz.ntmps152
  go_wp2
  refine bodyPost_ret (v := nmV r) (by simp [results, Tryz.results152, go_sem]) rfl ?_
  exact ⟨rfl, ((Below.refl _ _).alloc (Nat.le_refl _) _).alloc (by simp) _⟩

/-- May a number be as it is? -/
def okN (f : Int) (i : Nat) (n : Int) : Bool := if hasB f i then numB i n else n == 0
def okNs (f : Int) (r : Rc) (k : Nat) : Bool := (List.range k).all fun i => okN f i (nmA r i)
def allowB (f : Int) (r : Rc) : Bool := okNs f r 8 && ((hasB f 8 || r.spans.length == 0) && (hasB f 9 || r.data.length == 0))
theorem okNs_succ (f : Int) (r : Rc) (k : Nat) : okNs f r (k + 1) = (okNs f r k && okN f k (nmA r k)) := by
  unfold okNs; rw [List.range_succ, List.all_append]; simp
theorem okNs_no {f : Int} {r : Rc} : ∀ {k j : Nat}, k ≤ j → okNs f r k = false → okNs f r j = false
  | k, 0, h, h0 => by obtain rfl : k = 0 := by omega
                      exact h0
  | k, j + 1, h, h0 => by
    rcases Nat.lt_or_ge j k with q | q
    · obtain rfl : k = j + 1 := by omega
      exact h0
    · rw [okNs_succ, okNs_no q h0]; rfl

set_option maxRecDepth 100000 in
set_option maxHeartbeats 2000000 in
theorem allow_any (f : Int) (r : Rc) (sa da : Option Addr) (sc dc : Nat) (w : World) :
    Calls Tryz.prog 128 #[.int .u16 f, .agg (rcC r (.slice sa r.spans.length sc) (.slice da r.data.length dc))] w fun e w' => e = .returned (.bool (allowB f r)) ∧ Below w.heap.size w w' := by
  have HAL : Hid (allowB f r = (okNs f r 8 && ((hasB f 8 || r.spans.length == 0) && (hasB f 9 || r.data.length == 0)))) := rfl
  obtain ⟨ns, hns⟩ : ∃ ns, ns = r.spans.length := ⟨_, rfl⟩
  obtain ⟨nd, hnd⟩ : ∃ nd, nd = r.data.length := ⟨_, rfl⟩
  rw [← hns, ← hnd] at HAL ⊢
  clear hns hnd
  have HB : Hid (Below w.heap.size w (w.alloc (rcO r (.slice sa ns sc) (.slice da nd dc)))) := (Below.refl _ _).alloc (Nat.le_refl _) _
  have HX : Hid ((w.alloc (rcO r (.slice sa ns sc) (.slice da nd dc))).heap[w.heap.size]? = some (rcO r (.slice sa ns sc) (.slice da nd dc))) := heap_new6 w _
  go_enter Tryz.func128, Tryz.ntmps128
  go_wp2_with fail
  refine (numbersOf_any r _ _ _).mono ?_
  rintro e w1 ⟨rfl, hb1⟩
  have HB1 : Hid (Below w.heap.size w w1) := HB.out.trans (hb1.mono HB.out.size)
  have HX1 : Hid (w1.heap[w.heap.size]? = some (rcO r (.slice sa ns sc) (.slice da nd dc))) := (hb1.block _ (by simp)).trans HX.out
  clear hb1 HX HB
  obtain ⟨_, _, _, _, _, _, _, _, _, c9, c10⟩ := rc_cells HX1.out
  go_wp2_with fail
  go_loop [9] (fun i => ∃ k : Nat, k ≤ 8 ∧ i = .int .i64 k ∧ okNs f r k = true) (fun i => 8 - (intOf i).toNat)
  case atStart => exact ⟨0, by omega, rfl, rfl⟩
  case round =>
    obtain ⟨k, hk, rfl, hok⟩ := hrel
    have HOK : Hid (okNs f r k = true) := hok
    clear hok
    by_cases hlt : k < 8
    · have hlt' : (k : Int) < 8 := by omega
      have ik := index_nm r k hlt
      have HS : Hid (okNs f r (k + 1) = okN f k (nmA r k)) := by unfold Hid; rw [okNs_succ, HOK.out]; rfl
      have HN : Hid (okN f k (nmA r k) = if hasB f k then numB k (nmA r k) else nmA r k == 0) := rfl
      generalize nmA r k = n at *
      obtain ⟨b, hb⟩ : ∃ b, hasB f k = b := ⟨_, rfl⟩
      obtain ⟨d, hd⟩ : ∃ d, numB k n = d := ⟨_, rfl⟩
      rw [hb, hd] at HN
      have hh : ∀ W, Calls Tryz.prog 153 #[.int .u16 f, .int .i64 k] W fun e w' => e = .returned (.bool b) ∧ W = w' := fun W => hb ▸ rhas_any f k W (by omega)
      have hm : ∀ W, Calls Tryz.prog 154 #[.int .i64 k, .int .i64 n] W fun e w' => e = .returned (.bool d) ∧ W = w' := fun W => hd ▸ numberMayBe_any k n W
      clear hb hd
      have HH : Hid (∀ W, Calls Tryz.prog 153 #[.int .u16 f, .int .i64 k] W fun e w' => e = .returned (.bool b) ∧ W = w') := hh
      have HM : Hid (∀ W, Calls Tryz.prog 154 #[.int .i64 k, .int .i64 n] W fun e w' => e = .returned (.bool d) ∧ W = w') := hm
      clear hh hm
      cases b with
      | true =>
        cases d with
        | true =>
          go_wp2_with (first | (go_at_call 153; refine (HH.out _).mono ?_; rintro e w' ⟨rfl, rfl⟩) | (go_at_call 154; refine (HM.out _).mono ?_; rintro e w' ⟨rfl, rfl⟩))
          go_round
          case rel => exact ⟨k + 1, by omega, by go_num, by rw [HS.out, HN.out]; rfl⟩
          case measure => simp [intOf]; omega
        | false =>
          go_wp2_with (first | (go_at_call 153; refine (HH.out _).mono ?_; rintro e w' ⟨rfl, rfl⟩) | (go_at_call 154; refine (HM.out _).mono ?_; rintro e w' ⟨rfl, rfl⟩))
          go_ret
          exact ⟨by rw [HAL.out, okNs_no (k := k + 1) (j := 8) (by omega) (by rw [HS.out, HN.out]; rfl)]; rfl, HB1.out⟩
      | false =>
        by_cases hz : n = 0
        · subst hz
          go_wp2_with (first | (go_at_call 153; refine (HH.out _).mono ?_; rintro e w' ⟨rfl, rfl⟩) | (go_at_call 154; refine (HM.out _).mono ?_; rintro e w' ⟨rfl, rfl⟩))
          go_round
          case rel => exact ⟨k + 1, by omega, by go_num, by rw [HS.out, HN.out]; rfl⟩
          case measure => simp [intOf]; omega
        · go_wp2_with (first | (go_at_call 153; refine (HH.out _).mono ?_; rintro e w' ⟨rfl, rfl⟩) | (go_at_call 154; refine (HM.out _).mono ?_; rintro e w' ⟨rfl, rfl⟩))
          go_ret
          exact ⟨by rw [HAL.out, okNs_no (k := k + 1) (j := 8) (by omega) (by rw [HS.out, HN.out]; simpa using hz)]; rfl, HB1.out⟩
    · obtain rfl : k = 8 := by omega
      rw [HOK.out, Bool.true_and] at HAL
      have h8 : ∀ W, Calls Tryz.prog 153 #[.int .u16 f, .int .i64 8] W fun e w' => e = .returned (.bool (hasB f 8)) ∧ W = w' := fun W => rhas_any f 8 W (by omega)
      have h9 : ∀ W, Calls Tryz.prog 153 #[.int .u16 f, .int .i64 9] W fun e w' => e = .returned (.bool (hasB f 9)) ∧ W = w' := fun W => rhas_any f 9 W (by omega)
      generalize hasB f 8 = b8 at *
      generalize hasB f 9 = b9 at *
      have H8 : Hid (∀ W, Calls Tryz.prog 153 #[.int .u16 f, .int .i64 8] W fun e w' => e = .returned (.bool b8) ∧ W = w') := h8
      have H9 : Hid (∀ W, Calls Tryz.prog 153 #[.int .u16 f, .int .i64 9] W fun e w' => e = .returned (.bool b9) ∧ W = w') := h9
      clear h8 h9
      have hsn : (((ns : Nat) : Int) == 0) = (ns == 0) := by cases ns <;> rfl
      have hdn : (((nd : Nat) : Int) == 0) = (nd == 0) := by cases nd <;> rfl
      cases b8 <;> cases b9 <;> cases hsz : (ns == 0)
      all_goals
        rw [hsz] at HAL hsn
        go_wp2_with (first | (go_at_call_of 153 (Value.int .i64 8); refine (H8.out _).mono ?_; rintro e w' ⟨rfl, rfl⟩) | (go_at_call_of 153 (Value.int .i64 9); refine (H9.out _).mono ?_; rintro e w' ⟨rfl, rfl⟩))
        go_ret
        exact ⟨by rw [HAL.out]; simp, HB1.out⟩
end Go.Proofs.YtillgoegiplmkaaGreatDoor
