import Derived.Test.YtillgoegiplmkaaGreatDoorItr
namespace Go.Proofs.YtillgoegiplmkaaGreatDoor.C
open Go.RowKit Go.Shelf
attribute [local go_sem] Oper.semAt_some

theorem pieces_any (a : Option Addr) (n c : Nat) (f t : Int) (w : World) : Calls Tryz.prog 162 #[.slice a n c, .agg #[.int .i64 f, .int .i64 t]] w fun e w' => e = .returned (.func (.func 181) #[] #[.pointer (some ⟨w.heap.size + 1, 0, none⟩), .pointer (some ⟨w.heap.size, 0, none⟩)]) ∧ w' = (w.alloc (.cells #[.slice a n c] 32)).alloc (.cells #[.int .i64 f, .int .i64 t] 90) := by
  go_enter Tryz.func162, Tryz.ntmps162
  go_wp2
  go_ret
  exact ⟨rfl, rfl⟩

theorem pieces_stops (n : Nat) (hn : 1 ≤ n) (Bs Bl n₀ : Nat) (a : Option Addr) (c : Nat) (xs : List Sp) (s1 s2 : Int) (hm : xs.length ≤ 1048576) (w : World) (hn₀ : n₀ ≤ w.heap.size)
    (hBs : w.heap[Bs]? = some (.cells #[.int .i64 s1, .int .i64 s2] 90 (0, 0))) (hBl : w.cell? ⟨Bl, 0, none⟩ = some (.slice a xs.length c)) (hL : Spl n₀ w a xs) :
    SeqStopsK Fence.wide n Tryz.prog 181 #[.pointer (some ⟨Bs, 0, none⟩), .pointer (some ⟨Bl, 0, none⟩)] (fun x : Pz => #[Value.agg #[.int .i64 x.1.1, .int .i64 x.1.2], .bool x.2]) (Kps n₀ Bs) (fun ys => ys = pc s2 s1 xs) (fun pre => pre <+: pc s2 s1 xs) (pc s2 s1 xs).length w := fun l J Jx W hW hJ _ hY h0 =>
  pieces1_in n hn l Bs Bl n₀ a c xs s1 s2 hm J Jx W hJ (Nat.le_trans hn₀ hW.size) (fun pre x W1 h h' _ => hY pre x W1 h h') ((hW.block Bs (Array.getElem?_eq_some_iff.1 hBs).1).trans hBs) (cell_below hBl hW) (hL.keep (hW.mono hn₀)) h0

/-- What gather's loop keeps: the box of the set (S), that of had (Hb), that of the span (Sb); the row lies from N on. -/
structure GI (S Hb Sb N : Nat) (w : World) (f t : Int) (had : Bool) (pre : List Pz) (W : World) : Prop where
  row : ∃ v, Boxed W S 32 v ∧ SOwn W N v (pick had pre)
  hb : Boxed W Hb 4 (.bool had)
  sb : W.heap[Sb]? = some (.cells #[.int .i64 f, .int .i64 t] 90 (0, 0))
  low : Below w.heap.size w W
  big : N ≤ W.heap.size

theorem cells_keep {X Y : World} {row : Option Nat} {B k : Nat} {cs : Array Value} {ty : TypeId} {fr : Nat × Nat} (h : X.heap[k]? = some (.cells cs ty fr)) (hg : X.grownBy Y row) (hr : ∀ r, row = some r → B ≤ r ∧ ∃ o : Obj, X.heap[r]? = some o ∧ o.isCells = false) : Y.heap[k]? = some (.cells cs ty fr) :=
  (hg.block k (Array.getElem?_eq_some_iff.1 h).1 (fun e => by obtain ⟨_, o, ho, hc⟩ := hr k e.symm; rw [h] at ho; cases ho; cases hc)).trans h
theorem SOwn.keepO {X Y : World} {row : Option Nat} {B base : Nat} {v : Value} {l : List Sp} (h : SOwn X base v l) (hg : X.grownBy Y row) (hr : ∀ r, row = some r → B ≤ r ∧ ∃ o : Obj, X.heap[r]? = some o ∧ o.isCells = false) : SOwn Y base v l := by
  refine ⟨h.1, ?_⟩
  rcases h.2 with hn | ⟨g, cap, cur, hv, h1, h2, h3⟩
  · exact .inl hn
  · exact .inr ⟨g, cap, cur, hv, h1, cells_keep h2 hg hr, h3⟩
theorem GI.own {S Hb Sb N B : Nat} {w : World} {f t : Int} {had : Bool} (hB : w.heap.size ≤ B) : OwnFrom B (GI S Hb Sb N w f t had) := fun pre X Y row hs hg hr => by
  obtain ⟨v, h1, h2⟩ := hs.row
  exact ⟨⟨v, cells_keep h1 hg hr, h2.keepO hg hr⟩, cells_keep hs.hb hg hr, cells_keep hs.sb hg hr, ownFrom_below (β := Unit) (Nat.le_refl _) hB () X Y row hs.low hg hr, Nat.le_trans hs.big hg.size⟩
theorem GI.alloc {S Hb Sb N : Nat} {w : World} {f t : Int} {had : Bool} {pre : List Pz} {W : World} (h : GI S Hb Sb N w f t had pre W) (o : Obj) : GI S Hb Sb N w f t had pre (W.alloc o) := by
  obtain ⟨v, h1, h2⟩ := h.row
  exact ⟨⟨v, h1.alloc o, World.ownsRow.alloc h2 o⟩, h.hb.alloc o, (Below.heap_alloc W o _ (Array.getElem?_eq_some_iff.1 h.sb).1).trans h.sb, h.low.alloc h.low.size o, by have := h.big; simp; omega⟩
theorem kps_b {n₀ b : Nat} {w : World} (hn : n₀ ≤ w.heap.size) (hb : b < w.heap.size) (W : World) (l : Nat) (o o' : Obj) (hl : w.heap.size ≤ l) (h : W.heap[l]? = some o) (h1 : o.isCells = false) (h2 : o.isWalk = false) : Kps n₀ b W (W.putObj l o') :=
  ⟨belowK_b hn W l o o' hl h h1 h2, World.putObj_heap_other (by omega)⟩
theorem pick_hit (had : Bool) (pre : List Pz) (s : Sp) : pick had (pre ++ [(s, had)]) = pick had pre ++ [s] := by rw [pick_append]; simp [pick]
theorem pick_miss (had b : Bool) (pre : List Pz) (s : Sp) (h : b ≠ had) : pick had (pre ++ [(s, b)]) = pick had pre := by rw [pick_append]; simp [pick, h]
theorem pick_len (had : Bool) : ∀ l : List Pz, (pick had l).length ≤ l.length
  | [] => by simp [pick]
  | x :: r => by have := pick_len had r; simp only [pick]; split <;> simp <;> omega

/-- What is told of a list that may be too long. -/
def BR (U u : List Sp) (er : Int) : Prop := (U.length ≤ 2000 ∧ er = 0 ∧ u = U) ∨ (2000 < U.length ∧ er = 3 ∧ u = [])
def GPost (U : List Sp) (w : World) (e : Ending) (w' : World) : Prop := ∃ v u er, e = .returned (.tuple #[v, .int .i64 er]) ∧ SOwn w' w.heap.size v u ∧ BR U u er ∧ Below w.heap.size w w'

/-- A span is put to the row. -/
theorem GI.put {S Hb Sb N : Nat} {w W w1 : World} {f t : Int} {had : Bool} {pre : List Pz} {v v' : Value} {s : Sp} {tmp : Obj} (h : GI S Hb Sb N w f t had pre W) (hS : S < N) (hH : Hb < N) (hSb : Sb < N) (hSH : Hb ≠ S) (hSS : Sb ≠ S) (hw : w.heap.size ≤ S) (hv : Boxed W S 32 v) (hrow : SOwn W N v (pick had pre))
    (hown : w1.ownsRow N 90 2 v' ((pick had pre).length + 1) ((pick had pre).flatMap spc ++ [.int .i64 s.1, .int .i64 s.2])) (hg : (W.alloc tmp).grownBy w1 v.ownBlock) :
    Boxed w1 S 32 v ∧ KeepsOthers W (w1.setCell ⟨S, 0, none⟩ v') ∧ Kps w.heap.size Sb W (w1.setCell ⟨S, 0, none⟩ v') ∧ GI S Hb Sb N w f t had (pre ++ [(s, had)]) (w1.setCell ⟨S, 0, none⟩ v') := by
  have hbN : Below N W w1 := ((Below.refl N W).alloc h.big tmp).grown hg (by have := h.big; simp; omega) (fun k hk => (hrow.lt k hk).1)
  have b1 : Boxed w1 S 32 v := (hbN.block S hS).trans hv
  have b2 : Boxed w1 Hb 4 (.bool had) := (hbN.block Hb hH).trans h.hb
  have b3 : w1.heap[Sb]? = some (.cells #[.int .i64 f, .int .i64 t] 90 (0, 0)) := (hbN.block Sb hSb).trans h.sb
  have b3' : (w1.setCell ⟨S, 0, none⟩ v').heap[Sb]? = some (.cells #[.int .i64 f, .int .i64 t] 90 (0, 0)) := (Below.heap_setCell _ _ _ _ hSS).trans b3
  have hlow : Below w.heap.size W (w1.setCell ⟨S, 0, none⟩ v') := (hbN.mono (by omega)).setCell (p := ⟨S, 0, none⟩) hw v'
  have hnb : ∀ k, v'.ownBlock = some k → N ≤ k := fun k hk => (World.ownsRow.lt hown k hk).1
  refine ⟨b1, ?_, ⟨hlow, b3'.trans h.sb.symm⟩, ⟨⟨v', b1.set v', ?_⟩, b2.other hSH v', b3', h.low.trans hlow, Nat.le_trans h.big (Nat.le_trans hbN.size (by simp))⟩⟩
  · refine ((KeepsOthers.alloc W tmp).trans (KeepsOthers.of_grownBy hg fun j o ej hj => ?_)).trans (KeepsOthers.setCell _ _ _)
    rcases (World.ownsRow.alloc hrow tmp).2 with ⟨rfl, _⟩ | ⟨g, cap, cur, rfl, _, hgb, _⟩
    · simp [Value.ownBlock] at ej
    · obtain rfl : g = j := by simpa [Value.ownBlock] using ej
      rw [hgb] at hj; cases hj; rfl
  · unfold SOwn
    rw [pick_hit, List.flatMap_append, List.length_append]
    exact hown.kept (grownBy_setCell' w1 S v') (by
      cases hv : v'.ownBlock with
      | none => left; rfl
      | some g => right; intro e; simp only [Option.some.injEq] at e; have := hnb g hv; omega)

set_option maxRecDepth 100000 in
set_option maxHeartbeats 4000000 in
theorem gather_in {a : Option Addr} {c : Nat} {l : List Sp} {w : World} (f t : Int) (had : Bool) (h : Ls w (.slice a l.length c) l) (hq : IsSet l) (ha : Asked (f, t)) (n : Nat) (hn : 9 ≤ n) :
    CallsIn Fence.wide n Tryz.prog 136 #[.slice a l.length c, .agg #[.int .i64 f, .int .i64 t], .bool had] w (GPost (pick had (pc t f l)) w) := by
  have h1 : 1 ≤ n := by omega
  obtain ⟨i0, hi, hz0, hz1, hz2⟩ := info_parts Tryz.info_span
  have HL : Hid (Ls w (.slice a l.length c) l) := h
  have HQ : Hid (setB l = true) := setB_iff.mpr hq
  have HA : Hid (askB (f, t) = true) := askB_iff.mpr ha
  have hb0 : Below w.heap.size w ((w.alloc (.cells #[.int .i64 f, .int .i64 t] 90)).alloc (.cells #[.bool had] 4)) := ((Below.refl _ _).alloc (Nat.le_refl _) _).alloc (by simp) _
  have hR := right_ls (h.below hb0)
  rw [HQ.out] at hR
  clear h
  refine callsIn_of_wp_marks Tryz.func136 rfl trivial ?_ rfl
  simp only [Tryz.ntmps136, List.size_toArray, List.length_cons, List.length_nil, Nat.reduceAdd, Nat.reduceSub, Array.replicate_succ, Array.replicate_zero, List.push_toArray, List.append_toArray, List.nil_append, List.cons_append]
  gi_wp2_with fail
  refine ⟨trivial, (callsIn_wide.2 hR).mono ?_⟩
  rintro e w1 ⟨rfl, hb1⟩
  clear hR
  have c0 : w1.cell? ⟨w.heap.size, 0, none⟩ = some (.int .i64 f) := (hb1.cell (p := ⟨w.heap.size, 0, none⟩) (by simp; omega)).trans ((Below.cell (p := ⟨w.heap.size, 0, none⟩) ((Below.refl (w.heap.size + 1) (w.alloc (.cells #[.int .i64 f, .int .i64 t] 90))).alloc (by simp) _) (by simp)).trans (box0 _ _ _ _))
  have c1 : w1.cell? ⟨w.heap.size, 1, none⟩ = some (.int .i64 t) := (hb1.cell (p := ⟨w.heap.size, 1, none⟩) (by simp; omega)).trans ((Below.cell (p := ⟨w.heap.size, 1, none⟩) ((Below.refl (w.heap.size + 1) (w.alloc (.cells #[.int .i64 f, .int .i64 t] 90))).alloc (by simp) _) (by simp)).trans (box1 _ _ _ _))
  have hbx : Boxed w1 (w.heap.size + 1) 4 (.bool had) := (hb1.block (w.heap.size + 1) (by simp)).trans (by have := Boxed.new (w.alloc (.cells #[.int .i64 f, .int .i64 t] 90)) 4 (.bool had); rwa [World.size_alloc] at this)
  have HB1 : Hid (Below w.heap.size w w1) := hb0.trans (hb1.mono (by simp; omega))
  clear hb1 hb0
  have hR2 := asked_any f t w1
  rw [HA.out] at hR2
  gi_wp2_with fail
  refine ⟨trivial, (callsIn_wide.2 hR2).mono ?_⟩
  rintro e w2 ⟨rfl, hb2⟩
  clear hR2
  have d0 := cell_below c0 hb2
  have d1 := cell_below c1 hb2
  have hbx2 : Boxed w2 (w.heap.size + 1) 4 (.bool had) := (hb2.block _ hbx.lt).trans hbx
  have HB2 : Hid (Below w.heap.size w w2) := HB1.out.trans (hb2.mono HB1.out.size)
  clear c0 c1 hbx hb2 HB1
  have e0 : (w2.alloc (.cells #[.slice none 0 0] 32)).cell? ⟨w.heap.size, 0, none⟩ = some (.int .i64 f) := cell_below d0 ((Below.refl _ _).alloc (Nat.le_refl _) _)
  have e1 : (w2.alloc (.cells #[.slice none 0 0] 32)).cell? ⟨w.heap.size, 1, none⟩ = some (.int .i64 t) := cell_below d1 ((Below.refl _ _).alloc (Nat.le_refl _) _)
  have hP := pieces_any a l.length c f t (w2.alloc (.cells #[.slice none 0 0] 32))
  clear d0 d1
  gi_wp2_with fail
  refine ⟨trivial, (callsIn_wide.2 hP).mono ?_⟩
  rintro e w3 ⟨rfl, rfl⟩
  clear hP
  gi_wp2_with fail
  have bS := ((Boxed.new w2 32 (.slice none 0 0)).alloc (.cells #[.slice a l.length c] 32)).alloc (.cells #[.int .i64 f, .int .i64 t] 90)
  have bL := (Boxed.new (w2.alloc (.cells #[.slice none 0 0] 32)) 32 (.slice a l.length c)).alloc (.cells #[.int .i64 f, .int .i64 t] 90)
  have bT : (((w2.alloc (.cells #[.slice none 0 0] 32)).alloc (.cells #[.slice a l.length c] 32)).alloc (.cells #[.int .i64 f, .int .i64 t] 90)).heap[w2.heap.size + 1 + 1]? = some (.cells #[.int .i64 f, .int .i64 t] 90 (0, 0)) := by
    have := heap_alloc_new' ((w2.alloc (.cells #[.slice none 0 0] 32)).alloc (.cells #[.slice a l.length c] 32)) (.cells #[.int .i64 f, .int .i64 t] 90)
    simpa using this
  have bH := ((hbx2.alloc (.cells #[.slice none 0 0] 32)).alloc (.cells #[.slice a l.length c] 32)).alloc (.cells #[.int .i64 f, .int .i64 t] 90)
  simp only [World.size_alloc] at bS bL
  have hB0 : Below w.heap.size w (((w2.alloc (.cells #[.slice none 0 0] 32)).alloc (.cells #[.slice a l.length c] 32)).alloc (.cells #[.int .i64 f, .int .i64 t] 90)) := ((HB2.out.alloc HB2.out.size _).alloc (by have := HB2.out.size; simp; omega) _).alloc (by have := HB2.out.size; simp; omega) _
  have hsz : (((w2.alloc (.cells #[.slice none 0 0] 32)).alloc (.cells #[.slice a l.length c] 32)).alloc (.cells #[.int .i64 f, .int .i64 t] 90)).heap.size = w2.heap.size + 3 := by simp
  have hw2 := HB2.out.size
  have hwl := hbx2.lt
  obtain ⟨W0, hW0⟩ : ∃ W0, (((w2.alloc (.cells #[.slice none 0 0] 32)).alloc (.cells #[.slice a l.length c] 32)).alloc (.cells #[.int .i64 f, .int .i64 t] 90)) = W0 := ⟨_, rfl⟩
  rw [hW0] at bS bL bT bH hB0 hsz ⊢
  have hN3 : w2.heap.size + 1 + 1 < W0.heap.size := by omega
  clear hW0 e0 e1 HB2 hbx2 hsz
  have HSp : Hid (Spl w.heap.size W0 a l) := by
    obtain ⟨a', c', hv', hs', _⟩ := HL.out.shape
    simp only [Value.slice.injEq] at hv'
    obtain ⟨rfl, _, rfl⟩ := hv'
    refine ⟨hs'.below hB0, fun hne x hx => ?_⟩
    rcases hs' with h0 | ⟨g, off, ha, hc⟩
    · exact absurd h0 hne
    · rw [ha] at hx; cases hx
      obtain ⟨p, hp⟩ := get_some l 0 (List.length_pos_iff.mpr hne)
      exact World.block_lt_of_cell? w ⟨g, off + 0 * 2, none⟩ (hc 0 p hp).1
  have hll : l.length ≤ 1048576 := by have := hq.1; omega
  have hpl : (pc t f l).length ≤ 2 * l.length + 1 := len_pc
  have hl2 := hq.1
  refine wpIn_rangeFunc_ownH rfl h1 (gf := 181) (lb := #[.pointer (some ⟨w2.heap.size + 1 + 1, 0, none⟩), .pointer (some ⟨w2.heap.size + 1, 0, none⟩)]) rfl trivial (enters_of Tryz.func181 (by kernel_rfl) rfl)
    (pieces_stops (n - 1) (by omega) (w2.heap.size + 1 + 1) (w2.heap.size + 1) w.heap.size a c l f t hll W0 (by omega) bT bL.cell HSp.out) Kps.trans (kps_b (by omega) (by omega)) (Below.refl _ _) (fun _ => rfl)
    (GI w2.heap.size (w.heap.size + 1) (w2.heap.size + 1 + 1) W0.heap.size w f t had) (fun _ _ _ => False)
    (GI.own (by omega)) (fun _ _ _ _ _ hs _ _ => hs)
    ⟨⟨_, bS, SOwn.nil _ _⟩, bH, bT, hB0, Nat.le_refl _⟩
    (fun x a' W => ∃ Bx, W.heap[Bx]? = some (.cells #[.int .i64 x.1.1, .int .i64 x.1.2] 90 (0, 0)) ∧ a' = { tmps := #[.slice a l.length c, .agg #[.int .i64 f, .int .i64 t], .bool had, undef, .pointer (some ⟨w.heap.size, 0, none⟩), .pointer (some ⟨w.heap.size + 1, 0, none⟩), .slice none 0 0, .int .i64 0, .pointer (some ⟨w2.heap.size, 0, none⟩), .pointer (some ⟨Bx, 0, none⟩), .bool x.2, .slice a l.length c, .bool true, .bool false, .bool false, .agg #[.int .i64 f, .int .i64 t], .bool true, .bool false, .bool false, .slice a l.length c, .agg #[.int .i64 f, .int .i64 t], .func (.func 181) #[] #[.pointer (some ⟨w2.heap.size + 1 + 1, 0, none⟩), .pointer (some ⟨w2.heap.size + 1, 0, none⟩)], .agg #[.int .i64 x.1.1, .int .i64 x.1.2], .bool x.2, undef, undef, undef, undef, undef, undef, undef, undef, undef, undef, undef], defers := [] })
    (fun x a' _ X Y row hs hg hr => by obtain ⟨Bx, h2, h3⟩ := hs; exact ⟨Bx, cells_keep h2 hg hr, h3⟩)
    ?assign ?body ?done ?stop
  case assign =>
    rintro l' pre x W K hGI hK
    gi_wp2
    exact hK _ _ ((KeepsOthers.alloc _ _).from _) ⟨(Below.refl _ W).alloc hGI.low.size _, Below.heap_alloc W _ _ (Array.getElem?_eq_some_iff.1 hGI.sb).1⟩ (hGI.alloc _) ⟨W.heap.size, heap_alloc_new' _ _, rfl⟩
  case body =>
    rintro l' pre x a' W hl' hr hGI ⟨Bx, hxb, rfl⟩ hlt
    obtain ⟨⟨x1, x2⟩, xb⟩ := x
    obtain ⟨v, hv, hrow⟩ := hGI.row
    have hc := hv.cell
    have hch := hGI.hb.cell
    have k0 : W.cell? ⟨Bx, 0, none⟩ = some (.int .i64 x1) := by rw [cell_of_row _ _ _ _ _ _ hxb]; rfl
    have k1 : W.cell? ⟨Bx, 1, none⟩ = some (.int .i64 x2) := by rw [cell_of_row _ _ _ _ _ _ hxb]; rfl
    have hplen := pick_len had pre
    have HGI : Hid (GI w2.heap.size (w.heap.size + 1) (w2.heap.size + 1 + 1) W0.heap.size w f t had pre W) := hGI
    have hbig := hGI.big
    clear hGI hxb hr
    by_cases hx : xb = had
    · subst hx
      gi_wp2_with (gi_at_builtin; refine wpListIn_append_own _ rfl _ _ 32 rfl W0.heap.size 90 i0 (.agg #[.int .i64 0, .int .i64 0]) 2 16 Tryz.underlying32 hi hz0 hz1 hz2 rfl (by decide) _ _ _ rfl (World.ownsRow.alloc hrow _) ⟨W.heap.size, 0, none⟩ 1 1 [.int .i64 x1, .int .i64 x2] rfl rfl ?c1 ?c2 ?c3 ?c4 ?c5 ?_)
      case c1 => exact cell_two_new _ _ _ _
      case c2 => intro u hu; simp at hu; rcases hu with rfl | rfl <;> rfl
      case c3 => unfold maxLen; omega
      case c4 => omega
      case c5 => simp; omega
      intro v' w1 hown' hgrow _
      obtain ⟨g', cap', rfl⟩ := ownsRow_succ hown'
      obtain ⟨hv1, hk2, hp2, hg2⟩ := HGI.out.put (s := (x1, x2)) (by omega) (by omega) (by omega) (by omega) (by omega) (by omega) hv hrow hown' hgrow
      have hc1 := hv1.cell
      have hf1 := hv1.frozen
      gi_wp2
      exact ⟨hk2.from _, hp2, hg2⟩
    · have hxd : (xb == had) = false := beq_false_of_ne hx
      gi_wp2
      exact ⟨KeepsFrom.refl _ _, Kps.refl _ _ _, ⟨⟨v, hv, by rw [pick_miss _ _ _ _ hx]; exact hrow⟩, HGI.out.hb, HGI.out.sb, HGI.out.low, HGI.out.big⟩⟩
  case done =>
    rintro D ys W hD rfl hGI hK
    obtain ⟨v, hv, hrow⟩ := hGI.row
    have hc := hv.cell
    obtain ⟨a3, c3, rfl⟩ := hrow.shape
    have hplen := pick_len had (pc t f l)
    have hbd := bounded_any a3 (pick had (pc t f l)).length c3 W (by omega)
    have HS3 : Hid (SOwn (W.putObj D (.deferred none)) w.heap.size (.slice a3 (pick had (pc t f l)).length c3) (pick had (pc t f l))) := SOwn.base (ownsRow_putObj hrow _ hK rfl) (by omega)
    have HB3 : Hid (Below w.heap.size w (W.putObj D (.deferred none))) := hGI.low.trans (belowK_b (w := w) (Nat.le_refl _) W D _ _ (by omega) hK rfl rfl)
    clear hGI hrow hv
    by_cases hle : (pick had (pc t f l)).length ≤ 2000
    · rw [if_pos hle] at hbd
      gi_wp2_with fail
      refine ⟨trivial, (callsIn_wide.2 hbd).mono ?_⟩
      rintro e w4 ⟨rfl, rfl⟩
      gi_wp2
      refine ⟨by simp, .inl ⟨_, _, rfl, run_takeDeferred hK, ?_⟩⟩
      exact ⟨_, results_tmp2 rfl _ _ _, _, _, 0, rfl, HS3.out, .inl ⟨hle, rfl, rfl⟩, HB3.out⟩
    · rw [if_neg hle] at hbd
      gi_wp2_with fail
      refine ⟨trivial, (callsIn_wide.2 hbd).mono ?_⟩
      rintro e w4 ⟨rfl, rfl⟩
      gi_wp2
      refine ⟨by simp, .inl ⟨_, _, rfl, run_takeDeferred hK, ?_⟩⟩
      exact ⟨_, results_tmp2 rfl _ _ _, _, _, 3, rfl, SOwn.nil _ _, .inr ⟨by omega, rfl, rfl⟩, HB3.out⟩
  case stop =>
    rintro D c' pre W _ _ h _
    exact h.elim

end Go.Proofs.YtillgoegiplmkaaGreatDoor.C

namespace Go.Proofs.YtillgoegiplmkaaGreatDoor.C
open Go.RowKit

/-- What Gaps (had: false) and Within (had: true) answer. -/
def GR (had : Bool) (l : List Sp) (s : Sp) (u : List Sp) (er : Int) : Prop := (¬ (IsSet l ∧ Asked s) ∧ er = 30 ∧ u = []) ∨ (IsSet l ∧ Asked s ∧ BR (pick had (pc s.2 s.1 l)) u er)
theorem GR.len {had : Bool} {l : List Sp} {s : Sp} {u : List Sp} {er : Int} (h : GR had l s u er) : u.length ≤ 2000 := by
  rcases h with ⟨_, _, rfl⟩ | ⟨_, _, ⟨h, _, rfl⟩ | ⟨_, _, rfl⟩⟩
  · simp
  · exact h
  · simp
theorem GR.within {l : List Sp} {s : Sp} {u : List Sp} {er : Int} (h : GR true l s u er) (hl : IsSet l) (ha : Asked s) : er = 0 ∧ u = wth l s := by
  rcases h with ⟨h1, _⟩ | ⟨_, _, ⟨_, h2, h3⟩ | ⟨h1, _⟩⟩
  · exact absurd ⟨hl, ha⟩ h1
  · exact ⟨h2, h3⟩
  · have := len_true (hi := s.2) (l := l) (p := s.1); have := hl.1; omega
theorem GR.gaps {l : List Sp} {s : Sp} {u : List Sp} {er : Int} (h : GR false l s u er) (hl : IsSet l) (ha : Asked s) : BR (gps l s) u er := by
  rcases h with ⟨h1, _⟩ | ⟨_, _, h⟩
  · exact absurd ⟨hl, ha⟩ h1
  · exact h

def GRPost (had : Bool) (l : List Sp) (s : Sp) (w : World) (e : Ending) (w' : World) : Prop := ∃ v u er, e = .returned (.tuple #[v, .int .i64 er]) ∧ SOwn w' w.heap.size v u ∧ GR had l s u er ∧ Below w.heap.size w w'

set_option maxHeartbeats 2000000 in
theorem gather_any {v : Value} {l : List Sp} {w : World} (f t : Int) (had : Bool) (h : Ls w v l) : Calls Tryz.prog 136 #[v, .agg #[.int .i64 f, .int .i64 t], .bool had] w (GRPost had l (f, t) w) := by
  obtain ⟨a, c, rfl, _⟩ := h.shape
  by_cases hq : IsSet l ∧ Asked (f, t)
  · refine (callsIn_wide.1 (gather_in f t had h hq.1 hq.2 9 (Nat.le_refl _))).mono ?_
    rintro e w' ⟨v', u, er, rfl, h1, h2, h3⟩
    exact ⟨v', u, er, rfl, h1, .inr ⟨hq.1, hq.2, h2⟩, h3⟩
  · have HN : Hid (¬ (IsSet l ∧ Asked (f, t))) := hq
    have HI : Hid (setB l = true → IsSet l) := setB_iff.mp
    have HI' : Hid (askB (f, t) = true → Asked (f, t)) := askB_iff.mp
    have hb0 : Below w.heap.size w ((w.alloc (.cells #[.int .i64 f, .int .i64 t] 90)).alloc (.cells #[.bool had] 4)) := ((Below.refl _ _).alloc (Nat.le_refl _) _).alloc (by simp) _
    have hR := right_ls (h.below hb0)
    have HR2 : Hid (∀ W, Calls Tryz.prog 161 #[.agg #[.int .i64 f, .int .i64 t]] W fun e w' => e = .returned (.bool (askB (f, t))) ∧ Below W.heap.size W w') := fun W => asked_any f t W
    have HB0 : Hid (Below w.heap.size w ((w.alloc (.cells #[.int .i64 f, .int .i64 t] 90)).alloc (.cells #[.bool had] 4))) := hb0
    clear h hq hb0
    generalize setB l = V at *
    generalize askB (f, t) = V' at *
    go_enter Tryz.func136, Tryz.ntmps136
    go_wp2_with fail
    refine hR.mono ?_
    rintro e w1 ⟨rfl, hb1⟩
    clear hR
    have c0 : w1.cell? ⟨w.heap.size, 0, none⟩ = some (.int .i64 f) := (hb1.cell (p := ⟨w.heap.size, 0, none⟩) (by simp; omega)).trans ((Below.cell (p := ⟨w.heap.size, 0, none⟩) ((Below.refl (w.heap.size + 1) (w.alloc (.cells #[.int .i64 f, .int .i64 t] 90))).alloc (by simp) _) (by simp)).trans (box0 _ _ _ _))
    have c1 : w1.cell? ⟨w.heap.size, 1, none⟩ = some (.int .i64 t) := (hb1.cell (p := ⟨w.heap.size, 1, none⟩) (by simp; omega)).trans ((Below.cell (p := ⟨w.heap.size, 1, none⟩) ((Below.refl (w.heap.size + 1) (w.alloc (.cells #[.int .i64 f, .int .i64 t] 90))).alloc (by simp) _) (by simp)).trans (box1 _ _ _ _))
    have HB1 : Hid (Below w.heap.size w w1) := HB0.out.trans (hb1.mono (by simp; omega))
    clear hb1 HB0
    cases V with
    | false =>
      clear HI HI'
      go_wp2
      go_ret2
      exact ⟨_, [], 30, rfl, SOwn.nil _ _, .inl ⟨HN.out, rfl, rfl⟩, HB1.out⟩
    | true =>
      have HQ : Hid (IsSet l) := HI.out rfl
      clear HI
      go_wp2_with fail
      refine (HR2.out w1).mono ?_
      rintro e w2 ⟨rfl, hb2⟩
      have HB2 : Hid (Below w.heap.size w w2) := HB1.out.trans (hb2.mono HB1.out.size)
      clear hb2 HB1 HR2
      cases V' with
      | true => exact absurd ⟨HQ.out, HI'.out rfl⟩ HN.out
      | false =>
        clear HI'
        go_wp2
        go_ret2
        exact ⟨_, [], 30, rfl, SOwn.nil _ _, .inl ⟨HN.out, rfl, rfl⟩, HB2.out⟩

theorem below_box (w : World) (f t : Int) : Below w.heap.size w (w.alloc (.cells #[.int .i64 f, .int .i64 t] 90)) := (Below.refl _ _).alloc (Nat.le_refl _) _

theorem gaps_any {v : Value} {l : List Sp} {w : World} (f t : Int) (h : Ls w v l) : Calls Tryz.prog 84 #[v, .agg #[.int .i64 f, .int .i64 t]] w (GRPost false l (f, t) w) := by
  have hG := gather_any f t false (h.below (below_box w f t))
  have HB0 : Hid (Below w.heap.size w (w.alloc (.cells #[.int .i64 f, .int .i64 t] 90))) := below_box w f t
  obtain ⟨a, c, rfl, _⟩ := h.shape
  clear h
  go_enter Tryz.func84, Tryz.ntmps84
  go_wp2_with fail
  refine hG.mono ?_
  rintro e w1 ⟨v1, u, er, rfl, hs1, hr1, hb1⟩
  obtain ⟨a1, c1, rfl⟩ := hs1.shape
  have HB1 : Hid (Below w.heap.size w w1) := HB0.out.trans (hb1.mono HB0.out.size)
  have HS1 : Hid (SOwn w1 w.heap.size (.slice a1 u.length c1) u) := hs1.base HB0.out.size
  have HR1 : Hid (GR false l (f, t) u er) := hr1
  clear hG hb1 hs1 hr1
  go_wp2
  go_ret2
  exact ⟨_, u, er, rfl, HS1.out, HR1.out, HB1.out⟩

theorem within_any {v : Value} {l : List Sp} {w : World} (f t : Int) (h : Ls w v l) : Calls Tryz.prog 182 #[v, .agg #[.int .i64 f, .int .i64 t]] w (GRPost true l (f, t) w) := by
  have hG := gather_any f t true (h.below (below_box w f t))
  have HB0 : Hid (Below w.heap.size w (w.alloc (.cells #[.int .i64 f, .int .i64 t] 90))) := below_box w f t
  obtain ⟨a, c, rfl, _⟩ := h.shape
  clear h
  go_enter Tryz.func182, Tryz.ntmps182
  go_wp2_with fail
  refine hG.mono ?_
  rintro e w1 ⟨v1, u, er, rfl, hs1, hr1, hb1⟩
  obtain ⟨a1, c1, rfl⟩ := hs1.shape
  have HB1 : Hid (Below w.heap.size w w1) := HB0.out.trans (hb1.mono HB0.out.size)
  have HS1 : Hid (SOwn w1 w.heap.size (.slice a1 u.length c1) u) := hs1.base HB0.out.size
  have HR1 : Hid (GR true l (f, t) u er) := hr1
  clear hG hb1 hs1 hr1
  go_wp2
  go_ret2
  exact ⟨_, u, er, rfl, HS1.out, HR1.out, HB1.out⟩

/-- Covers. -/
def cvB (l : List Sp) (s : Sp) : Bool := setB l && (askB s && decide (gps l s = []))
theorem cv_of {l : List Sp} {s : Sp} {u : List Sp} {er : Int} (h : GR false l s u er) : cvB l s = (decide (er = 0) && decide (u.length = 0)) := by
  unfold cvB
  by_cases hq : IsSet l ∧ Asked s
  · rw [setB_iff.mpr hq.1, askB_iff.mpr hq.2]
    rcases h.gaps hq.1 hq.2 with ⟨h1, rfl, rfl⟩ | ⟨h1, rfl, rfl⟩
    · simp [List.length_eq_zero_iff]
    · have : gps l s ≠ [] := fun e => by rw [e] at h1; simp at h1
      simp [this]
  · rcases h with ⟨_, rfl, _⟩ | ⟨h1, h2, _⟩
    · have : ¬ (setB l = true ∧ askB s = true) := fun e => hq ⟨setB_iff.mp e.1, askB_iff.mp e.2⟩
      cases hs : setB l <;> cases ha : askB s <;> simp_all
    · exact absurd ⟨h1, h2⟩ hq

theorem covers_any {v : Value} {l : List Sp} {w : World} (f t : Int) (h : Ls w v l) : Calls Tryz.prog 46 #[v, .agg #[.int .i64 f, .int .i64 t]] w fun e w' => e = .returned (.bool (cvB l (f, t))) ∧ Below w.heap.size w w' := by
  have hG := gaps_any f t (h.below (below_box w f t))
  have HB0 : Hid (Below w.heap.size w (w.alloc (.cells #[.int .i64 f, .int .i64 t] 90))) := below_box w f t
  obtain ⟨a, c, rfl, _⟩ := h.shape
  clear h
  have HC : Hid (∀ u er, GR false l (f, t) u er → cvB l (f, t) = (decide (er = 0) && decide (u.length = 0))) := fun _ _ => cv_of
  generalize cvB l (f, t) = V at *
  go_enter Tryz.func46, Tryz.ntmps46
  go_wp2_with fail
  refine hG.mono ?_
  rintro e w1 ⟨v1, u, er, rfl, hs1, hr1, hb1⟩
  obtain ⟨a1, c1, rfl⟩ := hs1.shape
  have HB1 : Hid (Below w.heap.size w w1) := HB0.out.trans (hb1.mono HB0.out.size)
  have HV : Hid (V = (decide (er = 0) && decide (u.length = 0))) := HC.out u er hr1
  have hul := hr1.len
  clear hG hb1 hs1 hr1 HC
  by_cases he : er = 0
  · subst he
    by_cases hu : u.length = 0
    · have hu' : (u.length : Int) = 0 := by omega
      have HV2 : Hid (V = true) := by rw [Hid, HV.out, hu]; rfl
      clear HV
      go_wp2
      go_ret
      exact ⟨by rw [HV2.out]; rfl, HB1.out⟩
    · have hu' : ((u.length : Int) == 0) = false := beq_false_of_ne (by omega)
      have HV2 : Hid (V = false) := by rw [Hid, HV.out, decide_eq_false hu]; rfl
      clear HV
      go_wp2
      go_ret
      exact ⟨by rw [HV2.out]; rfl, HB1.out⟩
  · have HV2 : Hid (V = false) := by rw [Hid, HV.out, decide_eq_false he]; rfl
    clear HV
    go_wp2
    go_ret
    exact ⟨by rw [HV2.out]; rfl, HB1.out⟩

end Go.Proofs.YtillgoegiplmkaaGreatDoor.C
