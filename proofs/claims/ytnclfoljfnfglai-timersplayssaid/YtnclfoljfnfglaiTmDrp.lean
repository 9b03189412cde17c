import Derived.Test.YtnclfoljfnfglaiTmEq
import Derived.Test.YtnclfoljfnfglaiTmLft
import Derived.BigQuiet
import Derived.Lib.SlMapFilter
namespace Go.Proofs.Ytnclfoljfnfglai
open Go.RowKit Go.Maps
set_option linter.unusedVariables false

/-! ## A session's timers are dropped -/
def sesB (s1 s2 : Int) (k : Kx) : Bool := decide (k.2.1 = s1 ∧ k.2.2.1 = s2)
theorem drop1_any (k : Kx) (n : Int) (sb : Nat) (s1 s2 : Int) (w : World) (hk : kW k) (h1 : kI s1 = true) (h2 : kI s2 = true) (c0 : w.cell? ⟨sb, 0, none⟩ = some (.int .i64 s1)) (c1 : w.cell? ⟨sb, 1, none⟩ = some (.int .i64 s2)) :
    Calls Try.prog 66 #[kA k, .int .i64 n, .pointer (some ⟨sb, 0, none⟩)] w fun e w' => e = .returned (.bool (sesB s1 s2 k)) ∧ w' = w.alloc (kO k) := by
  obtain ⟨k0, k1, k2, k3, k4⟩ := k
  obtain ⟨b0, b1, b2, b3, b4⟩ := hk
  simp only at b0 b1 b2 b3 b4
  have heq := fun w => eql_ses b1 b2 h1 h2 w
  have hg := eqGuard49
  obtain ⟨bq, hbq⟩ : ∃ b, decide (k1 = s1 ∧ k2 = s2) = b := ⟨_, rfl⟩
  have HB : Hid (sesB s1 s2 (k0, k1, k2, k3, k4) = bq) := hbq
  rw [hbq] at heq
  rw [HB.out]
  obtain ⟨W, hW⟩ : ∃ W, w.alloc (kO (k0, k1, k2, k3, k4)) = W := ⟨_, rfl⟩
  have HW : Hid (w.alloc (kO (k0, k1, k2, k3, k4)) = W) := hW
  have hb : Below w.heap.size w W := by rw [← hW]; exact (Below.refl _ _).alloc (Nat.le_refl _) _
  have d0 : W.cell? ⟨sb, 0, none⟩ = some (.int .i64 s1) := (hb.cell (p := ⟨sb, 0, none⟩) (World.block_lt_of_cell? w ⟨sb, 0, none⟩ c0)).trans c0
  have d1 : W.cell? ⟨sb, 1, none⟩ = some (.int .i64 s2) := (hb.cell (p := ⟨sb, 1, none⟩) (World.block_lt_of_cell? w ⟨sb, 1, none⟩ c1)).trans c1
  have e1 : W.cell? ⟨w.heap.size, 1, none⟩ = some (.int .i64 k1) := by rw [← hW]; simp
  have e2 : W.cell? ⟨w.heap.size, 2, none⟩ = some (.int .i64 k2) := by rw [← hW]; simp
  clear hbq hb
  go_enter Try.func66, Try.ntmps66
  go_wp2
  go_ret
  exact ⟨rfl, HW.out.symm⟩

/-- How far the walk came. -/
structure DR (s1 s2 : Int) (L L' : Tl) (left : Lit → Bool) : Prop where
  sub : ∀ x ∈ L', x ∈ L
  stay : ∀ x ∈ L, left (kL x.1) = true → x ∈ L'
  done : ∀ x ∈ L, left (kL x.1) = false → (x ∈ L' ↔ sesB s1 s2 x.1 = false)
theorem DR.start {s1 s2 : Int} {D : DataW Unit} {L : Tl} (h : TD D L) : DR s1 s2 L L (Maps.has D) :=
  ⟨fun _ h => h, fun _ h _ => h, fun x hx h1 => by rw [h.mem x hx] at h1; cases h1⟩
def notS (s1 s2 : Int) (L : Tl) : Tl := L.filter fun x => !sesB s1 s2 x.1
theorem DR.last {s1 s2 : Int} {L L' : Tl} {left : Lit → Bool} (h : DR s1 s2 L L' left) (hl : ∀ l, left l = false) (hn : (L.map Prod.fst).Nodup) (hn' : (L'.map Prod.fst).Nodup) : L'.Perm (notS s1 s2 L) := by
  have ndf : ∀ {L : Tl}, (L.map Prod.fst).Nodup → L.Nodup := fun {L} h => by
    unfold List.Nodup at *
    rw [List.pairwise_map] at h
    exact h.imp fun h1 h2 => h1 (by rw [h2])
  have h2 : (notS s1 s2 L).Nodup := List.Nodup.sublist List.filter_sublist (ndf hn)
  rw [List.perm_ext_iff_of_nodup (ndf hn') h2]
  intro x
  simp only [notS, List.mem_filter, Bool.not_eq_true']
  exact ⟨fun h1 => ⟨h.sub x h1, (h.done x (h.sub x h1) (hl _)).mp h1⟩, fun h1 => (h.done x h1.1 (hl _)).mpr h1.2⟩
theorem DR.skip {s1 s2 : Int} {D : DataW Unit} {L L' : Tl} {left : Lit → Bool} {x : Kx} (hw : ∀ y ∈ L, kW y.1) (h : DR s1 s2 L L' left) (hx : kW x) (hl : left (kL x) = true) (hs : sesB s1 s2 x = false) : DR s1 s2 L L' (fun z => left z && !z.sameKey (kL x)) := by
  refine ⟨h.sub, fun y hy h1 => h.stay y hy (by simp at h1; exact h1.1), fun y hy h1 => ?_⟩
  rcases (strike_eq (hw y hy) hx).mp h1 with h2 | h2
  · exact h.done y hy h2
  · rw [h2]
    exact ⟨fun _ => hs, fun _ => h.stay y hy (by rw [h2]; exact hl)⟩
theorem DR.strike {s1 s2 : Int} {L L' : Tl} {left : Lit → Bool} {x : Kx} (hw : ∀ y ∈ L, kW y.1) (h : DR s1 s2 L L' left) (hx : kW x) (hl : left (kL x) = true) (hs : sesB s1 s2 x = true) : DR s1 s2 L (delT L' x) (fun z => left z && !z.sameKey (kL x)) := by
  refine ⟨fun y hy => h.sub y (mem_delT.mp hy).1, fun y hy h1 => ?_, fun y hy h1 => ?_⟩
  · refine mem_delT.mpr ⟨h.stay y hy (by simp at h1; exact h1.1), fun e => ?_⟩
    have : (left (kL y.1) && !(kL y.1).sameKey (kL x)) = false := (strike_eq (hw y hy) hx).mpr (.inr e)
    rw [this] at h1; cases h1
  · rw [mem_delT]
    by_cases e : y.1 = x
    · rw [e, hs]; simp
    · rcases (strike_eq (hw y hy) hx).mp h1 with h2 | h2
      · rw [h.done y hy h2]; simp [e]
      · exact absurd h2 e

set_option maxHeartbeats 4000000 in
set_option maxRecDepth 100000 in
theorem delfn_any (bl n : Nat) (L : Tl) (D : DataW Unit) (sb : Nat) (s1 s2 : Int) (w : World) (hD : w.ownsMap Try.prog 51 (plainElem Try.prog 3) bl n D) (tD : TD D L) (hne : sb ≠ bl) (k1 : kI s1 = true) (k2 : kI s2 = true) (c0 : w.cell? ⟨sb, 0, none⟩ = some (.int .i64 s1)) (c1 : w.cell? ⟨sb, 1, none⟩ = some (.int .i64 s2)) :
    Calls Try.prog 65 #[.map (some bl), .func (.func 66) #[] #[.pointer (some ⟨sb, 0, none⟩)]] w fun e w' => e = .returned (.tuple #[]) ∧ ∃ D' L', w'.ownsMap Try.prog 51 (plainElem Try.prog 3) bl n D' ∧ TD D' L' ∧ L'.Perm (notS s1 s2 L) ∧ Kq (· = bl) w w' := by
  have HTD : Hid (TD D L) := tD
  have HWf : Hid (∀ y ∈ L, kW y.1) := fun y hy => (tD.wf y hy).1
  have hbl := hD.lt
  have hsb : sb < w.heap.size := World.block_lt_of_cell? w ⟨sb, 0, none⟩ c0
  clear tD
  go_enter Try.func65, Try.ntmps65
  go_wp2_with (first
    | (at_range; refine wpList_range_own _ rfl _ 79 rfl 51 3 keyK Try.underlying79 _ bl n D rfl hD ?_; intro w0 hrg0 hg0 hs0)
    | go_in)
  go_frame
  obtain ⟨r, hr⟩ : ∃ r, r = w.heap.size := ⟨_, rfl⟩
  rw [← hr] at hrg0
  have K0 : Hid (Kq (· = bl) w w0) := (Kq.refl _ _).grown hg0 (fun k hk => by cases hk)
  rw [← hr]
  have hrl : w.heap.size ≤ r := by omega
  clear hg0 hs0 hD hr
  go_loopw [8] (fun _ wr => ∃ (left : Lit → Bool) (cnt : Nat) (D' : DataW Unit) (L' : Tl), wr.ranges Try.prog 51 (plainElem Try.prog 3) bl r n D' left cnt ∧ TD D' L' ∧ DR s1 s2 L L' left ∧ Kq (· = bl) w wr)
    (fun _ wr => wr.rangeLeft bl r)
  case atStart => exact ⟨_, _, D, L, hrg0, HTD.out, DR.start HTD.out, K0.out⟩
  case round =>
    obtain ⟨left, cnt, D', L', hrg, htd, hdr, hkq⟩ := hrel
    have HTd : Hid (TD D' L') := htd
    have HDr : Hid (DR s1 s2 L L' left) := hdr
    have HKQ : Hid (Kq (· = bl) w wr) := hkq
    clear htd hdr hkq
    go_wp2_with (first
      | (at_next; refine wpList_next_ranges _ rfl _ rfl 51 keyK _ kA (Value.int .i64) (fun key kl hk => by obtain ⟨k, e, _⟩ := key_inv hk; exact ⟨k, e⟩) (fun v y hv => by obtain ⟨c, e, _⟩ := plainElem_int_inv Try.underlying3 hv; exact ⟨c, e⟩) bl r n _ _ _ rfl hrg ?_ ?_)
      | go_in)
    · intro _ hl0
      go_wp2
      go_end0
      exact ⟨rfl, D', L', hrg.owns, HTd.out, HDr.out.last hl0 HTD.out.nd HTd.out.nd, HKQ.out⟩
    · intro x0 x1 x2 x3 x4 c kl yd yp w3 cnt3 hkey hlx hv hat hrg1 hlt hg1 hs1 hen
      obtain ⟨k', e1, hkw, rfl⟩ := key_inv hkey
      obtain rfl := kA_inj e1
      clear e1
      have HR0 : Hid (wr.ranges Try.prog 51 (plainElem Try.prog 3) bl r n D' left cnt) := hrg
      have K3 := HKQ.out.grown hg1 (fun k hk => by cases hk; exact .inr (by omega))
      obtain ⟨W4, hW4⟩ : ∃ W, w3.alloc (kO (x0, x1, x2, x3, x4)) = W := ⟨_, rfl⟩
      obtain ⟨V, hV⟩ : ∃ V, W4.alloc (kO (x0, x1, x2, x3, x4)) = V := ⟨_, rfl⟩
      have K4 : Kq (· = bl) w W4 := by rw [← hW4]; exact K3.alloc _
      have KV : Hid (Kq (· = bl) w V) := by rw [← hV]; exact K4.alloc _
      have RV : Hid (V.ranges Try.prog 51 (plainElem Try.prog 3) bl r n D' (fun z => left z && !z.sameKey (kL (x0, x1, x2, x3, x4))) cnt3) := by rw [← hV, ← hW4]; exact (hrg1.alloc _).alloc _
      have b4 := K4.block sb hsb hne
      have g0 := (World.cell?_of_block (a := ⟨sb, 0, none⟩) b4).trans c0
      have g1 := (World.cell?_of_block (a := ⟨sb, 1, none⟩) b4).trans c1
      have hC := drop1_any (x0, x1, x2, x3, x4) c sb s1 s2 W4 hkw k1 k2 g0 g1
      rw [hV] at hC
      have hk3 : w3.heap.size < V.heap.size := by rw [← hV, ← hW4]; simp; omega
      have v0 : V.cell? ⟨wr.heap.size, 0, none⟩ = some (.int .i64 x0) := by rw [← hV, ← hW4, ← hs1]; simp
      have v1 : V.cell? ⟨wr.heap.size, 1, none⟩ = some (.int .i64 x1) := by rw [← hV, ← hW4, ← hs1]; simp
      have v2 : V.cell? ⟨wr.heap.size, 2, none⟩ = some (.int .i64 x2) := by rw [← hV, ← hW4, ← hs1]; simp
      have v3 : V.cell? ⟨wr.heap.size, 3, none⟩ = some (.int .i64 x3) := by rw [← hV, ← hW4, ← hs1]; simp
      have v4 : V.cell? ⟨wr.heap.size, 4, none⟩ = some (.int .i64 x4) := by rw [← hV, ← hW4, ← hs1]; simp
      have u0 : W4.cell? ⟨wr.heap.size, 0, none⟩ = some (.int .i64 x0) := by rw [← hW4, ← hs1]; simp
      have u1 : W4.cell? ⟨wr.heap.size, 1, none⟩ = some (.int .i64 x1) := by rw [← hW4, ← hs1]; simp
      have u2 : W4.cell? ⟨wr.heap.size, 2, none⟩ = some (.int .i64 x2) := by rw [← hW4, ← hs1]; simp
      have u3 : W4.cell? ⟨wr.heap.size, 3, none⟩ = some (.int .i64 x3) := by rw [← hW4, ← hs1]; simp
      have u4 : W4.cell? ⟨wr.heap.size, 4, none⟩ = some (.int .i64 x4) := by rw [← hW4, ← hs1]; simp
      obtain ⟨bs, hbs⟩ : ∃ b, sesB s1 s2 (x0, x1, x2, x3, x4) = b := ⟨_, rfl⟩
      rw [hbs] at hC
      have HBs : Hid (sesB s1 s2 (x0, x1, x2, x3, x4) = bs) := hbs
      have HKw : Hid (kW (x0, x1, x2, x3, x4)) := hkw
      clear K3 K4 b4 hrg hrg1 hg1 hbs g0 g1 hV
      cases bs with
      | false =>
        go_wp2_with fail
        refine hC.mono ?_
        rintro e w5 ⟨rfl, hw5⟩
        rw [hw5]
        clear hw5 w5 hC hW4
        go_wp2
        go_roundw
        case rel => exact ⟨_, cnt3, D', L', RV.out, HTd.out, HDr.out.skip (D := D) HWf.out hkw hlx HBs.out, KV.out⟩
        case measure => rw [RV.out.left_eq, HR0.out.left_eq]; exact hlt
      | true =>
        go_wp2_with fail
        refine hC.mono ?_
        rintro e w5 ⟨rfl, hw5⟩
        rw [hw5]
        clear hw5 w5 hC hW4
        have hrv := RV.out
        go_wp2_with (first
          | (at_delete; refine wpList_delete_ranges _ rfl _ _ 79 51 rfl 3 keyK Try.underlying79 _ bl r n _ _ _ rfl hrv _ _ rfl hkey ?_; intro w6 cnt6 hrg6 hle hturn; go_frame)
          | go_in)
        rw [strike_twice] at hrg6
        go_roundw
        case rel => exact ⟨_, cnt6, _, _, hrg6, HTd.out.del (HR0.out.owns.tidy keyK) hkw, HDr.out.strike HWf.out hkw hlx HBs.out, KV.out.grown hturn.grown (fun j hj => by cases hj; exact .inl rfl)⟩
        case measure => rw [hrg6.left_eq, HR0.out.left_eq]; omega

theorem notS_len (s1 s2 : Int) (L : Tl) : (notS s1 s2 L).length ≤ L.length := List.length_filter_le _ _
set_option maxHeartbeats 2000000 in
set_option maxRecDepth 100000 in
theorem drop10_any (p bl bh : Nat) (L : Tl) (Hs : List Int) (s1 s2 : Int) (w : World) (h : Tb w p bl bh L Hs) (k1 : kI s1 = true) (k2 : kI s2 = true) (hl : L.length < 2199023255552) :
    Calls Try.prog 45 #[.pointer (some ⟨p, 0, none⟩), .agg #[.int .i64 s1, .int .i64 s2]] w fun e w' => e = .returned (.int .i64 ((L.length : Int) - ((notS s1 s2 L).length : Int))) ∧ Tb w' p bl bh (notS s1 s2 L) Hs ∧ Kq (· = bl) w w' := by
  obtain ⟨W, hW⟩ : ∃ W, w.alloc (.cells #[.int .i64 s1, .int .i64 s2] 49) = W := ⟨_, rfl⟩
  have T2 : Tb W p bl bh L Hs := by rw [← hW]; exact h.alloc _
  have K2 : Hid (Kq (· = bl) w W) := by rw [← hW]; exact (Kq.refl _ _).alloc _
  obtain ⟨D, hD, tD⟩ := T2.left
  have hsz := tD.len
  have c0 : W.cell? ⟨w.heap.size, 0, none⟩ = some (.int .i64 s1) := by rw [← hW]; simp
  have c1 : W.cell? ⟨w.heap.size, 1, none⟩ = some (.int .i64 s2) := by rw [← hW]; simp
  have hne : w.heap.size ≠ bl := by have := h.lts.2.1; omega
  have hF := delfn_any bl L.length L D w.heap.size s1 s2 W hD tD hne k1 k2 c0 c1
  have cb : W.cell? ⟨p, 0, none⟩ = some (.map (some bl)) := T2.cell0
  have HT2 : Hid (Tb W p bl bh L Hs) := T2
  obtain ⟨n, hn⟩ : ∃ n, L.length = n := ⟨_, rfl⟩
  have HN : Hid (L.length = n) := hn
  obtain ⟨m, hm⟩ : ∃ n, (notS s1 s2 L).length = n := ⟨_, rfl⟩
  have HM : Hid ((notS s1 s2 L).length = m) := hm
  have hmn : m ≤ n := by rw [← hn, ← hm]; exact notS_len s1 s2 L
  rw [hn] at hF hD hsz hl ⊢
  rw [hm]
  clear tD T2 h hn hm c0 c1
  go_enter Try.func45, Try.ntmps45
  go_wp2_with (first
    | (at_len; refine wpList_len_own _ rfl _ 79 rfl 51 3 Try.underlying79 _ bl n D rfl hD ?_; rw [hsz])
    | fail)
  go_wp2_with fail
  refine hF.mono ?_
  rintro e w3 ⟨rfl, D', L', hD', tD', hP, hk⟩
  have T3 : Tb w3 p bl bh (notS s1 s2 L) Hs := HT2.out.turn hD' (tD'.perm hP) hk (fun x hx => HT2.out.pos x (List.mem_filter.mp hx).1)
  have HT3 : Hid (Tb w3 p bl bh (notS s1 s2 L) Hs) := T3
  have HK3 : Hid (Kq (· = bl) w w3) := K2.out.trans hk
  obtain ⟨D3, hD3, tD3⟩ := T3.left
  have hsz3 := tD3.len
  rw [HM.out] at hD3 hsz3
  have cb3 : w3.cell? ⟨p, 0, none⟩ = some (.map (some bl)) := T3.cell0
  have hwr : IntKind.i64.wrap ((n : Int) - (m : Int)) = (n : Int) - (m : Int) := by rw [IntKind.wrap_i64]; omega
  clear hD' tD' hP hk T3 tD3 hF hD hsz cb hW
  go_wp2_with (first
    | (at_len; refine wpList_len_own _ rfl _ 79 rfl 51 3 Try.underlying79 _ bl m D3 rfl hD3 ?_; rw [hsz3])
    | go_in)
  go_ret
  exact ⟨rfl, HT3.out, HK3.out⟩

set_option maxHeartbeats 2000000 in
set_option maxRecDepth 100000 in
/-- Two lists that say the same. -/
theorem sameKeys_eq (b1 b2 : Nat) (l : List Kx) (v1 v2 : Value) (w : World) (h1 : KR w b1 v1 l) (h2 : KR w b2 v2 l) (hw : ∀ x ∈ l, kW x) (hl : l.length < 2199023255552) :
    Calls Try.prog 50 #[v1, v2] w fun e w' => e = .returned (.bool true) ∧ ∃ q, w' = w.drewN q := by
  obtain ⟨aa, ca, rfl⟩ := h1.shape
  obtain ⟨ab, cb, rfl⟩ := h2.shape
  obtain ⟨n, hn⟩ : ∃ n, l.length = n := ⟨_, rfl⟩
  have HN : Hid (l.length = n) := hn
  rw [hn] at h1 h2 hl ⊢
  have H1 : Hid (KR w b1 (.slice aa n ca) l) := h1
  have H2 : Hid (KR w b2 (.slice ab n cb) l) := h2
  have HW : Hid (∀ x ∈ l, kW x) := hw
  clear h1 h2 hw hn
  go_enter Try.func50, Try.ntmps50
  go_wp2
  go_loopw [5] (fun v wr => ∃ i : Nat, v = .int .i64 i ∧ i ≤ n ∧ ∃ q, wr = w.drewN q) (fun v _ => n - (intOf v).toNat)
  case atStart => exact ⟨0, rfl, by omega, 0, rfl⟩
  case round =>
    obtain ⟨i, rfl, hi, q, rfl⟩ := hrel
    by_cases hin : i = n
    · subst hin
      have hz : ¬ (i : Int) < (i : Int) := by omega
      go_wp2
      go_ret
      exact ⟨rfl, q, rfl⟩
    · have hz : (i : Int) < (n : Int) := by omega
      have hwi : IntKind.i64.wrap ((i : Int) + 1) = (i : Int) + 1 := by rw [IntKind.wrap_i64]; omega
      obtain ⟨x, hx⟩ : ∃ x, l[i]? = some x := ⟨_, List.getElem?_eq_getElem (by rw [HN.out]; omega)⟩
      have hkx := HW.out x (List.mem_of_getElem? hx)
      obtain ⟨ga, capa, ea, _, _, _⟩ := H1.out.some (by rw [HN.out]; omega)
      obtain ⟨rfl, hn1, rfl⟩ : aa = some ⟨ga, 0, none⟩ ∧ n = l.length ∧ ca = capa := by simpa using ea
      obtain ⟨gb, capb, eb, _, _, _⟩ := H2.out.some (by rw [HN.out]; omega)
      obtain ⟨rfl, hn2, rfl⟩ : ab = some ⟨gb, 0, none⟩ ∧ n = l.length ∧ cb = capb := by simpa using eb
      obtain ⟨x0, x1, x2, x3, x4⟩ := x
      obtain ⟨p0, p1, p2, p3, p4⟩ := H1.out.cells hx
      obtain ⟨q0, q1, q2, q3, q4⟩ := H2.out.cells hx
      simp only at p0 p1 p2 p3 p4 q0 q1 q2 q3 q4
      have heq := fun w => neq_key hkx hkx w
      simp only [decide_true, Bool.not_true] at heq
      have hg := eqGuard51
      clear hx ea eb hn1 hn2 hkx
      go_wp2_with fail
      go_quiet (fail)
      go_wp2
      exact ⟨⟨i + 1, by simp, by omega, q + nq, rfl⟩, by simp [intOf]; omega⟩

end Go.Proofs.Ytnclfoljfnfglai
