import Derived.Test.YtjolflpmeodnaaiPlRi
import Derived.Test.YtjolflpmeodnaaiPlSrt
import Derived.Test.YtjolflpmeodnaaiPlSh
import Derived.Test.YtjolflpmeodnaaiStp
import Derived.Sort.OwnSortedInts
import Derived.Sort.Grow
import Derived.Lib.OwnBridge
namespace Go.Proofs.Ytjolflpmeodnaai
set_option linter.unusedVariables false
open Go.RowKit Go.Sort

theorem Try.pinfo_int : (Try.prog.info? 3).map (fun i => (i.zero, i.size, i.bytes)) = some (some (.int .i64 0), 1, 8) := by kernel_rfl
theorem pinfo_parts {P : Program} {t : TypeId} {z : Value} {n b : Nat} (h : (P.info? t).map (fun i => (i.zero, i.size, i.bytes)) = some (some z, n, b)) : ∃ i, P.info? t = some i ∧ i.zero = some z ∧ i.size = n ∧ i.bytes = b := by
  cases hi : P.info? t with
  | none => rw [hi] at h; cases h
  | some i => rw [hi] at h; simp at h; exact ⟨i, rfl, h.1, h.2.1, h.2.2⟩
theorem pl_grown_trans {a b c : World} {row : Option Nat} (h : a.grownBy b row) (h' : b.grownBy c row) : a.grownBy c row :=
  ⟨h'.os.trans h.os, h'.tape.trans h.tape, h'.output.trans h.output, Nat.le_trans h.size h'.size, fun k hk hne => (h'.block k (Nat.lt_of_lt_of_le hk h.size) hne).trans (h.block k hk hne)⟩
theorem pl_grown_drewN (w : World) (n : Nat) (row : Option Nat) : w.grownBy (w.drewN n) row := ⟨rfl, rfl, rfl, Nat.le_refl _, fun _ _ _ => rfl⟩
theorem pl_two (w : World) (x y : Value) (t : TypeId) : ∀ j u, [x, y][j]? = some u → (w.alloc (.cells #[x, y] t)).cell? ((⟨w.heap.size, 0, none⟩ : Addr).add j) = some u := by
  intro j u hj
  match j, hj with
  | 0, hj => simp at hj; subst hj; simp [Addr.add]
  | 1, hj => simp at hj; subst hj; simp [Addr.add]
theorem pl_own_lt {w : World} {base n sz : Nat} {e : TypeId} {v : Value} {xs : List Value} (h : w.ownsRow base e sz v n xs) : ∀ r, v.ownBlock = some r → base ≤ r ∧ r < w.heap.size := by
  intro r hr
  obtain ⟨_, ⟨rfl, _⟩ | ⟨g, cap, cur, rfl, hb, hg, _⟩⟩ := h
  · cases hr
  · simp only [Value.ownBlock, Option.some.injEq] at hr
    subst hr
    exact ⟨hb, (Array.getElem?_eq_some_iff.mp hg).1⟩

theorem pl_own_drew {w : World} {base n sz : Nat} {e : TypeId} {v : Value} {xs : List Value} (h : w.ownsRow base e sz v n xs) (k : Nat) : (w.drewN k).ownsRow base e sz v n xs := h

/-- What marksOf leaves. -/
def MkPost (p a b : Int) (l : List Ct) (w : World) (e : Ending) (w' : World) : Prop :=
  ∃ g cap M, e = .returned (.slice (some ⟨g, 0, none⟩) (List.length M) cap) ∧ MK p a b l M ∧ M.length ≤ 202 ∧ (∀ (i : Nat) x, M[i]? = some x → w'.cell? ⟨g, i, none⟩ = some (.int .i64 x)) ∧ Below w.heap.size w w'

theorem mk_end {p a b : Int} (hab : a ≤ b) {l : List Ct} (hn : l.length ≤ 100) {w w1 : World} {g cap nn q : Nat} {os : Array Obj} {zs : List Int} (hz : zs = [a, b] ++ rawG p a b l)
    (hown : w1.ownsRow w.heap.size 3 1 (.slice (some ⟨g, 0, none⟩) zs.length cap) zs.length (zs.map (Value.int .i64))) (hbel : Below w.heap.size w w1) :
    MkPost p a b l w (.returned (.slice (some ⟨g, 0, none⟩) (Lib.compact (zs.mergeSort fun x y => decide (x ≤ y))).length cap))
      (putRow (Value.int .i64) (Sort.ahead (grow (putRow (Value.int .i64) (Sort.ahead w1 nn) g 0 (zs.mergeSort fun x y => decide (x ≤ y)).toArray) os) q) g 0 (Lib.compact (zs.mergeSort fun x y => decide (x ≤ y)) ++ List.replicate ((zs.mergeSort fun x y => decide (x ≤ y)).length - (Lib.compact (zs.mergeSort fun x y => decide (x ≤ y))).length) 0).toArray) := by
  have hl2 : (zs.mergeSort fun x y => decide (x ≤ y)).length = zs.length := List.length_mergeSort zs
  have hle := cpt_len (zs.mergeSort fun x y => decide (x ≤ y))
  have hzl : zs.length ≤ 202 := by rw [hz]; have := rawG_len p a b l; simp; omega
  rcases hown.2 with ⟨h0, _⟩ | ⟨g', cap', cur, hv, hbase, hb, h1, h2, h3, h4⟩
  · cases h0
  cases hv
  have hgl : g < w1.heap.size := (Array.getElem?_eq_some_iff.mp hb).1
  have hH : Holds (Value.int .i64) w1 g 0 zs.toArray := (Lib.holds_of_ownsRow hown (by simp)).choose_spec.choose_spec.2.2.2.2.2.2 |> fun h => by
    obtain ⟨g1, c1, e1, _, _, _, _, _, h8⟩ := Lib.holds_of_ownsRow hown (by simp)
    cases e1; exact h8
  have hH2 : Holds (Value.int .i64) (grow (putRow (Value.int .i64) (Sort.ahead w1 nn) g 0 (zs.mergeSort fun x y => decide (x ≤ y)).toArray) os) g 0 (zs.mergeSort fun x y => decide (x ≤ y)).toArray :=
    holds_grow _ _ os g 0 _ (by simpa [putRow, mapBlock, Sort.ahead] using hgl) (holds_putRow _ _ g 0 _ _ (holds_ahead _ w1 nn g 0 _ hH) (by simp))
  have hH3 := holds_putRow (Value.int .i64) _ g 0 _ (Lib.compact (zs.mergeSort fun x y => decide (x ≤ y)) ++ List.replicate ((zs.mergeSort fun x y => decide (x ≤ y)).length - (Lib.compact (zs.mergeSort fun x y => decide (x ≤ y))).length) 0).toArray (holds_ahead _ _ q g 0 _ hH2) (by simp; omega)
  refine ⟨g, cap, _, rfl, by rw [hz]; exact marks_mk hab l, by omega, fun i x hx => ?_, Lib.below_putRow (hbel.grown (grownBy_sortedI _) hbel.size (fun j hj => by cases hj; exact hbase)) hbase⟩
  obtain ⟨hi, hxi⟩ := List.getElem?_eq_some_iff.mp hx
  have h5 := (hH3 i (by simp; omega)).1
  rw [Nat.zero_add] at h5
  rw [h5]
  simp [List.getElem?_append_left hi, hx]

set_option maxHeartbeats 2000000 in
theorem marks_any (ad : Option Addr) (cp : Nat) (l : List Ct) (p a b : Int) (w : World) (h : Cta w ad l) (hn : l.length ≤ 100) (hab : a ≤ b) :
    Calls Try.prog 19 #[.slice ad l.length cp, .int .i64 p, .int .i64 a, .int .i64 b] w (MkPost p a b l w) := by
  obtain ⟨i0, hi, hz0, hz1, hz2⟩ := pinfo_parts Try.pinfo_int
  have HS : Hid (Cta w ad l) := h
  clear h
  have HO0 : Hid ((w.alloc (.cells #[.int .i64 a, .int .i64 b] 3)).ownsRow w.heap.size 3 1 (.slice (some ⟨w.heap.size, 0, none⟩) 2 2) ([a, b] ++ rawG p a b (l.take 0)).length (([a, b] ++ rawG p a b (l.take 0)).map (Value.int .i64))) := by
    refine ⟨rfl, .inr ⟨w.heap.size, 2, #[.int .i64 a, .int .i64 b], rfl, Nat.le_refl _, heap_alloc_new _ _, by simp [rawG], by decide, rfl, by simp [rawG]⟩⟩
  go_enter Try.func19, Try.ntmps19
  go_wp2_with fail
  go_loopw [9, 16] (fun q i wr => ∃ (k : Nat) (v : Value), k ≤ l.length ∧ i = .int .i64 k ∧ q = v ∧ wr.ownsRow w.heap.size 3 1 v ([a, b] ++ rawG p a b (l.take k)).length (([a, b] ++ rawG p a b (l.take k)).map (Value.int .i64)) ∧ Below w.heap.size w wr) (fun _ i _ => l.length - (intOf i).toNat)
  case atStart => exact ⟨0, _, by omega, rfl, rfl, HO0.out, (Below.refl _ _).alloc (Nat.le_refl _) _⟩
  case round =>
    obtain ⟨k, v, hk, rfl, rfl, hown, hbe⟩ := hrel
    have HBe : Hid (Below w.heap.size w wr) := hbe
    have HO : Hid (wr.ownsRow w.heap.size 3 1 u9 ([a, b] ++ rawG p a b (l.take k)).length (([a, b] ++ rawG p a b (l.take k)).map (Value.int .i64))) := hown
    clear hbe hown HO0
    by_cases hlt : k < l.length
    · have hlt' : (k : Int) < (l.length : Int) := by omega
      obtain ⟨c, hc⟩ := pl_get l k hlt
      obtain ⟨g, off, rfl, q1, q2, q3, q4⟩ := (HS.out.below HBe.out).at hc
      have HT : Hid (rawG p a b (l.take (k + 1)) = rawG p a b (l.take k) ++ (if c.p = p then [min (max c.f a) b, min (max c.t a) b] else [])) := by
        show _ = _
        rw [List.take_add_one, hc, rawG_append]; simp [rawG]
      have HL : Hid (([a, b] ++ rawG p a b (l.take k)).length ≤ 202) := by
        have := rawG_len p a b (l.take k)
        show _ ≤ _
        rw [List.length_take] at this
        simp; omega
      clear hc
      obtain ⟨cp', cf, ct, cr⟩ := c
      simp only at q1 q2 q3 q4 HT
      by_cases hp : cp' = p
      · subst hp
        have HO2 : Hid (∀ (v' : Value) (w' : World), w'.ownsRow w.heap.size 3 1 v' (([a, b] ++ rawG cp' a b (l.take k)).length + 2) (([a, b] ++ rawG cp' a b (l.take k)).map (Value.int .i64) ++ [.int .i64 (min (max cf a) b), .int .i64 (min (max ct a) b)]) → w'.ownsRow w.heap.size 3 1 v' ([a, b] ++ rawG cp' a b (l.take (k + 1))).length (([a, b] ++ rawG cp' a b (l.take (k + 1))).map (Value.int .i64))) := by
          intro v' w' h
          rw [HT.out, if_pos rfl]
          simpa using h
        clear HT
        obtain ⟨K, hK⟩ : ∃ K : Int → Int, ∀ x, min (max x a) b = K x := ⟨_, fun _ => rfl⟩
        have HW : ∀ x w, Calls Try.prog 21 #[.int .i64 x, .int .i64 a, .int .i64 b] w fun e w' => e = .returned (.int .i64 (K x)) ∧ w' = w := fun x w => by rw [← hK]; exact within_any x a b w
        rw [hK, hK] at HO2
        clear hK
        generalize ([a, b] ++ rawG cp' a b (l.take k)).map (Value.int .i64) = xs at *
        generalize ([a, b] ++ rawG cp' a b (l.take k)).length = n at *
        have hLn : n ≤ 202 := HL.out
        go_wp2_with fail
        go_region_law (first
          | (go_simp
             go_at_call 21
             refine (HW _ _).mono ?_
             rintro e w2 ⟨rfl, rfl⟩)
          | (refine step_append_at rfl (.tmp 26) (.tmp 43) 31 rfl w.heap.size 3 i0 (.int .i64 0) 1 8 Try.underlying31 hi hz0 hz1 hz2 rfl (by decide) u9 n xs (by simp [Act.eval]) (World.ownsRow.alloc (pl_own_drew HO.out _) _) ⟨wr.heap.size, 0, none⟩ 2 2 [.int .i64 (K cf), .int .i64 (K ct)] (by simp [Act.eval]) rfl (pl_two _ _ _ _) (by simp [Value.oneCell']) (by unfold maxLen; omega) (by omega) (by have := HBe.out.size; simp; omega) ?_
             intro v6 w6 hown6 hgrow6 hat6))
        all_goals (
          have HO6 : Hid (w6.ownsRow w.heap.size 3 1 v6 ([a, b] ++ rawG cp' a b (l.take (k + 1))).length (([a, b] ++ rawG cp' a b (l.take (k + 1))).map (Value.int .i64))) := HO2.out _ _ hown6
          have HB6 : Hid (Below w.heap.size w w6) := ((pl_drew HBe.out 1).alloc HBe.out.size _).grown hgrow6 (by have := HBe.out.size; simp; omega) (fun r hr => (pl_own_lt HO.out r hr).1)
          clear hown6 hgrow6 hat6 HO HO2 HL q1 q2 q3 q4 HW
          go_wp2
          go_roundw
          case rel => exact ⟨k + 1, v6, by omega, by go_num, by simp, HO6.out, HB6.out⟩
          case measure => simp [intOf]; omega)
      · have HO2 : Hid (wr.ownsRow w.heap.size 3 1 u9 ([a, b] ++ rawG p a b (l.take (k + 1))).length (([a, b] ++ rawG p a b (l.take (k + 1))).map (Value.int .i64))) := by
          show World.ownsRow _ _ _ _ _ _ _
          rw [HT.out, if_neg hp, List.append_nil]; exact HO.out
        clear HT HO HL
        go_wp2
        go_roundw
        case rel => exact ⟨k + 1, u9, by omega, by go_num, rfl, HO2.out, HBe.out⟩
        case measure => simp [intOf]; omega
    · have hkn : k = l.length := by omega
      subst hkn
      have HZ : Hid ([a, b] ++ rawG p a b (l.take l.length) = [a, b] ++ rawG p a b l) := by rw [List.take_length]; rfl
      generalize [a, b] ++ rawG p a b (l.take l.length) = zs at *
      obtain ⟨g, cap, rfl, hbg, hgl, hncap, hcm, hlen, hH⟩ := Lib.holds_of_ownsRow HO.out (by
        intro h0
        have h1 := HO.out.2
        rw [h0] at h1
        rcases h1 with ⟨_, h2⟩ | ⟨g, cap, cur, h2, _⟩
        · have h3 := congrArg List.length HZ.out
          simp at h3; omega
        · cases h2)
      have hzl : zs.length ≤ 202 := by rw [HZ.out]; have := rawG_len p a b l; simp; omega
      have hsort : Calls Try.prog 22 #[.slice (some ⟨g, 0, none⟩) zs.length cap] wr fun e w' => e = .returned (.tuple #[]) ∧ ∃ n os, w' = grow (putRow (Value.int .i64) (Sort.ahead wr n) g 0 (zs.mergeSort fun x y => decide (x ≤ y)).toArray) os := Any.slices_Sort_int laysSort g 0 cap zs wr hH hgl (by omega)
      have HH : Hid (Holds (Value.int .i64) wr g 0 zs.toArray ∧ g < wr.heap.size) := ⟨hH, hgl⟩
      clear hH
      go_wp2_with fail
      refine hsort.mono ?_
      rintro e w2 ⟨rfl, nn, os, rfl⟩
      clear hsort
      have hl2 : (zs.mergeSort fun x y => decide (x ≤ y)).length = zs.length := List.length_mergeSort zs
      have hcomp : Calls Try.prog 23 #[.slice (some ⟨g, 0, none⟩) (zs.mergeSort fun x y => decide (x ≤ y)).length cap] _ _ := Any.slices_Compact_int laysCompact g 0 cap (zs.mergeSort fun x y => decide (x ≤ y)) (grow (putRow (Value.int .i64) (Sort.ahead wr nn) g 0 (zs.mergeSort fun x y => decide (x ≤ y)).toArray) os)
        (holds_grow _ _ os g 0 _ (by simpa [putRow, mapBlock, Sort.ahead] using HH.out.2) (holds_putRow _ _ g 0 _ _ (holds_ahead _ wr nn g 0 _ HH.out.1) (by simp))) (by omega) (by omega)
      rw [show #[Value.slice (some ⟨g, 0, none⟩) (zs.mergeSort fun x y => decide (x ≤ y)).length cap] = #[Value.slice (some ⟨g, 0, none⟩) zs.length cap] from by rw [hl2]] at hcomp
      have HFIN : Hid (∀ q, MkPost p a b l w (.returned (.slice (some ⟨g, 0, none⟩) (Lib.compact (zs.mergeSort fun x y => decide (x ≤ y))).length cap)) _) := fun q => mk_end (q := q) (nn := nn) (os := os) hab hn HZ.out HO.out HBe.out
      clear HO HH HZ
      generalize (grow (putRow (Value.int .i64) (Sort.ahead wr nn) g 0 (zs.mergeSort fun x y => decide (x ≤ y)).toArray) os) = w2 at *
      generalize (Lib.compact (zs.mergeSort fun x y => decide (x ≤ y)) ++ List.replicate ((zs.mergeSort fun x y => decide (x ≤ y)).length - (Lib.compact (zs.mergeSort fun x y => decide (x ≤ y))).length) 0).toArray = R at *
      generalize (Lib.compact (zs.mergeSort fun x y => decide (x ≤ y))).length = N at *
      clear hl2
      go_wp2_with fail
      refine hcomp.mono ?_
      rintro e w3 ⟨rfl, q, rfl⟩
      have hF := HFIN.out q
      go_wp2
      go_ret
      exact hF

end Go.Proofs.Ytjolflpmeodnaai
