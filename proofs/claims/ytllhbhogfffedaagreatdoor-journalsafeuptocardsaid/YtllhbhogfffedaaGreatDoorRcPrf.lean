import Derived.Test.YtllhbhogfffedaaGreatDoorRcLtr
import Derived.Deep.RegionHeld3
import Derived.Deep.CutRange
import Derived.Test.YtllhbhogfffedaaGreatDoorRcFme
import Derived.Maps.AppendAt
namespace Go.Proofs.YtllhbhogfffedaaGreatDoor
open Go.RowKit
set_option linter.unusedVariables false

/-- How many bytes a letter's are at most. -/
theorem ltB_len {r : Rc} (hk : kf r.kind ≠ 0) (hok : okNs (kf r.kind) r 8 = true) (h8 : hasB (kf r.kind) 8 = true → r.spans.length ≤ 500 ∧ SpOk r.spans) (h9 : hasB (kf r.kind) 9 = true → r.data.length ≤ 65536) {c : UInt8} (hc : c ∈ fsB r.kind) : (ltB r c).length ≤ 70000 := by
  rcases let_cases hk hc with ⟨rfl, h⟩ | ⟨rfl, h⟩ | ⟨j, hj, rfl⟩
  · have h1 := h9 h
    have h2 := enc_len' (n := (r.data.length : Int)) (by omega) (by omega)
    rw [ltB68, List.length_append, h2.1]
    omega
  · have h1 := h8 h
    have h2 := flat_len h1.2
    have h3 := enc_len' (n := (r.spans.length : Int)) (by omega) (by omega)
    rw [ltB83]
    unfold spB
    rw [List.length_append, h3.1]
    omega
  · have h2 := okN_bd (okNs_at hok hj)
    have h3 := enc_len' (n := nmA r j) h2.1 (by omega)
    rw [ltBn r j hj, h3.1]
    omega
theorem flat_lt {l : List UInt8} {f : UInt8 → List Int} {b : Nat} (h : ∀ c ∈ l, (f c).length ≤ b) : (l.flatMap f).length ≤ l.length * b := by
  induction l with
  | nil => simp
  | cons x r ih =>
    rw [List.flatMap_cons, List.length_append, List.length_cons, Nat.add_mul, Nat.one_mul]
    have h1 := h x (by simp)
    have h2 := ih (fun c hc => h c (List.mem_cons_of_mem _ hc))
    omega
theorem flat_take {l : List UInt8} {f : UInt8 → List Int} {k : Nat} {c : UInt8} (h : l[k]? = some c) : (l.take (k + 1)).flatMap f = (l.take k).flatMap f ++ f c := by
  rw [List.take_add_one, h]; simp

set_option maxRecDepth 100000 in
set_option maxHeartbeats 4000000 in
theorem print2_any (r : Rc) (sa da : Option Addr) (ns nd sc dc : Nat) (w : World) (hr : RIn w r sa da ns nd sc dc) :
    Calls Tryz.prog 52 #[.agg (rcC r (.slice sa ns sc) (.slice da nd dc))] w (PrPost (prR r) w) := by
  obtain ⟨i0, hi, hz0, hz1, hz2⟩ := info_parts Tryz.info_u8
  have HB : Hid (Below w.heap.size w (w.alloc (rcO r (.slice sa ns sc) (.slice da nd dc)))) := (Below.refl _ _).alloc (Nat.le_refl _) _
  have HX : Hid ((w.alloc (rcO r (.slice sa ns sc) (.slice da nd dc))).heap[w.heap.size]? = some (rcO r (.slice sa ns sc) (.slice da nd dc))) := heap_new6 w _
  have hr1 := hr.below HB.out
  have HM : Hid (Calls Tryz.prog 85 #[.agg (rcC r (.slice sa ns sc) (.slice da nd dc))] (w.alloc (rcO r (.slice sa ns sc) (.slice da nd dc))) fun e w' => e = .returned (.int .i64 (prR r).2) ∧ Below (w.alloc (rcO r (.slice sa ns sc) (.slice da nd dc))).heap.size (w.alloc (rcO r (.slice sa ns sc) (.slice da nd dc))) w') := right2_any r sa da ns nd sc dc _ hr1
  cases hm : mayB6 r with
  | false =>
    have HP : Hid (prR r = ([], 60)) := by unfold Hid prR; rw [hm]; rfl
    rw [HP.out] at HM
    rw [HP.out]
    clear HP hm hr hr1
    go_enter Tryz.func52, Tryz.ntmps52
    go_wp2_with (go_at_call 85; refine HM.out.mono ?_; rintro e w1 ⟨rfl, hb1⟩)
    go_ret2
    exact ⟨_, rfl, World.ownsRow_nil _ _ _ _, HB.out.trans (hb1.mono HB.out.size)⟩
  | true =>
    obtain ⟨h1, h2, h3, h4⟩ := may_parts hm
    have HP : Hid (prR r = (prB r, 0)) := by unfold Hid prR; rw [hm]; rfl
    rw [HP.out] at HM
    rw [HP.out]
    have HPL : Hid (prB r = r.kind :: (fsB r.kind).flatMap (ltB r)) := pr_letters r h1
    have HLC : Hid (∀ c ∈ fsB r.kind, (c = 68 ∧ hasB (kf r.kind) 9 = true) ∨ (c = 83 ∧ hasB (kf r.kind) 8 = true) ∨ ∃ j, j < 8 ∧ c = ltL.getD j 0) := fun c hc => let_cases h1 hc
    have HLN : Hid (∀ c ∈ fsB r.kind, (ltB r c).length ≤ 70000) := fun c hc => ltB_len h1 h2 h3 h4 hc
    have HFS : Hid (∀ W, Calls Tryz.prog 86 #[.int .i64 r.kind] W fun e w' => e = .returned (.string ⟨(fsB r.kind).toArray⟩) ∧ W = w') := fun W => fields2_any r.kind W
    have HOK : Hid (okNs (kf r.kind) r 8 = true) := h2
    have H8 : Hid (hasB (kf r.kind) 8 = true → ns ≤ 500 ∧ SpOk r.spans) := fun h => by have := h3 h; rw [hr.spn] at this; exact this
    have H9 : Hid (hasB (kf r.kind) 9 = true → nd ≤ 65536) := fun h => by have := h4 h; rw [hr.dat] at this; exact this
    have HS : Hid (SpIn w sa r.spans) := hr.spin
    have HD : Hid (∀ W, Below w.heap.size w W → Lies .u8 W da r.data) := fun W hW => hr.lie.below hW
    have HN : Hid (da = none → nd = 0 ∧ dc = 0) := hr.nil
    have HNS : Hid (r.spans.length = ns) := hr.spn
    have HND : Hid (r.data.length = nd) := hr.dat
    have hkb := kf_bd h1
    have hkw : IntKind.u8.wrap r.kind = r.kind := by simp only [IntKind.wrap, IntKind.bits, IntKind.signed]; simp; omega
    have hfl := (letters h1).2.2.2.2
    clear HP hm hr hr1 h1 h2 h3 h4
    generalize kf r.kind = f at *
    generalize fsB r.kind = fs at *
    go_enter Tryz.func52, Tryz.ntmps52
    go_wp2_with (first | (go_at_call 85; refine HM.out.mono ?_; rintro e w1 ⟨rfl, hb1⟩; have HB1 : Hid (Below w.heap.size w w1) := HB.out.trans (hb1.mono HB.out.size); have HX1 : Hid (w1.heap[w.heap.size]? = some (rcO r (.slice sa ns sc) (.slice da nd dc))) := (hb1.block _ (by simp)).trans HX.out; have HX2 : Hid ((w1.alloc (Obj.cells #[Value.int IntKind.u8 r.kind] 5)).heap[w.heap.size]? = some (rcO r (.slice sa ns sc) (.slice da nd dc))) := (((Below.refl _ _).alloc (Nat.le_refl _) (Obj.cells #[Value.int IntKind.u8 r.kind] 5)).block _ (Array.getElem?_eq_some_iff.mp HX1.out).1).trans HX1.out; obtain ⟨c0, c1, c2, c3, c4, c5, c6, c7, c8, c9, c10⟩ := rc_cells HX1.out; have d0 := (rc_cells HX2.out).1; clear hb1) | (go_at_call 86; refine (HFS.out _).mono ?_; rintro e w2 ⟨rfl, rfl⟩))
    have hfd : fs.length ≤ 10 := hfl
    have HO1 : Hid ((w1.alloc (Obj.cells #[Value.int IntKind.u8 r.kind] 5)).ownsRow w.heap.size 5 1 (.slice (some ⟨w1.heap.size, 0, none⟩) 1 1) (1 + ((fs.take 0).flatMap (ltB r)).length) (.int .u8 r.kind :: ((fs.take 0).flatMap (ltB r)).map (Value.int .u8))) := by
      have h1 : (w1.alloc (.cells #[.int .u8 r.kind] 5)).ownsRow w.heap.size 5 1 (.slice (some ⟨w1.heap.size, 0, none⟩) 1 1) 1 [.int .u8 r.kind] := own_base6 (World.ownsRow_lit w1 #[.int .u8 r.kind] 1 (by simp) (by unfold maxLen; omega) rfl) HB1.out.size
      unfold Hid
      simpa using h1
    have HB2 : Hid (Below w.heap.size w (w1.alloc (Obj.cells #[Value.int IntKind.u8 r.kind] 5))) := HB1.out.alloc HB1.out.size _
    have HFL : Hid (∀ k, ((fs.take k).flatMap (ltB r)).length ≤ 700000) := fun k => by
      have h1 := flat_lt (l := fs.take k) (f := ltB r) (b := 70000) (fun c hc => HLN.out c (List.mem_of_mem_take hc))
      have h2 : (fs.take k).length ≤ 10 := by rw [List.length_take]; omega
      have h3 := Nat.mul_le_mul_right 70000 h2
      omega
    clear HB HX HM HX1 HB1 c0 c1 c2 c3 c4 c5 c6 c7 c8 c9 c10 d0 HLN
    generalize w1.alloc (Obj.cells #[Value.int IntKind.u8 r.kind] 5) = w3 at *
    go_loopw [5, 7] (fun b i wr => ∃ k : Nat, k ≤ fs.length ∧ i = .int .i64 k ∧ wr.ownsRow w.heap.size 5 1 b (1 + ((fs.take k).flatMap (ltB r)).length) (.int .u8 r.kind :: ((fs.take k).flatMap (ltB r)).map (Value.int .u8)) ∧ Below w.heap.size w wr ∧ wr.heap[w.heap.size]? = some (rcO r (.slice sa ns sc) (.slice da nd dc))) (fun _ i _ => fs.length - (intOf i).toNat)
    case atStart => exact ⟨0, Nat.zero_le _, rfl, HO1.out, HB2.out, HX2.out⟩
    case round =>
      obtain ⟨k, hk, rfl, ho, hb, hx⟩ := hrel
      have HO : Hid (wr.ownsRow w.heap.size 5 1 u5 (1 + ((fs.take k).flatMap (ltB r)).length) (.int .u8 r.kind :: ((fs.take k).flatMap (ltB r)).map (Value.int .u8))) := ho
      have HBr : Hid (Below w.heap.size w wr) := hb
      have HXr : Hid (wr.heap[w.heap.size]? = some (rcO r (.slice sa ns sc) (.slice da nd dc))) := hx
      have hfk := HFL.out k
      clear ho hb hx HO1 HB2 HX2
      by_cases hlt : k < fs.length
      · have hlt' : (k : Int) < (fs.length : Int) := by omega
        obtain ⟨c0, c1, c2, c3, c4, c5, c6, c7, c8, c9, c10⟩ := rc_cells HXr.out
        have hck : fs[k]? = some fs[k] := List.getElem?_eq_getElem hlt
        have HTK : Hid ((fs.take (k + 1)).flatMap (ltB r) = (fs.take k).flatMap (ltB r) ++ ltB r fs[k]) := flat_take hck
        generalize (fs.take k).flatMap (ltB r) = bs at *
        rcases HLC.out fs[k] (List.getElem_mem hlt) with ⟨hc, h9⟩ | ⟨hc, h8⟩ | ⟨j, hj, hc⟩
        · have hcv : ((({ data := fs.toArray } : ByteArray)[k]'(show k < fs.toArray.size by simpa using hlt)).toNat : Int) = 68 := by show (((fs.toArray[k]'(by simpa using hlt)).toNat : Nat) : Int) = 68; simp [hc]
          have hnd9 := H9.out h9
          rw [hc, ltB68, HND.out] at HTK
          have hel := enc_len' (n := (nd : Int)) (by omega) (by omega)
          have HP := number2_any u5 _ _ w.heap.size (nd : Int) wr (by omega) (by omega) HO.out HBr.out.size (by omega)
          go_wp2_with (first | (go_at_call 87; refine HP.mono ?_; rintro e w2 ⟨v2, rfl, ho2, hb2, hk2⟩; have HB2 : Hid (Below w.heap.size w w2) := HBr.out.trans hb2; have hs2 := HB2.out.size; have HX2 : Hid (w2.heap[w.heap.size]? = some (rcO r (.slice sa ns sc) (.slice da nd dc))) := hk2 _ _ _ _ HXr.out (by decide); obtain ⟨_, _, _, _, _, _, _, _, _, d9, d10⟩ := rc_cells HX2.out; clear hk2 hb2) | (at_builtin; refine append_at _ rfl _ _ 35 rfl w.heap.size 5 i0 (.int .u8 0) 1 Tryz.underlying35 hi hz0 hz1 hz2 rfl _ _ _ rfl ho2 .u8 _ _ _ r.data rfl HN.out HND.out (HD.out _ HB2.out) (by unfold maxLen; omega) (by omega) hs2 ?_; intro v3 w3 ho3 hg3 hst3))
          have HX3 : Hid (w3.heap[w.heap.size]? = some (rcO r (.slice sa ns sc) (.slice da nd dc))) := (Keeps8.grown ho2 hg3) _ _ _ _ HX2.out (by decide)
          have HB3 : Hid (Below w.heap.size w w3) := own_grown HB2.out hg3 ho2 hs2
          have HO3 : Hid (w3.ownsRow w.heap.size 5 1 v3 (1 + ((fs.take (k + 1)).flatMap (ltB r)).length) (.int .u8 r.kind :: ((fs.take (k + 1)).flatMap (ltB r)).map (Value.int .u8))) := by
            unfold Hid
            rw [HTK.out]
            have h := grow_to ho3 (m := 1 + (bs ++ (enc (nd : Int) ++ r.data)).length) (by simp only [List.length_append, hel.1, HND.out]; omega)
            simp only [List.map_append, List.cons_append, List.append_assoc] at h ⊢
            exact h
          go_roundw
          case rel => exact ⟨k + 1, by omega, by go_num, HO3.out, HB3.out, HX3.out⟩
          case measure => simp [intOf]; omega
        · have hcv : ((({ data := fs.toArray } : ByteArray)[k]'(show k < fs.toArray.size by simpa using hlt)).toNat : Int) = 83 := by show (((fs.toArray[k]'(by simpa using hlt)).toNat : Nat) : Int) = 83; simp [hc]
          have h8' := H8.out h8
          rw [hc, ltB83] at HTK
          have hel := enc_len' (n := (ns : Int)) (by omega) (by omega)
          have HP := number2_any u5 _ _ w.heap.size (ns : Int) wr (by omega) (by omega) HO.out HBr.out.size (by omega)
          go_wp2_with (go_at_call 87; refine HP.mono ?_; rintro e w2 ⟨v2, rfl, ho2, hb2, hk2⟩)
          have HO2 : Hid (w2.ownsRow w.heap.size 5 1 v2 (1 + (bs ++ (enc (ns : Int) ++ (r.spans.take 0).flatMap spB1)).length) (.int .u8 r.kind :: (bs ++ (enc (ns : Int) ++ (r.spans.take 0).flatMap spB1)).map (Value.int .u8))) := by
            unfold Hid
            have h := grow_to ho2 (m := 1 + (bs ++ enc (ns : Int)).length) (by simp only [List.length_append, hel.1]; omega)
            simp only [List.take_zero, List.flatMap_nil, List.append_nil, List.map_append, List.cons_append] at h ⊢
            exact h
          have HB2 : Hid (Below w.heap.size w w2) := HBr.out.trans hb2
          have HX2 : Hid (w2.heap[w.heap.size]? = some (rcO r (.slice sa ns sc) (.slice da nd dc))) := hk2 _ _ _ _ HXr.out (by decide)
          have hsp8 := h8'.1
          have HSO : Hid (SpOk r.spans) := h8'.2
          clear HP ho2 hb2 hk2 c0 c1 c2 c3 c4 c5 c6 c7 c8 c9 c10 HO HBr HXr h8'
          go_loopw [5, 8] (fun b i wx => ∃ m : Nat, m ≤ ns ∧ i = .int .i64 m ∧ wx.ownsRow w.heap.size 5 1 b (1 + (bs ++ (enc (ns : Int) ++ (r.spans.take m).flatMap spB1)).length) (.int .u8 r.kind :: (bs ++ (enc (ns : Int) ++ (r.spans.take m).flatMap spB1)).map (Value.int .u8)) ∧ Below w.heap.size w wx ∧ wx.heap[w.heap.size]? = some (rcO r (.slice sa ns sc) (.slice da nd dc))) (fun _ i _ => ns - (intOf i).toNat)
          case atStart => exact ⟨0, Nat.zero_le _, rfl, HO2.out, HB2.out, HX2.out⟩
          case round =>
            obtain ⟨m, hm, rfl, ho, hb, hx⟩ := hrel
            have HOx : Hid (wr.ownsRow w.heap.size 5 1 u5 (1 + (bs ++ (enc (ns : Int) ++ (r.spans.take m).flatMap spB1)).length) (.int .u8 r.kind :: (bs ++ (enc (ns : Int) ++ (r.spans.take m).flatMap spB1)).map (Value.int .u8))) := ho
            have HBx : Hid (Below w.heap.size w wr) := hb
            have HXx : Hid (wr.heap[w.heap.size]? = some (rcO r (.slice sa ns sc) (.slice da nd dc))) := hx
            have hfl2 : (enc (ns : Int) ++ (r.spans.take m).flatMap spB1).length ≤ 10010 := by
              have h1 := flat_len (l := r.spans.take m) (fun p hp => HSO.out p (List.mem_of_mem_take hp))
              have h2 : (r.spans.take m).length ≤ 500 := by rw [List.length_take, HNS.out]; omega
              rw [List.length_append, hel.1]; omega
            clear ho hb hx HO2 HB2 HX2
            obtain ⟨c0, c1, c2, c3, c4, c5, c6, c7, c8, c9, c10⟩ := rc_cells HXx.out
            by_cases hmt : m < ns
            · have hmt' : (m : Int) < (ns : Int) := by omega
              have hml : m < r.spans.length := by rw [HNS.out]; exact hmt
              have hex : ∃ p : Int × Int, r.spans[m]? = some p := C.get_some r.spans m hml
              obtain ⟨⟨f1, t1⟩, hp⟩ := hex
              have hpo := HSO.out (f1, t1) (List.mem_of_getElem? hp)
              have HTM : Hid (enc (ns : Int) ++ (r.spans.take (m + 1)).flatMap spB1 = (enc (ns : Int) ++ (r.spans.take m).flatMap spB1) ++ (enc f1 ++ enc (t1 - f1))) := by
                unfold Hid; rw [List.take_add_one, hp]; simp [spB1]
              rcases HS.out wr HBx.out with h0 | ⟨g, off, rfl, hcx⟩
              · rw [h0] at hml; simp at hml
              clear hcx
              have HSC : Hid (∀ W, Below w.heap.size w W → W.cell? ⟨g, off + m * 2, none⟩ = some (.int .i64 f1) ∧ W.cell? ⟨g, off + m * 2 + 1, none⟩ = some (.int .i64 t1)) := fun W hW => by
                rcases HS.out W hW with h0 | ⟨g', off', e, h⟩
                · rw [h0] at hml; simp at hml
                · simp only [Option.some.injEq, Addr.mk.injEq, and_true] at e
                  obtain ⟨rfl, rfl⟩ := e
                  exact h m (f1, t1) hp
              obtain ⟨s1, s2⟩ := HSC.out wr HBx.out
              simp only at s1 s2 hpo HTM HSC
              obtain ⟨hp0, hp1, hp2⟩ := hpo
              have hef := enc_len' (n := f1) hp0 (by omega)
              have het := enc_len' (n := t1 - f1) (by omega) (by omega)
              have hwr : IntKind.i64.wrap (t1 - f1) = t1 - f1 := by rw [IntKind.wrap_i64]; omega
              generalize enc (ns : Int) ++ (r.spans.take m).flatMap spB1 = es at *
              have HP1 := number2_any u5 _ _ w.heap.size f1 wr hp0 (by omega) HOx.out HBx.out.size (by simp only [List.length_append]; omega)
              clear hp
              go_upto_region 21 with (go_at_call 87; refine HP1.mono ?_; rintro e w2 ⟨v2, rfl, ho2, hb2, hk2⟩)
              have HB2 : Hid (Below w.heap.size w w2) := HBx.out.trans hb2
              have HX2 : Hid (w2.heap[w.heap.size]? = some (rcO r (.slice (some ⟨g, off, none⟩) ns sc) (.slice da nd dc))) := hk2 _ _ _ _ HXx.out (by decide)
              obtain ⟨_, _, _, _, _, _, _, _, _, d9, d10⟩ := rc_cells HX2.out
              obtain ⟨t2, t3⟩ := HSC.out w2 HB2.out
              have HO2 : Hid (w2.ownsRow w.heap.size 5 1 v2 _ _) := ho2
              clear hk2 hb2 HP1 ho2 c0 c1 c2 c3 c4 c5 c6 c7 c8 c9 c10 s1 s2
              go_region_with (go_at_call 87; refine (number2_any v2 _ _ w.heap.size (t1 - f1) _ (by omega) (by omega) (own_below6 HO2.out (Below.refl _ _).drew) (by have := HB2.out.size; simpa using this) (by simp only [List.length_append]; omega)).mono ?_; rintro e w3 ⟨v3, rfl, ho3, hb3, hk3⟩)
              all_goals
                have HO3 : Hid (w3.ownsRow w.heap.size 5 1 v3 (1 + (bs ++ (enc (ns : Int) ++ (r.spans.take (m + 1)).flatMap spB1)).length) (.int .u8 r.kind :: (bs ++ (enc (ns : Int) ++ (r.spans.take (m + 1)).flatMap spB1)).map (Value.int .u8))) := by
                  unfold Hid
                  rw [HTM.out]
                  have h := grow_to ho3 (m := 1 + (bs ++ (es ++ (enc f1 ++ enc (t1 - f1)))).length) (by simp only [List.length_append, hef.1, het.1]; omega)
                  simp only [List.map_append, List.append_assoc, List.cons_append] at h ⊢
                  exact h
                have HB3 : Hid (Below w.heap.size w w3) := HB2.out.drew.trans hb3
                have HX3 : Hid (w3.heap[w.heap.size]? = some (rcO r (.slice (some ⟨g, off, none⟩) ns sc) (.slice da nd dc))) := hk3 _ _ _ _ HX2.out (by decide)
                clear ho3 hb3 hk3 HB2 HX2 HO2 d9 d10 t2 t3
                go_wp2
                go_roundw
                case rel => exact ⟨m + 1, by omega, by go_num, HO3.out, HB3.out, HX3.out⟩
                case measure => simp [intOf]; omega
            · obtain rfl : m = ns := by omega
              have HO4 : Hid (wr.ownsRow w.heap.size 5 1 u5 (1 + ((fs.take (k + 1)).flatMap (ltB r)).length) (.int .u8 r.kind :: ((fs.take (k + 1)).flatMap (ltB r)).map (Value.int .u8))) := by
                unfold Hid
                rw [HTK.out]
                have h := HOx.out
                rw [show r.spans.take m = r.spans from List.take_of_length_le (by rw [HNS.out]; omega)] at h
                have e : spB r.spans = enc (m : Int) ++ r.spans.flatMap spB1 := by unfold spB; rw [HNS.out]
                rw [e]
                exact h
              clear HOx
              go_wp2
              go_roundw
              case rel => exact ⟨k + 1, by omega, by go_num, HO4.out, HBx.out, HXx.out⟩
              case measure => simp [intOf]; omega
        · have hcv : ((({ data := fs.toArray } : ByteArray)[k]'(show k < fs.toArray.size by simpa using hlt)).toNat : Int) = ((ltL.getD j 0).toNat : Int) := by show (((fs.toArray[k]'(by simpa using hlt)).toNat : Nat) : Int) = ((ltL.getD j 0).toNat : Int); simp [hc]
          have hbd := okN_bd (okNs_at HOK.out hj)
          have he := enc_len' (n := nmA r j) hbd.1 (by omega)
          rw [hc, ltBn r j hj] at HTK
          have HG : Hid (∀ W, Calls Tryz.prog 88 #[.agg (rcC r (.slice sa ns sc) (.slice da nd dc)), .int .u8 (ltL.getD j 0).toNat] W fun e w' => e = .returned (.int .i64 (nmA r j)) ∧ w' = W.alloc (rcO r (.slice sa ns sc) (.slice da nd dc))) := fun W => get2_any r _ _ j hj W
          have hy1 : ¬ ((ltL.getD j 0).toNat : Int) = 68 := by
            have : j = 0 ∨ j = 1 ∨ j = 2 ∨ j = 3 ∨ j = 4 ∨ j = 5 ∨ j = 6 ∨ j = 7 := by omega
            rcases this with rfl | rfl | rfl | rfl | rfl | rfl | rfl | rfl <;> decide
          have hy2 : ¬ ((ltL.getD j 0).toNat : Int) = 83 := by
            have : j = 0 ∨ j = 1 ∨ j = 2 ∨ j = 3 ∨ j = 4 ∨ j = 5 ∨ j = 6 ∨ j = 7 := by omega
            rcases this with rfl | rfl | rfl | rfl | rfl | rfl | rfl | rfl <;> decide
          generalize ((ltL.getD j 0).toNat : Int) = y at *
          generalize nmA r j = n at *
          go_upto_region 10 with fail
          go_region_with (go_at_call 88; refine (HG.out _).mono ?_; rintro e w2 ⟨rfl, rfl⟩)
          all_goals
            go_wp2_with (go_at_call 87; refine (number2_any u5 _ _ w.heap.size n _ hbd.1 hbd.2 (own_below6 HO.out (((Below.refl _ _).alloc (Nat.le_refl _) _).drew)) (by have := HBr.out.size; simp; omega) (by omega)).mono ?_; rintro e w2 ⟨v2, rfl, ho2, hb2, hk2⟩)
            have HOn : Hid (w2.ownsRow w.heap.size 5 1 v2 (1 + ((fs.take (k + 1)).flatMap (ltB r)).length) (.int .u8 r.kind :: ((fs.take (k + 1)).flatMap (ltB r)).map (Value.int .u8))) := by
              unfold Hid
              rw [HTK.out]
              have h := grow_to ho2 (m := 1 + (bs ++ enc n).length) (by rw [List.length_append, he.1]; omega)
              simp only [List.map_append, List.cons_append] at h ⊢
              exact h
            have HB2 : Hid (Below w.heap.size w w2) := ((HBr.out.alloc HBr.out.size _).drew).trans hb2
            have HX2 : Hid (w2.heap[w.heap.size]? = some (rcO r (.slice sa ns sc) (.slice da nd dc))) := hk2 _ _ _ _ ((Below.heap_alloc wr _ _ (Array.getElem?_eq_some_iff.mp HXr.out).1).trans HXr.out) (by decide)
            go_roundw
            case rel => exact ⟨k + 1, by omega, by go_num, HOn.out, HB2.out, HX2.out⟩
            case measure => simp [intOf]; omega
      · obtain rfl : k = fs.length := by omega
        have HE : Hid (prB r = r.kind :: (fs.take fs.length).flatMap (ltB r)) := by unfold Hid; rw [HPL.out, List.take_length]
        go_wp2
        go_ret2
        refine ⟨_, rfl, ?_, HBr.out⟩
        rw [HE.out]
        exact grow_to HO.out (by simp; omega)
end Go.Proofs.YtllhbhogfffedaaGreatDoor

namespace Go.Proofs.YtllhbhogfffedaaGreatDoor
open Go.RowKit
set_option linter.unusedVariables false
set_option linter.unusedSimpArgs false

set_option maxRecDepth 100000 in
set_option maxHeartbeats 1000000 in
theorem four2_any (base m : Nat) (v : Value) (zs : List Int) (n : Int) (w : World) (hn : 0 ≤ n ∧ n < 4294967296) (ho : w.ownsRow base 5 1 v m (zs.map (Value.int .u8))) (hm : m ≤ 140737488355000) (hB : base ≤ w.heap.size) :
    Calls Tryz.prog 54 #[v, .int .i64 n] w fun e w' => ∃ v', e = .returned v' ∧ w'.ownsRow base 5 1 v' (m + 4) ((zs ++ wd4 n).map (Value.int .u8)) ∧ w.grownBy w' v.ownBlock ∧ (∀ j, v'.ownBlock = some j → v.ownBlock = some j ∨ w.heap.size ≤ j) := by
  obtain ⟨i0, hinf, hz0, hz1, hz2⟩ := info_parts Tryz.info_u8
  obtain ⟨a, cap, rfl⟩ : ∃ a cap, v = .slice a m cap := by
    obtain ⟨_, ⟨rfl, rfl⟩ | ⟨g, cap, cur, rfl, _⟩⟩ := ho
    · exact ⟨none, 0, rfl⟩
    · exact ⟨_, cap, rfl⟩
  obtain ⟨n0, n1⟩ := hn
  have HO : Hid (∀ o, (w.alloc o).ownsRow base 5 1 (.slice a m cap) m (zs.map (Value.int .u8))) := fun o => ho.alloc o
  clear ho
  have q0 : Int.tdiv n 16777216 = n / 16777216 := Int.tdiv_eq_ediv_of_nonneg n0
  have q1 : Int.tdiv n 65536 = n / 65536 := Int.tdiv_eq_ediv_of_nonneg n0
  have q2 : Int.tdiv n 256 = n / 256 := Int.tdiv_eq_ediv_of_nonneg n0
  go_enter Tryz.func54, Tryz.ntmps54
  go_wp2_with (at_builtin; refine wpList_append_own_at _ rfl _ _ 35 rfl base 5 i0 (.int .u8 0) 1 1 Tryz.underlying35 hinf hz0 hz1 hz2 rfl (by decide) _ _ _ rfl (HO.out _) ⟨w.heap.size, 0, none⟩ 4 4 [.int .u8 (n / 16777216), .int .u8 (n / 65536 % 256), .int .u8 (n / 256 % 256), .int .u8 (n % 256)] rfl rfl (four_lit _ _ _ _ _ _) (by intro u hu; simp at hu; rcases hu with rfl | rfl | rfl | rfl <;> rfl) (by unfold maxLen; omega) (by omega) (by simp; omega) ?_; intro v1 w1 o1 g1 _ t1)
  have hs1 := g1.size
  simp only [World.size_alloc] at hs1
  have HV : Hid (∀ j, v1.ownBlock = some j → (Value.slice a m cap).ownBlock = some j ∨ w.heap.size ≤ j) := fun j hj => by
    rcases t1 with t | t
    · exact .inl (t ▸ hj)
    · right; rw [hj] at t; simp at t; omega
  have HG : Hid (w.grownBy w1 (Value.slice a m cap).ownBlock) := by
    refine ⟨g1.os, g1.tape, g1.output, by omega, fun g hg hne => ?_⟩
    exact (g1.block g (by simp; omega) hne).trans (((Below.refl w.heap.size w).alloc (Nat.le_refl _) _).block g hg)
  have HR : Hid (w1.ownsRow base 5 1 v1 (m + 4) ((zs ++ wd4 n).map (Value.int .u8))) := by unfold Hid; rw [List.map_append]; exact o1
  clear o1 g1 t1
  go_wp2
  go_ret
  exact ⟨_, rfl, HR.out, HG.out, HV.out⟩

set_option maxRecDepth 100000 in
set_option maxHeartbeats 4000000 in
theorem frame2_any (l : List Rc) (a : Option Addr) (n c : Nat) (w : World) (hl : l.length = n) (hn : n ≤ 1048576) (ha : RLin w a l) (hd : ∀ r ∈ l, Bytey r.data) :
    Calls Tryz.prog 23 #[.slice a n c] w (PrPost (fmR l) w) := by
  obtain ⟨i0, hinf, hz0, hz1, hz2⟩ := info_parts Tryz.info_u8
  have HL : Hid (l.length = n) := hl
  have HA : Hid (RLin w a l) := ha
  have HD : Hid (∀ r ∈ l, Bytey r.data) := hd
  clear hl ha hd
  go_enter Tryz.func23, Tryz.ntmps23
  go_wp2_with fail
  go_loopw [4, 5] (fun v i wr => ∃ (k : Nat), k ≤ n ∧ i = .int .i64 k ∧ (∀ r ∈ l.take k, mayB6 r = true) ∧ wr.ownsRow w.heap.size 5 1 v ((l.take k).flatMap frB).length (((l.take k).flatMap frB).map (Value.int .u8)) ∧ Below w.heap.size w wr) (fun _ i _ => n - (intOf i).toNat)
  case atStart => exact ⟨0, Nat.zero_le _, rfl, fun r hr => by simp at hr, by simpa using World.ownsRow_nil w w.heap.size _ _, Below.refl _ _⟩
  case round =>
    obtain ⟨k, hk, rfl, hok, hrow, hbw⟩ := hrel
    have hmb := fr_len hok
    rw [List.length_take, HL.out, Nat.min_eq_left hk] at hmb
    have HOK : Hid (∀ r ∈ l.take k, mayB6 r = true) := hok
    have HRW : Hid (wr.ownsRow w.heap.size 5 1 u4 ((l.take k).flatMap frB).length (((l.take k).flatMap frB).map (Value.int .u8))) := hrow
    have HBW : Hid (Below w.heap.size w wr) := hbw
    by_cases hlt : k < n
    · have hkl : k < l.length := by rw [HL.out]; exact hlt
      obtain ⟨r, hr⟩ : ∃ r, l[k]? = some r := ⟨l[k], List.getElem?_eq_getElem hkl⟩
      have hrm : r ∈ l := List.mem_of_getElem? hr
      obtain ⟨g, off, sa, da, sc, dc, rfl, hc, hri⟩ := (HA.out.below hbw).at hr
      have c0 := hc 0 _ rfl
      have c1 := hc 1 _ rfl
      have c2 := hc 2 _ rfl
      have c3 := hc 3 _ rfl
      have c4 := hc 4 _ rfl
      have c5 := hc 5 _ rfl
      have c6 := hc 6 _ rfl
      have c7 := hc 7 _ rfl
      have c8 := hc 8 _ rfl
      have c9 := hc 9 _ rfl
      have c10 := hc 10 _ rfl
      simp only [Nat.add_zero] at c0
      have hlt' : (k : Int) < (n : Int) := by omega
      have HP := print2_any r sa da r.spans.length r.data.length sc dc wr hri
      have HR : Hid (l[k]? = some r) := hr
      have HRM : Hid (r ∈ l) := hrm
      have HBB : Hid (Below w.heap.size w wr) := HBW.out
      clear hc hri hbw hr hrm hok hrow
      cases hm : mayB6 r with
      | false =>
        have HE : Hid (fmR l = ([], 60)) := fmR_no HRM.out hm
        have HPR : Hid (prR r = ([], 60)) := by unfold Hid prR; rw [hm]; rfl
        rw [HPR.out] at HP
        clear HPR hm
        go_wp2_with (go_at_call 52; refine HP.mono ?_; rintro e w2 ⟨v2, rfl, ho2, hb2⟩)
        refine bodyPost_ret (v := .tuple #[.slice none 0 0, .int .i64 60]) (by simp [results, Tryz.results23, go_sem]) rfl ?_
        show PrPost (fmR l) w _ _
        rw [HE.out]
        exact ⟨_, rfl, World.ownsRow_nil _ _ _ _, HBB.out.trans (hb2.mono HBB.out.size)⟩
      | true =>
        have HPR : Hid (prR r = (prB r, 0)) := by unfold Hid prR; rw [hm]; rfl
        have HOK2 : Hid (∀ q ∈ l.take (k + 1), mayB6 q = true) := takeOk6 HOK.out HR.out hm
        have hpl := prB_len hm
        have HBP : Hid (Bytey (prB r)) := prB_bytey hm (HD.out r HRM.out)
        have hcr := crs_lt HBP.out
        have HTK : Hid ((l.take (k + 1)).flatMap frB = (((l.take k).flatMap frB ++ wd4 (((prB r).length : Nat) : Int)) ++ wd4 ((crs (prB r) : Nat) : Int)) ++ prB r) := by
          unfold Hid
          rw [fr_take l hkl, (List.getElem?_eq_some_iff.mp HR.out).2]
          unfold frB
          simp only [List.append_assoc]
        have hwX : IntKind.i64.wrap ((crs (prB r) : Nat) : Int) = ((crs (prB r) : Nat) : Int) := by simp [IntKind.wrap, IntKind.bits, IntKind.signed]; omega
        rw [HPR.out] at HP
        clear HPR hm
        generalize hA : (l.take k).flatMap frB = A at *
        generalize prB r = B at *
        obtain ⟨m, hmA⟩ : ∃ m, A.length = m := ⟨_, rfl⟩
        obtain ⟨q, hq⟩ : ∃ q, B.length = q := ⟨_, rfl⟩
        obtain ⟨X, hX⟩ : ∃ X, crs B = X := ⟨_, rfl⟩
        rw [hmA] at HRW hmb
        have HQL : Hid (B.length = q) := hq
        have HXX : Hid (crs B = X) := hX
        have HMA : Hid (A.length = m) := hmA
        rw [hq] at HTK hpl
        rw [hX] at HTK hcr hwX
        clear hq hX hmA hA
        go_upto_region 8 with (go_at_call 52; refine HP.mono ?_; rintro e w2 ⟨v2, rfl, ho2, hb2⟩; simp only [HQL.out] at ho2; obtain ⟨p2, x2, rfl, hlz2, hln2, hnx2, hcx2⟩ := row_sh2 ho2)
        have hs2 := hb2.size
        have hsw : w.heap.size ≤ wr.heap.size := HBW.out.size
        have HB2 : Hid (Below w.heap.size w w2) := HBB.out.trans (hb2.mono hsw)
        have HR2 : Hid (w2.ownsRow w.heap.size 5 1 u4 m (A.map (Value.int .u8))) := own_below6 HRW.out hb2
        have HVL : Hid (∀ j, u4.ownBlock = some j → j < wr.heap.size) := fun j hj => (HRW.out.lt j hj).2
        have HO2 : Hid (w2.ownsRow wr.heap.size 5 1 (.slice p2 q x2) q (B.map (Value.int .u8))) := ho2
        have HPW : Hid (∀ (v : Value) (zs : List Int) (m' : Nat) (W : World) (y : Int), 0 ≤ y ∧ y < 4294967296 → W.ownsRow w.heap.size 5 1 v m' (zs.map (Value.int .u8)) → m' ≤ 140737488355000 → w.heap.size ≤ W.heap.size → Calls Tryz.prog 54 #[v, .int .i64 y] W fun e w' => ∃ v', e = .returned v' ∧ w'.ownsRow w.heap.size 5 1 v' (m' + 4) ((zs ++ wd4 y).map (Value.int .u8)) ∧ W.grownBy w' v.ownBlock ∧ (∀ j, v'.ownBlock = some j → v.ownBlock = some j ∨ W.heap.size ≤ j)) := fun v zs m' W y h1 h2 h3 h4 => four2_any _ m' v zs y W h1 h2 h3 h4
        have HZN : Hid (p2 = none → q = 0 ∧ x2 = 0) := fun h => by
          obtain ⟨_, ⟨h1, h2⟩ | ⟨g', cap', cur, h1, _⟩⟩ := HO2.out
          · simp only [Value.slice.injEq] at h1; exact ⟨h1.2.1, h1.2.2⟩
          · rw [h] at h1; cases h1
        clear hb2 ho2 hlz2 hln2 c0 c1 c2 c3 c4 c5 c6 c7 c8 c9 c10 HP
        have HS2 : Hid (Lies .u8 w2 p2 B) := by obtain ⟨p', x', h1, h2, _⟩ := row_sh2 HO2.out; simp only [Value.slice.injEq] at h1; obtain ⟨rfl, _, rfl⟩ := h1; exact h2
        have HSU : Hid (Calls Tryz.prog 53 #[.slice p2 q x2] w2 fun e w' => e = .returned (.int .u32 (X : Nat)) ∧ w2 = w') := by
          have := rsum_any p2 B q x2 w2 HBP.out HQL.out (by omega) HS2.out
          rw [HXX.out] at this
          exact this
        go_upto_region 10 with (first
          | (go_at_call 53; refine HSU.out.mono ?_; rintro e w' ⟨rfl, rfl⟩)
          | (go_at_call 54; refine (HPW.out _ A m _ _ (by omega) HR2.out (by omega) (by omega)).mono ?_; rintro e w3 ⟨v3, rfl, hr3, hg3, hf3⟩))
        have hs3 := hg3.size
        have HO3 : Hid (w3.ownsRow wr.heap.size 5 1 (.slice p2 q x2) q (B.map (Value.int .u8))) := own_keep6 HO2.out hg3 (fun j hj e => by have := HVL.out j e; have := (HO2.out.lt j hj).1; omega)
        have HR3 : Hid (w3.ownsRow w.heap.size 5 1 v3 (m + 4) ((A ++ wd4 (q : Int)).map (Value.int .u8))) := hr3
        have HB3 : Hid (Below w.heap.size w w3) := HB2.out.grown hg3 HB2.out.size (fun j hj => (HR2.out.lt j hj).1)
        have HV3 : Hid (∀ j, v3.ownBlock = some j → j < wr.heap.size ∨ w2.heap.size ≤ j) := fun j hj => by rcases hf3 j hj with h | h; exact .inl (HVL.out j h); exact .inr h
        have HO2B : Hid (∀ j, (Value.slice p2 q x2).ownBlock = some j → wr.heap.size ≤ j ∧ j < w2.heap.size) := fun j hj => HO2.out.lt j hj
        clear hr3 hg3 hf3 HR2 HO2 HB2 HSU HS2
        go_upto_region 11 with (go_at_call 54; refine (HPW.out _ (A ++ wd4 (q : Int)) (m + 4) _ _ (by omega) HR3.out (by omega) (by omega)).mono ?_; rintro e w4 ⟨v4, rfl, hr4, hg4, hf4⟩)
        have hs4 := hg4.size
        have HO4 : Hid (w4.ownsRow wr.heap.size 5 1 (.slice p2 q x2) q (B.map (Value.int .u8))) := own_keep6 HO3.out hg4 (fun j hj e => by have := HO2B.out j hj; rcases HV3.out j e with h | h <;> omega)
        have HR4 : Hid (w4.ownsRow w.heap.size 5 1 v4 (m + 4 + 4) (((A ++ wd4 (q : Int)) ++ wd4 (X : Int)).map (Value.int .u8))) := hr4
        have HB4 : Hid (Below w.heap.size w w4) := HB3.out.grown hg4 HB3.out.size (fun j hj => (HR3.out.lt j hj).1)
        have HS4 : Hid (Lies .u8 w4 p2 B) := by obtain ⟨p', x', h1, h2, _⟩ := row_sh2 HO4.out; simp only [Value.slice.injEq] at h1; obtain ⟨rfl, _, rfl⟩ := h1; exact h2
        clear hr4 hg4 hf4 HR3 HO3 HB3 HO4
        go_wp2_with (at_builtin; refine append_at _ rfl _ _ 35 rfl w.heap.size 5 i0 (.int .u8 0) 1 Tryz.underlying35 hinf hz0 hz1 hz2 rfl _ _ _ rfl HR4.out .u8 _ _ _ B rfl HZN.out HQL.out HS4.out (by unfold maxLen; omega) (by omega) HB4.out.size ?_; intro v5 w5 ho5 hg5 hf5)
        have HR5 : Hid (w5.ownsRow w.heap.size 5 1 v5 ((l.take (k + 1)).flatMap frB).length (((l.take (k + 1)).flatMap frB).map (Value.int .u8))) := by
          unfold Hid
          rw [HTK.out, List.map_append]
          have : (A ++ wd4 (q : Int) ++ wd4 (X : Int) ++ B).length = m + 4 + 4 + q := by simp [wd4, HMA.out, HQL.out]; omega
          rw [this]
          exact ho5
        have HB5 : Hid (Below w.heap.size w w5) := HB4.out.grown hg5 HB4.out.size (fun j hj => (HR4.out.lt j hj).1)
        clear ho5 hg5 hf5
        go_wp2
        go_roundw
        case rel => exact ⟨k + 1, by omega, by go_num, HOK2.out, HR5.out, HB5.out⟩
        case measure => simp [intOf]; omega
    · obtain rfl : k = n := by omega
      have HE : Hid (fmR l = (l.flatMap frB, 0)) := fmR_ok (by have := HOK.out; rw [List.take_of_length_le (by rw [HL.out]; exact Nat.le_refl _)] at this; exact this)
      have HR2 : Hid (wr.ownsRow w.heap.size 5 1 u4 (l.flatMap frB).length ((l.flatMap frB).map (Value.int .u8))) := by have := HRW.out; rw [List.take_of_length_le (by rw [HL.out]; exact Nat.le_refl _)] at this; exact this
      clear hok hrow hbw
      go_wp2
      refine bodyPost_ret (v := .tuple #[u4, .int .i64 0]) (by simp [results, Tryz.results23, go_sem]) rfl ?_
      show PrPost (fmR l) w _ _
      rw [HE.out]
      exact ⟨_, rfl, HR2.out, HBW.out⟩
end Go.Proofs.YtllhbhogfffedaaGreatDoor
