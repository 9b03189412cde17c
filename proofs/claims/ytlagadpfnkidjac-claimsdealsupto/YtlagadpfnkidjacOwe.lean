import Derived.Test.YtlagadpfnkidjacOwd
namespace Go.Proofs.Ytlagadpfnkidjac
open Go.RowKit

/-- What a book holds when it is asked. -/
structure Bks (W : World) (lo Bk L cap R : Nat) (cs : List Rw) : Prop where
  book : Book W Bk (.slice (some ⟨L, 0, none⟩) R cap) (.slice none 0 0)
  row : W.ownsRow lo 22 1 (.slice (some ⟨L, 0, none⟩) R cap) R (cs.map (·.1))
  cl : Cl W lo (fun g => g = Bk ∨ g = L) cs
  len : cs.length = R
  small : ∀ x ∈ cs, x.2.length ≤ 1048576
  lo : lo ≤ Bk
  ne : Bk ≠ L

theorem row_at {W : World} {lo L cap R : Nat} {cs : List Rw} {x : Rw} {i : Nat} (h : W.ownsRow lo 22 1 (.slice (some ⟨L, 0, none⟩) R cap) R (cs.map (·.1))) (hx : cs[i]? = some x) (hl : cs.length = R) : W.cell? ⟨L, i, none⟩ = some x.1 := by
  have hi : i < cs.length := (List.getElem?_eq_some_iff.mp hx).1
  rw [h.cellAt i (by omega), List.getElem?_map, hx]; rfl
theorem own_keep {w w' : World} {base size n : Nat} {e : TypeId} {v : Value} {xs : List Value} (h : w.ownsRow base e size v n xs) {T : Nat → Prop} (hk : Kp T w w') (hn : ∀ g, v.ownBlock = some g → ¬ T g) : w'.ownsRow base e size v n xs := by
  refine ⟨h.1, ?_⟩
  rcases h.2 with q | ⟨g, cap, cur, hv, h1, h2, h3⟩
  · exact .inl q
  · exact .inr ⟨g, cap, cur, hv, h1, (hk.block g (h.lt g (by rw [hv]; rfl)).2 (hn g (by rw [hv]; rfl))).trans h2, h3⟩

set_option maxHeartbeats 8000000 in
set_option maxRecDepth 100000 in
theorem owned_some (w : World) (lo Bk L cap R : Nat) (cs : List Rw) (h : Bks w lo Bk L cap R cs) (hR : R ≤ 1048576) (hp : 0 < R) :
    Calls Try.prog 14 #[.pointer (some ⟨Bk, 0, none⟩)] w fun e w' => e = .returned (.bool true) ∧ Kp (fun g => g = Bk ∨ inC cs g) w w' := by
  obtain ⟨i0, hi, hz0, hz1, hz2⟩ := info_parts Try.info_span
  obtain ⟨i1, hi', hz0', hz1', hz2'⟩ := info_parts Try.info_spans
  have HBk : Hid (Bks w lo Bk L cap R cs) := h
  clear h
  go_enter Try.func14, Try.ntmps14
  go_wp2_with fail
  go_loopw [3] (fun i wr => ∃ k : Nat, k ≤ R ∧ i = .int .i64 k ∧ Cl wr lo (fun g => g = Bk ∨ g = L) (stg k cs) ∧ Kp (inC cs) w wr) (fun i _ => R - (intOf i).toNat)
  case atStart => exact ⟨0, by omega, rfl, by rw [stg_zero]; exact HBk.out.cl, Kp.refl _ _⟩
  case round =>
    obtain ⟨i, hiR, rfl, hcl, hkp⟩ := hrel
    have HCl : Hid (Cl wr lo (fun g => g = Bk ∨ g = L) (stg i cs)) := hcl
    have HKp : Hid (Kp (inC cs) w wr) := hkp
    clear hcl hkp
    have HBook : Hid (∀ W, Kp (inC cs) w W → Book W Bk (.slice (some ⟨L, 0, none⟩) R cap) (.slice none 0 0)) := fun W hW => (hW.block Bk HBk.out.book.lt (fun ⟨j, x, hx, hg⟩ => HBk.out.cl.off j x hx Bk hg (.inl rfl))).trans HBk.out.book
    have HRow : Hid (∀ W, Kp (inC cs) w W → W.ownsRow lo 22 1 (.slice (some ⟨L, 0, none⟩) R cap) R (cs.map (·.1))) := fun W hW => own_keep HBk.out.row hW (fun g hg ⟨j, x, hx, hg'⟩ => by
      simp [Value.ownBlock] at hg; exact HBk.out.cl.off j x hx g hg' (.inr hg.symm))
    have b0 := (HBook.out wr HKp.out).c0
    by_cases hlt : i < R
    · have hlt' : (i : Int) < (R : Int) := by omega
      obtain ⟨x, hx⟩ := get_some cs i (by rw [HBk.out.len]; exact hlt)
      have hcell := row_at (HRow.out wr HKp.out) hx HBk.out.len
      obtain ⟨a, c, hxs⟩ := (HCl.out.own i x (stg_at hx)).shape
      have hsm := HBk.out.small x (List.mem_of_getElem? hx)
      obtain ⟨xv, xl⟩ := x
      simp only at hxs hcell hsm
      subst hxs
      go_wp2_with fail
      go_loopw [4] (fun j wr' => ∃ k : Nat, k ≤ xl.length ∧ j = .int .i64 k ∧ Cl wr' lo (fun g => g = Bk ∨ g = L) ((stg i cs).set i (.slice a xl.length c, mrk i k ++ xl.drop k)) ∧ Kp (inC cs) w wr') (fun j _ => xl.length - (intOf j).toNat)
      case atStart => exact ⟨0, by omega, rfl, by
        have := stg_self hx; simp only [List.drop_zero]; rw [show mrk i 0 = [] from rfl, List.nil_append, this]; exact HCl.out, HKp.out⟩
      case round =>
        obtain ⟨k, hk, rfl, hcl, hkp⟩ := hrel
        have HCl2 : Hid (Cl wr lo (fun g => g = Bk ∨ g = L) ((stg i cs).set i (.slice a xl.length c, mrk i k ++ xl.drop k))) := hcl
        have HKp2 : Hid (Kp (inC cs) w wr) := hkp
        have hset : ((stg i cs).set i (.slice a xl.length c, mrk i k ++ xl.drop k))[i]? = some (.slice a xl.length c, mrk i k ++ xl.drop k) := by
          rw [List.getElem?_set_self]; rw [stg_len]; exact (List.getElem?_eq_some_iff.mp hx).1
        have hown := hcl.own i _ hset
        clear hcl hkp b0 hcell HCl HKp
        have b0 := (HBook.out wr HKp2.out).c0
        have hcell := row_at (HRow.out wr HKp2.out) hx HBk.out.len
        simp only at hcell
        by_cases hkl : k < xl.length
        · have hkl' : (k : Int) < (xl.length : Int) := by omega
          obtain ⟨g, c', hv⟩ := own_some hown (by simp [mrk_len]; omega)
          simp only [Value.slice.injEq] at hv
          obtain ⟨rfl, hq0, rfl⟩ := hv
          clear hq0
          obtain ⟨y, hy⟩ := get_some xl k hkl
          have hat : (mrk i k ++ xl.drop k)[k]? = some y := by
            rw [List.getElem?_append_right (by rw [mrk_len]; omega), mrk_len, Nat.sub_self, List.getElem?_drop, Nat.add_zero]; exact hy
          obtain ⟨q1, q2, q3, q4⟩ := hown.cells hat
          have h2 := hown.put (k := k) (-100 - (i : Int)) (k : Int)
          have e2 : (mrk i k ++ xl.drop k).set k (-100 - (i : Int), (k : Int)) = mrk i (k + 1) ++ xl.drop (k + 1) := by
            rw [List.set_append_right _ _ (by rw [mrk_len]; omega), mrk_len, Nat.sub_self, drop_get xl k y hy, List.set_cons_zero, mrk_succ]; simp
          rw [e2] at h2
          have HC3 : Hid (Cl ((wr.setCell ⟨g, k * 2, none⟩ (.int .i64 (-100 - (i : Int)))).setCell ⟨g, k * 2 + 1, none⟩ (.int .i64 (k : Int))) lo (fun g => g = Bk ∨ g = L) ((stg i cs).set i (.slice (some ⟨g, 0, none⟩) xl.length c, mrk i (k + 1) ++ xl.drop (k + 1)))) := by
            have := HCl2.out.set (x' := (.slice (some ⟨g, 0, none⟩) xl.length c, mrk i (k + 1) ++ xl.drop (k + 1))) hset (grown_put wr g k _ _) h2 (.inl rfl)
            rw [List.set_set] at this; exact this
          have HK3 : Hid (Kp (inC cs) w ((wr.setCell ⟨g, k * 2, none⟩ (.int .i64 (-100 - (i : Int)))).setCell ⟨g, k * 2 + 1, none⟩ (.int .i64 (k : Int)))) := HKp2.out.grown (grown_put wr g k _ _) (fun k' e => .inl ⟨i, _, hx, by simp at e; subst e; rfl⟩)
          clear h2 hat hy hown hset HCl2 HKp2 e2
          obtain ⟨y1, y2⟩ := y
          simp only at q1 q2
          have HX : Hid (cs[i]? = some (.slice (some ⟨g, 0, none⟩) xl.length c, xl)) := hx
          clear hx
          obtain ⟨M, hM⟩ : ∃ M : Int, -100 - (i : Int) = M := ⟨_, rfl⟩
          have hw : IntKind.i64.wrap (-100 - (i : Int)) = M := by rw [IntKind.wrap_i64]; omega
          rw [hM] at HC3 HK3
          clear hM
          go_wp2
          go_roundw
          case rel => exact ⟨k + 1, by omega, by go_num, HC3.out, HK3.out⟩
          case measure => simp [intOf]; omega
        · have hkn : k = xl.length := by omega
          subst hkn
          have HC3 : Hid (Cl wr lo (fun g => g = Bk ∨ g = L) (stg (i + 1) cs)) := by
            have := HCl2.out
            rw [List.drop_length, List.append_nil, stg_next hx] at this; exact this
          clear hown hset HCl2
          go_wp2
          go_roundw
          case rel => exact ⟨i + 1, by omega, by go_num, HC3.out, HKp2.out⟩
          case measure => simp [intOf]; omega
    · have hin : i = R := by omega
      subst hin
      have hlen := HBk.out.len
      have HC1 : Hid (Cl wr lo (fun g => g = Bk ∨ g = L) (stg i cs)) := HCl.out
      have HB1 : Hid (Book wr Bk (.slice (some ⟨L, 0, none⟩) i cap) (.slice none 0 0)) := HBook.out wr HKp.out
      have HG0 : Hid (Gw 0 cs (stg i cs)) := ⟨stg_len _ _, (fun j x hj _ => by omega), fun j x _ hx => by
        rw [stg_get, hx]
        have : j < i := by rw [← hlen]; exact (List.getElem?_eq_some_iff.mp hx).1
        simp [this]⟩
      have HK1 : Hid (Kp (fun g => g = Bk ∨ inC cs g) w wr) := HKp.out.mono (fun _ h => .inr h)
      have HRow2 : Hid (∀ W, Kp (fun g => g = Bk ∨ inC cs g) w W → W.ownsRow lo 22 1 (.slice (some ⟨L, 0, none⟩) i cap) i (cs.map (·.1))) := fun W hW => own_keep HBk.out.row hW (fun g hg hq => by
        simp [Value.ownBlock] at hg
        rcases hq with hq | ⟨j, x, hx, hg'⟩
        · exact HBk.out.ne (by rw [hg, ← hq])
        · exact HBk.out.cl.off j x hx g hg' (.inr hg.symm))
      clear HCl HKp HBook HRow hlt
      have hwr : w.heap.size ≤ wr.heap.size := HK1.out.size
      have HLc : Hid (∀ W, Kp (fun g => g = Bk ∨ inC cs g) w W → ∀ (j : Nat) x, cs[j]? = some x → W.cell? ⟨L, j, none⟩ = some x.1) := fun W hW j x hx => row_at (HRow2.out W hW) hx hlen
      have hLw : L < w.heap.size := (HBk.out.row.lt L rfl).2
      have HSm : Hid (∀ x ∈ cs, x.2.length ≤ 1048576) := HBk.out.small
      have HLo : Hid (lo ≤ Bk ∧ Bk ≠ L ∧ Bk < w.heap.size) := ⟨HBk.out.lo, HBk.out.ne, HBk.out.book.lt⟩
      have HInC : Hid (∀ (j : Nat) x, cs[j]? = some x → ∀ g, x.1.ownBlock = some g → inC cs g ∧ g < w.heap.size) := fun j x hx g hg => ⟨⟨j, x, hx, hg⟩, ((HBk.out.cl.own j x hx).lt g hg).2⟩
      clear HRow2 HBk
      go_wp2_with fail
      go_loopw [5] (fun z wr' => ∃ (k : Nat) (gv : Value) (ds : List Rw), k ≤ i ∧ z = .int .i64 k ∧ Gw k cs ds ∧ Book wr' Bk (.slice (some ⟨L, 0, none⟩) i cap) gv ∧ wr'.ownsRow w.heap.size 22 1 gv k ((ds.take k).map (·.1)) ∧ Cl wr' lo (fun g => g = Bk ∨ g = L ∨ gv.ownBlock = some g) ds ∧ Kp (fun g => g = Bk ∨ inC cs g) w wr' ∧ (∀ (j : Nat) x, ds[j]? = some x → ∀ g, x.1.ownBlock = some g → inC cs g ∨ w.heap.size ≤ g)) (fun z _ => i - (intOf z).toNat)
      case atStart => exact ⟨0, .slice none 0 0, stg i cs, by omega, rfl, HG0.out, HB1.out, World.ownsRow_nil _ _ _ _, HC1.out.mono (fun j x hx g hg hq => by
        rcases hq with hq | hq | hq
        · exact HC1.out.off j x hx g hg (.inl hq)
        · exact HC1.out.off j x hx g hg (.inr hq)
        · cases hq), HK1.out, (fun j x hx g hg => by
          rw [stg_get] at hx
          cases hy : cs[j]? with
          | none => rw [hy] at hx; cases hx
          | some y =>
            rw [hy] at hx
            simp only [Option.map_some, Option.some.injEq] at hx
            subst hx
            exact .inl (HInC.out j y hy g hg).1)⟩
      case round =>
        obtain ⟨k, gv, ds, hk, rfl, hgw, hbk, hgr, hcl, hkp, hnw⟩ := hrel
        have HGw : Hid (Gw k cs ds) := hgw
        have HBo : Hid (Book wr Bk (.slice (some ⟨L, 0, none⟩) i cap) gv) := hbk
        have HGr : Hid (wr.ownsRow w.heap.size 22 1 gv k ((ds.take k).map (·.1))) := hgr
        have HCl : Hid (Cl wr lo (fun g => g = Bk ∨ g = L ∨ gv.ownBlock = some g) ds) := hcl
        have HKp : Hid (Kp (fun g => g = Bk ∨ inC cs g) w wr) := hkp
        have HNw : Hid (∀ (j : Nat) x, ds[j]? = some x → ∀ g, x.1.ownBlock = some g → inC cs g ∨ w.heap.size ≤ g) := hnw
        clear hgw hbk hgr hcl hkp hnw HG0 HB1 HC1 HK1
        have b0 := HBo.out.c0
        by_cases hlt : k < i
        · have hlt' : (k : Int) < (i : Int) := by omega
          obtain ⟨x, hx⟩ := get_some cs k (by omega)
          have hds := HGw.out.rest k x (Nat.le_refl _) hx
          have hcell := HLc.out wr HKp.out k x hx
          obtain ⟨a, c, hxs⟩ := (HCl.out.own k _ hds).shape
          have hsm := HSm.out x (List.mem_of_getElem? hx)
          obtain ⟨xv, xl⟩ := x
          simp only [mrk_len] at hxs hcell hsm hds
          subst hxs
          have HNwK : Hid (∀ (j : Nat) x, ds[j]? = some x → ∀ g, x.1.ownBlock = some g → inC cs g ∨ w.heap.size ≤ g) := HNw.out
          have HX : Hid (cs[k]? = some (.slice a xl.length c, xl)) := hx
          have HD : Hid (ds[k]? = some (.slice a xl.length c, mrk k xl.length)) := hds
          have hkd : k < ds.length := (List.getElem?_eq_some_iff.mp hds).1
          have HD0 : Hid (ds.set k (.slice a xl.length c, mrk k xl.length) = ds) := by
            apply List.ext_getElem?; intro j
            by_cases hj : k = j
            · subst hj; rw [List.getElem?_set_self hkd, hds]
            · rw [List.getElem?_set_ne hj]
          clear hx hds
          go_wp2_with fail
          go_loopw [6, 7] (fun gz z wr' => ∃ (q : Nat), q ≤ 9 ∧ z = .int .i64 q ∧ (∃ a' c', gz = .slice a' (xl.length + q) c') ∧ Book wr' Bk (.slice (some ⟨L, 0, none⟩) i cap) gv ∧ wr'.ownsRow w.heap.size 22 1 gv k ((ds.take k).map (·.1)) ∧ Cl wr' lo (fun g => g = Bk ∨ g = L ∨ gv.ownBlock = some g) (ds.set k (gz, mrk k (xl.length + q))) ∧ Kp (fun g => g = Bk ∨ inC cs g) w wr' ∧ (∀ g, gz.ownBlock = some g → inC cs g ∨ w.heap.size ≤ g)) (fun _ z _ => 9 - (intOf z).toNat)
          case atStart => exact ⟨0, by omega, rfl, ⟨a, c, rfl⟩, HBo.out, HGr.out, by rw [Nat.add_zero, HD0.out]; exact HCl.out, HKp.out, fun g hg => HNw.out k _ HD.out g hg⟩
          case round =>
            obtain ⟨q, hq, rfl, ⟨a', c', rfl⟩, hbk, hgr, hcl, hkp, hng⟩ := hrel
            have hset : (ds.set k (.slice a' (xl.length + q) c', mrk k (xl.length + q)))[k]? = some (.slice a' (xl.length + q) c', mrk k (xl.length + q)) := List.getElem?_set_self hkd
            have hown := hcl.own k _ hset
            have hoff := hcl.off k _ hset
            have HBo2 : Hid (Book wr Bk (.slice (some ⟨L, 0, none⟩) i cap) gv) := hbk
            have HGr2 : Hid (wr.ownsRow w.heap.size 22 1 gv k ((ds.take k).map (·.1))) := hgr
            have HCl2 : Hid (Cl wr lo (fun g => g = Bk ∨ g = L ∨ gv.ownBlock = some g) (ds.set k (.slice a' (xl.length + q) c', mrk k (xl.length + q)))) := hcl
            have HKp2 : Hid (Kp (fun g => g = Bk ∨ inC cs g) w wr) := hkp
            have HNg : Hid (∀ g, (Value.slice a' (xl.length + q) c').ownBlock = some g → inC cs g ∨ w.heap.size ≤ g) := hng
            have HOw : Hid (SOwn wr lo (.slice a' (xl.length + q) c') (mrk k (xl.length + q))) := hown
            have HOf : Hid (∀ g, (Value.slice a' (xl.length + q) c').ownBlock = some g → ¬ (g = Bk ∨ g = L ∨ gv.ownBlock = some g)) := hoff
            have HSet : Hid ((ds.set k (.slice a' (xl.length + q) c', mrk k (xl.length + q)))[k]? = some (.slice a' (xl.length + q) c', mrk k (xl.length + q))) := hset
            clear hbk hgr hcl hkp hng hown hoff hset b0 hcell HBo HGr HCl HKp HNw HD0
            have b0 := HBo2.out.c0
            have b1 := HBo2.out.c1
            have hcell := HLc.out wr HKp2.out k _ HX.out
            simp only at hcell
            have hbkw := HBo2.out.lt
            have hwz := HKp2.out.size
            by_cases hq9 : q < 9
            · have hq9' : (q : Int) < 9 := by omega
              have hown2 : wr.ownsRow lo 24 2 (.slice a' (xl.length + q) c') (xl.length + q) ((mrk k (xl.length + q)).flatMap spc) := by have := HOw.out; unfold SOwn at this; rw [mrk_len] at this; exact this
              go_wp2_with (at_builtin; refine wpList_append_own_at _ rfl _ _ 22 rfl lo 24 i0 (.agg #[.int .i64 0, .int .i64 0]) 2 16 Try.underlying22 hi hz0 hz1 hz2 rfl (by decide) _ _ _ rfl (hown2.alloc _) ⟨wr.heap.size, 0, none⟩ 1 1 [.int .i64 (-100 - (k : Int)), .int .i64 ((xl.length : Int) + (q : Int))] rfl rfl ?c1 ?c2 ?c3 ?c4 ?c5 ?_)
              case c1 => exact cell_two_new _ _ _ _
              case c2 => intro u hu; simp at hu; rcases hu with rfl | rfl <;> rfl
              case c3 => unfold maxLen; omega
              case c4 => omega
              case c5 => have := HLo.out; simp; omega
              intro v' w5 hown5 hgrow5 _ hat5
              have HS5 : Hid (SOwn w5 lo v' (mrk k (xl.length + (q + 1)))) := by
                unfold Hid SOwn
                rw [mrk_len, ← Nat.add_assoc, mrk_succ, List.flatMap_append]
                have : ((xl.length : Int) + (q : Int)) = ((xl.length + q : Nat) : Int) := by omega
                rw [this] at hown5
                exact hown5
              have hne : ∀ g, (Value.slice a' (xl.length + q) c').ownBlock = some g → g ≠ Bk ∧ g ≠ L ∧ gv.ownBlock ≠ some g := fun g hg => ⟨fun e => HOf.out g hg (.inl e), fun e => HOf.out g hg (.inr (.inl e)), fun e => HOf.out g hg (.inr (.inr e))⟩
              have hgvl : ∀ g, gv.ownBlock = some g → g < wr.heap.size := fun g hg => (HGr2.out.lt g hg).2
              have HB5 : Hid (Book w5 Bk (.slice (some ⟨L, 0, none⟩) i cap) gv) := (HBo2.out.grown (grown_alloc wr (.cells #[.int .i64 (-100 - (k : Int)), .int .i64 ((xl.length : Int) + (q : Int))] 24) none) (by simp)).grown hgrow5 (fun e => (hne Bk e).1 rfl)
              have HG5 : Hid (w5.ownsRow w.heap.size 22 1 gv k ((ds.take k).map (·.1))) := (HGr2.out.alloc _).kept hgrow5 (by
                cases hv : gv.ownBlock with
                | none => left; rfl
                | some g => right; intro e; exact (hne g e.symm).2.2 hv)
              have HC5 : Hid (Cl w5 lo (fun g => g = Bk ∨ g = L ∨ gv.ownBlock = some g) (ds.set k (v', mrk k (xl.length + (q + 1))))) := by
                have := (HCl2.out.other (grown_alloc wr (.cells #[.int .i64 (-100 - (k : Int)), .int .i64 ((xl.length : Int) + (q : Int))] 24) none) (fun g e => by cases e)).set (x' := (v', mrk k (xl.length + (q + 1)))) HSet.out hgrow5 HS5.out (by
                  rcases hat5 with e | e
                  · exact .inl e
                  · right; intro g hg
                    rw [e] at hg
                    simp only [Option.some.injEq] at hg
                    subst hg
                    refine ⟨by simp, fun hq => ?_⟩
                    rcases hq with hq | hq | hq
                    · omega
                    · omega
                    · have := hgvl _ hq; omega)
                rw [List.set_set] at this; exact this
              have HN5 : Hid (∀ g, v'.ownBlock = some g → inC cs g ∨ w.heap.size ≤ g) := fun g hg => by
                rcases hat5 with e | e
                · exact HNg.out g (by rw [← e]; exact hg)
                · rw [e] at hg; simp at hg; right; omega
              have HK5 : Hid (Kp (fun g => g = Bk ∨ inC cs g) w w5) := (HKp2.out.grown (grown_alloc wr (.cells #[.int .i64 (-100 - (k : Int)), .int .i64 ((xl.length : Int) + (q : Int))] 24) none) (fun g e => by cases e)).grown hgrow5 (fun g e => by
                rcases HNg.out g e with h | h
                · exact .inl (.inr h)
                · exact .inr h)
              obtain ⟨a5, c5, hv5⟩ := HS5.out.shape
              rw [mrk_len] at hv5
              subst hv5
              clear hown5 hgrow5 hat5 hne hgvl hown2 HBo2 HGr2 HCl2 HKp2 HNg HOw HOf HSet HS5 b0 b1 hcell
              go_wp2
              go_roundw
              case rel => exact ⟨q + 1, by omega, by go_num, ⟨a5, c5, rfl⟩, HB5.out, HG5.out, HC5.out, HK5.out, HN5.out⟩
              case measure => simp [intOf]; omega
            · have hq9' : q = 9 := by omega
              subst hq9'
              clear hcell
              go_wp2_with (at_builtin; refine wpList_append_own_at _ rfl _ _ 28 rfl w.heap.size 22 i1 (.slice none 0 0) 1 24 Try.underlying28 hi' hz0' hz1' hz2' rfl (by decide) _ _ _ rfl (HGr2.out.alloc _) ⟨wr.heap.size, 0, none⟩ 1 1 [.slice a' (xl.length + 9) c'] rfl rfl ?c1 ?c2 ?c3 ?c4 ?c5 ?_)
              case c1 => exact one_val _ _ _
              case c2 => intro u hu; simp at hu; subst hu; rfl
              case c3 => unfold maxLen; omega
              case c4 => omega
              case c5 => simp; omega
              intro v' w5 hown5 hgrow5 _ hat5
              obtain ⟨g', cap', rfl⟩ := ownsRow_succ hown5
              have hgb : ∀ g, gv.ownBlock = some g → w.heap.size ≤ g ∧ g < wr.heap.size := fun g hg => HGr2.out.lt g hg
              have HB5 : Book w5 Bk (.slice (some ⟨L, 0, none⟩) i cap) gv := (HBo2.out.grown (grown_alloc wr (.cells #[.slice a' (xl.length + 9) c'] 22) none) (by simp)).grown hgrow5 (fun e => by have := (hgb Bk e).1; have := HLo.out; omega)
              have hg' : g' ≠ Bk ∧ g' ≠ L ∧ ∀ (j : Nat) x, (ds.set k (.slice a' (xl.length + 9) c', mrk k (xl.length + 9)))[j]? = some x → x.1.ownBlock ≠ some g' := by
                rcases hat5 with e | e
                · have e' : gv.ownBlock = some g' := e.symm
                  have := (hgb g' e').1
                  exact ⟨by have := HLo.out; omega, by omega, fun j x hx hq => HCl2.out.off j x hx g' hq (.inr (.inr e'))⟩
                · simp [Value.ownBlock] at e
                  subst e
                  exact ⟨by omega, by omega, fun j x hx hq => by have := ((HCl2.out.own j x hx).lt _ hq).2; omega⟩
              have HC5 : Cl w5 lo (fun g => g = Bk ∨ g = L ∨ gv.ownBlock = some g) (ds.set k (.slice a' (xl.length + 9) c', mrk k (xl.length + 9))) := (HCl2.out.other (grown_alloc wr (.cells #[.slice a' (xl.length + 9) c'] 22) none) (fun g e => by cases e)).other hgrow5 (fun g e => .inl (.inr (.inr e)))
              have HC6 : Hid (Cl (w5.setCell ⟨Bk, 1, none⟩ (.slice (some ⟨g', 0, none⟩) (k + 1) cap')) lo (fun g => g = Bk ∨ g = L ∨ (Value.slice (some ⟨g', 0, none⟩) (k + 1) cap').ownBlock = some g) (ds.set k (.slice a' (xl.length + 9) c', mrk k (xl.length + 9)))) := (HC5.other (grown_set w5 Bk 1 _) (fun g e => .inl (.inl (by simpa using e.symm)))).mono (fun j x hx g hg hq => by
                rcases hq with hq | hq | hq
                · exact HC5.off j x hx g hg (.inl hq)
                · exact HC5.off j x hx g hg (.inr (.inl hq))
                · simp [Value.ownBlock] at hq; subst hq; exact hg'.2.2 j x hx hg)
              have HB6 : Hid (Book (w5.setCell ⟨Bk, 1, none⟩ (.slice (some ⟨g', 0, none⟩) (k + 1) cap')) Bk (.slice (some ⟨L, 0, none⟩) i cap) (.slice (some ⟨g', 0, none⟩) (k + 1) cap')) := HB5.set1 _
              have HG6 : Hid ((w5.setCell ⟨Bk, 1, none⟩ (.slice (some ⟨g', 0, none⟩) (k + 1) cap')).ownsRow w.heap.size 22 1 (.slice (some ⟨g', 0, none⟩) (k + 1) cap') (k + 1) (((ds.set k (.slice a' (xl.length + 9) c', mrk k (xl.length + 9))).take (k + 1)).map (·.1))) := by
                unfold Hid
                rw [take_set hkd, List.map_take]
                exact hown5.kept (grown_set w5 Bk 1 _) (.inr (fun e => hg'.1 (by simpa [Value.ownBlock] using e)))
              have HK6 : Hid (Kp (fun g => g = Bk ∨ inC cs g) w (w5.setCell ⟨Bk, 1, none⟩ (.slice (some ⟨g', 0, none⟩) (k + 1) cap'))) := ((HKp2.out.grown (grown_alloc wr (.cells #[.slice a' (xl.length + 9) c'] 22) none) (fun g e => by cases e)).grown hgrow5 (fun g e => .inr (hgb g e).1)).grown (grown_set w5 Bk 1 _) (fun g e => .inl (.inl (by simpa using e.symm)))
              have HW6 : Hid (Gw (k + 1) cs (ds.set k (.slice a' (xl.length + 9) c', mrk k (xl.length + 9)))) := HGw.out.next HX.out
              have HN6 : Hid (∀ (j : Nat) x, (ds.set k (.slice a' (xl.length + 9) c', mrk k (xl.length + 9)))[j]? = some x → ∀ g, x.1.ownBlock = some g → inC cs g ∨ w.heap.size ≤ g) := fun j x hx g hg => by
                by_cases hj : k = j
                · subst hj
                  rw [HSet.out] at hx; cases hx
                  exact HNg.out g hg
                · rw [List.getElem?_set_ne hj] at hx
                  exact HNwK.out j x hx g hg
              have c5 := HB5.c1
              have f5 := HB5.fz 1
              clear hown5 hgrow5 hat5 hg' hgb HC5 HB5 HBo2 HGr2 HCl2 HKp2 HNg HOw HOf HSet b0 b1
              go_wp2
              go_roundw
              case rel => exact ⟨k + 1, _, _, by omega, by go_num, HW6.out, HB6.out, HG6.out, HC6.out, HK6.out, HN6.out⟩
              case measure => simp [intOf]; omega
        · have hki : k = i := by omega
          subst hki
          obtain ⟨G, cg, hgv⟩ : ∃ G cg, gv = .slice (some ⟨G, 0, none⟩) k cg := own_some HGr.out (by omega)
          subst hgv
          have b1 := HBo.out.c1
          have HGc : Hid (∀ (j : Nat) x, ds[j]? = some x → wr.cell? ⟨G, j, none⟩ = some x.1) := fun j x hx => by
            have hj : j < ds.length := (List.getElem?_eq_some_iff.mp hx).1
            have hdl := HGw.out.len
            rw [HGr.out.cellAt j (by omega), List.getElem?_map, List.getElem?_take, if_pos (by omega), hx]; rfl
          have HDn : Hid (∀ j, j < k → ∃ a n c, ds[j]? = some (.slice a (n + 9) c, mrk j (n + 9)) ∧ n ≤ 1048576 ∧ SOwn wr lo (.slice a (n + 9) c) (mrk j (n + 9))) := fun j hj => by
            obtain ⟨x, hx⟩ := get_some cs j (by omega)
            obtain ⟨v, hv⟩ := HGw.out.done j x hj hx
            have ho := HCl.out.own j _ hv
            obtain ⟨a, c, hs⟩ := ho.shape
            simp only [mrk_len] at hs
            subst hs
            exact ⟨a, x.2.length, c, hv, HSm.out x (List.mem_of_getElem? hx), ho⟩
          clear HGw HGr HCl HNw HBo HLc
          go_wp2_with fail
          go_loop [8] (fun z => ∃ j : Nat, j ≤ k ∧ z = .int .i64 j) (fun z => k - (intOf z).toNat)
          case atStart => exact ⟨0, by omega, rfl⟩
          case round =>
            obtain ⟨j, hj, rfl⟩ := hrel
            by_cases hjl : j < k
            · have hjl' : (j : Int) < (k : Int) := by omega
              obtain ⟨a, n, c, hd, hn, ho⟩ := HDn.out j hjl
              have hcg := HGc.out j _ hd
              have HO : Hid (SOwn wr lo (.slice a (n + 9) c) (mrk j (n + 9))) := ho
              simp only at hcg
              clear hd ho
              go_wp2
              go_loop [9] (fun z => ∃ m : Nat, m ≤ n + 9 ∧ z = .int .i64 m) (fun z => n + 9 - (intOf z).toNat)
              case atStart => exact ⟨0, by omega, rfl⟩
              case round =>
                obtain ⟨m, hm, rfl⟩ := hrel
                by_cases hml : m < n + 9
                · obtain ⟨g, cc, hv⟩ := own_some HO.out (by rw [mrk_len]; omega)
                  simp only [mrk_len, Value.slice.injEq, true_and] at hv
                  obtain ⟨rfl, rfl⟩ := hv
                  obtain ⟨q1, q2, _, _⟩ := HO.out.cells (mrk_at hml)
                  simp only at q1 q2
                  have hml' : (m : Int) < (n : Int) + 9 := by omega
                  go_wp2
                  go_round
                  case rel => exact ⟨m + 1, by omega, by go_num⟩
                  case measure => simp [intOf]; omega
                · have hml' : ¬ (m : Int) < (n : Int) + 9 := by omega
                  go_wp2
                  go_round
                  case rel => exact ⟨j + 1, by omega, by go_num⟩
                  case measure => simp [intOf]; omega
            · have hjl' : ¬ (j : Int) < (k : Int) := by omega
              go_wp2
              go_ret
              exact ⟨rfl, HKp.out⟩

end Go.Proofs.Ytlagadpfnkidjac
