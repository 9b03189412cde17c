import Derived.Test.YtlagadpfnkidjacDea
namespace Go.Proofs.Ytlagadpfnkidjac
open Go.RowKit

/-- What Deal answers. -/
def DlR (l : List Sp) (most : Int) (cc : List (List Sp)) (er : Int) : Prop := (¬ IsSet l ∧ er = 30 ∧ cc = []) ∨ (IsSet l ∧ most < 1 ∧ er = 1 ∧ cc = []) ∨ (IsSet l ∧ 1 ≤ most ∧ er = 0 ∧ DR most.toNat cc ∧ cc.flatten = l)
theorem DlR.uniq {l : List Sp} {most : Int} {cc cc' : List (List Sp)} {er er' : Int} (h : DlR l most cc er) (h' : DlR l most cc' er') : cc = cc' ∧ er = er' := by
  rcases h with ⟨a, b, c⟩ | ⟨a, b, c, d⟩ | ⟨a, b, c, d, e⟩ <;> rcases h' with ⟨a', b', c'⟩ | ⟨a', b', c', d'⟩ | ⟨a', b', c', d', e'⟩
  · exact ⟨by rw [c, c'], by omega⟩
  · exact absurd a' a
  · exact absurd a' a
  · exact absurd a a'
  · exact ⟨by rw [d, d'], by omega⟩
  · omega
  · exact absurd a a'
  · omega
  · exact ⟨d.uniq d' (by rw [e, e']), by omega⟩
def DealPost (w : World) (l : List Sp) (most : Int) (e : Ending) (w' : World) : Prop := ∃ v cs er, e = .returned (.tuple #[v, .int .i64 er]) ∧ Dl w' w.heap.size v cs ∧ DlR l most (cs.map (·.2)) er ∧ Below w.heap.size w w'
def slen : Value → Nat
  | .slice _ n _ => n
  | _ => 0

/-- The lists so far, and what is left. -/
structure Dg (W w : World) (m : Nat) (l : List Sp) (x v : Value) (rest : List Sp) (cs : List Rw) : Prop where
  lst : ∀ W', Below w.heap.size w W' → Ls W' x rest
  row : Dl W w.heap.size v cs
  all : (cs.map (·.2)).flatten ++ rest = l
  dr : DR m (cs.map (·.2))
  full : rest ≠ [] → ∀ y ∈ cs, y.2.length = m

theorem DR.many {m : Nat} : ∀ {a : List (List Sp)}, DR m a → a.length ≤ a.flatten.length
  | [], _ => by simp
  | x :: r, h => by have h1 := h.1; have h2 := DR.many h.2.2.2; rw [List.flatten_cons, List.length_append, List.length_cons]; omega
theorem ls_mk {W : World} {a : Option Addr} {n c : Nat} {l : List Sp} (he : l.length = n) (h : Spa W a l) (hc : n ≤ c) (hm : c ≤ 9223372036854775807) : Ls W (.slice a n c) l := by
  subst he
  exact ⟨⟨a, c, rfl, h, hc, hm⟩, by omega⟩
theorem clone_at (n g off c : Nat) (l : List Sp) (w : World) (he : l.length = n) (h : Spa w (some ⟨g, off, none⟩) l) (hp : 0 < n) (hm : n ≤ 1048576) :
    Calls Try.prog 37 #[.slice (some ⟨g, off, none⟩) n c] w fun e w' => ∃ v, e = .returned v ∧ SOwn w' w.heap.size v l ∧ Below w.heap.size w w' := by
  subst he
  exact clone_some g off c l w h hp hm
theorem Spa.taken {W : World} {a : Option Addr} {l : List Sp} (h : Spa W a l) (n : Nat) : Spa W a (l.take n) := by
  rcases h with h | ⟨g, off, ha, h⟩
  · left; rw [h]; simp
  · refine .inr ⟨g, off, ha, fun i p hp => h i p ?_⟩
    rw [List.getElem?_take] at hp
    split at hp
    · exact hp
    · cases hp
theorem Dl.push {W w5 : World} {base : Nat} {lv lv' : Value} {cs : List Rw} {x : Rw} (h : Dl W base lv cs) (hx : SOwn W base x.1 x.2) (ho : ∀ g, x.1.ownBlock = some g → lv.ownBlock ≠ some g) (ha : ∀ (j : Nat) y, cs[j]? = some y → ∀ g, x.1.ownBlock = some g → y.1.ownBlock ≠ some g)
    (hown : w5.ownsRow base 22 1 lv' (cs.length + 1) (cs.map (·.1) ++ [x.1])) (hg : (W.alloc (.cells #[x.1] 22)).grownBy w5 lv.ownBlock) (hat : lv'.ownBlock = lv.ownBlock ∨ ∃ g, lv'.ownBlock = some g ∧ W.heap.size ≤ g) : Dl w5 base lv' (cs ++ [x]) := by
  have hC0 : Cl W base (fun g => lv.ownBlock = some g) (cs ++ [x]) := h.cl.snoc hx (fun g hg hq => ho g hg hq) ha
  have hC5 := (hC0.other (grown_alloc W (.cells #[x.1] 22) none) (fun g e => by cases e)).other hg (fun g e => .inl e)
  refine ⟨by rw [List.length_append, List.map_append]; exact hown, hC5.mono (fun j y hy g hg hq => ?_)⟩
  rcases hat with e | ⟨k, e, hk⟩
  · exact hC5.off j y hy g hg (e ▸ hq)
  · have e2 : k = g := by rw [e] at hq; simpa using hq
    subst e2
    have := ((hC0.own j y hy).lt _ hg).2
    omega

set_option maxHeartbeats 8000000 in
set_option maxRecDepth 100000 in
theorem deal_in (a : Option Addr) (c : Nat) (l : List Sp) (w : World) (most : Int) (h : Ls w (.slice a l.length c) l) (sl : IsSet l) (hm : 1 ≤ most) :
    Calls Try.prog 19 #[.slice a l.length c, .int .i64 most] w (DealPost w l most) := by
  obtain ⟨i1, hi', hz0', hz1', hz2'⟩ := info_parts Try.info_spans
  have hR := right_ls h
  rw [show setB l = true from setB_iff.mpr sl] at hR
  have HL : Hid (∀ W, Below w.heap.size w W → Ls W (.slice a l.length c) l) := fun W hW => h.below hW
  have SL : Hid (IsSet l) := sl
  clear h sl
  go_enter Try.func19, Try.ntmps19
  go_wp2_with fail
  refine hR.mono ?_
  rintro e w1 ⟨rfl, hb1⟩
  have HB1 : Hid (Below w.heap.size w w1) := hb1
  clear hb1 hR
  go_wp2_with fail
  obtain ⟨m, rfl⟩ : ∃ m : Nat, most = (m : Int) := ⟨most.toNat, by omega⟩
  go_loopw [0, 6] (fun x v wr => ∃ rest cs, Dg wr w m l x v rest cs ∧ Below w.heap.size w wr) (fun x _ _ => slen x)
  case atStart => exact ⟨l, [], ⟨HL.out, Dl.nil _ _, rfl, trivial, fun _ y hy => by cases hy⟩, HB1.out⟩
  case round =>
    obtain ⟨rest, cs, hdg, hbe⟩ := hrel
    have HBe : Hid (Below w.heap.size w wr) := hbe
    have HG : Hid (Dg wr w m l _ _ rest cs) := hdg
    obtain ⟨a', c', hx, hsp, hrc, hrm⟩ := (hdg.lst wr hbe).shape
    obtain ⟨la, lc, hlv⟩ := own_shape hdg.row.row
    subst hx
    subst hlv
    have HSp : Hid (∀ W, Below w.heap.size w W → Spa W a' rest) := fun W hW => by obtain ⟨b, d, hv, hs, _⟩ := (HG.out.lst W hW).shape; simp only [Value.slice.injEq] at hv; obtain ⟨rfl, _, _⟩ := hv; exact hs
    have hrl : rest.length ≤ 2000 := by have h1 := congrArg List.length hdg.all; rw [List.length_append] at h1; have := SL.out.1; omega
    clear hdg hbe hsp
    by_cases hr : rest = []
    · subst hr
      have HD : Hid (DlR l (m : Int) (cs.map (·.2)) 0) := .inr (.inr ⟨SL.out, hm, rfl, HG.out.dr, by have := HG.out.all; simpa using this⟩)
      have HRow := HG.out.row
      have HDl : Hid (Dl wr w.heap.size (.slice la cs.length lc) cs) := HRow
      clear HRow HG HSp
      simp only [List.length_nil] at *
      go_wp2
      go_ret2
      exact ⟨_, cs, 0, rfl, HDl.out, HD.out, HBe.out⟩
    · have hrp : 0 < rest.length := List.length_pos_iff.mpr hr
      obtain ⟨p, hp⟩ := get_some rest 0 hrp
      obtain ⟨g, off, rfl⟩ : ∃ g off, a' = some ⟨g, off, none⟩ := by obtain ⟨g, off, ha, _⟩ := (HSp.out wr HBe.out).at hp; exact ⟨g, off, ha⟩
      clear hp p
      have HNe : Hid (rest ≠ []) := hr
      clear hr
      have hrp' : (0 : Int) < (rest.length : Int) := by omega
      -- the round, twice
      rcases Nat.lt_or_ge rest.length m with hmr | hmr
      · have hmr' : (rest.length : Int) < (m : Int) := by omega
        have hnr : rest.length ≤ rest.length := by omega
        have hn1 : 1 ≤ rest.length := by omega
        have hnm : rest.length ≤ m := by omega
        have HTk : Hid ((rest.take rest.length).length = rest.length) := by unfold Hid; rw [List.length_take]; omega
        go_wp2_with fail
        refine (clone_at rest.length g off c' (rest.take rest.length) wr HTk.out ((HSp.out wr HBe.out).taken rest.length) (by omega) (by omega)).mono ?_
        rintro e w2 ⟨xv, rfl, hs2, hb2⟩
        have HX : Hid (SOwn w2 w.heap.size xv (rest.take rest.length)) := hs2.base HBe.out.size
        have pX : Hid (∀ k, xv.ownBlock = some k → wr.heap.size ≤ k) := fun k hk => (hs2.lt k hk).1
        have HB2 : Hid (Below w.heap.size w w2) := HBe.out.trans (hb2.mono HBe.out.size)
        have HD2 : Hid (Dl w2 w.heap.size (.slice la cs.length lc) cs) := HG.out.row.below hb2
        have pL : Hid (∀ k, (Value.slice la cs.length lc).ownBlock = some k → k < wr.heap.size) := fun k hk => (HG.out.row.row.lt k hk).2
        have pC : Hid (∀ (j : Nat) y, cs[j]? = some y → ∀ k, y.1.ownBlock = some k → k < wr.heap.size) := fun j y hy k hk => ((HG.out.row.cl.own j y hy).lt k hk).2
        have sz2 := hb2.size
        have hlo : w.heap.size ≤ wr.heap.size := HBe.out.size
        obtain ⟨xa, xc, hxv⟩ := HX.out.shape
        rw [HTk.out] at hxv
        subst hxv
        have hcl : cs.length ≤ 2000 := by
          have h1 := HG.out.dr.many
          have h2 := congrArg List.length HG.out.all
          rw [List.length_append] at h2
          rw [List.length_map] at h1
          have := SL.out.1
          omega
        clear hs2 hb2
        go_wp2_with (at_builtin; refine wpList_append_own_at _ rfl _ _ 28 rfl w.heap.size 22 i1 (.slice none 0 0) 1 24 Try.underlying28 hi' hz0' hz1' hz2' rfl (by decide) _ _ _ rfl (HD2.out.row.alloc _) ⟨w2.heap.size, 0, none⟩ 1 1 [.slice xa rest.length xc] rfl rfl ?c1 ?c2 ?c3 ?c4 ?c5 ?_)
        case c1 => exact one_val _ _ _
        case c2 => intro u hu; simp at hu; subst hu; rfl
        case c3 => unfold maxLen; omega
        case c4 => omega
        case c5 => simp; omega
        intro v' w5 hown5 hgrow5 _ hat5
        have HD5 : Hid (Dl w5 w.heap.size v' (cs ++ [(.slice xa rest.length xc, rest.take rest.length)])) := HD2.out.push (x := (.slice xa rest.length xc, rest.take rest.length)) HX.out (fun k hk e => by have h1 := pX.out k hk; have h2 := pL.out k e; omega) (fun j y hy k hk e => by have h1 := pX.out k hk; have h2 := pC.out j y hy k e; omega) hown5 hgrow5 (by
          rcases hat5 with e | e
          · exact .inl e
          · exact .inr ⟨_, e, by simp⟩)
        have HB5 : Hid (Below w.heap.size w w5) := (HB2.out.alloc HB2.out.size _).grown hgrow5 (by simp; omega) (fun k e => (HD2.out.row.lt k e).1)
        have HA5 : Hid ((((cs ++ [(Value.slice xa rest.length xc, rest.take rest.length)]).map (·.2)).flatten ++ rest.drop rest.length) = l) := by
          unfold Hid
          rw [List.map_append, List.flatten_append]
          simp only [List.map_cons, List.map_nil, List.flatten_cons, List.flatten_nil, List.append_nil, List.append_assoc, List.take_append_drop]
          exact HG.out.all
        have HR5 : Hid (DR m ((cs ++ [(Value.slice xa rest.length xc, rest.take rest.length)]).map (·.2))) := by
          unfold Hid
          rw [List.map_append]
          exact HG.out.dr.snoc (fun y hy => by obtain ⟨z, hz, rfl⟩ := List.mem_map.mp hy; exact HG.out.full HNe.out z hz) (by show 1 ≤ (rest.take rest.length).length; rw [HTk.out]; exact hn1) (by show (rest.take rest.length).length ≤ m; rw [HTk.out]; exact hnm)
        have HF5 : Hid (rest.drop rest.length ≠ [] → ∀ y ∈ cs ++ [((Value.slice xa rest.length xc, rest.take rest.length) : Rw)], y.2.length = m) := fun hne y hy => by
          rcases List.mem_append.mp hy with q | q
          · exact HG.out.full HNe.out y q
          · have q' := List.mem_singleton.mp q; subst q'; show (rest.take rest.length).length = m; rw [HTk.out]; exact absurd (List.drop_length) hne
        obtain ⟨v5a, v5c, hv5⟩ := own_shape HD5.out.row
        subst hv5
        clear hown5 hgrow5 hat5 HD2 HB2 HX pX pL pC HG
        by_cases hcn : c' = rest.length
        · have hcn2 := hcn.symm; subst hcn2
          go_wp2
          go_roundw
          case rel => exact ⟨rest.drop rest.length, _, ⟨fun W _ => ls_mk (by have h := @List.length_drop _ rest.length rest; omega) (.inl (List.drop_eq_nil_of_le (by omega))) (by omega) (by omega), HD5.out, HA5.out, HR5.out, HF5.out⟩, HB5.out⟩
          case measure => simp [slen]; omega
        · go_wp2
          go_roundw
          case rel => exact ⟨rest.drop rest.length, _, ⟨fun W hW => ls_mk (by have h := @List.length_drop _ rest.length rest; omega) ((HSp.out W hW).droppedS rest.length) (by omega) (by omega), HD5.out, HA5.out, HR5.out, HF5.out⟩, HB5.out⟩
          case measure => simp [slen]; omega
      · have hmr' : (m : Int) ≤ (rest.length : Int) := by omega
        have hnr : m ≤ rest.length := by omega
        have hn1 : 1 ≤ m := by omega
        have hnm : m ≤ m := by omega
        have HTk : Hid ((rest.take m).length = m) := by unfold Hid; rw [List.length_take]; omega
        go_wp2_with fail
        refine (clone_at m g off c' (rest.take m) wr HTk.out ((HSp.out wr HBe.out).taken m) (by omega) (by omega)).mono ?_
        rintro e w2 ⟨xv, rfl, hs2, hb2⟩
        have HX : Hid (SOwn w2 w.heap.size xv (rest.take m)) := hs2.base HBe.out.size
        have pX : Hid (∀ k, xv.ownBlock = some k → wr.heap.size ≤ k) := fun k hk => (hs2.lt k hk).1
        have HB2 : Hid (Below w.heap.size w w2) := HBe.out.trans (hb2.mono HBe.out.size)
        have HD2 : Hid (Dl w2 w.heap.size (.slice la cs.length lc) cs) := HG.out.row.below hb2
        have pL : Hid (∀ k, (Value.slice la cs.length lc).ownBlock = some k → k < wr.heap.size) := fun k hk => (HG.out.row.row.lt k hk).2
        have pC : Hid (∀ (j : Nat) y, cs[j]? = some y → ∀ k, y.1.ownBlock = some k → k < wr.heap.size) := fun j y hy k hk => ((HG.out.row.cl.own j y hy).lt k hk).2
        have sz2 := hb2.size
        have hlo : w.heap.size ≤ wr.heap.size := HBe.out.size
        obtain ⟨xa, xc, hxv⟩ := HX.out.shape
        rw [HTk.out] at hxv
        subst hxv
        have hcl : cs.length ≤ 2000 := by
          have h1 := HG.out.dr.many
          have h2 := congrArg List.length HG.out.all
          rw [List.length_append] at h2
          rw [List.length_map] at h1
          have := SL.out.1
          omega
        clear hs2 hb2
        go_wp2_with (at_builtin; refine wpList_append_own_at _ rfl _ _ 28 rfl w.heap.size 22 i1 (.slice none 0 0) 1 24 Try.underlying28 hi' hz0' hz1' hz2' rfl (by decide) _ _ _ rfl (HD2.out.row.alloc _) ⟨w2.heap.size, 0, none⟩ 1 1 [.slice xa m xc] rfl rfl ?c1 ?c2 ?c3 ?c4 ?c5 ?_)
        case c1 => exact one_val _ _ _
        case c2 => intro u hu; simp at hu; subst hu; rfl
        case c3 => unfold maxLen; omega
        case c4 => omega
        case c5 => simp; omega
        intro v' w5 hown5 hgrow5 _ hat5
        have HD5 : Hid (Dl w5 w.heap.size v' (cs ++ [(.slice xa m xc, rest.take m)])) := HD2.out.push (x := (.slice xa m xc, rest.take m)) HX.out (fun k hk e => by have h1 := pX.out k hk; have h2 := pL.out k e; omega) (fun j y hy k hk e => by have h1 := pX.out k hk; have h2 := pC.out j y hy k e; omega) hown5 hgrow5 (by
          rcases hat5 with e | e
          · exact .inl e
          · exact .inr ⟨_, e, by simp⟩)
        have HB5 : Hid (Below w.heap.size w w5) := (HB2.out.alloc HB2.out.size _).grown hgrow5 (by simp; omega) (fun k e => (HD2.out.row.lt k e).1)
        have HA5 : Hid ((((cs ++ [(Value.slice xa m xc, rest.take m)]).map (·.2)).flatten ++ rest.drop m) = l) := by
          unfold Hid
          rw [List.map_append, List.flatten_append]
          simp only [List.map_cons, List.map_nil, List.flatten_cons, List.flatten_nil, List.append_nil, List.append_assoc, List.take_append_drop]
          exact HG.out.all
        have HR5 : Hid (DR m ((cs ++ [(Value.slice xa m xc, rest.take m)]).map (·.2))) := by
          unfold Hid
          rw [List.map_append]
          exact HG.out.dr.snoc (fun y hy => by obtain ⟨z, hz, rfl⟩ := List.mem_map.mp hy; exact HG.out.full HNe.out z hz) (by show 1 ≤ (rest.take m).length; rw [HTk.out]; exact hn1) (by show (rest.take m).length ≤ m; rw [HTk.out]; exact hnm)
        have HF5 : Hid (rest.drop m ≠ [] → ∀ y ∈ cs ++ [((Value.slice xa m xc, rest.take m) : Rw)], y.2.length = m) := fun hne y hy => by
          rcases List.mem_append.mp hy with q | q
          · exact HG.out.full HNe.out y q
          · have q' := List.mem_singleton.mp q; subst q'; show (rest.take m).length = m; rw [HTk.out]
        obtain ⟨v5a, v5c, hv5⟩ := own_shape HD5.out.row
        subst hv5
        clear hown5 hgrow5 hat5 HD2 HB2 HX pX pL pC HG
        by_cases hcn : c' = m
        · have hcn2 := hcn.symm; subst hcn2
          go_wp2
          go_roundw
          case rel => exact ⟨rest.drop m, _, ⟨fun W _ => ls_mk (by have h := @List.length_drop _ m rest; omega) (.inl (List.drop_eq_nil_of_le (by omega))) (by omega) (by omega), HD5.out, HA5.out, HR5.out, HF5.out⟩, HB5.out⟩
          case measure => simp [slen]; omega
        · go_wp2
          go_roundw
          case rel => exact ⟨rest.drop m, _, ⟨fun W hW => ls_mk (by have h := @List.length_drop _ m rest; omega) ((HSp.out W hW).droppedS m) (by omega) (by omega), HD5.out, HA5.out, HR5.out, HF5.out⟩, HB5.out⟩
          case measure => simp [slen]; omega

end Go.Proofs.Ytlagadpfnkidjac
