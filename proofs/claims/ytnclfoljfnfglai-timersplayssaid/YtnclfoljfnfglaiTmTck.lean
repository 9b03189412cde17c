import Derived.Test.YtnclfoljfnfglaiTmSrt
import Derived.Test.YtnclfoljfnfglaiTmRun
namespace Go.Proofs.Ytnclfoljfnfglai
open Go.RowKit Go.Maps Go.WideElems
set_option linter.unusedVariables false

/-- 'm[k]--' of a key that is there: its entry is found, and written. -/
theorem entry_there {w : World} {bl n : Nat} {D : DataW Unit} {k : Kx} {c : Int} (h : w.ownsMap Try.prog 51 (plainElem Try.prog 3) bl n D) (hk : kW k) (hat : ∀ z, D.atKey (kL k) z = .lit (.int .i64 c)) (d : Int) (hd : kI d = true) (hn : n < maxLen) :
    (Instr.lookup 79 (.map (some bl)) (kA k) false).run Try.prog w = .ok (.int .i64 c) w ∧
    ∃ st : Nat, (Instr.mapEntry 79 (.map (some bl)) (kA k)).run Try.prog w = .ok (.tuple #[.int .i64 c, .int .i64 (st : Int)]) w ∧
      ∃ w', (Instr.entryStore 79 (.map (some bl)) (.int .i64 (st : Int)) (.int .i64 d)).run Try.prog w = .ok () w' ∧ w'.ownsMap Try.prog 51 (plainElem Try.prog 3) bl (n + 1) (D.put (kL k) (.lit (.int .i64 d))) ∧ w.mapTurned w' bl := by
  have hz : ∀ u : World, (zeroValue 3).run Try.prog u = .ok (.int .i64 0) u := fun u => by kernel_rfl
  obtain ⟨c1, hr, hc, hwc⟩ := h.lookup_int (t := 79) (q := .i64) keyK Try.underlying79 Try.underlying3 (hz w) (key_of hk)
  have e1 : c1 = c := by rw [hat] at hc; simpa using hc.symm
  subst e1
  refine ⟨hr, ?_⟩
  have h0 := h
  obtain ⟨es, clock, hb, F, hs, rfl⟩ := h
  obtain ⟨w1, hr1, ho1, ht1⟩ := h0.store (t := 79) keyK Try.underlying79 hn (key_of hk) (plainElem_int (q := .i64) (a := d) Try.underlying3 hd)
  rcases keyLaw.find w (key_of hk) es.toList F.keys with ⟨f1, f2⟩ | ⟨j, e0, f1, f2, f3⟩
  · exfalso
    have hhas := has_true_of_atKey hat
    obtain ⟨v, ps, hrun, _⟩ := h0.look_ok (t := 79) keyK Try.underlying79 (hz w) (plainElem_int (q := .i64) (a := 0) Try.underlying3 (by decide)) (key_of hk)
    rw [hhas] at hrun
    simp [Instr.lookup, run_underlying Try.underlying79, MapKept.run_getObj_map hb, keyLaw.check w _ (key_of hk), f1, hz, Result.andThen] at hrun
  · have hj : es[j]? = some e0 := by simpa using f2
    have hsame : es.modify j (fun e => { e with key := kA k }) = es := by
      apply Array.ext'
      rw [Array.toList_modify, ChangeMaps.modify_eq_set _ _ _ _ f2, show ({ e0 with key := kA k } : MapEntry) = e0 by rw [← f3]]
      exact set_self _ _ _ f2
    have hwb : ChangeMaps.setBlock w bl (.map es clock) = w := by
      have e : w.heap.setIfInBounds bl (.map es clock) = w.heap := by
        apply Array.ext_getElem?
        intro i
        by_cases hi : i = bl
        · subst hi; exact (ChangeMaps.heap_setBlock_same hb _).trans hb.symm
        · exact ChangeMaps.heap_setBlock_other hb _ hi
      unfold ChangeMaps.setBlock
      rw [e]
    have hme : (Instr.mapEntry 79 (.map (some bl)) (kA k)).run Try.prog w = .ok (.tuple #[e0.val, goInt e0.born]) (ChangeMaps.setBlock w bl (.map es clock)) := by
      simp [Instr.mapEntry, run_underlying Try.underlying79, MapKept.run_getObj_map hb, keyLaw.check w false (key_of hk), f1, hj, f3, keyLaw.stays w (key_of hk), hsame, MapKept.run_setObj_map _ hb, Result.andThen, ChangeMaps.setBlock]
    rw [hwb] at hme
    obtain ⟨v0, st, es1, clock1, hm1, _, hst⟩ := entry_then_store (t := 79) keyLaw Try.underlying79 hz hb F (key_of hk)
    rw [hme] at hm1
    have hm2 := hm1
    simp only [Result.ok.injEq, Value.tuple.injEq] at hm2
    obtain ⟨hm3, hm4⟩ := hm2
    have hv : e0.val = .int .i64 c1 := by
      have hl2 := hr
      simp [Instr.lookup, run_underlying Try.underlying79, MapKept.run_getObj_map hb, keyLaw.check w _ (key_of hk), f1, Result.andThen] at hl2
      exact hl2
    have hg : goInt (e0.born : Int) = goInt (st : Int) := Option.some.inj (congrArg (fun a : Array Value => a.toList[1]?) hm3)
    rw [hv] at hme
    refine ⟨e0.born, hme, ?_⟩
    obtain ⟨es', clock', hs1, hs2⟩ := hst w (.int .i64 d) (by rw [hm4]; exact ChangeMaps.heap_setBlock_same hb _)
    rw [hr1] at hs2
    have hw1 : w1 = ChangeMaps.setBlock w bl (.map es' clock') := by simpa using hs2
    rw [← hw1, ← hg] at hs1
    exact ⟨w1, hs1, ho1, ht1⟩

/-- What becomes of a table's timers once these keys have had their tick. -/
structure TK (L : Tl) (pre : List Kx) (Li : Tl) : Prop where
  mem : ∀ k c, (k, c) ∈ Li ↔ ((k ∈ pre ∧ (k, c + 1) ∈ L ∧ 1 ≤ c) ∨ (k ∉ pre ∧ (k, c) ∈ L))
theorem uniqT {L : Tl} (h : (L.map Prod.fst).Nodup) {k : Kx} {a b : Int} (ha : (k, a) ∈ L) (hb : (k, b) ∈ L) : a = b := by
  induction L with
  | nil => simp at ha
  | cons x L ih =>
    simp only [List.map_cons, List.nodup_cons] at h
    rcases List.mem_cons.mp ha with ha | ha <;> rcases List.mem_cons.mp hb with hb | hb
    · rw [← hb] at ha; simpa using ha
    · exact absurd (List.mem_map.mpr ⟨_, hb, by rw [← ha]⟩) h.1
    · exact absurd (List.mem_map.mpr ⟨_, ha, by rw [← hb]⟩) h.1
    · exact ih h.2 ha hb
theorem TK.start (L : Tl) : TK L [] L := ⟨fun k c => by simp⟩
theorem mem_putT {L : Tl} {k x : Kx} {n c : Int} : (x, c) ∈ putT L k n ↔ (x = k ∧ c = n) ∨ ((x, c) ∈ L ∧ x ≠ k) := by simp [putT, mem_delT]
theorem TK.zero {L Li : Tl} {pre : List Kx} {k : Kx} (h : TK L pre Li) (hk : k ∉ pre) (h1 : (k, 1) ∈ L) (hn : (L.map Prod.fst).Nodup) : TK L (pre ++ [k]) (delT (putT Li k 0) k) := by
  refine ⟨fun x c => ?_⟩
  rw [mem_delT, mem_putT]
  by_cases e : x = k
  · subst e
    constructor
    · rintro ⟨_, h3⟩; exact absurd rfl h3
    · rintro (⟨_, h3, h4⟩ | ⟨h3, _⟩)
      · have := uniqT hn h1 h3; omega
      · exact absurd (by simp) h3
  · simp [e, h.mem x c]
theorem TK.more {L Li : Tl} {pre : List Kx} {k : Kx} {n : Int} (h : TK L pre Li) (hk : k ∉ pre) (h1 : (k, n) ∈ L) (h2 : 2 ≤ n) (hn : (L.map Prod.fst).Nodup) : TK L (pre ++ [k]) (putT Li k (n - 1)) := by
  refine ⟨fun x c => ?_⟩
  rw [mem_putT]
  by_cases e : x = k
  · subst e
    constructor
    · rintro (⟨_, rfl⟩ | ⟨_, h3⟩)
      · exact .inl ⟨by simp, by rw [show n - 1 + 1 = n by omega]; exact h1, by omega⟩
      · exact absurd rfl h3
    · rintro (⟨_, h3, h4⟩ | ⟨h3, _⟩)
      · exact .inl ⟨rfl, by have := uniqT hn h1 h3; omega⟩
      · exact absurd (by simp) h3
  · simp [e, h.mem x c]
theorem TK.pos {L Li : Tl} {pre : List Kx} (h : TK L pre Li) (hp : ∀ x ∈ L, 1 ≤ x.2) : ∀ x ∈ Li, 1 ≤ x.2 := by
  rintro ⟨k, c⟩ hx
  rcases (h.mem k c).mp hx with ⟨_, _, h3⟩ | ⟨_, h3⟩
  · exact h3
  · exact hp _ h3
theorem KR.base {w : World} {base base' : Nat} {v : Value} {l : List Kx} (h : KR w base v l) (hb : base' ≤ base) : KR w base' v l := by
  obtain ⟨h1, h2 | ⟨g, cap, cur, h3, h4, r⟩⟩ := h
  · exact ⟨h1, .inl h2⟩
  · exact ⟨h1, .inr ⟨g, cap, cur, h3, by omega, r⟩⟩
theorem not_take {ks : List Kx} (h : ks.Nodup) {j : Nat} {k : Kx} (hk : ks[j]? = some k) : k ∉ ks.take j := by
  intro e
  have h2 : k ∈ ks.drop j := List.mem_of_getElem? (i := 0) (by rw [List.getElem?_drop]; exact hk)
  rw [← List.take_append_drop j ks, List.nodup_append] at h
  exact h.2.2 k e k h2 rfl
def outT (L : Tl) (pre : List Kx) : List Kx := pre.filter fun k => decide ((k, (1 : Int)) ∈ L)
theorem outT_one {L : Tl} {pre : List Kx} {k : Kx} (h : (k, 1) ∈ L) : outT L (pre ++ [k]) = outT L pre ++ [k] := by simp [outT, h]
theorem outT_more {L : Tl} {pre : List Kx} {k : Kx} {n : Int} (h : (k, n) ∈ L) (h2 : 2 ≤ n) (hn : (L.map Prod.fst).Nodup) : outT L (pre ++ [k]) = outT L pre := by
  have : ¬ (k, (1 : Int)) ∈ L := fun e => by have := uniqT hn h e; omega
  simp [outT, this]

/-- What a sort of these keys must do. -/
def SortsTo (outs res : List Kx) : Prop := ∀ (v : Value) (og base : Nat) (W : World), KR W base v outs → W.heap[og]? = some ordO →
  Calls Try.prog 57 #[.slice (some ⟨og, 0, none⟩) 5 5, v] W fun e w' => e = .returned (.tuple #[]) ∧ KR w' base v res ∧ Kq (fun g => v.ownBlock = some g) W w'

set_option maxHeartbeats 4000000 in
set_option maxRecDepth 100000 in
theorem tick_gen (p bl bh : Nat) (L : Tl) (Hs : List Int) (res : List Kx) (w : World) (h : Tb w p bl bh L Hs) (hl : L.length < 2199023255552)
    (hso : ∀ ks : List Kx, ks.Nodup → (∀ k, k ∈ ks ↔ (k ∈ L.map Prod.fst ∧ k.1 ∉ Hs)) → SortsTo (outT L ks) res) :
    Calls Try.prog 33 #[.pointer (some ⟨p, 0, none⟩)] w fun e w' => ∃ v ks L', e = .returned v ∧ ks.Nodup ∧ (∀ k, k ∈ ks ↔ (k ∈ L.map Prod.fst ∧ k.1 ∉ Hs)) ∧ TK L ks L' ∧ L'.length ≤ L.length ∧ KR w' w.heap.size v res ∧ Tb w' p bl bh L' Hs ∧ Kq (· = bl) w w' := by
  have HR := running_any p bl bh L Hs w h hl
  have HTb : Hid (Tb w p bl bh L Hs) := h
  have HSo : Hid (∀ ks : List Kx, ks.Nodup → (∀ k, k ∈ ks ↔ (k ∈ L.map Prod.fst ∧ k.1 ∉ Hs)) → SortsTo (outT L ks) res) := hso
  obtain ⟨l1, l2, l3⟩ := h.lts
  clear h hso
  go_enter Try.func33, Try.ntmps33
  go_wp2_with fail
  refine HR.mono ?_
  rintro e w1 ⟨v, ks, rfl, hkr, hnd, hmem, hle, hb1⟩
  have HM : Hid (∀ k, k ∈ ks ↔ (k ∈ L.map Prod.fst ∧ k.1 ∉ Hs)) := hmem
  have HN : Hid ks.Nodup := hnd
  have HKR : Hid (KR w1 w.heap.size v ks) := hkr
  have hs1 := hb1.size
  have T1 : Hid (Tb w1 p bl bh L Hs) := HTb.out.keep (S := fun _ => False) (Kq.of_below hb1) (fun h => h) (fun h => h) (fun h => h)
  have K1 : Hid (Kq (· = bl) w w1) := Kq.of_below hb1
  obtain ⟨av, cv, rfl⟩ := hkr.shape
  obtain ⟨m, hm⟩ : ∃ m, ks.length = m := ⟨_, rfl⟩
  have HMl : Hid (ks.length = m) := hm
  rw [hm] at HKR ⊢
  have hml : m < 2199023255552 := by omega
  clear hkr hnd hmem HR hb1 hm hle
  obtain ⟨i0, hi, hz0, hz1, hz2⟩ := info_parts Try.pinfo_key
  go_wp2
  go_loopw [3, 9] (fun u i wr => ∃ (j : Nat) (D : DataW Unit) (Li : Tl), i = .int .i64 j ∧ j ≤ m ∧ Kq (· = bl) w1 wr ∧ wr.ownsMap Try.prog 51 (plainElem Try.prog 3) bl (Maps.size D) D ∧ TD D Li ∧ Li.length ≤ L.length ∧ TK L (ks.take j) Li ∧ KR wr w1.heap.size u (outT L (ks.take j)))
    (fun _ i _ => m - (intOf i).toNat)
  case atStart =>
    obtain ⟨D, hD, tD⟩ := T1.out.left
    exact ⟨0, D, L, rfl, by omega, Kq.refl _ _, own_tight hD, tD, Nat.le_refl _, TK.start L, World.ownsRow_nil _ _ _ _⟩
  case round =>
    obtain ⟨j, D, Li, rfl, hj, hkq, hown, htd, hll, htk, hor⟩ := hrel
    have HKQ : Hid (Kq (· = bl) w1 wr) := hkq
    have HOw : Hid (wr.ownsMap Try.prog 51 (plainElem Try.prog 3) bl (Maps.size D) D) := hown
    have HTD : Hid (TD D Li) := htd
    have HTK : Hid (TK L (ks.take j) Li) := htk
    have HOR : Hid (KR wr w1.heap.size _ (outT L (ks.take j))) := hor
    have HLl : Hid (Li.length ≤ L.length) := hll
    clear hkq hown htd htk hor
    by_cases hjm : j = m
    · subst hjm
      have htk : ks.take j = ks := by rw [← HMl.out, List.take_length]
      rw [htk] at HTK HOR
      have HKo := keyOrder_any wr
      have R2 : KR (wr.alloc ordO) w1.heap.size u3 (outT L ks) := HOR.out.keep (S := fun _ => False) ((Kq.refl _ _).alloc _) (fun _ _ h => h)
      have HS := HSo.out ks HN.out HM.out u3 wr.heap.size w1.heap.size (wr.alloc ordO) R2 (MapKept.heap_alloc wr _).1
      clear htk R2
      go_wp2_with fail
      refine HKo.mono ?_
      rintro e w2 ⟨rfl, rfl⟩
      go_wp2_with fail
      refine HS.mono ?_
      rintro e w3 ⟨rfl, hr3, hk3⟩
      have hlow : ∀ g, u3.ownBlock = some g → w1.heap.size ≤ g := fun g hg => (World.ownsRow.lt HOR.out g hg).1
      have hbw : bl < wr.heap.size := HOw.out.lt
      have ho3 := own_block (HOw.out.alloc ordO) (hk3.block bl (by simp; omega) (fun e => by have := hlow _ e; omega))
      have k13 : Kq (· = bl) w1 w3 := (HKQ.out.alloc ordO).then hk3 (fun g hg e => by have := hlow _ e; omega)
      have t3 := T1.out.turn ho3 HTD.out k13 (HTK.out.pos T1.out.pos)
      go_wp2
      go_ret
      exact ⟨_, ks, Li, rfl, HN.out, HM.out, HTK.out, HLl.out, hr3.base hs1, t3, K1.out.trans k13⟩
    · have hjl : (j : Int) < (m : Int) := by omega
      obtain ⟨gk, capk, ek, hgk1, hgk2, _⟩ := HKR.out.some (by rw [HMl.out]; omega)
      obtain ⟨rfl, hmm, rfl⟩ : av = some ⟨gk, 0, none⟩ ∧ m = ks.length ∧ cv = capk := by simpa using ek
      clear ek hmm
      obtain ⟨k, hk⟩ : ∃ k, ks[j]? = some k := ⟨ks[j]'(by rw [HMl.out]; omega), List.getElem?_eq_getElem _⟩
      have hkm : k ∈ ks := List.mem_of_getElem? hk
      have hkL := ((HM.out k).mp hkm).1
      obtain ⟨⟨k', c⟩, hkc, rfl⟩ := List.mem_map.mp hkL
      have hkw := (T1.out.wf _ hkc).1
      have hcp := T1.out.pos _ hkc
      have hcm := (T1.out.wf _ hkc).2.2
      simp only at hk hkm hkL hkc hkw hcp hcm
      have hpre : k' ∉ ks.take j := not_take HN.out hk
      have hki : (k', c) ∈ Li := (HTK.out.mem k' c).mpr (.inr ⟨hpre, hkc⟩)
      have hat := HTD.out.val _ hki
      have htake : ks.take (j + 1) = ks.take j ++ [k'] := by rw [List.take_add_one, hk]; rfl
      have HTake : Hid (ks.take (j + 1) = ks.take j ++ [k']) := htake
      have KRr : KR wr w.heap.size (.slice (some ⟨gk, 0, none⟩) m cv) ks := HKR.out.keep HKQ.out (fun g hg e => by cases hg; have e' : gk = bl := e; omega)
      obtain ⟨q0, q1, q2, q3, q4⟩ := KRr.cells hk
      obtain ⟨x0, x1, x2, x3, x4⟩ := k'
      simp only at q0 q1 q2 q3 q4
      clear hkL KRr htake
      obtain ⟨W, hW⟩ : ∃ W, wr.alloc (kO (x0, x1, x2, x3, x4)) = W := ⟨_, rfl⟩
      have KW : Hid (Kq (· = bl) w1 W) := by rw [← hW]; exact HKQ.out.alloc _
      have RW : Hid (KR W w1.heap.size u3 (outT L (ks.take j))) := by rw [← hW]; exact HOR.out.keep (S := fun _ => False) ((Kq.refl _ _).alloc _) (fun _ _ h => h)
      have OW : W.drew.ownsMap Try.prog 51 (plainElem Try.prog 3) bl (Maps.size D) D := by rw [← hW]; exact HOw.out.alloc _
      obtain ⟨hq1, st, hq2, w5, hq3, ho5, ht5⟩ := entry_there OW hkw hat (c - 1) (kI_of (by omega)) (by rw [HTD.out.len]; unfold maxLen; omega)
      have zW : wr.heap.size < W.heap.size := by rw [← hW]; simp
      have d0 : W.drew.cell? ⟨p, 0, none⟩ = some (.map (some bl)) := by
        have n1 := T1.out.nes.1
        exact (World.cell?_of_block (KW.out.block p (by omega) n1)).trans T1.out.cell0
      have e0 : W.drew.cell? ⟨wr.heap.size, 0, none⟩ = some (.int .i64 x0) := by rw [← hW]; simp
      have e1 : W.drew.cell? ⟨wr.heap.size, 1, none⟩ = some (.int .i64 x1) := by rw [← hW]; simp
      have e2 : W.drew.cell? ⟨wr.heap.size, 2, none⟩ = some (.int .i64 x2) := by rw [← hW]; simp
      have e3 : W.drew.cell? ⟨wr.heap.size, 3, none⟩ = some (.int .i64 x3) := by rw [← hW]; simp
      have e4 : W.drew.cell? ⟨wr.heap.size, 4, none⟩ = some (.int .i64 x4) := by rw [← hW]; simp
      have hwc : IntKind.i64.wrap (c - 1) = c - 1 := by rw [IntKind.wrap_i64]; omega
      have hbw : wr.heap.size ≠ bl := by have := HOw.out.lt; omega
      have hpb : p ≠ bl := T1.out.nes.1
      have g5 := ht5.grown
      have b5 : ∀ g i, g < W.heap.size → g ≠ bl → w5.cell? ⟨g, i, none⟩ = W.drew.cell? ⟨g, i, none⟩ := fun g i hg hn => World.cell?_of_block (g5.block g hg (by simpa using hn))
      have hpW : p < W.heap.size := by have := KW.out.size; omega
      have D0 : w5.drew.cell? ⟨p, 0, none⟩ = some (.map (some bl)) := (b5 p 0 hpW hpb).trans d0
      have E0 : w5.drew.cell? ⟨wr.heap.size, 0, none⟩ = some (.int .i64 x0) := (b5 _ 0 zW hbw).trans e0
      have E1 : w5.drew.cell? ⟨wr.heap.size, 1, none⟩ = some (.int .i64 x1) := (b5 _ 1 zW hbw).trans e1
      have E2 : w5.drew.cell? ⟨wr.heap.size, 2, none⟩ = some (.int .i64 x2) := (b5 _ 2 zW hbw).trans e2
      have E3 : w5.drew.cell? ⟨wr.heap.size, 3, none⟩ = some (.int .i64 x3) := (b5 _ 3 zW hbw).trans e3
      have E4 : w5.drew.cell? ⟨wr.heap.size, 4, none⟩ = some (.int .i64 x4) := (b5 _ 4 zW hbw).trans e4
      have K5 : Hid (Kq (· = bl) w1 w5) := KW.out.drew.grown g5 (fun g hg => by cases hg; exact .inl rfl)
      have R5 : Hid (KR w5 w1.heap.size u3 (outT L (ks.take j))) := RW.out.keep (S := (· = bl)) (((Kq.refl _ _).drew).grown g5 (fun g hg => by cases hg; exact .inl rfl)) (fun g hg e => by have e' : g = bl := e; have := (World.ownsRow.lt RW.out g hg).1; omega)
      have HO5 : Hid (w5.ownsMap Try.prog 51 (plainElem Try.prog 3) bl (Maps.size D + 1) (D.put (kL (x0, x1, x2, x3, x4)) (.lit (.int .i64 (c - 1))))) := ho5
      have hT5 : TD (D.put (kL (x0, x1, x2, x3, x4)) (.lit (.int .i64 (c - 1)))) (putT Li (x0, x1, x2, x3, x4) (c - 1)) := HTD.out.put (HOw.out.tidy keyK) hkw (by omega)
      have hat5 := hT5.val _ (mem_putT.mpr (.inl ⟨rfl, rfl⟩))
      have HT5 : Hid (TD (D.put (kL (x0, x1, x2, x3, x4)) (.lit (.int .i64 (c - 1)))) (putT Li (x0, x1, x2, x3, x4) (c - 1))) := hT5
      obtain ⟨hq4, _⟩ := entry_there (w := w5.drew) HO5.out hkw hat5 0 (by decide) (by rw [HTD.out.len]; unfold maxLen; omega)
      have HAt : Hid _ := hat
      have HAt5 : Hid _ := hat5
      have HKc : Hid _ := hkc
      clear ho5 ht5 OW hT5 hat hat5 hkc hki hk hkm b5 g5 zW
      go_wp2
      clear hW
      go_region
      clear hq1 hq2 hq3 d0 e0 e1 e2 e3 e4
      go_wp2
      go_region
      clear hq4 
      by_cases hc1 : c = 1
      · have HC1 : Hid (c = 1) := hc1
        have hcc : c - 1 = 0 := by omega
        clear hc1
        have O7 : w5.drew.drew.ownsMap Try.prog 51 (plainElem Try.prog 3) bl (Maps.size D + 1) (D.put (kL (x0, x1, x2, x3, x4)) (.lit (.int .i64 (c - 1)))) := HO5.out
        obtain ⟨w7, hq7, ho7, ht7⟩ := O7.drop (t := 79) keyK Try.underlying79 (key_of hkw) 0
        have g7 := ht7.grown
        have F0 : w5.drew.drew.cell? ⟨p, 0, none⟩ = some (.map (some bl)) := D0
        have G0 : w5.drew.drew.cell? ⟨wr.heap.size, 0, none⟩ = some (.int .i64 x0) := E0
        have G1 : w5.drew.drew.cell? ⟨wr.heap.size, 1, none⟩ = some (.int .i64 x1) := E1
        have G2 : w5.drew.drew.cell? ⟨wr.heap.size, 2, none⟩ = some (.int .i64 x2) := E2
        have G3 : w5.drew.drew.cell? ⟨wr.heap.size, 3, none⟩ = some (.int .i64 x3) := E3
        have G4 : w5.drew.drew.cell? ⟨wr.heap.size, 4, none⟩ = some (.int .i64 x4) := E4
        have z5 : wr.heap.size < w5.drew.drew.heap.size := World.block_lt_of_cell? _ ⟨wr.heap.size, 0, none⟩ G0
        have b7 : ∀ i, w7.cell? ⟨wr.heap.size, i, none⟩ = w5.drew.drew.cell? ⟨wr.heap.size, i, none⟩ := fun i => World.cell?_of_block (g7.block _ z5 (by simpa using hbw))
        have I0 := (b7 0).trans G0
        have I1 := (b7 1).trans G1
        have I2 := (b7 2).trans G2
        have I3 := (b7 3).trans G3
        have I4 := (b7 4).trans G4
        have K7 : Hid (Kq (· = bl) w1 w7) := K5.out.drew.drew.grown g7 (fun g hg => by cases hg; exact .inl rfl)
        have R7 : Hid (KR w7 w1.heap.size u3 (outT L (ks.take j))) := R5.out.keep (S := (· = bl)) (((Kq.refl _ _).drew.drew).grown g7 (fun g hg => by cases hg; exact .inl rfl)) (fun g hg e => by have e' : g = bl := e; have := (World.ownsRow.lt R5.out g hg).1; omega)
        have HO7 : Hid (w7.ownsMap Try.prog 51 (plainElem Try.prog 3) bl (Maps.size D + 1) ((D.put (kL (x0, x1, x2, x3, x4)) (.lit (.int .i64 (c - 1)))).del (kL (x0, x1, x2, x3, x4)))) := ho7
        have hT7 : TD ((D.put (kL (x0, x1, x2, x3, x4)) (.lit (.int .i64 (c - 1)))).del (kL (x0, x1, x2, x3, x4))) (delT (putT Li (x0, x1, x2, x3, x4) (c - 1)) (x0, x1, x2, x3, x4)) := HT5.out.del (O7.tidy keyK) hkw
        have HT7 : Hid _ := hT7
        have hj1 : IntKind.i64.wrap ((j : Int) + 1) = (j : Int) + 1 := by rw [IntKind.wrap_i64]; omega
        have hol : (outT L (ks.take j)).length ≤ j := Nat.le_trans (List.length_filter_le _ _) (by rw [List.length_take]; exact Nat.min_le_left _ _)
        clear O7 ho7 ht7 g7 b7 hT7 D0 E0 E1 E2 E3 E4
        go_wp2
        go_region
        clear hq7 F0 G0 G1 G2 G3 G4
        go_wp2_with (first
          | (at_builtin; refine wpList_append_own_at _ rfl _ _ 58 rfl w1.heap.size 51 i0 (.agg #[.int .i64 0, .int .i64 0, .int .i64 0, .int .i64 0, .int .i64 0]) 5 40 Try.underlying58 hi hz0 hz1 hz2 rfl (by decide) u3 (outT L (ks.take j)).length ((outT L (ks.take j)).flatMap kV) rfl (World.ownsRow.alloc R7.out _) ⟨w7.heap.size, 0, none⟩ 1 1 [.int .i64 x0, .int .i64 x1, .int .i64 x2, .int .i64 x3, .int .i64 x4] rfl rfl (five_new _ _ _ _ _ _ _) (by simp [Value.oneCell']) (by unfold maxLen; omega) (by omega) (by have := K7.out.size; simp; omega) ?_
             intro v' w8 hown' hgrow hnil hloc; clear hnil)
          | go_in)
        have hgr8 := (World.grownBy_alloc w7 (.cells #[.int .i64 x0, .int .i64 x1, .int .i64 x2, .int .i64 x3, .int .i64 x4] 51) u3.ownBlock).trans hgrow
        have hlow : ∀ g, u3.ownBlock = some g → w1.heap.size ≤ g := fun g hg => (World.ownsRow.lt R7.out g hg).1
        have K8 : Kq (· = bl) w1 w8 := K7.out.grown hgr8 (fun g hg => .inr (hlow g hg))
        have O8 := HO7.out.kept hgr8 (fun e => by have := hlow bl e.symm; omega)
        have R8 : KR w8 w1.heap.size v' (outT L (ks.take j) ++ [(x0, x1, x2, x3, x4)]) := by
          have e7 : (outT L (ks.take j) ++ [(x0, x1, x2, x3, x4)]).flatMap kV = (outT L (ks.take j)).flatMap kV ++ [.int .i64 x0, .int .i64 x1, .int .i64 x2, .int .i64 x3, .int .i64 x4] := by simp [kV]
          unfold KR
          rw [e7, List.length_append]
          exact hown'
        have hk1 : ((x0, x1, x2, x3, x4), (1 : Int)) ∈ L := by have := HKc.out; rw [HC1.out] at this; exact this
        have hlen : (delT (putT Li (x0, x1, x2, x3, x4) (c - 1)) (x0, x1, x2, x3, x4)).length ≤ L.length := by
          have h1 := len_delT (k := (x0, x1, x2, x3, x4)) HTD.out.nd
          have h2 : (delT (putT Li (x0, x1, x2, x3, x4) (c - 1)) (x0, x1, x2, x3, x4)).length ≤ (delT Li (x0, x1, x2, x3, x4)).length := by
            simp only [putT, delT, List.filter_cons, ne_eq, not_true_eq_false, decide_false, Bool.false_eq_true, if_false]
            exact List.length_filter_le _ _
          omega
        refine ⟨⟨j + 1, _, _, by simp, by omega, K8, own_tight O8, HT7.out, hlen, ?_, ?_⟩, by simp [intOf]; omega⟩
        · rw [HTake.out, hcc]; exact HTK.out.zero hpre hk1 T1.out.nd
        · rw [HTake.out, outT_one hk1]; exact R8
      · have hcc : ¬ c - 1 = 0 := by omega
        have hj1 : IntKind.i64.wrap ((j : Int) + 1) = (j : Int) + 1 := by rw [IntKind.wrap_i64]; omega
        have hlen : (putT Li (x0, x1, x2, x3, x4) (c - 1)).length ≤ L.length := by
          have h1 := len_delT (k := (x0, x1, x2, x3, x4)) HTD.out.nd
          rw [if_pos (List.mem_map.mpr ⟨_, (HTK.out.mem _ c).mpr (.inr ⟨hpre, HKc.out⟩), rfl⟩)] at h1
          simp only [putT, List.length_cons]; omega
        go_wp2
        refine ⟨⟨j + 1, _, _, by simp, by omega, K5.out.drew, own_tight (HO5.out.drew), HT5.out, hlen, ?_, ?_⟩, by simp [intOf]; omega⟩
        · rw [HTake.out]; exact HTK.out.more hpre HKc.out (by omega) T1.out.nd
        · rw [HTake.out, outT_more HKc.out (by omega) T1.out.nd]; exact R5.out.keep (S := fun _ => False) (Kq.refl _ _).drew (fun _ _ h => h)

end Go.Proofs.Ytnclfoljfnfglai
