import Derived.Test.YtllhbhogfffedaaGreatDoorJkAs
namespace Go.Proofs.YtllhbhogfffedaaGreatDoor.K
open Go.RowKit
set_option linter.unusedVariables false
set_option linter.unusedSimpArgs false

/-- What Write leaves and answers, as lists. -/
def wrS (D : Dk) (J : Jl) (sync : Bool) : Dk × Jl × Nat :=
  if sync = false ∨ J.k = 0 then (D, J, 0)
  else if (fileD D jN (fun i => synF D.fs i)).2 = 0 then ((fileD D jN (fun i => synF D.fs i)).1, ⟨J.n, 0, J.dead⟩, 0)
  else ((fileD D jN (fun i => synF D.fs i)).1, hdJ J (fileD D jN (fun i => synF D.fs i)).2, (fileD D jN (fun i => synF D.fs i)).2)
def wrA (D : Dk) (J : Jl) (l : List Rc) (sync : Bool) : Dk × Jl × Nat :=
  if l.length = 0 then wrS D J sync
  else if (appD D jN (l.flatMap frB)).2 = 0 then wrS (appD D jN (l.flatMap frB)).1 ⟨J.n + (l.flatMap frB).length, J.k + (l.flatMap frB).length, J.dead⟩ sync
  else ((appD D jN (l.flatMap frB)).1, hdJ J (appD D jN (l.flatMap frB)).2, (appD D jN (l.flatMap frB)).2)
def wrX (D : Dk) (J : Jl) (l : List Rc) (sync : Bool) : Dk × Jl × Nat := if frE J l = 0 then wrA D J l sync else (D, J, frE J l)

/-- A journal and its disk, since w. -/
structure Wj (w V : World) (d x j : Nat) (F : Nat → Prop) (D : Dk) (J : Jl) : Prop where
  foot : ∃ F' : Nat → Prop, Dm V x F' D ∧ ∀ k, F' k → (F k ∨ w.heap.size ≤ k) ∧ k < V.heap.size
  jb : Jb V j d J
  kd : Kd (fun k => F k ∨ k = j) w V
/-- What is the same all along. -/
structure W0 (w : World) (d x j : Nat) (F : Nat → Prop) (aD aF aN : Addr) : Prop where
  s : Snt w F aD aF aN
  c : w.cell? ⟨d, 0, none⟩ = some (.pointer (some ⟨x, 0, none⟩))
  nd : ¬ F d
  nj : ¬ F j
  dj : d ≠ j
  jl : j < w.heap.size
  js : j ≠ aD.block ∧ j ≠ aF.block ∧ j ≠ aN.block ∧ j ≠ 0 ∧ j ≠ 1 ∧ j ≠ 2
section
variable {w V U : World} {d x j : Nat} {F : Nat → Prop} {D D' : Dk} {J J' : Jl} {aD aF aN : Addr}
theorem Wj.start (h : Dm w x F D) (hj : Jb w j d J) : Wj w w d x j F D J := ⟨⟨fc F w, h.fc, fun k q => ⟨.inl q.1, q.2⟩⟩, hj, Kd.refl _ _⟩
theorem Wj.below (h : Wj w V d x j F D J) (hb : Below V.heap.size V U) : Wj w U d x j F D J := by
  obtain ⟨F', h1, h2⟩ := h.foot
  exact ⟨⟨F', h1.below hb, fun k q => ⟨(h2 k q).1, Nat.lt_of_lt_of_le (h2 k q).2 hb.size⟩⟩, (hb.block _ h.jb.lt).trans h.jb, h.kd.trans (Kd.below hb)⟩
theorem Wj.callF {F' : Nat → Prop} (h : Wj w V d x j F D J) (h0 : W0 w d x j F aD aF aN) (h2 : ∀ k, F' k → (F k ∨ w.heap.size ≤ k) ∧ k < V.heap.size) : Snt V F' aD aF aN ∧ V.cell? ⟨d, 0, none⟩ = some (.pointer (some ⟨x, 0, none⟩)) ∧ ¬ F' d ∧ ¬ F' j ∧ ∀ U D', Dm U x (up F' V) D' → Kd F' V U → Wj w U d x j F D' J := by
  have n : ∀ {k}, k < w.heap.size → ¬ F k → ¬ F' k := fun hk hn q => (h2 _ q).1.elim hn (fun q => by omega)
  have hS := h0.s
  have g : ∀ {b : Nat} {v : Value}, w.cell? ⟨b, 0, none⟩ = some v → ¬ F b → b ≠ j → V.cell? ⟨b, 0, none⟩ = some v ∧ ¬ F' b := fun hc hn hj => ⟨h.kd.cell hc (fun q => q.elim hn hj), n (cell_lt hc) hn⟩
  have k : ∀ {a : Addr}, ((∃ (ca : Array Value) (ta : TypeId), w.heap[a.block]? = some (.cells ca ta (0, 0))) ∧ ¬ F a.block) → j ≠ a.block → ((∃ (ca : Array Value) (ta : TypeId), V.heap[a.block]? = some (.cells ca ta (0, 0))) ∧ ¬ F' a.block) := fun ⟨⟨ca, ta, hh⟩, hn⟩ hj => ⟨⟨ca, ta, (h.kd.same _ (Array.getElem?_eq_some_iff.1 hh).1 (fun q => q.elim hn (fun q => hj q.symm))).trans hh⟩, n (Array.getElem?_eq_some_iff.1 hh).1 hn⟩
  obtain ⟨j1, j2, j3, j4, j5, j6⟩ := h0.js
  have gD := g hS.er.d hS.nf.1 (fun e => j4 e.symm)
  have gF := g hS.er.f hS.nf.2.1 (fun e => j5 e.symm)
  have gN := g hS.er.n hS.nf.2.2 (fun e => j6 e.symm)
  have gd := g h0.c h0.nd h0.dj
  refine ⟨⟨⟨gD.1, gF.1, gN.1⟩, ⟨gD.2, gF.2, gN.2⟩, hS.df, hS.dn, hS.fn, k hS.cD j1, k hS.cF j2, k hS.cN j3⟩, gd.1, gd.2, n h0.jl h0.nj, fun U D' hD hK => ?_⟩
  have hv := h.kd.size
  refine ⟨⟨fc (up F' V) U, hD.fc, fun k q => ⟨Or.elim q.1 (fun q => (h2 k q).1) (fun q => .inr (by omega)), q.2⟩⟩, (hK.same _ h.jb.lt (n h0.jl h0.nj)).trans h.jb, Kd.next h.kd hK (fun k q => (h2 k q).1.elim (fun q => .inl (.inl q)) .inr)⟩
theorem Wj.call (h : Wj w V d x j F D J) (h0 : W0 w d x j F aD aF aN) : ∃ F', Dm V x F' D ∧ (∀ k, F' k → (F k ∨ w.heap.size ≤ k) ∧ k < V.heap.size) ∧ Snt V F' aD aF aN ∧ V.cell? ⟨d, 0, none⟩ = some (.pointer (some ⟨x, 0, none⟩)) ∧ ¬ F' d ∧ ¬ F' j ∧ ∀ U D', Dm U x (up F' V) D' → Kd F' V U → Wj w U d x j F D' J := by
  obtain ⟨F', h1, h2⟩ := h.foot
  exact ⟨F', h1, h2, h.callF h0 h2⟩
/-- The journal alone changes. -/
theorem Wj.jour (h : Wj w V d x j F D J) (h0 : W0 w d x j F aD aF aN) (hj : Jb U j d J') (hK : Kd (fun k => k = j) V U) : Wj w U d x j F D J' := by
  obtain ⟨F', h1, h2⟩ := h.foot
  have nj : ¬ F' j := fun q => (h2 _ q).1.elim h0.nj (fun q => by have := h0.jl; omega)
  exact ⟨⟨F', h1.same (fun k q hk => hK.same k hk (fun e => nj (e ▸ q))), fun k q => ⟨(h2 k q).1, Nat.lt_of_lt_of_le (h2 k q).2 hK.size⟩⟩, hj, Kd.next h.kd hK (fun k q => .inl (.inr q))⟩
end
theorem jb_set1 {V : World} {j d : Nat} {J : Jl} {n : Nat} (h : Jb V j d J) : Jb (V.setCell ⟨j, 1, none⟩ (.int .i64 n)) j d ⟨n, J.k, J.dead⟩ := heap_setCell_same _ j 1 _ _ _ h
theorem jb_set2 {V : World} {j d : Nat} {J : Jl} {n : Nat} (h : Jb V j d J) : Jb (V.setCell ⟨j, 2, none⟩ (.int .i64 n)) j d ⟨J.n, n, J.dead⟩ := heap_setCell_same _ j 2 _ _ _ h
theorem kd_set {V : World} {j i : Nat} {v : Value} : Kd (fun k => k = j) V (V.setCell ⟨j, i, none⟩ v) := Kd.set rfl
def WrP (w : World) (d x j : Nat) (F : Nat → Prop) (R : Dk × Jl × Nat) (aD aF aN : Addr) (e : Ending) (w' : World) : Prop := e = .returned (evJ aD aF aN R.2.2) ∧ Wj w w' d x j F R.1 R.2.1
theorem appD_r (D : Dk) (s : ByteArray) (zs : List Int) : (appD D s zs).2 ≤ 3 := by
  have ha : actR D ≤ 3 := by unfold actR; split <;> omega
  unfold appD
  split
  · simp
  · split
    · simp
    · exact ha

set_option maxHeartbeats 16000000 in
set_option maxRecDepth 100000 in
/-- WRITE, of any disk. -/
theorem jwrite_any (w : World) (d x j : Nat) (F : Nat → Prop) (D : Dk) (J : Jl) (B : Nat) (aD aF aN : Addr) (l : List Rc) (a : Option Addr) (n c : Nat) (sync : Bool) (h : Dm w x F D) (hk : D.Ok B) (hB : B ≤ 549755813888) (h0 : W0 w d x j F aD aF aN) (hj : Jb w j d J) (hT : Tab6 w) (hl : l.length = n) (hn : n ≤ 1048576) (ha : RLin w a l) (hd : ∀ r ∈ l, Bytey r.data) (hJn : J.n ≤ 549755813888) (hJk : J.k ≤ 549755813888) (hlb : frE J l = 0 → (l.flatMap frB).length ≤ 137438953472) :
    Calls Tryz.prog 17 #[.pointer (some ⟨j, 0, none⟩), .slice a n c, .bool sync] w fun e w' => WrP w d x j F (wrX D J l sync) aD aF aN e w' := by
  have HFR := jframes_any w j d J l a n c aD aF aN hT hl hn ha hd hj
  unfold FrP at HFR
  obtain ⟨R, hR⟩ : ∃ R, wrX D J l sync = R := ⟨_, rfl⟩
  rw [hR]
  unfold wrX at hR
  have H0 : Hid (W0 w d x j F aD aF aN ∧ D.Ok B ∧ Wj w w d x j F D J) := ⟨h0, hk, Wj.start h hj⟩
  have HFC : Hid (Dm w x (fc F w) D) := h.fc
  have HL : Hid (l.length = n) := hl
  have hby : frE J l = 0 → Bytey (l.flatMap frB) := fun q => by
    have := (frE_live q).2
    refine fr_bytey (fun r hr => ⟨?_, hd r hr⟩)
    unfold fmR at this
    by_cases hm : l.all mayB6 = true
    · exact List.all_eq_true.mp hm r hr
    · rw [if_neg hm] at this; have := congrArg Prod.snd this; simp at this
  clear h hk h0 hj hT hl ha hd
  by_cases hfe : frE J l = 0
  case neg =>
    rw [if_neg hfe] at hR
    have HR : Hid (R = (D, J, frE J l)) := hR.symm
    have hgt : 3 < frE J l := by
      unfold frE at hfe ⊢
      split
      · omega
      · rename_i q
        rw [if_neg q] at hfe
        split
        · rename_i q2; rw [if_pos q2] at hfe; exact absurd rfl hfe
        · omega
    rw [evJ_e hgt] at HFR
    have HFE : Hid (frE J l ≠ 0 ∧ evJ aD aF aN (frE J l) = .iface 55 (.int .i64 (frE J l : Nat))) := ⟨hfe, evJ_e hgt⟩
    generalize frE J l = fe at *
    clear hR hby hfe hgt hlb
    go_enter Tryz.func17, Tryz.ntmps17
    go_wp2_with (go_at_call 45; refine HFR.mono ?_; rintro e V1 ⟨v1, rfl, -, hv1, hb1⟩; have HB1 : Hid (Below w.heap.size w V1) := hb1; have hv1' := hv1 HFE.out.1; subst hv1'; clear hv1 hb1)
    go_ret
    exact ⟨by rw [HR.out]; exact (congrArg Ending.returned HFE.out.2).symm, by rw [HR.out]; exact H0.out.2.2.below HB1.out⟩
  case pos =>
    rw [if_pos hfe] at hR
    have hlb := hlb hfe
    have HBY : Hid (Bytey (l.flatMap frB) ∧ J.dead = false) := ⟨hby hfe, (frE_live hfe).1⟩
    rw [hfe, evJ_nil] at HFR
    simp only [true_implies, ne_eq, not_true, false_implies, true_and] at HFR
    clear hby hfe
    go_enter Tryz.func17, Tryz.ntmps17
    go_wp2_with fail
    refine HFR.mono ?_
    clear HFR
    rintro e V1 ⟨v1, rfl, ho1, hb1⟩
    have hW1 := H0.out.2.2.below hb1
    have hw1 := hb1.size
    have HF1 : Hid (Dm V1 x (fc F w) D) := HFC.out.below hb1
    unfold wrA at hR
    obtain ⟨bs, hbs⟩ : ∃ bs, l.flatMap frB = bs := ⟨_, rfl⟩
    rw [hbs] at ho1 hlb hR HBY
    rw [HL.out] at hR
    obtain ⟨m, hm⟩ : ∃ m, bs.length = m := ⟨_, rfl⟩
    have HM : Hid (bs.length = m) := hm
    rw [hm] at hR ho1 hlb
    obtain ⟨a1, c1, hv1⟩ := d_shape ho1
    subst hv1
    have HO1 : Hid (V1.ownsRow w.heap.size 5 1 (.slice a1 m c1) m (bs.map (Value.int .u8))) := ho1
    clear ho1 hb1 hbs hm
    by_cases hn0 : n = 0
    · rw [if_pos hn0] at hR
      have hz : ¬ (0 : Int) < (n : Int) := by omega
      have HW2 : Hid (Wj w V1 d x j F D J) := hW1
      have hok2 := H0.out.2.1
      clear hn0 hW1
      obtain ⟨V2, hV2⟩ : ∃ V, V1 = V := ⟨_, rfl⟩
      rw [hV2] at HW2 ⊢
      clear HO1 hV2
      have HV2 : Hid (w.heap.size ≤ V2.heap.size) := HW2.out.kd.size
      obtain ⟨D2, hD2⟩ : ∃ D2, D = D2 := ⟨_, rfl⟩
      obtain ⟨J2, hJ2⟩ : ∃ J2, J = J2 := ⟨_, rfl⟩
      have hokB : D2.Ok (B + 137438953472) := by rw [← hD2]; exact hok2.up (by omega)
      have hJ2n : J2.n ≤ 1099511627776 ∧ J2.k ≤ 1099511627776 := by rw [← hJ2]; omega
      rw [hD2, hJ2] at HW2 hR
      clear hok2 hD2 hJ2
      unfold wrS at hR
      have k0 : V2.cell? ⟨j, 0, none⟩ = some (.pointer (some ⟨d, 0, none⟩)) := HW2.out.jb.c 0
      have k2 : V2.cell? ⟨j, 2, none⟩ = some (.int .i64 J2.k) := HW2.out.jb.c 2
      cases sync with
      | false =>
        rw [if_pos (.inl rfl)] at hR
        have HR : Hid (R = (D2, J2, 0)) := hR.symm
        clear hR
        go_wp2
        go_ret
        exact ⟨by rw [HR.out]; rfl, by rw [HR.out]; exact HW2.out⟩
      | true =>
        by_cases hk0 : J2.k = 0
        case pos =>
          rw [if_pos (.inr hk0)] at hR
          have HR : Hid (R = (D2, J2, 0)) := hR.symm
          rw [hk0] at k2
          clear hR hk0
          go_wp2
          go_ret
          exact ⟨by rw [HR.out]; rfl, by rw [HR.out]; exact HW2.out⟩
        case neg =>
          rw [if_neg (by simp [hk0])] at hR
          have hkz : ¬ (J2.k : Int) = 0 := by omega
          obtain ⟨F5, h51, h52, hS5, hc5, nd5, nj5, hnext5⟩ := HW2.out.call H0.out.1
          have HSY := dSync_any V2 d x F5 D2 jN (B + 137438953472) aD aF aN h51 hokB (by omega) hc5 nd5 hS5.er hS5.nf
          have hrr := fileD_r D2 jN (fun i => synF D2.fs i)
          obtain ⟨⟨D5, r5⟩, hR5⟩ : ∃ R : Dk × Nat, fileD D2 jN (fun i => synF D2.fs i) = R := ⟨_, rfl⟩
          unfold MP at HSY
          rw [hR5] at HSY hR hrr
          simp only at HSY hR hrr
          unfold jN at HSY
          have HNX5 : Hid (∀ U D', Dm U x (up F5 V2) D' → Kd F5 V2 U → Wj w U d x j F D' J2) := hnext5
          clear hR5 hnext5 h51 h52 hS5 hc5 nd5 nj5 hk0
          go_wp2_with fail
          refine HSY.mono ?_
          clear HSY
          rintro e V5 ⟨rfl, hD5, hK5⟩
          have hW5 := HNX5.out V5 D5 hD5 hK5
          clear hD5 hK5 HNX5 k0 k2
          obtain ⟨F6, -, -, hS6, -, -, -, -⟩ := hW5.call H0.out.1
          have HH := heard_any V5 j d J2 r5 F6 aD aF aN hrr hS6 hW5.jb
          clear hS6
          obtain ⟨ev5, hev5⟩ : ∃ ev, evD aD aF aN r5 = ev := ⟨_, rfl⟩
          rw [hev5] at HH ⊢
          have HEV5 : Hid (evD aD aF aN r5 = ev5 ∧ r5 ≤ 3 ∧ Wj w V5 d x j F D5 J2) := ⟨hev5, hrr, hW5⟩
          clear hW5 hev5 hrr
          go_wp2_with fail
          refine HH.mono ?_
          clear HH
          rintro e V6 ⟨rfl, hj6, hK6⟩
          have HW6 : Hid (Wj w V6 d x j F D5 (hdJ J2 r5)) := HEV5.out.2.2.jour H0.out.1 hj6 hK6
          clear hj6 hK6
          by_cases hr5 : r5 = 0
          case neg =>
            rw [if_neg hr5] at hR
            have HR : Hid (R = (D5, hdJ J2 r5, r5)) := hR.symm
            obtain ⟨ae, hae⟩ := evD_some (aD := aD) (aF := aF) (aN := aN) hr5
            have HAE : Hid (evJ aD aF aN r5 = .iface 218 (.pointer (some ae))) := by show _ = _; rw [evJ_d HEV5.out.2.1, hae]
            have he2 : ev5 = .iface 218 (.pointer (some ae)) := by rw [← HEV5.out.1, hae]
            rw [he2]
            clear hR hr5 hae he2 HEV5
            go_wp2
            go_ret
            exact ⟨by rw [HR.out]; exact (congrArg Ending.returned HAE.out).symm, by rw [HR.out]; exact HW6.out⟩
          case pos =>
            rw [if_pos hr5] at hR
            have HR : Hid (R = (D5, ⟨J2.n, 0, J2.dead⟩, 0)) := hR.symm
            have he2 : ev5 = .nilIface := by rw [← HEV5.out.1, hr5]; rfl
            have hdj : hdJ J2 r5 = J2 := by rw [hr5]; rfl
            rw [he2]
            rw [hdj] at HW6
            clear hR hr5 he2 hdj HEV5
            have k2 : V6.cell? ⟨j, 2, none⟩ = some (.int .i64 J2.k) := HW6.out.jb.c 2
            have z2 := HW6.out.jb.z 2
            have HW7 : Hid (Wj w (V6.setCell ⟨j, 2, none⟩ (.int .i64 0)) d x j F D5 ⟨J2.n, 0, J2.dead⟩) := HW6.out.jour H0.out.1 (jb_set2 (n := 0) HW6.out.jb) kd_set
            go_wp2
            go_ret
            exact ⟨by rw [HR.out]; rfl, by rw [HR.out]; exact HW7.out⟩
    · rw [if_neg hn0] at hR
      have hz : (0 : Int) < (n : Int) := by omega
      clear hn0
      obtain ⟨F1, hF1⟩ : ∃ F1, fc F w = F1 := ⟨_, rfl⟩
      have h1 := HF1.out
      have h2 : ∀ k, F1 k → F k ∧ k < w.heap.size := fun k q => by rw [← hF1] at q; exact q
      rw [hF1] at h1
      obtain ⟨hS1, hc1, nd1, nj1, hnext⟩ := hW1.callF (F' := F1) H0.out.1 (fun k q => ⟨.inl (h2 k q).1, by have := (h2 k q).2; omega⟩)
      obtain ⟨hz1, hnn1, hcc1, hll1⟩ := lies_own (own_low7 HO1.out (Nat.zero_le _))
      have HAP := dAppend_any V1 d x F1 D jN a1 m c1 bs B aD aF aN h1 H0.out.2.1 (by omega) hc1 nd1 hS1.er hS1.nf HM.out hz1 (fun b off hne e q => by
        have hb := (World.ownsRow.lt HO1.out b (by rw [e]; rfl)).1
        have := (h2 b q).2
        omega) hnn1 (by omega)
      have hrr := appD_r D jN bs
      have hok1 : (appD D jN bs).1.Ok (B + 137438953472) := ok_app H0.out.2.1 HBY.out.1 (by rw [HM.out]; omega) (by omega)
      unfold MP at HAP
      obtain ⟨⟨D2, r2⟩, hR2⟩ : ∃ R : Dk × Nat, appD D jN bs = R := ⟨_, rfl⟩
      rw [hR2] at HAP hR hrr hok1
      simp only at HAP hR hrr hok1
      unfold jN at HAP
      have HNX : Hid (∀ U D', Dm U x (up F1 V1) D' → Kd F1 V1 U → Wj w U d x j F D' J) := hnext
      have k0 : V1.cell? ⟨j, 0, none⟩ = some (.pointer (some ⟨d, 0, none⟩)) := hW1.jb.c 0
      clear hR2 hnext h1 h2 hF1 HF1 hS1 hc1 nd1 nj1 hz1 hnn1 hcc1 hll1 hW1
      go_wp2_with fail
      refine HAP.mono ?_
      clear HAP
      rintro e V2 ⟨rfl, hD2, hK2⟩
      have hW2 := HNX.out V2 D2 hD2 hK2
      clear hD2 hK2 HNX k0
      obtain ⟨F2, -, -, hS2, -, -, -, -⟩ := hW2.call H0.out.1
      have HH := heard_any V2 j d J r2 F2 aD aF aN hrr hS2 hW2.jb
      clear hS2
      obtain ⟨ev, hev⟩ : ∃ ev, evD aD aF aN r2 = ev := ⟨_, rfl⟩
      rw [hev] at HH ⊢
      have HEV : Hid (evD aD aF aN r2 = ev ∧ r2 ≤ 3 ∧ Wj w V2 d x j F D2 J) := ⟨hev, hrr, hW2⟩
      clear hW2 hev hrr
      go_wp2_with fail
      refine HH.mono ?_
      clear HH
      rintro e V3 ⟨rfl, hj3, hK3⟩
      have HW3 : Hid (Wj w V3 d x j F D2 (hdJ J r2)) := HEV.out.2.2.jour H0.out.1 hj3 hK3
      clear hj3 hK3
      by_cases hr2 : r2 = 0
      case neg =>
        rw [if_neg hr2] at hR
        have HR : Hid (R = (D2, hdJ J r2, r2)) := hR.symm
        obtain ⟨ae, hae⟩ := evD_some (aD := aD) (aF := aF) (aN := aN) hr2
        have HAE : Hid (evJ aD aF aN r2 = .iface 218 (.pointer (some ae))) := by show _ = _; rw [evJ_d HEV.out.2.1, hae]
        have he2 : ev = .iface 218 (.pointer (some ae)) := by rw [← HEV.out.1, hae]
        rw [he2]
        clear hR hr2 hae he2 HEV
        go_wp2
        go_ret
        exact ⟨by rw [HR.out]; exact (congrArg Ending.returned HAE.out).symm, by rw [HR.out]; exact HW3.out⟩
      case pos =>
        rw [if_pos hr2] at hR
        have he2 : ev = .nilIface := by rw [← HEV.out.1, hr2]; rfl
        have hdj : hdJ J r2 = J := by rw [hr2]; rfl
        rw [he2]
        rw [hdj] at HW3
        clear hr2 he2 hdj HEV
        have k1 : V3.cell? ⟨j, 1, none⟩ = some (.int .i64 J.n) := HW3.out.jb.c 1
        have k2 : V3.cell? ⟨j, 2, none⟩ = some (.int .i64 J.k) := HW3.out.jb.c 2
        have z1 := HW3.out.jb.z 1
        have z2 := HW3.out.jb.z 2
        have q1 : IntKind.i64.wrap ((J.n : Int) + (m : Int)) = (J.n : Int) + (m : Int) := by rw [IntKind.wrap_i64]; omega
        have q2 : IntKind.i64.wrap ((J.k : Int) + (m : Int)) = (J.k : Int) + (m : Int) := by rw [IntKind.wrap_i64]; omega
        obtain ⟨V4, hV4⟩ : ∃ V, (V3.setCell ⟨j, 1, none⟩ (.int .i64 ((J.n : Int) + (m : Int)))).setCell ⟨j, 2, none⟩ (.int .i64 ((J.k : Int) + (m : Int))) = V := ⟨_, rfl⟩
        have HW4 : Hid (Wj w V4 d x j F D2 ⟨J.n + m, J.k + m, J.dead⟩) := by
          have e1 := jb_set1 (n := J.n + m) HW3.out.jb
          have e2 := jb_set2 (n := J.k + m) e1
          have := HW3.out.jour H0.out.1 e2 ((kd_set (V := V3)).trans kd_set)
          rw [show (((J.n + m : Nat) : Int)) = (J.n : Int) + (m : Int) by omega, show (((J.k + m : Nat) : Int)) = (J.k : Int) + (m : Int) by omega, hV4] at this
          exact this
        clear HW3
        obtain ⟨J4, hJ4⟩ : ∃ J4 : Jl, ⟨J.n + m, J.k + m, J.dead⟩ = J4 := ⟨_, rfl⟩
        rw [hJ4] at HW4 hR
        have hokB := hok1
        clear hJ4 hok1
        go_upto_region 10 with fail
        clear k1 k2 z1 z2 hV4
        unfold wrS at hR
        have k0 : V4.cell? ⟨j, 0, none⟩ = some (.pointer (some ⟨d, 0, none⟩)) := HW4.out.jb.c 0
        have k2 : V4.cell? ⟨j, 2, none⟩ = some (.int .i64 J4.k) := HW4.out.jb.c 2
        cases sync with
        | false =>
          rw [if_pos (.inl rfl)] at hR
          have HR : Hid (R = (D2, J4, 0)) := hR.symm
          clear hR
          go_wp2
          go_ret
          exact ⟨by rw [HR.out]; rfl, by rw [HR.out]; exact HW4.out⟩
        | true =>
          by_cases hk0 : J4.k = 0
          case pos =>
            rw [if_pos (.inr hk0)] at hR
            have HR : Hid (R = (D2, J4, 0)) := hR.symm
            rw [hk0] at k2
            clear hR hk0
            go_wp2
            go_ret
            exact ⟨by rw [HR.out]; rfl, by rw [HR.out]; exact HW4.out⟩
          case neg =>
            rw [if_neg (by simp [hk0])] at hR
            have hkz : ¬ (J4.k : Int) = 0 := by omega
            obtain ⟨F5, h51, h52, hS5, hc5, nd5, nj5, hnext5⟩ := HW4.out.call H0.out.1
            have HSY := dSync_any V4 d x F5 D2 jN (B + 137438953472) aD aF aN h51 hokB (by omega) hc5 nd5 hS5.er hS5.nf
            have hrr := fileD_r D2 jN (fun i => synF D2.fs i)
            obtain ⟨⟨D5, r5⟩, hR5⟩ : ∃ R : Dk × Nat, fileD D2 jN (fun i => synF D2.fs i) = R := ⟨_, rfl⟩
            unfold MP at HSY
            rw [hR5] at HSY hR hrr
            simp only at HSY hR hrr
            unfold jN at HSY
            have HNX5 : Hid (∀ U D', Dm U x (up F5 V4) D' → Kd F5 V4 U → Wj w U d x j F D' J4) := hnext5
            clear hR5 hnext5 h51 h52 hS5 hc5 nd5 nj5 hk0
            go_wp2_with fail
            refine HSY.mono ?_
            clear HSY
            rintro e V5 ⟨rfl, hD5, hK5⟩
            have hW5 := HNX5.out V5 D5 hD5 hK5
            clear hD5 hK5 HNX5 k0 k2
            obtain ⟨F6, -, -, hS6, -, -, -, -⟩ := hW5.call H0.out.1
            have HH := heard_any V5 j d J4 r5 F6 aD aF aN hrr hS6 hW5.jb
            clear hS6
            obtain ⟨ev5, hev5⟩ : ∃ ev, evD aD aF aN r5 = ev := ⟨_, rfl⟩
            rw [hev5] at HH ⊢
            have HEV5 : Hid (evD aD aF aN r5 = ev5 ∧ r5 ≤ 3 ∧ Wj w V5 d x j F D5 J4) := ⟨hev5, hrr, hW5⟩
            clear hW5 hev5 hrr
            go_wp2_with fail
            refine HH.mono ?_
            clear HH
            rintro e V6 ⟨rfl, hj6, hK6⟩
            have HW6 : Hid (Wj w V6 d x j F D5 (hdJ J4 r5)) := HEV5.out.2.2.jour H0.out.1 hj6 hK6
            clear hj6 hK6
            by_cases hr5 : r5 = 0
            case neg =>
              rw [if_neg hr5] at hR
              have HR : Hid (R = (D5, hdJ J4 r5, r5)) := hR.symm
              obtain ⟨ae, hae⟩ := evD_some (aD := aD) (aF := aF) (aN := aN) hr5
              have HAE : Hid (evJ aD aF aN r5 = .iface 218 (.pointer (some ae))) := by show _ = _; rw [evJ_d HEV5.out.2.1, hae]
              have he2 : ev5 = .iface 218 (.pointer (some ae)) := by rw [← HEV5.out.1, hae]
              rw [he2]
              clear hR hr5 hae he2 HEV5
              go_wp2
              go_ret
              exact ⟨by rw [HR.out]; exact (congrArg Ending.returned HAE.out).symm, by rw [HR.out]; exact HW6.out⟩
            case pos =>
              rw [if_pos hr5] at hR
              have HR : Hid (R = (D5, ⟨J4.n, 0, J4.dead⟩, 0)) := hR.symm
              have he2 : ev5 = .nilIface := by rw [← HEV5.out.1, hr5]; rfl
              have hdj : hdJ J4 r5 = J4 := by rw [hr5]; rfl
              rw [he2]
              rw [hdj] at HW6
              clear hR hr5 he2 hdj HEV5
              have k2 : V6.cell? ⟨j, 2, none⟩ = some (.int .i64 J4.k) := HW6.out.jb.c 2
              have z2 := HW6.out.jb.z 2
              have HW7 : Hid (Wj w (V6.setCell ⟨j, 2, none⟩ (.int .i64 0)) d x j F D5 ⟨J4.n, 0, J4.dead⟩) := HW6.out.jour H0.out.1 (jb_set2 (n := 0) HW6.out.jb) kd_set
              go_wp2
              go_ret
              exact ⟨by rw [HR.out]; rfl, by rw [HR.out]; exact HW7.out⟩
end Go.Proofs.YtllhbhogfffedaaGreatDoor.K
