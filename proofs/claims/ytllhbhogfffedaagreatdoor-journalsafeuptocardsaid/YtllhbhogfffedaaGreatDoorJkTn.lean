import Derived.Test.YtllhbhogfffedaaGreatDoorJkWr
import Derived.Deep.RegionHeld3
namespace Go.Proofs.YtllhbhogfffedaaGreatDoor.K
open Go.RowKit
set_option linter.unusedVariables false
set_option linter.unusedSimpArgs false

theorem Wj.drew {w V : World} {d x j : Nat} {F : Nat → Prop} {D : Dk} {J : Jl} (h : Wj w V d x j F D J) : Wj w V.drew d x j F D J := by
  obtain ⟨F', h1, h2⟩ := h.foot
  exact ⟨⟨F', h1.same (fun k _ _ => rfl), h2⟩, h.jb, h.kd.drew⟩
/-- What an act of a rewriting answers. -/
def TnP (w : World) (d x j : Nat) (F : Nat → Prop) (J : Jl) (R : Dk × Nat) (aD aF aN : Addr) (e : Ending) (w' : World) : Prop := e = .returned (evD aD aF aN R.2) ∧ Wj w w' d x j F R.1 J

set_option maxHeartbeats 4000000 in
set_option maxRecDepth 20000 in
theorem rw1_any (w : World) (d x j bj bb : Nat) (F : Nat → Prop) (D : Dk) (J : Jl) (B : Nat) (aD aF aN : Addr) (a : Option Addr) (n c : Nat) (bs : List Int) (h : Dm w x F D) (hF : ∀ k, F k → k < w.heap.size) (hj : Jb w j d J) (h0 : W0 w d x j F aD aF aN) (hk : D.Ok B) (hB : B ≤ 1099511627776) (hb : w.cell? ⟨bj, 0, none⟩ = some (.pointer (some ⟨j, 0, none⟩))) (hbb : w.cell? ⟨bb, 0, none⟩ = some (.slice a n c)) (nbj : ¬ F bj) (nbb : ¬ F bb)
    (hl : bs.length = n) (hz : Lies .u8 w a bs) (hzF : ∀ b off, bs ≠ [] → a = some ⟨b, off, none⟩ → ¬ F b) (hnn : a = none → n = 0 ∧ c = 0) (hn : n ≤ 1099511627776) :
    Calls Tryz.prog 48 #[.pointer (some ⟨bj, 0, none⟩), .pointer (some ⟨bb, 0, none⟩)] w fun e U => TnP w d x j F J (appD D jnN bs) aD aF aN e U := by
  have hW := (Wj.start h hj).drew
  obtain ⟨hS, hc, nd, nj, hnx⟩ := hW.callF (F' := F) h0 (fun k q => ⟨.inl q, hF k q⟩)
  have HA := dAppend_any w.drew d x F D jnN a n c bs B aD aF aN (h.same (fun k _ _ => rfl)) hk hB hc nd hS.er hS.nf hl hz hzF hnn hn
  unfold MP at HA
  have k0 : w.cell? ⟨j, 0, none⟩ = some (.pointer (some ⟨d, 0, none⟩)) := hj.c 0
  have HNX : Hid (∀ U D', Dm U x (up F w.drew) D' → Kd F w.drew U → Wj w U d x j F D' J) := hnx
  obtain ⟨⟨D2, r⟩, hR⟩ : ∃ R : Dk × Nat, appD D jnN bs = R := ⟨_, rfl⟩
  rw [hR] at HA ⊢
  simp only at HA ⊢
  unfold jnN at HA
  obtain ⟨ev, hev⟩ : ∃ ev, evD aD aF aN r = ev := ⟨_, rfl⟩
  have HEV : Hid (evD aD aF aN r = ev) := hev
  rw [hev] at HA
  have HNF : Hid (¬ F bj ∧ ¬ F j ∧ ¬ F bb) := ⟨nbj, h0.nj, nbb⟩
  have HA' : Hid (Calls Tryz.prog 25 #[.pointer (some ⟨d, 0, none⟩), .string ⟨#[106, 111, 117, 114, 110, 97, 108, 46, 110, 101, 119]⟩, .slice a n c] w.drew fun e w' => e = .returned ev ∧ Dm w' x (up F w.drew) D2 ∧ Kd F w.drew w') := HA
  clear h h0 hk hF hj hS hc nd nj hnx hev hR hl hz hzF hnn hW HA
  go_enter Tryz.func48, Tryz.ntmps48
  go_wp2_with fail
  have HC : Hid (w.cell? ⟨bj, 0, none⟩ = some (.pointer (some ⟨j, 0, none⟩)) ∧ w.cell? ⟨j, 0, none⟩ = some (.pointer (some ⟨d, 0, none⟩)) ∧ w.cell? ⟨bb, 0, none⟩ = some (.slice a n c)) := ⟨hb, k0, hbb⟩
  go_region_held3 (fun V => V.cell? ⟨bj, 0, none⟩ = some (.pointer (some ⟨j, 0, none⟩)) ∧ V.cell? ⟨j, 0, none⟩ = some (.pointer (some ⟨d, 0, none⟩)) ∧ V.cell? ⟨bb, 0, none⟩ = some (.slice a n c))
    (first | exact HC.out | exact HU.out)
    (first
      | (go_at_call 25
         refine HA'.out.mono ?_
         rintro e U ⟨rfl, hD, hK⟩
         have HW : Hid (Wj w U d x j F D2 J) := HNX.out U D2 hD hK
         have HU : Hid (U.cell? ⟨bj, 0, none⟩ = some (.pointer (some ⟨j, 0, none⟩)) ∧ U.cell? ⟨j, 0, none⟩ = some (.pointer (some ⟨d, 0, none⟩)) ∧ U.cell? ⟨bb, 0, none⟩ = some (.slice a n c)) := ⟨hK.cell HC.out.1 HNF.out.1, hK.cell HC.out.2.1 HNF.out.2.1, hK.cell HC.out.2.2 HNF.out.2.2⟩
         clear hD hK))
  all_goals (
    go_wp2
    go_ret
    exact ⟨by rw [HEV.out]; rfl, HW.out⟩)

set_option maxHeartbeats 4000000 in
set_option maxRecDepth 20000 in
theorem rw2_any (w V : World) (d x j bj : Nat) (F : Nat → Prop) (D : Dk) (J : Jl) (B : Nat) (aD aF aN : Addr) (h : Wj w V d x j F D J) (h0 : W0 w d x j F aD aF aN) (hk : D.Ok B) (hB : B ≤ 1099511627776) (hb : V.cell? ⟨bj, 0, none⟩ = some (.pointer (some ⟨j, 0, none⟩))) :
    Calls Tryz.prog 49 #[.pointer (some ⟨bj, 0, none⟩)] V fun e U => TnP w d x j F J (fileD D jnN (fun i => synF D.fs i)) aD aF aN e U := by
  obtain ⟨F', h1, h2, hS, hc, nd, nj, hnx⟩ := h.call h0
  have HA := dSync_any V d x F' D jnN B aD aF aN h1 hk hB hc nd hS.er hS.nf
  unfold MP at HA
  have k0 : V.cell? ⟨j, 0, none⟩ = some (.pointer (some ⟨d, 0, none⟩)) := h.jb.c 0
  have HNX : Hid (∀ U D', Dm U x (up F' V) D' → Kd F' V U → Wj w U d x j F D' J) := hnx
  obtain ⟨⟨D2, r⟩, hR⟩ : ∃ R : Dk × Nat, fileD D jnN (fun i => synF D.fs i) = R := ⟨_, rfl⟩
  rw [hR] at HA ⊢
  simp only at HA ⊢
  unfold jnN at HA
  obtain ⟨ev, hev⟩ : ∃ ev, evD aD aF aN r = ev := ⟨_, rfl⟩
  have HEV : Hid (evD aD aF aN r = ev) := hev
  rw [hev] at HA
  clear h h0 hk h1 h2 hS hc nd nj hnx hev hR
  go_enter Tryz.func49, Tryz.ntmps49
  go_wp2_with fail
  refine HA.mono ?_
  clear HA
  rintro e U ⟨rfl, hD, hK⟩
  have HW : Hid (Wj w U d x j F D2 J) := HNX.out U D2 hD hK
  clear hD hK
  go_wp2
  go_ret
  exact ⟨by rw [HEV.out]; rfl, HW.out⟩

set_option maxHeartbeats 4000000 in
set_option maxRecDepth 20000 in
theorem rw3_any (w V : World) (d x j bj : Nat) (F : Nat → Prop) (D : Dk) (J : Jl) (B : Nat) (aD aF aN : Addr) (h : Wj w V d x j F D J) (h0 : W0 w d x j F aD aF aN) (hk : D.Ok B) (hB : B ≤ 1099511627776) (hb : V.cell? ⟨bj, 0, none⟩ = some (.pointer (some ⟨j, 0, none⟩))) :
    Calls Tryz.prog 50 #[.pointer (some ⟨bj, 0, none⟩)] V fun e U => TnP w d x j F J (fileD D jnN (fun i => renF D.fs i jN)) aD aF aN e U := by
  obtain ⟨F', h1, h2, hS, hc, nd, nj, hnx⟩ := h.call h0
  have HA := dRename_any V d x F' D jnN jN B aD aF aN h1 hk hB hc nd hS.er hS.nf
  unfold MP at HA
  have k0 : V.cell? ⟨j, 0, none⟩ = some (.pointer (some ⟨d, 0, none⟩)) := h.jb.c 0
  have HNX : Hid (∀ U D', Dm U x (up F' V) D' → Kd F' V U → Wj w U d x j F D' J) := hnx
  obtain ⟨⟨D2, r⟩, hR⟩ : ∃ R : Dk × Nat, fileD D jnN (fun i => renF D.fs i jN) = R := ⟨_, rfl⟩
  rw [hR] at HA ⊢
  simp only at HA ⊢
  unfold jnN jN at HA
  obtain ⟨ev, hev⟩ : ∃ ev, evD aD aF aN r = ev := ⟨_, rfl⟩
  have HEV : Hid (evD aD aF aN r = ev) := hev
  rw [hev] at HA
  clear h h0 hk h1 h2 hS hc nd nj hnx hev hR
  go_enter Tryz.func50, Tryz.ntmps50
  go_wp2_with fail
  refine HA.mono ?_
  clear HA
  rintro e U ⟨rfl, hD, hK⟩
  have HW : Hid (Wj w U d x j F D2 J) := HNX.out U D2 hD hK
  clear hD hK
  go_wp2
  go_ret
  exact ⟨by rw [HEV.out]; rfl, HW.out⟩

/-- What the acts of a rewriting leave and answer, in their turn. -/
def tn3 (D : Dk) (J : Jl) : Dk × Jl × Nat := ((fileD D jnN (fun i => renF D.fs i jN)).1, hdJ J (fileD D jnN (fun i => renF D.fs i jN)).2, (fileD D jnN (fun i => renF D.fs i jN)).2)
def tn2 (D : Dk) (J : Jl) : Dk × Jl × Nat := if (fileD D jnN (fun i => synF D.fs i)).2 = 0 then tn3 (fileD D jnN (fun i => synF D.fs i)).1 J else ((fileD D jnN (fun i => synF D.fs i)).1, hdJ J (fileD D jnN (fun i => synF D.fs i)).2, (fileD D jnN (fun i => synF D.fs i)).2)
def tnX (D : Dk) (J : Jl) (bs : List Int) : Dk × Jl × Nat := if (appD D jnN bs).2 = 0 then tn2 (appD D jnN bs).1 J else ((appD D jnN bs).1, hdJ J (appD D jnN bs).2, (appD D jnN bs).2)
theorem tn_r (D : Dk) (J : Jl) (bs : List Int) : (tnX D J bs).2.2 ≤ 3 := by
  unfold tnX
  split
  · unfold tn2
    split
    · exact fileD_r ..
    · exact fileD_r ..
  · exact appD_r ..

set_option maxHeartbeats 8000000 in
set_option maxRecDepth 20000 in
theorem inTurn_any (w : World) (d x j bj bb g : Nat) (F : Nat → Prop) (D : Dk) (J : Jl) (B : Nat) (aD aF aN : Addr) (a : Option Addr) (n c : Nat) (bs : List Int) (h : Dm w x F D) (hF : ∀ k, F k → k < w.heap.size) (hj : Jb w j d J) (h0 : W0 w d x j F aD aF aN) (hk : D.Ok B) (hB : B ≤ 549755813888) (hb : w.cell? ⟨bj, 0, none⟩ = some (.pointer (some ⟨j, 0, none⟩))) (hbb : w.cell? ⟨bb, 0, none⟩ = some (.slice a n c)) (nbj : ¬ F bj) (nbb : ¬ F bb) (jbj : bj ≠ j) (ng : ¬ F g) (jg : g ≠ j)
    (hl : bs.length = n) (hz : Lies .u8 w a bs) (hby : Bytey bs) (hzF : ∀ b off, bs ≠ [] → a = some ⟨b, off, none⟩ → ¬ F b) (hnn : a = none → n = 0 ∧ c = 0) (hn : n ≤ 137438953472)
    (g0 : w.cell? ⟨g, 0, none⟩ = some (.func (.func 48) #[] #[.pointer (some ⟨bj, 0, none⟩), .pointer (some ⟨bb, 0, none⟩)])) (g1 : w.cell? ⟨g, 1, none⟩ = some (.func (.func 49) #[] #[.pointer (some ⟨bj, 0, none⟩)])) (g2 : w.cell? ⟨g, 2, none⟩ = some (.func (.func 50) #[] #[.pointer (some ⟨bj, 0, none⟩)])) :
    Calls Tryz.prog 47 #[.pointer (some ⟨j, 0, none⟩), .slice (some ⟨g, 0, none⟩) 3 3] w fun e U => WrP w d x j F (tnX D J bs) aD aF aN e U := by
  have HA := rw1_any w d x j bj bb F D J B aD aF aN a n c bs h hF hj h0 hk (by omega) hb hbb nbj nbb hl hz hzF hnn (by omega)
  have hrr := appD_r D jnN bs
  have hok1 : (appD D jnN bs).1.Ok (B + 137438953473) := ok_app hk hby (by rw [hl]; omega) (by omega)
  obtain ⟨R, hR⟩ : ∃ R, tnX D J bs = R := ⟨_, rfl⟩
  rw [hR]
  unfold tnX at hR
  have H0 : Hid (W0 w d x j F aD aF aN ∧ w.cell? ⟨bj, 0, none⟩ = some (.pointer (some ⟨j, 0, none⟩)) ∧ (¬ (F bj ∨ bj = j)) ∧ (¬ (F g ∨ g = j)) ∧ w.cell? ⟨g, 1, none⟩ = some (.func (.func 49) #[] #[.pointer (some ⟨bj, 0, none⟩)]) ∧ w.cell? ⟨g, 2, none⟩ = some (.func (.func 50) #[] #[.pointer (some ⟨bj, 0, none⟩)])) := ⟨h0, hb, fun q => q.elim nbj jbj, fun q => q.elim ng jg, g1, g2⟩
  unfold TnP at HA
  obtain ⟨⟨D1, r1⟩, hR1⟩ : ∃ R : Dk × Nat, appD D jnN bs = R := ⟨_, rfl⟩
  rw [hR1] at HA hR hrr hok1
  simp only at HA hR hrr hok1
  clear h hF hj h0 hk hb hbb nbj nbb jbj ng jg hl hz hby hzF hnn hR1 g1 g2
  go_enter Tryz.func47, Tryz.ntmps47
  go_wp2_with fail
  refine wp_loop_rounds 4 ?_
  rw [rounds_succ]
  go_wp2_with fail
  refine HA.mono ?_
  clear HA
  rintro e V1 ⟨rfl, hW1⟩
  obtain ⟨FF1, -, -, hS1, -, -, -, -⟩ := hW1.call H0.out.1
  have HH := heard_any V1 j d J r1 FF1 aD aF aN hrr hS1 hW1.jb
  clear hS1
  obtain ⟨ev1, hev1⟩ : ∃ ev, evD aD aF aN r1 = ev := ⟨_, rfl⟩
  rw [hev1] at HH ⊢
  have HEV1 : Hid (evD aD aF aN r1 = ev1 ∧ r1 ≤ 3 ∧ Wj w V1 d x j F D1 J) := ⟨hev1, hrr, hW1⟩
  clear hW1 hev1 hrr
  go_wp2_with fail
  refine HH.mono ?_
  clear HH
  rintro e U1 ⟨rfl, hj1, hK1⟩
  have HU1 : Hid (Wj w U1 d x j F D1 (hdJ J r1)) := HEV1.out.2.2.jour H0.out.1 hj1 hK1
  clear hj1 hK1
  by_cases hr1 : r1 = 0
  case neg =>
    rw [if_neg hr1] at hR
    have HR : Hid (R = (D1, hdJ J r1, r1)) := hR.symm
    obtain ⟨ae, hae⟩ := evD_some (aD := aD) (aF := aF) (aN := aN) hr1
    have HAE : Hid (evJ aD aF aN r1 = .iface 218 (.pointer (some ae))) := by show _ = _; rw [evJ_d HEV1.out.2.1, hae]
    have he2 : ev1 = .iface 218 (.pointer (some ae)) := by rw [← HEV1.out.1, hae]
    rw [he2]
    clear hR hr1 hae he2 HEV1
    go_wp2
    go_ret
    exact ⟨by rw [HR.out]; exact (congrArg Ending.returned HAE.out).symm, by rw [HR.out]; exact HU1.out⟩
  case pos =>
    rw [if_pos hr1] at hR
    have he2 : ev1 = .nilIface := by rw [← HEV1.out.1, hr1]; rfl
    have hdj : hdJ J r1 = J := by rw [hr1]; rfl
    rw [he2]
    rw [hdj] at HU1
    clear hr1 he2 hdj HEV1
    unfold tn2 at hR
    have HB1 := rw2_any w U1 d x j bj F D1 J (B + 137438953473) aD aF aN HU1.out H0.out.1 hok1 (by omega) (HU1.out.kd.cell H0.out.2.1 H0.out.2.2.1)
    have hrr := fileD_r D1 jnN (fun i => synF D1.fs i)
    have hok2 : (fileD D1 jnN (fun i => synF D1.fs i)).1.Ok (B + 137438953473) := ok_file hok1 (fun i => fsok_syn hok1.files)
    unfold TnP at HB1
    obtain ⟨⟨D2, r2⟩, hR2⟩ : ∃ R : Dk × Nat, fileD D1 jnN (fun i => synF D1.fs i) = R := ⟨_, rfl⟩
    rw [hR2] at HB1 hR hrr hok2
    simp only at HB1 hR hrr hok2
    have gg : U1.cell? ⟨g, 1, none⟩ = _ := HU1.out.kd.cell H0.out.2.2.2.2.1 H0.out.2.2.2.1
    clear hR2
    go_wp2_with fail
    rw [rounds_succ]
    go_wp2_with fail
    clear gg
    refine HB1.mono ?_
    clear HB1
    rintro e V2 ⟨rfl, hW2⟩
    obtain ⟨FF2, -, -, hS2, -, -, -, -⟩ := hW2.call H0.out.1
    have HH := heard_any V2 j d J r2 FF2 aD aF aN hrr hS2 hW2.jb
    clear hS2
    obtain ⟨ev2, hev2⟩ : ∃ ev, evD aD aF aN r2 = ev := ⟨_, rfl⟩
    rw [hev2] at HH ⊢
    have HEV2 : Hid (evD aD aF aN r2 = ev2 ∧ r2 ≤ 3 ∧ Wj w V2 d x j F D2 J) := ⟨hev2, hrr, hW2⟩
    clear hW2 hev2 hrr
    go_wp2_with fail
    refine HH.mono ?_
    clear HH
    rintro e U2 ⟨rfl, hj2, hK2⟩
    have HU2 : Hid (Wj w U2 d x j F D2 (hdJ J r2)) := HEV2.out.2.2.jour H0.out.1 hj2 hK2
    clear hj2 hK2
    by_cases hr2 : r2 = 0
    case neg =>
      rw [if_neg hr2] at hR
      have HR : Hid (R = (D2, hdJ J r2, r2)) := hR.symm
      obtain ⟨ae, hae⟩ := evD_some (aD := aD) (aF := aF) (aN := aN) hr2
      have HAE : Hid (evJ aD aF aN r2 = .iface 218 (.pointer (some ae))) := by show _ = _; rw [evJ_d HEV2.out.2.1, hae]
      have he2 : ev2 = .iface 218 (.pointer (some ae)) := by rw [← HEV2.out.1, hae]
      rw [he2]
      clear hR hr2 hae he2 HEV2
      go_wp2
      go_ret
      exact ⟨by rw [HR.out]; exact (congrArg Ending.returned HAE.out).symm, by rw [HR.out]; exact HU2.out⟩
    case pos =>
      rw [if_pos hr2] at hR
      have he2 : ev2 = .nilIface := by rw [← HEV2.out.1, hr2]; rfl
      have hdj : hdJ J r2 = J := by rw [hr2]; rfl
      rw [he2]
      rw [hdj] at HU2
      clear hr2 he2 hdj HEV2
      unfold tn3 at hR
      have HB2 := rw3_any w U2 d x j bj F D2 J (B + 137438953473) aD aF aN HU2.out H0.out.1 hok2 (by omega) (HU2.out.kd.cell H0.out.2.1 H0.out.2.2.1)
      have hrr := fileD_r D2 jnN (fun i => renF D2.fs i jN)
      have hok3 : (fileD D2 jnN (fun i => renF D2.fs i jN)).1.Ok (B + 137438953473) := ok_file hok2 (fun i => fsok_ren hok2.files)
      unfold TnP at HB2
      obtain ⟨⟨D3, r3⟩, hR3⟩ : ∃ R : Dk × Nat, fileD D2 jnN (fun i => renF D2.fs i jN) = R := ⟨_, rfl⟩
      rw [hR3] at HB2 hR hrr hok3
      simp only at HB2 hR hrr hok3
      have gg : U2.cell? ⟨g, 2, none⟩ = _ := HU2.out.kd.cell H0.out.2.2.2.2.2 H0.out.2.2.2.1
      clear hR3
      go_wp2_with fail
      rw [rounds_succ]
      go_wp2_with fail
      clear gg
      refine HB2.mono ?_
      clear HB2
      rintro e V3 ⟨rfl, hW3⟩
      obtain ⟨FF3, -, -, hS3, -, -, -, -⟩ := hW3.call H0.out.1
      have HH := heard_any V3 j d J r3 FF3 aD aF aN hrr hS3 hW3.jb
      clear hS3
      obtain ⟨ev3, hev3⟩ : ∃ ev, evD aD aF aN r3 = ev := ⟨_, rfl⟩
      rw [hev3] at HH ⊢
      have HEV3 : Hid (evD aD aF aN r3 = ev3 ∧ r3 ≤ 3 ∧ Wj w V3 d x j F D3 J) := ⟨hev3, hrr, hW3⟩
      clear hW3 hev3 hrr
      go_wp2_with fail
      refine HH.mono ?_
      clear HH
      rintro e U3 ⟨rfl, hj3, hK3⟩
      have HU3 : Hid (Wj w U3 d x j F D3 (hdJ J r3)) := HEV3.out.2.2.jour H0.out.1 hj3 hK3
      clear hj3 hK3
      by_cases hr3 : r3 = 0
      case neg =>
        have HR : Hid (R = (D3, hdJ J r3, r3)) := hR.symm
        obtain ⟨ae, hae⟩ := evD_some (aD := aD) (aF := aF) (aN := aN) hr3
        have HAE : Hid (evJ aD aF aN r3 = .iface 218 (.pointer (some ae))) := by show _ = _; rw [evJ_d HEV3.out.2.1, hae]
        have he2 : ev3 = .iface 218 (.pointer (some ae)) := by rw [← HEV3.out.1, hae]
        rw [he2]
        clear hR hr3 hae he2 HEV3
        go_wp2
        go_ret
        exact ⟨by rw [HR.out]; exact (congrArg Ending.returned HAE.out).symm, by rw [HR.out]; exact HU3.out⟩
      case pos =>
        have HR : Hid (R = (D3, hdJ J r3, r3)) := hR.symm
        have he2 : ev3 = .nilIface := by rw [← HEV3.out.1, hr3]; rfl
        have HR0 : Hid (evJ aD aF aN r3 = .nilIface) := by show _ = _; rw [hr3]; rfl
        rw [he2]
        clear hR hr3 he2 HEV3
        go_wp2_with fail
        rw [rounds_succ]
        go_wp2
        go_ret
        exact ⟨by rw [HR.out]; exact (congrArg Ending.returned HR0.out).symm, by rw [HR.out]; exact HU3.out⟩
end Go.Proofs.YtllhbhogfffedaaGreatDoor.K
