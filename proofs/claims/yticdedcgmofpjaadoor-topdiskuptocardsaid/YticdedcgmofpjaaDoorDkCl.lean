import Derived.Test.YticdedcgmofpjaaDoorDkCor
namespace Go.Proofs.YticdedcgmofpjaaDoor.K
open Go.RowKit
set_option linter.unusedVariables false
set_option linter.unusedSimpArgs false

/-! ## The closures: what each does to the files -/
def addF (fs : List Fl) (s : ByteArray) (zs : List Int) : List Fl :=
  match fnd fs s with
  | some i => match fs[i]? with
    | some f => fs.set i ⟨f.nm, f.bs ++ zs, f.sf⟩
    | none => fs
  | none => fs ++ [⟨s, zs, 0⟩]
theorem addF_old {fs : List Fl} {s : ByteArray} {zs : List Int} {i : Nat} {f : Fl} (h : fnd fs s = some i) (hf : fs[i]? = some f) : addF fs s zs = fs.set i ⟨f.nm, f.bs ++ zs, f.sf⟩ := by unfold addF; rw [h]; simp only [hf]
theorem addF_new {fs : List Fl} {s : ByteArray} {zs : List Int} (h : fnd fs s = none) : addF fs s zs = fs ++ [⟨s, zs, 0⟩] := by unfold addF; rw [h]
/-- What a closure of an act leaves. -/
def ClP (x : Nat) (F : Nat → Prop) (D : Dk) (fs : List Fl) (w : World) (e : Ending) (w' : World) : Prop := (∃ v, e = .returned v) ∧ Dm w' x (up F w) (D.fs' fs) ∧ Kd F w w'
theorem Kd.upTrans {F : Nat → Prop} {a b c : World} (h : Kd F a b) (h' : Kd (up F a) b c) : Kd F a c :=
  ⟨h'.os.trans h.os, h'.tape.trans h.tape, h'.output.trans h.output, Nat.le_trans h.size h'.size, fun k hk hn => (h'.same k (Nat.lt_of_lt_of_le hk h.size) (fun e => e.elim hn (fun q => by omega))).trans (h.same k hk hn)⟩
theorem up_drew {F : Nat → Prop} {w : World} : up F w.drew = up F w := rfl

set_option maxHeartbeats 4000000 in
theorem clApp_any (w : World) (Db Nb Bb d x : Nat) (F : Nat → Prop) (D : Dk) (s : ByteArray) (ab : Option Addr) (nb cb : Nat) (zs : List Int) (B : Nat) (h : Dm w x F D) (hk : D.Ok B) (hB : B ≤ 1099511627776)
    (hD : w.cell? ⟨Db, 0, none⟩ = some (.pointer (some ⟨d, 0, none⟩))) (hd : w.cell? ⟨d, 0, none⟩ = some (.pointer (some ⟨x, 0, none⟩))) (hN : w.cell? ⟨Nb, 0, none⟩ = some (.string s)) (hBb : w.cell? ⟨Bb, 0, none⟩ = some (.slice ab nb cb))
    (nD : ¬ F Db) (nd : ¬ F d) (nN : ¬ F Nb) (nB : ¬ F Bb) (hl : zs.length = nb) (hz : Lies .u8 w ab zs) (hzF : ∀ b off, zs ≠ [] → ab = some ⟨b, off, none⟩ → ¬ F b) (hnn : ab = none → nb = 0 ∧ cb = 0) (hnb : nb ≤ 1099511627776) :
    Calls Tryd.prog 29 #[.pointer (some ⟨Db, 0, none⟩), .pointer (some ⟨Nb, 0, none⟩), .pointer (some ⟨Bb, 0, none⟩)] w fun e w' => ClP x F D (addF D.fs s zs) w e w' := by
  have hfn := fun V (hV : Dm V x F D) => find_any V x F D s B hV hk hB
  obtain ⟨vf, L, hc⟩ := h
  obtain ⟨af, cf, hv⟩ := d_shape hc.row
  obtain ⟨n, hn⟩ : ∃ n, L.length = n := ⟨_, rfl⟩
  have hnb2 : n ≤ 1099511627776 := by have := hk.len; have := hc.len; omega
  rw [hn] at hv
  subst hv
  have HC : Hid (Dc w x F D (.slice af n cf) L) := hc
  have HN : Hid (L.length = n) := hn
  have HK : Hid (D.Ok B) := hk
  have HF : Hid ((¬ F Db) ∧ (¬ F d) ∧ (¬ F Nb) ∧ (¬ F Bb)) := ⟨nD, nd, nN, nB⟩
  have HFn := hfn w.drew ⟨_, _, hc.same (fun _ _ _ => rfl)⟩
  have c0 : w.cell? ⟨x, 0, none⟩ = some (.slice af n cf) := hc.c 0
  have HX : Hid ((w.cell? ⟨Db, 0, none⟩ = some (.pointer (some ⟨d, 0, none⟩))) ∧ w.cell? ⟨d, 0, none⟩ = some (.pointer (some ⟨x, 0, none⟩)) ∧ w.cell? ⟨Nb, 0, none⟩ = some (.string s) ∧ w.cell? ⟨Bb, 0, none⟩ = some (.slice ab nb cb)) := ⟨hD, hd, hN, hBb⟩
  have HZ : Hid (zs.length = nb ∧ Lies .u8 w ab zs ∧ (∀ b off, zs ≠ [] → ab = some ⟨b, off, none⟩ → ¬ F b) ∧ (ab = none → nb = 0 ∧ cb = 0)) := ⟨hl, hz, hzF, hnn⟩
  clear hc hn hk nD nd nN nB hl hz hzF hnn hfn
  go_enter Tryd.func29, Tryd.ntmps29
  go_wp2_with fail
  go_region_held3 (fun V => V.cell? ⟨Db, 0, none⟩ = some (.pointer (some ⟨d, 0, none⟩)) ∧ V.cell? ⟨d, 0, none⟩ = some (.pointer (some ⟨x, 0, none⟩)) ∧ V.cell? ⟨Nb, 0, none⟩ = some (.string s))
    (first | exact ⟨hD, hd, hN⟩)
    (first
      | (go_at_call 30
         refine HFn.mono ?_
         rintro e w1 ⟨rfl, hw1⟩
         rw [hw1]
         clear hw1))
  clear HFn
  obtain ⟨V, hV⟩ : ∃ V, w.drew = V := ⟨_, rfl⟩
  rw [hV]
  have HC1 : Hid (Dc V x F D (.slice af n cf) L) := by rw [← hV]; exact HC.out.same (fun _ _ _ => rfl)
  have HKd : Hid (Kd F w V ∧ V.heap.size = w.heap.size) := by rw [← hV]; exact ⟨(Kd.refl _ _).drew, rfl⟩
  have HX1 : Hid ((V.cell? ⟨Db, 0, none⟩ = some (.pointer (some ⟨d, 0, none⟩))) ∧ V.cell? ⟨d, 0, none⟩ = some (.pointer (some ⟨x, 0, none⟩)) ∧ V.cell? ⟨Nb, 0, none⟩ = some (.string s) ∧ V.cell? ⟨Bb, 0, none⟩ = some (.slice ab nb cb)) := by rw [← hV]; exact HX.out
  have HZ1 : Hid (Lies .u8 V ab zs) := by rw [← hV]; exact HZ.out.2.1
  clear hV HC HX hD hd hN hBb c0
  cases hf : fnd D.fs s with
  | some i =>
    have HI : Hid (fnd D.fs s = some i) := hf
    rw [fI_some hf]
    have hz0 : ¬ (i : Int) < 0 := by omega
    obtain ⟨p, hp⟩ : ∃ p, L[i]? = some p := ⟨_, List.getElem?_eq_getElem (by have := fnd_lt hf; rw [HC1.out.len] at this; exact this)⟩
    have HP : Hid (L[i]? = some p) := hp
    obtain ⟨gF, cap, hv, _⟩ := HC1.out.at hp
    obtain ⟨rfl, hnl, rfl⟩ : af = some ⟨gF, 0, none⟩ ∧ n = L.length ∧ cf = cap := by simpa using hv
    clear hf hp hv hnl
    go_wp2_with fail
    refine regAppD _ Db Bb d x gF n cf i F D L p ab nb cb zs V HC1.out HP.out HX1.out.1 HX1.out.2.1 HX1.out.2.2.2 HF.out.1 HF.out.2.1 HF.out.2.2.2 HZ.out.1 HZ1.out HZ.out.2.2.2 (by have h1 := usd_get (HC1.out.file HP.out); have := HK.out.used; omega) ?_
    intro v' w' hc' hk'
    refine bodyPost_end (v := .tuple #[]) (by simp [results, Tryd.results29, go_sem]) rfl ?_
    refine ⟨⟨_, rfl⟩, ?_, HKd.out.1.trans hk'⟩
    rw [addF_old HI.out (HC1.out.file HP.out)]
    exact ⟨_, _, hc'.mono (fun k h _ => h.imp id (fun e => by have := HKd.out.2; omega))⟩
  | none =>
    rw [fI_none hf]
    have HI : Hid (fnd D.fs s = none) := hf
    clear hf
    have c0 : V.cell? ⟨x, 0, none⟩ = some (.slice af n cf) := HC1.out.c 0
    obtain ⟨hD, hd, _, _⟩ := HX1.out
    go_wp2_with fail
    refine regNewD _ Db Nb d x s F D L af n cf V HC1.out HX1.out.1 HX1.out.2.1 HX1.out.2.2.1 HF.out.1 HF.out.2.1 HF.out.2.2.1 hnb2 ?_
    intro v1 w1 hc1 hk1
    have HC2 : Hid (Dc w1 x (up F V) (D.fs' (D.fs ++ [⟨s, [], 0⟩])) v1 (L ++ [(⟨s, [], 0⟩, .slice none 0 0)])) := hc1
    have HK1 : Hid (Kd F V w1) := hk1
    have HX2 : Hid ((w1.cell? ⟨Db, 0, none⟩ = some (.pointer (some ⟨d, 0, none⟩))) ∧ w1.cell? ⟨d, 0, none⟩ = some (.pointer (some ⟨x, 0, none⟩)) ∧ w1.cell? ⟨Bb, 0, none⟩ = some (.slice ab nb cb)) := ⟨hk1.cell HX1.out.1 HF.out.1, hk1.cell HX1.out.2.1 HF.out.2.1, hk1.cell HX1.out.2.2.2 HF.out.2.2.2⟩
    have HP : Hid ((L ++ [((⟨s, [], 0⟩ : Fl), Value.slice none 0 0)])[n]? = some (⟨s, [], 0⟩, .slice none 0 0)) := by show _ = _; rw [List.getElem?_append_right (by have := HN.out; omega), HN.out]; simp
    have HZ2 : Hid (Lies .u8 w1 ab zs) := by
      rcases HZ1.out with h0 | ⟨b, off, e, hc⟩
      · exact .inl h0
      · by_cases h0 : zs = []
        · exact .inl h0
        · exact .inr ⟨b, off, e, fun j hj => hk1.cell (hc j hj) (HZ.out.2.2.1 b off h0 e)⟩
    obtain ⟨gF, cap, hv, _⟩ := hc1.at HP.out
    have hv2 : v1 = .slice (some ⟨gF, 0, none⟩) (n + 1) cap := by rw [hv, List.length_append, HN.out]; rfl
    have nU : ∀ k, k < V.heap.size → ¬ F k → ¬ up F V k := fun k hk hn e => e.elim hn (fun q => by omega)
    have HU : Hid ((¬ up F V Db) ∧ (¬ up F V d) ∧ (¬ up F V Bb)) := ⟨nU _ (World.block_lt_of_cell? V ⟨Db, 0, none⟩ HX1.out.1) HF.out.1, nU _ (World.block_lt_of_cell? V ⟨d, 0, none⟩ HX1.out.2.1) HF.out.2.1, nU _ (World.block_lt_of_cell? V ⟨Bb, 0, none⟩ HX1.out.2.2.2) HF.out.2.2.2⟩
    subst hv2
    clear hv hc1 hk1 hD hd c0 nU
    go_wp2_with fail
    refine regAppD _ Db Bb d x gF (n + 1) cap n (up F V) (D.fs' (D.fs ++ [⟨s, [], 0⟩])) _ (⟨s, [], 0⟩, .slice none 0 0) ab nb cb zs w1 HC2.out HP.out HX2.out.1 HX2.out.2.1 HX2.out.2.2 HU.out.1 HU.out.2.1 HU.out.2.2 HZ.out.1 HZ2.out HZ.out.2.2.2 (by simp; omega) ?_
    intro v' w' hc' hk'
    refine bodyPost_end (v := .tuple #[]) (by simp [results, Tryd.results29, go_sem]) rfl ?_
    have hfs : (D.fs ++ [(⟨s, [], 0⟩ : Fl)]).set n ⟨s, zs, 0⟩ = D.fs ++ [⟨s, zs, 0⟩] := by
      have hln : n = D.fs.length := by rw [HC1.out.len]; exact HN.out.symm
      rw [hln, List.set_append_right _ _ (Nat.le_refl _)]; simp
    refine ⟨⟨_, rfl⟩, ?_, HKd.out.1.trans (HK1.out.upTrans hk')⟩
    rw [addF_new HI.out, ← hfs]
    have hs := HK1.out.size
    refine ⟨_, _, hc'.mono (fun k h _ => ?_)⟩
    rcases h with (h | h) | h
    · exact .inl h
    · exact .inr (by have := HKd.out.2; omega)
    · exact .inr (by have := HKd.out.2; omega)

end Go.Proofs.YticdedcgmofpjaaDoor.K
