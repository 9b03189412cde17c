import Derived.Test.YtillgoegiplmkaaGreatDoorTbCd
import Derived.Test.YtillgoegiplmkaaGreatDoorTbDb
import Derived.Test.YtillgoegiplmkaaGreatDoorTbEb
import Derived.Test.YtillgoegiplmkaaGreatDoorTbG
namespace Go.Proofs.YtillgoegiplmkaaGreatDoor.B
open C
open Go.RowKit Go.Maps
set_option linter.unusedVariables false
set_option linter.unusedSimpArgs false

def GwP (l : List Sp) (s : Sp) (w : World) (e : Ending) (w' : World) : Prop := ∃ v u er, e = .returned (.tuple #[v, .int .i64 er]) ∧ SOwn w' w.heap.size v u ∧ (∃ n, AR l s u n er) ∧ Below w.heap.size w w'
set_option maxRecDepth 8000 in
set_option maxHeartbeats 4000000 in
theorem grown8_any {w : World} {z : Tz} {T : T8} (h : Tw w z T) (hok : T.Ok) (r : Rc) (hr : sW (sR r)) (s0 : Option Addr) (ns sc : Nat) (da : Option Addr) (nd dc : Nat) (hd : r.data.length = nd) (ho : 0 ≤ r.off ∧ r.off ≤ 65536) (hn : nd ≤ 65536) : Calls Tryz.prog 71 #[tP z, .agg (rcC r (.slice s0 ns sc) (.slice da nd dc))] w (GwP (T.at (sR r)).hv (plc r) w) := by
  obtain ⟨sv, hsv⟩ : ∃ sv, Value.slice s0 ns sc = sv := ⟨_, rfl⟩
  have hbx : Below w.heap.size w (w.alloc (rcO r (.slice s0 ns sc) (.slice da nd dc))) := (Below.refl _ _).alloc (Nat.le_refl _) _
  have HB : Hid (∀ V : World, Below (w.heap.size + 1) (w.alloc (rcO r (.slice s0 ns sc) (.slice da nd dc))) V → Below w.heap.size w V) := fun V hV => hbx.trans (hV.mono (by omega))
  have hadd : ∀ (v : Value) (l : List Sp), Ls w v l → ∀ V : World, Below (w.heap.size + 1) (w.alloc (rcO r (.slice s0 ns sc) (.slice da nd dc))) V → Calls Tryz.prog 130 #[v, .agg #[.int .i64 r.off, .int .i64 (r.off + nd)]] V fun e w' => ∃ v u n er, e = .returned (.tuple #[v, .int .i64 n, .int .i64 er]) ∧ SOwn w' w.heap.size v u ∧ AR l (plc r) u n er ∧ Below V.heap.size V w' := fun v l hl V hV => by
    have hp : plc r = (r.off, r.off + (nd : Int)) := by unfold plc; rw [hd]
    rw [hp]
    have hb := HB.out V hV
    refine (add_any r.off (r.off + nd) (hl.below hb)).mono ?_
    rintro e w' ⟨v, u, n, er, h1, h2, h3, h4⟩
    exact ⟨v, u, n, er, h1, h2.base hb.size, h3, h4⟩
  cases hf : T.fi (sR r) with
  | none =>
    have hat : (T.at (sR r)).hv = [] := by unfold T8.at; rw [hf]; rfl
    rw [hat]
    have HA : Hid (∀ V : World, Below (w.heap.size + 1) (w.alloc (rcO r (.slice s0 ns sc) (.slice da nd dc))) V → Calls Tryz.prog 130 #[.slice none 0 0, .agg #[.int .i64 r.off, .int .i64 (r.off + nd)]] V fun e w' => ∃ v u n er, e = .returned (.tuple #[v, .int .i64 n, .int .i64 er]) ∧ SOwn w' w.heap.size v u ∧ AR [] (plc r) u n er ∧ Below V.heap.size V w') := hadd (.slice none 0 0) [] (Ls.nil w)
    have HK : Hid (∀ V : World, Below (w.heap.size + 1) (w.alloc (rcO r (.slice s0 ns sc) (.slice da nd dc))) V → (Below (w.heap.size + 1) (w.alloc (rcO r (.slice s0 ns sc) (.slice da nd dc))) V ∧ V.cell? ⟨z.x, 4, none⟩ = some (.map (some z.m2)) ∧ (Instr.lookup 69 (.map (some z.m2)) (.agg #[.int .i64 r.org, .int .i64 r.num]) false).run Tryz.prog V = .ok (iV0) V ∧ V.cell? ⟨w.heap.size, 0, none⟩ = some (.int .i64 r.kind) ∧ V.cell? ⟨w.heap.size, 1, none⟩ = some (.int .i64 r.org) ∧ V.cell? ⟨w.heap.size, 2, none⟩ = some (.int .i64 r.num) ∧ V.cell? ⟨w.heap.size, 3, none⟩ = some (.int .i64 r.peer) ∧ V.cell? ⟨w.heap.size, 4, none⟩ = some (.int .i64 r.srv) ∧ V.cell? ⟨w.heap.size, 5, none⟩ = some (.int .i64 r.off) ∧ V.cell? ⟨w.heap.size, 6, none⟩ = some (.int .i64 r.red) ∧ V.cell? ⟨w.heap.size, 7, none⟩ = some (.int .i64 r.size) ∧ V.cell? ⟨w.heap.size, 8, none⟩ = some (.int .i64 r.how) ∧ V.cell? ⟨w.heap.size, 9, none⟩ = some (.slice s0 ns sc) ∧ V.cell? ⟨w.heap.size, 10, none⟩ = some (.slice da nd dc))) := fun V hV => by
      have hb := hbx.trans (hV.mono (by omega))
      have hc := (h.below hb).c
      have hp : V.heap[w.heap.size]? = some (rcO r (.slice s0 ns sc) (.slice da nd dc)) := (hV.block _ (by omega)).trans (heap_alloc_new' w _)
      exact ⟨hV, hc.2.2.2.2.1, (h.below hb).lookI0 hr hf false, rc_cells hp⟩
    have hfl : ∀ V : World, (Instr.field 63 iV0 4).run Tryz.prog V = .ok (.slice none 0 0) V := fun V => by kernel_rfl
    clear h hok hr hbx hf hat hadd hsv
    go_enter Tryz.func71, Tryz.ntmps71
    go_wp2
    have hS := HK.out _ (Below.refl _ _)
    go_region_held3 (fun V => (Below (w.heap.size + 1) (w.alloc (rcO r (.slice s0 ns sc) (.slice da nd dc))) V ∧ V.cell? ⟨z.x, 4, none⟩ = some (.map (some z.m2)) ∧ (Instr.lookup 69 (.map (some z.m2)) (.agg #[.int .i64 r.org, .int .i64 r.num]) false).run Tryz.prog V = .ok (iV0) V ∧ V.cell? ⟨w.heap.size, 0, none⟩ = some (.int .i64 r.kind) ∧ V.cell? ⟨w.heap.size, 1, none⟩ = some (.int .i64 r.org) ∧ V.cell? ⟨w.heap.size, 2, none⟩ = some (.int .i64 r.num) ∧ V.cell? ⟨w.heap.size, 3, none⟩ = some (.int .i64 r.peer) ∧ V.cell? ⟨w.heap.size, 4, none⟩ = some (.int .i64 r.srv) ∧ V.cell? ⟨w.heap.size, 5, none⟩ = some (.int .i64 r.off) ∧ V.cell? ⟨w.heap.size, 6, none⟩ = some (.int .i64 r.red) ∧ V.cell? ⟨w.heap.size, 7, none⟩ = some (.int .i64 r.size) ∧ V.cell? ⟨w.heap.size, 8, none⟩ = some (.int .i64 r.how) ∧ V.cell? ⟨w.heap.size, 9, none⟩ = some (.slice s0 ns sc) ∧ V.cell? ⟨w.heap.size, 10, none⟩ = some (.slice da nd dc))) (first | assumption | exact HK.out _ (bt (h1 := hb2) (And.left (by assumption)) (by simp)) | exact HK.out _ (bt (h1 := hb1) (And.left (by assumption)) (by simp)) | exact HK.out _ (Below.drew (And.left (by assumption)))) (first
      | (go_at_call 131; refine (places8_any r (.slice s0 ns sc) da nd dc _ ho hn).mono ?_; rintro e w1 ⟨rfl, hb1⟩)
      | (go_at_call 130; refine (HA.out _ (And.left (by assumption))).mono ?_; rintro e w2 ⟨v, u, n, er, rfl, hso, har, hb2⟩))
    all_goals (rename_i hz; have HZ := HB.out _ hz.1; clear hz)
    all_goals go_wp2
    all_goals go_ret2
    all_goals exact ⟨v, u, er, rfl, hso, ⟨n, har⟩, HZ⟩
  | some o =>
    obtain ⟨e, he, rfl, hes, _⟩ := h.lookI1 hf
    obtain ⟨av, nv, cv, ev⟩ := own_sl8 (h.pI.r e he).1.1
    obtain ⟨au, nu, cu, eu⟩ := own_sl8 (h.pI.r e he).2.1
    have hat : (T.at (sR r)).hv = e.i.hv := by unfold T8.at; rw [hf]
    rw [hat]
    have hls : Ls w (.slice au nu cu) e.i.hv := by have := SOwn.ls (h.pI.r e he).2.1 (by have := (hok.fi hf).1.few; omega); rwa [eu] at this
    have HA : Hid (∀ V : World, Below (w.heap.size + 1) (w.alloc (rcO r (.slice s0 ns sc) (.slice da nd dc))) V → Calls Tryz.prog 130 #[.slice au nu cu, .agg #[.int .i64 r.off, .int .i64 (r.off + nd)]] V fun e' w' => ∃ v u n er, e' = .returned (.tuple #[v, .int .i64 n, .int .i64 er]) ∧ SOwn w' w.heap.size v u ∧ AR e.i.hv (plc r) u n er ∧ Below V.heap.size V w') := hadd _ _ hls
    have HK : Hid (∀ V : World, Below (w.heap.size + 1) (w.alloc (rcO r (.slice s0 ns sc) (.slice da nd dc))) V → (Below (w.heap.size + 1) (w.alloc (rcO r (.slice s0 ns sc) (.slice da nd dc))) V ∧ V.cell? ⟨z.x, 4, none⟩ = some (.map (some z.m2)) ∧ (Instr.lookup 69 (.map (some z.m2)) (.agg #[.int .i64 r.org, .int .i64 r.num]) false).run Tryz.prog V = .ok (iV e.i (.slice au nu cu) (.slice av nv cv)) V ∧ V.cell? ⟨w.heap.size, 0, none⟩ = some (.int .i64 r.kind) ∧ V.cell? ⟨w.heap.size, 1, none⟩ = some (.int .i64 r.org) ∧ V.cell? ⟨w.heap.size, 2, none⟩ = some (.int .i64 r.num) ∧ V.cell? ⟨w.heap.size, 3, none⟩ = some (.int .i64 r.peer) ∧ V.cell? ⟨w.heap.size, 4, none⟩ = some (.int .i64 r.srv) ∧ V.cell? ⟨w.heap.size, 5, none⟩ = some (.int .i64 r.off) ∧ V.cell? ⟨w.heap.size, 6, none⟩ = some (.int .i64 r.red) ∧ V.cell? ⟨w.heap.size, 7, none⟩ = some (.int .i64 r.size) ∧ V.cell? ⟨w.heap.size, 8, none⟩ = some (.int .i64 r.how) ∧ V.cell? ⟨w.heap.size, 9, none⟩ = some (.slice s0 ns sc) ∧ V.cell? ⟨w.heap.size, 10, none⟩ = some (.slice da nd dc))) := fun V hV => by
      have hb := hbx.trans (hV.mono (by omega))
      have hc := (h.below hb).c
      have hp : V.heap[w.heap.size]? = some (rcO r (.slice s0 ns sc) (.slice da nd dc)) := (hV.block _ (by omega)).trans (heap_alloc_new' w _)
      exact ⟨hV, hc.2.2.2.2.1, eu ▸ ev ▸ lookIE (s := sR r) (h.below hb) he hes false, rc_cells hp⟩
    have hfl : ∀ V : World, (Instr.field 63 (iV e.i (.slice au nu cu) (.slice av nv cv)) 4).run Tryz.prog V = .ok (.slice au nu cu) V := fun V => by kernel_rfl
    clear h hok hr hbx hf hat hadd hsv hls hes he
    go_enter Tryz.func71, Tryz.ntmps71
    go_wp2
    have hS := HK.out _ (Below.refl _ _)
    go_region_held3 (fun V => (Below (w.heap.size + 1) (w.alloc (rcO r (.slice s0 ns sc) (.slice da nd dc))) V ∧ V.cell? ⟨z.x, 4, none⟩ = some (.map (some z.m2)) ∧ (Instr.lookup 69 (.map (some z.m2)) (.agg #[.int .i64 r.org, .int .i64 r.num]) false).run Tryz.prog V = .ok (iV e.i (.slice au nu cu) (.slice av nv cv)) V ∧ V.cell? ⟨w.heap.size, 0, none⟩ = some (.int .i64 r.kind) ∧ V.cell? ⟨w.heap.size, 1, none⟩ = some (.int .i64 r.org) ∧ V.cell? ⟨w.heap.size, 2, none⟩ = some (.int .i64 r.num) ∧ V.cell? ⟨w.heap.size, 3, none⟩ = some (.int .i64 r.peer) ∧ V.cell? ⟨w.heap.size, 4, none⟩ = some (.int .i64 r.srv) ∧ V.cell? ⟨w.heap.size, 5, none⟩ = some (.int .i64 r.off) ∧ V.cell? ⟨w.heap.size, 6, none⟩ = some (.int .i64 r.red) ∧ V.cell? ⟨w.heap.size, 7, none⟩ = some (.int .i64 r.size) ∧ V.cell? ⟨w.heap.size, 8, none⟩ = some (.int .i64 r.how) ∧ V.cell? ⟨w.heap.size, 9, none⟩ = some (.slice s0 ns sc) ∧ V.cell? ⟨w.heap.size, 10, none⟩ = some (.slice da nd dc))) (first | assumption | exact HK.out _ (bt (h1 := hb2) (And.left (by assumption)) (by simp)) | exact HK.out _ (bt (h1 := hb1) (And.left (by assumption)) (by simp)) | exact HK.out _ (Below.drew (And.left (by assumption)))) (first
      | (go_at_call 131; refine (places8_any r (.slice s0 ns sc) da nd dc _ ho hn).mono ?_; rintro e w1 ⟨rfl, hb1⟩)
      | (go_at_call 130; refine (HA.out _ (And.left (by assumption))).mono ?_; rintro e w2 ⟨v, u, n, er, rfl, hso, har, hb2⟩))
    all_goals (rename_i hz; have HZ := HB.out _ hz.1; clear hz)
    all_goals go_wp2
    all_goals go_ret2
    all_goals exact ⟨v, u, er, rfl, hso, ⟨n, har⟩, HZ⟩
end Go.Proofs.YtillgoegiplmkaaGreatDoor.B

namespace Go.Proofs.YtillgoegiplmkaaGreatDoor.B
open C
open Go.RowKit Go.Maps
set_option linter.unusedVariables false
set_option linter.unusedSimpArgs false

set_option maxRecDepth 8000 in
set_option maxHeartbeats 4000000 in
theorem grownL_any {w : World} {z : Tz} (r : Rc) (s0 : Option Addr) (ns sc : Nat) (da : Option Addr) (nd dc : Nat) (hd : r.data.length = nd) (ho : 0 ≤ r.off ∧ r.off ≤ 65536) (hn : nd ≤ 65536) (au : Option Addr) (nu cu : Nat) (a0 a1 a2 a3 a4 a6 a7 a8 a9 a10 a11 : Value) (l : List Sp) (hls : Ls w (.slice au nu cu) l)
    (hL : ∀ V : World, Below w.heap.size w V → V.cell? ⟨z.x, 4, none⟩ = some (.map (some z.m2)) ∧ (Instr.lookup 69 (.map (some z.m2)) (.agg #[.int .i64 r.org, .int .i64 r.num]) false).run Tryz.prog V = .ok (.agg #[a0, a1, a2, a3, a4, .slice au nu cu, a6, a7, a8, a9, a10, a11]) V) :
    Calls Tryz.prog 71 #[tP z, .agg (rcC r (.slice s0 ns sc) (.slice da nd dc))] w (GwP l (plc r) w) := by
  have hbx : Below w.heap.size w (w.alloc (rcO r (.slice s0 ns sc) (.slice da nd dc))) := (Below.refl _ _).alloc (Nat.le_refl _) _
  have HB : Hid (∀ V : World, Below (w.heap.size + 1) (w.alloc (rcO r (.slice s0 ns sc) (.slice da nd dc))) V → Below w.heap.size w V) := fun V hV => hbx.trans (hV.mono (by omega))
  have hadd : ∀ (v : Value) (l : List Sp), Ls w v l → ∀ V : World, Below (w.heap.size + 1) (w.alloc (rcO r (.slice s0 ns sc) (.slice da nd dc))) V → Calls Tryz.prog 130 #[v, .agg #[.int .i64 r.off, .int .i64 (r.off + nd)]] V fun e w' => ∃ v u n er, e = .returned (.tuple #[v, .int .i64 n, .int .i64 er]) ∧ SOwn w' w.heap.size v u ∧ AR l (plc r) u n er ∧ Below V.heap.size V w' := fun v l hl V hV => by
    have hp : plc r = (r.off, r.off + (nd : Int)) := by unfold plc; rw [hd]
    rw [hp]
    have hb := HB.out V hV
    refine (add_any r.off (r.off + nd) (hl.below hb)).mono ?_
    rintro e w' ⟨v, u, n, er, h1, h2, h3, h4⟩
    exact ⟨v, u, n, er, h1, h2.base hb.size, h3, h4⟩
  have HA : Hid (∀ V : World, Below (w.heap.size + 1) (w.alloc (rcO r (.slice s0 ns sc) (.slice da nd dc))) V → Calls Tryz.prog 130 #[.slice au nu cu, .agg #[.int .i64 r.off, .int .i64 (r.off + nd)]] V fun e' w' => ∃ v u n er, e' = .returned (.tuple #[v, .int .i64 n, .int .i64 er]) ∧ SOwn w' w.heap.size v u ∧ AR l (plc r) u n er ∧ Below V.heap.size V w') := hadd _ _ hls
  have HK : Hid (∀ V : World, Below (w.heap.size + 1) (w.alloc (rcO r (.slice s0 ns sc) (.slice da nd dc))) V → (Below (w.heap.size + 1) (w.alloc (rcO r (.slice s0 ns sc) (.slice da nd dc))) V ∧ V.cell? ⟨z.x, 4, none⟩ = some (.map (some z.m2)) ∧ (Instr.lookup 69 (.map (some z.m2)) (.agg #[.int .i64 r.org, .int .i64 r.num]) false).run Tryz.prog V = .ok (.agg #[a0, a1, a2, a3, a4, .slice au nu cu, a6, a7, a8, a9, a10, a11]) V ∧ V.cell? ⟨w.heap.size, 0, none⟩ = some (.int .i64 r.kind) ∧ V.cell? ⟨w.heap.size, 1, none⟩ = some (.int .i64 r.org) ∧ V.cell? ⟨w.heap.size, 2, none⟩ = some (.int .i64 r.num) ∧ V.cell? ⟨w.heap.size, 3, none⟩ = some (.int .i64 r.peer) ∧ V.cell? ⟨w.heap.size, 4, none⟩ = some (.int .i64 r.srv) ∧ V.cell? ⟨w.heap.size, 5, none⟩ = some (.int .i64 r.off) ∧ V.cell? ⟨w.heap.size, 6, none⟩ = some (.int .i64 r.red) ∧ V.cell? ⟨w.heap.size, 7, none⟩ = some (.int .i64 r.size) ∧ V.cell? ⟨w.heap.size, 8, none⟩ = some (.int .i64 r.how) ∧ V.cell? ⟨w.heap.size, 9, none⟩ = some (.slice s0 ns sc) ∧ V.cell? ⟨w.heap.size, 10, none⟩ = some (.slice da nd dc))) := fun V hV => by
    have hb := hbx.trans (hV.mono (by omega))
    have hc := hL V hb
    have hp : V.heap[w.heap.size]? = some (rcO r (.slice s0 ns sc) (.slice da nd dc)) := (hV.block _ (by omega)).trans (heap_alloc_new' w _)
    exact ⟨hV, hc.1, hc.2, rc_cells hp⟩
  have hfl : ∀ V : World, (Instr.field 63 (.agg #[a0, a1, a2, a3, a4, .slice au nu cu, a6, a7, a8, a9, a10, a11]) 4).run Tryz.prog V = .ok (.slice au nu cu) V := fun V => by kernel_rfl
  clear hbx hadd hls hL
  go_enter Tryz.func71, Tryz.ntmps71
  go_wp2
  have hS := HK.out _ (Below.refl _ _)
  go_region_held3 (fun V => (Below (w.heap.size + 1) (w.alloc (rcO r (.slice s0 ns sc) (.slice da nd dc))) V ∧ V.cell? ⟨z.x, 4, none⟩ = some (.map (some z.m2)) ∧ (Instr.lookup 69 (.map (some z.m2)) (.agg #[.int .i64 r.org, .int .i64 r.num]) false).run Tryz.prog V = .ok (.agg #[a0, a1, a2, a3, a4, .slice au nu cu, a6, a7, a8, a9, a10, a11]) V ∧ V.cell? ⟨w.heap.size, 0, none⟩ = some (.int .i64 r.kind) ∧ V.cell? ⟨w.heap.size, 1, none⟩ = some (.int .i64 r.org) ∧ V.cell? ⟨w.heap.size, 2, none⟩ = some (.int .i64 r.num) ∧ V.cell? ⟨w.heap.size, 3, none⟩ = some (.int .i64 r.peer) ∧ V.cell? ⟨w.heap.size, 4, none⟩ = some (.int .i64 r.srv) ∧ V.cell? ⟨w.heap.size, 5, none⟩ = some (.int .i64 r.off) ∧ V.cell? ⟨w.heap.size, 6, none⟩ = some (.int .i64 r.red) ∧ V.cell? ⟨w.heap.size, 7, none⟩ = some (.int .i64 r.size) ∧ V.cell? ⟨w.heap.size, 8, none⟩ = some (.int .i64 r.how) ∧ V.cell? ⟨w.heap.size, 9, none⟩ = some (.slice s0 ns sc) ∧ V.cell? ⟨w.heap.size, 10, none⟩ = some (.slice da nd dc))) (first | assumption | exact HK.out _ (bt (h1 := hb2) (And.left (by assumption)) (by simp)) | exact HK.out _ (bt (h1 := hb1) (And.left (by assumption)) (by simp)) | exact HK.out _ (Below.drew (And.left (by assumption)))) (first
    | (go_at_call 131; refine (places8_any r (.slice s0 ns sc) da nd dc _ ho hn).mono ?_; rintro e w1 ⟨rfl, hb1⟩)
    | (go_at_call 130; refine (HA.out _ (And.left (by assumption))).mono ?_; rintro e w2 ⟨v, u, n, er, rfl, hso, har, hb2⟩))
  all_goals (rename_i hz; have HZ := HB.out _ hz.1; clear hz)
  all_goals go_wp2
  all_goals go_ret2
  all_goals exact ⟨v, u, er, rfl, hso, ⟨n, har⟩, HZ⟩
end Go.Proofs.YtillgoegiplmkaaGreatDoor.B

namespace Go.Proofs.YtillgoegiplmkaaGreatDoor.B
open C
open Go.RowKit Go.Maps
set_option linter.unusedVariables false
set_option linter.unusedSimpArgs false

set_option maxRecDepth 8000 in
set_option maxHeartbeats 4000000 in
theorem bury_any {w : World} {z : Tz} {T : T8} (h : Tw w z T) (hok : T.Ok) (o : Int) (a : Option Addr) (n c : Nat) {l : List Sp} (hl : Ls w (.slice a n c) l) (hl1 : Rt 1 l) (hl2 : l.length ≤ 500) : Calls Tryz.prog 142 #[tP z, .int .i64 o, .slice a n c] w (ThP z (T.bury o l) w) := by
  obtain ⟨tv, hts, htl, _⟩ := h.lookBW o
  have hft := hok.ft o
  have hlk : (Instr.lookup 70 (.map (some z.m3)) (.int .i64 o) false).run Tryz.prog w = .ok tv w := htl w (Below.refl _ _) false
  have hls : Ls w tv (T.ft o) := hts.ls (by have := hft.2; omega)
  obtain ⟨ta, tn, tc, rfl⟩ := own_sl8 hts
  have hU := union_any hls hl
  have HU : Hid (Calls Tryz.prog 158 #[.slice ta tn tc, .slice a n c] w (UnionPost (T.ft o) l w)) := hU
  have HE : Hid (∀ u er, UR (T.ft o) l u er → er = 0 ∧ u = uns (T.ft o) l) := fun u er q => by
    rcases q with ⟨q, _⟩ | ⟨q1, q2, U, hU, ⟨q3, q4, q5⟩ | ⟨q3, q4, q5⟩⟩
    · exact absurd ⟨⟨by omega, hft.1.mono (by omega)⟩, ⟨by omega, hl1.mono (by omega)⟩⟩ q
    · exact ⟨q4, by rw [q5]; exact uns_of (hft.1.mono (by omega)) (hl1.mono (by omega)) hU⟩
    · have := hU.len; omega
  have HM : Hid (∀ (w1 w2 : World) (v v' : Value), Below w.heap.size w w1 → (∀ g, v.ownBlock = some g → w.heap.size ≤ g) → w1.drew.grownBy w2 v.ownBlock → SOwn w2 w.heap.size v' (nar (uns (T.ft o) l)) → v'.ownBlock = v.ownBlock → w2.cell? ⟨z.x, 5, none⟩ = some (.map (some z.m3)) ∧ ∃ w3 z', (Instr.mapUpdate 70 (.map (some z.m3)) (.int .i64 o) v').run Tryz.prog w2 = .ok () w3 ∧ Tw w3 z' (T.bury o l) ∧ Up z z' w w3) := fun w1 w2 v v' hb hv hg hs hob => by
    have hb2 : Below w.heap.size w w2 := hb.drew.grown hg hb.size hv
    obtain ⟨w3, z', q1, q2, q3⟩ := h.putB (o := o) hb2 (hs.base (by omega)) (fun g q => by rw [hob] at q; exact hv g q)
    exact ⟨(h.below hb2).c.2.2.2.2.2, w3, z', q1, q2, q3⟩
  have HC : Hid (∀ w1 : World, Below w.heap.size w w1 → w1.cell? ⟨z.x, 5, none⟩ = some (.map (some z.m3))) := fun w1 hb => (h.below hb).c.2.2.2.2.2
  have c5 := h.c.2.2.2.2.2
  clear h hok hl hl1 hl2 hts htl hft hls hU
  go_enter Tryz.func142, Tryz.ntmps142
  go_wp2_with (go_at_call 158; refine HU.out.mono ?_; rintro e w1 ⟨v, u, er, rfl, hso, hur, hb1⟩; have hc1 := HC.out w1 hb1)
  obtain ⟨rfl, rfl⟩ := HE.out u er hur
  have hN := narrowed_any (w := w1.drew) (v := v) (base := w.heap.size) (l := uns (T.ft o) l) hso (by have := hur.len; omega)
  have HN : Hid (Calls Tryz.prog 165 #[v] w1.drew fun e w' => ∃ v', e = .returned v' ∧ SOwn w' w.heap.size v' (nar (uns (T.ft o) l)) ∧ w1.drew.grownBy w' v.ownBlock ∧ v'.ownBlock = v.ownBlock) := hN
  have HV : Hid (∀ g, v.ownBlock = some g → w.heap.size ≤ g) := fun g q => (hso.lt g q).1
  have HB1 : Hid (Below w.heap.size w w1) := hb1
  clear hN hso hur hlk
  go_region_with (go_at_call 165; refine HN.out.mono ?_; rintro e w2 ⟨v', rfl, hso2, hgr, hob⟩; obtain ⟨hc2, w3, z', hrun, HT⟩ := HM.out w1 w2 v v' HB1.out HV.out hgr hso2 hob)
  all_goals go_wp2
  all_goals go_end0
  all_goals exact ⟨rfl, _, HT⟩
end Go.Proofs.YtillgoegiplmkaaGreatDoor.B
