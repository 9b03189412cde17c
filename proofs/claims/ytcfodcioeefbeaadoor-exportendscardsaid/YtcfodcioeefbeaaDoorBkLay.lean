import Derived.Test.YtcfodcioeefbeaaDoorFields
import Derived.Test.YtcfodcioeefbeaaDoorBkMath
import Derived.Test.YtcfodcioeefbeaaDoorBkSch
import Derived.Laws.EntriesVeiled
namespace Go.Proofs.YtcfodcioeefbeaaDoor
open Go.RowKit

/-- The segment of a piece. -/
def sgP (k : Pk) (x : Pc) (d : List Int) : Sg := ⟨x.typ, k.org, k.num, [], [], k.srv, x.frm, d, x.chk, x.rep, 0, 0, [], 0⟩
/-- Is a type a checkpoint's? -/
def cks (t : Int) : Bool := t == 1 || t == 2 || t == 3
def frX (k : Pk) (x : Pc) : Int := if cks x.typ then fr1 k x.frm x.chk x.rep else fr0 k x.frm

/-- The types of pieces. -/
def PTy (t : Int) : Prop := t = 0 ∨ t = 1 ∨ t = 2 ∨ t = 3 ∨ t = 4 ∨ t = 7
/-- A piece's numbers may be. -/
def PNo (x : Pc) : Prop := (cks x.typ = true ∧ 1 ≤ x.chk ∧ x.chk ≤ 4611686018427387903 ∧ 0 ≤ x.rep ∧ x.rep ≤ 4611686018427387903) ∨ (cks x.typ = false ∧ x.chk = 0 ∧ x.rep = 0)

theorem shp_ck {t : Int} (h : PTy t) : shp t = if cks t then 7 else 3 := by
  rcases h with rfl | rfl | rfl | rfl | rfl | rfl <;> decide
theorem jn2_len (a b : Int) (ha : 0 ≤ a ∧ a ≤ 18446744073709551615) (hb : 0 ≤ b ∧ b ≤ 18446744073709551615) : (jn [a, b]).length = sz a + sz b := by
  simp only [jn, List.flatMap_cons, List.flatMap_nil, List.length_append, List.length_nil, enc_length a ha.1 ha.2, enc_length b hb.1 hb.2]; omega
theorem jn3_len (a b c : Int) (ha : 0 ≤ a ∧ a ≤ 18446744073709551615) (hb : 0 ≤ b ∧ b ≤ 18446744073709551615) (hc : 0 ≤ c ∧ c ≤ 18446744073709551615) : (jn [a, b, c]).length = sz a + sz b + sz c := by
  simp only [jn, List.flatMap_cons, List.flatMap_nil, List.length_append, List.length_nil, enc_length a ha.1 ha.2, enc_length b hb.1 hb.2, enc_length c hc.1 hc.2]; omega

theorem lay_len {k : Pk} (ok : k.Ok) {x : Pc} {d : List Int} (ht : PTy x.typ) (hn : PNo x) (h0 : 0 ≤ x.frm) (h1 : x.frm + d.length ≤ 65536) : ((layB (shp x.typ) (sgP k x d)).length : Int) = frX k x + sz d.length + d.length := by
  have o1 := ok.org; have o2 := ok.num; have o3 := ok.srv
  have e1 := jn2_len k.org k.num ⟨by omega, by omega⟩ ⟨by omega, by omega⟩
  have e2 := jn3_len k.srv x.frm d.length ⟨by omega, by omega⟩ ⟨by omega, by omega⟩ ⟨by omega, by omega⟩
  rw [shp_ck ht]
  unfold frX
  rcases hn with ⟨hc, a1, a2, a3, a4⟩ | ⟨hc, a1, a2⟩
  · have e3 := jn2_len x.chk x.rep ⟨by omega, by omega⟩ ⟨by omega, by omega⟩
    rw [hc]
    simp [layB, sgP, conB, blkB, encXs, e1, e2, e3, fr1, fr0]
    omega
  · rw [hc]
    simp [layB, sgP, conB, blkB, encXs, e1, e2, fr0]
    omega

theorem btw_t {n lo hi : Int} (h1 : lo ≤ n) (h2 : n ≤ hi) : btw n lo hi = true := by simp [btw, h1, h2]
theorem alw_t {p n s lo hi : Int} (ha : anyB p s = true) (h1 : lo ≤ n) (h2 : n ≤ hi) : alw p n s lo hi = true := by unfold alw; rw [ha]; exact btw_t h1 h2
theorem alw_f {p n s lo hi : Int} (ha : anyB p s = false) (h : n = 0) : alw p n s lo hi = true := by unfold alw; rw [ha]; simp [h]

theorem may_pc {k : Pk} (ok : k.Ok) {x : Pc} {d : List Int} (ht : PTy x.typ) (hn : PNo x) (h0 : 0 ≤ x.frm) (h1 : x.frm + d.length ≤ 65536) (hd : 1 ≤ d.length) : may (shp x.typ) (sgP k x d) [] [] = true := by
  have o1 := ok.org; have o2 := ok.num; have o3 := ok.srv
  rw [shp_ck ht]
  unfold may
  simp only [Bool.and_eq_true]
  rcases hn with ⟨hc, a1, a2, a3, a4⟩ | ⟨hc, a1, a2⟩
  · rw [hc]
    refine ⟨btw_t o1.1 o1.2, btw_t o2.1 o2.2, rfl, rfl, alw_t (by decide) o3.1 o3.2, alw_t (by decide) (by show (1 : Int) ≤ (d.length : Int); omega) (by show (d.length : Int) ≤ 65536; omega), alw_t (by decide) h0 (by show x.frm ≤ 65536 - (d.length : Int); omega), alw_t (by decide) ?_ a2, alw_t (by decide) ?_ a4, alw_f (by decide) rfl, alw_f (by decide) rfl, alw_f (by decide) rfl, rfl, alw_f (by decide) rfl⟩
    · rw [show one (anyB (if true = true then 7 else 3) 4) = 1 from by decide]; exact a1
    · rw [show one (anyB (if true = true then 7 else 3) 24) = 0 from by decide]; exact a3
  · rw [hc]
    exact ⟨btw_t o1.1 o1.2, btw_t o2.1 o2.2, rfl, rfl, alw_t (by decide) o3.1 o3.2, alw_t (by decide) (by show (1 : Int) ≤ (d.length : Int); omega) (by show (d.length : Int) ≤ 65536; omega), alw_t (by decide) h0 (by show x.frm ≤ 65536 - (d.length : Int); omega), alw_f (by decide) a1, alw_f (by decide) a2, alw_f (by decide) rfl, alw_f (by decide) rfl, alw_f (by decide) rfl, rfl, alw_f (by decide) rfl⟩

theorem prt_pc {k : Pk} (ok : k.Ok) {x : Pc} {d : List Int} (ht : PTy x.typ) (hn : PNo x) (h0 : 0 ≤ x.frm) (h1 : x.frm + d.length ≤ 65536) (hd : 1 ≤ d.length) (hs : frX k x + sz d.length + d.length ≤ 8192) :
    (prt (sgP k x d) [] []).1 = 0 ∧ ((prt (sgP k x d) [] []).2.length : Int) = frX k x + sz d.length + d.length := by
  have hl := lay_len ok ht hn h0 h1
  have hm := may_pc ok ht hn h0 h1 hd
  have ho : shp (sgP k x d).typ % 2 = 1 := by show shp x.typ % 2 = 1; rw [shp_ck ht]; split <;> rfl
  have he : prt (sgP k x d) [] [] = (0, layB (shp x.typ) (sgP k x d)) := by
    unfold prt
    rw [if_neg (by omega), show may (shp (sgP k x d).typ) (sgP k x d) [] [] = true from hm, if_neg (by simp), if_neg (by show ¬ 8192 < (layB (shp x.typ) (sgP k x d)).length; omega)]
    rfl
  rw [he]
  exact ⟨rfl, hl⟩

end Go.Proofs.YtcfodcioeefbeaaDoor

namespace Go.Proofs.YtcfodcioeefbeaaDoor
open Go.RowKit

theorem cellA {W : World} {g o : Nat} {u : Value} (h : W.cell? ⟨g, o, none⟩ = some u) (ob : Obj) : (W.alloc ob).cell? ⟨g, o, none⟩ = some u :=
  (((Below.refl W.heap.size W).alloc (Nat.le_refl _) ob).cell (p := ⟨g, o, none⟩) (World.block_lt_of_cell? W ⟨g, o, none⟩ h)).trans h
theorem cellB {B : Nat} {W W' : World} {g o : Nat} {u : Value} (h : W.cell? ⟨g, o, none⟩ = some u) (hb : Below B W W') (hg : g < B) : W'.cell? ⟨g, o, none⟩ = some u :=
  (hb.cell (p := ⟨g, o, none⟩) hg).trans h
theorem cellN (W : World) (cs : Array Value) (t : TypeId) (j : Nat) (u : Value) (h : cs[j]? = some u) : (W.alloc (.cells cs t)).cell? ⟨W.heap.size, j, none⟩ = some u := by
  simp [h]
theorem lit1 (W : World) : Lies .u8 (W.alloc (.cells #[.int .u8 0] 5)) (some ⟨W.heap.size, 0, none⟩) [0] := by
  refine .inr ⟨_, _, rfl, fun i hi => ?_⟩
  match i, hi with
  | 0, _ => simp

theorem one_in (W : World) (k : Pk) (x : Pc) : SIn (W.alloc (.cells #[.int .u8 0] 5)) (sgP k x [0]) (.slice none 0 0) (.slice none 0 0) (.slice (some ⟨W.heap.size, 0, none⟩) 1 1) (.slice none 0 0) [] [] :=
  ⟨⟨⟨none, 0, rfl, .inl rfl⟩, (by intro x hx; cases hx), (by simp)⟩, rfl, ⟨⟨none, 0, rfl, .inl rfl⟩, (by intro x hx; cases hx), (by simp)⟩, rfl,
   ⟨⟨_, 1, rfl, lit1 W, (fun h => by cases h), by simp [sgP], by omega⟩, (by intro z hz; simp [sgP] at hz; omega), by simp [sgP]⟩,
   ⟨⟨none, 0, rfl, .inl rfl⟩, by simp [sgP]⟩⟩

def RoomPost (F mtu : Int) (w : World) (e : Ending) (w' : World) : Prop := e = .returned (.int .i64 (rmz F mtu : Nat)) ∧ Below w.heap.size w w'

set_option maxHeartbeats 2000000 in
theorem room_go {k : Pk} (ok : k.Ok) (m : Nat) (hmm : k.mtu = m) (x : Pc) (w : World) (hT : Tab w) (ht : PTy x.typ) (hn : PNo x) (h0 : 0 ≤ x.frm) (h1 : x.frm ≤ 65535) (hf0 : 0 ≤ frX k x) (hf1 : frX k x ≤ 60) :
    Calls Tryd.prog 32 #[.agg (knC k), .agg (pcC x)] w (RoomPost (frX k x) k.mtu w) := by
  rw [hmm]
  have HMM : Hid (k.mtu = m) := hmm
  have hm80 : 80 ≤ m ∧ m ≤ 4096 := by have := ok.mtu; omega
  have hsz1 : sz 1 = 1 := by decide +kernel
  have hp := prt_pc (d := [0]) ok ht hn h0 (by simp; omega) (by simp) (by simp only [List.length_cons, List.length_nil]; rw [show ((0 + 1 : Nat) : Int) = 1 from rfl, hsz1]; omega)
  have hw0 : 0 < w.heap.size := World.block_lt_of_cell? w ⟨0, 0, none⟩ (hT 0 (by omega))
  have hB1 : Below w.heap.size w (((w.alloc (.cells (knC k) 71)).alloc (.cells (pcC x) 56)).alloc (.cells #[.int .u8 0] 5)) := (((Below.refl _ _).alloc (Nat.le_refl _) _).alloc (by simp) _).alloc (by simp; omega) _
  have hseg := fun a n c => segm_any k x a n c (((w.alloc (.cells (knC k) 71)).alloc (.cells (pcC x) 56)).alloc (.cells #[.int .u8 0] 5))
  have HSI : Hid (SIn (((w.alloc (.cells (knC k) 71)).alloc (.cells (pcC x) 56)).alloc (.cells #[.int .u8 0] 5)) (sgP k x [0]) (.slice none 0 0) (.slice none 0 0) (.slice (some ⟨w.heap.size + 1 + 1, 0, none⟩) 1 1) (.slice none 0 0) [] []) := by
    have := one_in ((w.alloc (.cells (knC k) 71)).alloc (.cells (pcC x) 56)) k x
    unfold Hid
    simpa using this
  have HK5 : Hid ((((w.alloc (.cells (knC k) 71)).alloc (.cells (pcC x) 56)).alloc (.cells #[.int .u8 0] 5)).cell? ⟨w.heap.size, 5, none⟩ = some (.int .i64 k.mtu)) := cellA (cellA (cellN _ _ _ 5 _ rfl) _) _
  have HSZ : Hid ((((w.alloc (.cells (knC k) 71)).alloc (.cells (pcC x) 56)).alloc (.cells #[.int .u8 0] 5)).heap.size = w.heap.size + 3) := by unfold Hid; simp
  have HB1 : Hid (Below w.heap.size w (((w.alloc (.cells (knC k) 71)).alloc (.cells (pcC x) 56)).alloc (.cells #[.int .u8 0] 5))) := hB1
  have HT : Hid (Tab w) := hT
  have HP : Hid ((prt (sgP k x [0]) [] []).1 = 0 ∧ ((prt (sgP k x [0]) [] []).2.length : Int) = frX k x + 2) := ⟨hp.1, by rw [hp.2]; simp only [List.length_cons, List.length_nil]; rw [show ((0 + 1 : Nat) : Int) = 1 from rfl, hsz1]; omega⟩
  clear hp hT hB1 ok ht hn hmm
  go_enter Tryd.func32, Tryd.ntmps32
  go_wp2_with fail
  refine (hseg _ _ _).mono ?_
  rintro e w2 ⟨rfl, hb2⟩
  have HSI2 : Hid (SIn w2 (sgP k x [0]) (.slice none 0 0) (.slice none 0 0) (.slice (some ⟨w.heap.size + 1 + 1, 0, none⟩) 1 1) (.slice none 0 0) [] []) := HSI.out.below hb2
  have HK2 : Hid (w2.cell? ⟨w.heap.size, 5, none⟩ = some (.int .i64 k.mtu)) := (hb2.cell (p := ⟨w.heap.size, 5, none⟩) (by rw [HSZ.out]; show w.heap.size < _; omega)).trans HK5.out
  have HB2 : Hid (Below w.heap.size w w2) := HB1.out.trans (hb2.mono (by rw [HSZ.out]; omega))
  clear hseg hb2 HSI HK5 HSZ HB1
  go_wp2_with fail
  refine (print_any (sgP k x [0]) _ _ _ _ [] [] w2 HSI2.out (HT.out.below HB2.out hw0)).mono ?_
  rintro e w3 ⟨a3, c3, rfl, hown, hb3⟩
  have HK3 : Hid (w3.cell? ⟨w.heap.size, 5, none⟩ = some (.int .i64 k.mtu)) := cellB HK2.out hb3 (World.block_lt_of_cell? _ _ HK2.out)
  have HB3 : Hid (Below w.heap.size w w3) := HB2.out.trans (hb3.mono HB2.out.size)
  obtain ⟨hp1, hp2⟩ := HP.out
  clear hown hb3 HSI2 HK2 HB2 HP
  generalize (prt (sgP k x [0]) [] []).2.length = L at *
  generalize (prt (sgP k x [0]) [] []).1 = er at *
  generalize frX k x = F at *
  rw [HMM.out] at HK3
  have hW := HB3.out.size
  have HB4 : Hid (Below w3.heap.size w3 ((w3.alloc (.cells #[.int .i64 (F + 2 - 1 - 1)] 3)).alloc (.cells #[.func (.func 36) #[] #[.pointer (some ⟨w3.heap.size, 0, none⟩), .pointer (some ⟨w.heap.size, 0, none⟩)]] 93))) := ((Below.refl _ _).alloc (Nat.le_refl _) _).alloc (by simp) _
  have hk4 : ((w3.alloc (.cells #[.int .i64 (F + 2 - 1 - 1)] 3)).alloc (.cells #[.func (.func 36) #[] #[.pointer (some ⟨w3.heap.size, 0, none⟩), .pointer (some ⟨w.heap.size, 0, none⟩)]] 93)).cell? ⟨w.heap.size, 5, none⟩ = some (.int .i64 m) := cellA (cellA HK3.out _) _
  have HF4 : Hid (((w3.alloc (.cells #[.int .i64 (F + 2 - 1 - 1)] 3)).alloc (.cells #[.func (.func 36) #[] #[.pointer (some ⟨w3.heap.size, 0, none⟩), .pointer (some ⟨w.heap.size, 0, none⟩)]] 93)).cell? ⟨w3.heap.size, 0, none⟩ = some (.int .i64 F)) := by
    have e : F + 2 - 1 - 1 = F := by omega
    rw [e]; exact cellA (cellN _ _ _ 0 _ rfl) _
  have HS4 : Hid (((w3.alloc (.cells #[.int .i64 (F + 2 - 1 - 1)] 3)).alloc (.cells #[.func (.func 36) #[] #[.pointer (some ⟨w3.heap.size, 0, none⟩), .pointer (some ⟨w.heap.size, 0, none⟩)]] 93)).cell? ⟨w3.heap.size + 1, 0, none⟩ = some (.func (.func 36) #[] #[.pointer (some ⟨w3.heap.size, 0, none⟩), .pointer (some ⟨w.heap.size, 0, none⟩)])) := by
    have := cellN (w3.alloc (.cells #[.int .i64 (F + 2 - 1 - 1)] 3)) #[.func (.func 36) #[] #[.pointer (some ⟨w3.heap.size, 0, none⟩), .pointer (some ⟨w.heap.size, 0, none⟩)]] 93 0 _ rfl
    rw [World.size_alloc] at this; exact this
  have hs1 := size_any 1 w3 (by omega) (by omega)
  rw [hsz1] at hs1
  have hw1 : IntKind.i64.wrap ((L : Int) - 1) = F + 1 := by rw [IntKind.wrap_i64]; omega
  have hw2 : IntKind.i64.wrap (F + 1 - 1) = F := by rw [IntKind.wrap_i64]; omega
  go_wp2_with fail
  refine hs1.mono ?_
  rintro e w' ⟨rfl, rfl⟩
  clear hs1
  go_wp2_with fail
  refine (search_any (w3.heap.size + 1) m (fun i => !fitB F m ((i : Int) + 1)) _ (by omega) (fun W i hb hi => ?_) ?_).mono ?_
  · exact nofit_any (w3.heap.size + 1) w3.heap.size w.heap.size m F i W (cellB HS4.out hb (by simp)) (cellB HF4.out hb (by simp; omega)) (cellB hk4 hb (by simp; omega)) (by omega) hf0 (by omega)
  · intro a b hab hb h
    simp only [Bool.not_eq_true'] at h ⊢
    rcases Bool.eq_false_or_eq_true (fitB F m ((b : Int) + 1)) with q | q
    · rw [fit_anti (F := F) (mtu := m) (a := (a : Int) + 1) (b := (b : Int) + 1) (by omega) (by omega) (by omega) q] at h; cases h
    · exact q
  rintro e w5 ⟨⟨r, rfl, hr, hr1, hr2⟩, hb5⟩
  have HR : Hid (rmz F m = r) := by
    have hs := rmz_spec (F := F) (mtu := m) hf0 (by omega) (by omega)
    refine rmz_eq (by omega) (by omega) ?_ ?_
    · rcases Nat.eq_zero_or_pos r with q | q
      · exact .inl q
      · have := hr1 (r - 1) (by omega)
        simp only [Bool.not_eq_false'] at this
        rw [show ((r - 1 : Nat) : Int) + 1 = r from by omega] at this
        exact .inr this
    · rcases Nat.lt_or_ge r m with q | q
      · have := hr2 r (Nat.le_refl _) q
        simpa using this
      · have := sz_pos ((r : Int) + 1) (by omega) (by omega)
        simp only [fitB, decide_eq_false_iff_not]; omega
  have HB5 : Hid (Below w.heap.size w w5) := (HB3.out.trans (HB4.out.mono hW)).trans (hb5.mono (by simp; omega))
  clear hb5 hr1 hr2 HB4 hk4 HF4 HS4 HK3 HB3
  go_wp2
  go_ret
  exact ⟨by rw [HR.out]; rfl, HB5.out⟩

theorem room_any {k : Pk} (ok : k.Ok) (x : Pc) (w : World) (hT : Tab w) (ht : PTy x.typ) (hn : PNo x) (h0 : 0 ≤ x.frm) (h1 : x.frm ≤ 65535) (hf0 : 0 ≤ frX k x) (hf1 : frX k x ≤ 60) :
    Calls Tryd.prog 32 #[.agg (knC k), .agg (pcC x)] w (RoomPost (frX k x) k.mtu w) :=
  room_go ok k.mtu.toNat (by have := ok.mtu; omega) x w hT ht hn h0 h1 hf0 hf1

end Go.Proofs.YtcfodcioeefbeaaDoor
