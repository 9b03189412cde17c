import Derived.Test.YtlagadpfnkidjadDoorPrint
import Derived.Test.YtlagadpfnkidjadDoorBkMath
namespace Go.Proofs.YtlagadpfnkidjadDoor
open Go.RowKit

/-- The segment of a piece. -/
def sgP (k : Pk) (x : Pc) (d : List Int) : Sg := ⟨x.typ, k.org, k.num, [], [], k.srv, x.frm, d, x.chk, x.rep, 0, 0, [], 0⟩
/-- Is a type a checkpoint's? -/
def cks (t : Int) : Bool := t == 1 || t == 2 || t == 3
def frX (k : Pk) (x : Pc) : Int := if cks x.typ then fr1 k x.frm x.chk x.rep else fr0 k x.frm

/-- The types of pieces. -/
def PTy (t : Int) : Prop := t = 0 ∨ t = 1 ∨ t = 2 ∨ t = 3 ∨ t = 4 ∨ t = 7
/-- A piece's numbers may be. -/
def PNo (x : Pc) : Prop := (cks x.typ = true ∧ 1 ≤ x.chk ∧ x.chk ≤ 4611686018427387903 ∧ 0 ≤ x.rep ∧ x.rep ≤ 4611686018427387903) ∨ (cks x.typ = false ∧ x.chk = 0 ∧ x.rep = 0)

theorem shp_ck {t : Int} (h : PTy t) : shp t = if cks t then 7 else 3 := by
  rcases h with rfl | rfl | rfl | rfl | rfl | rfl <;> decide
theorem jn2_len (a b : Int) (ha : 0 ≤ a ∧ a ≤ 18446744073709551615) (hb : 0 ≤ b ∧ b ≤ 18446744073709551615) : (jn [a, b]).length = sz a + sz b := by
  simp only [jn, List.flatMap_cons, List.flatMap_nil, List.length_append, List.length_nil, enc_length a ha.1 ha.2, enc_length b hb.1 hb.2]; omega
theorem jn3_len (a b c : Int) (ha : 0 ≤ a ∧ a ≤ 18446744073709551615) (hb : 0 ≤ b ∧ b ≤ 18446744073709551615) (hc : 0 ≤ c ∧ c ≤ 18446744073709551615) : (jn [a, b, c]).length = sz a + sz b + sz c := by
  simp only [jn, List.flatMap_cons, List.flatMap_nil, List.length_append, List.length_nil, enc_length a ha.1 ha.2, enc_length b hb.1 hb.2, enc_length c hc.1 hc.2]; omega

theorem lay_len {k : Pk} (ok : k.Ok) {x : Pc} {d : List Int} (ht : PTy x.typ) (hn : PNo x) (h0 : 0 ≤ x.frm) (h1 : x.frm + d.length ≤ 65536) : ((layB (shp x.typ) (sgP k x d)).length : Int) = frX k x + sz d.length + d.length := by
  have o1 := ok.org; have o2 := ok.num; have o3 := ok.srv
  have e1 := jn2_len k.org k.num ⟨by omega, by omega⟩ ⟨by omega, by omega⟩
  have e2 := jn3_len k.srv x.frm d.length ⟨by omega, by omega⟩ ⟨by omega, by omega⟩ ⟨by omega, by omega⟩
  rw [shp_ck ht]
  unfold frX
  rcases hn with ⟨hc, a1, a2, a3, a4⟩ | ⟨hc, a1, a2⟩
  · have e3 := jn2_len x.chk x.rep ⟨by omega, by omega⟩ ⟨by omega, by omega⟩
    rw [hc]
    simp [layB, sgP, conB, blkB, encXs, e1, e2, e3, fr1, fr0]
    omega
  · rw [hc]
    simp [layB, sgP, conB, blkB, encXs, e1, e2, fr0]
    omega

theorem btw_t {n lo hi : Int} (h1 : lo ≤ n) (h2 : n ≤ hi) : btw n lo hi = true := by simp [btw, h1, h2]
theorem alw_t {p n s lo hi : Int} (ha : anyB p s = true) (h1 : lo ≤ n) (h2 : n ≤ hi) : alw p n s lo hi = true := by unfold alw; rw [ha]; exact btw_t h1 h2
theorem alw_f {p n s lo hi : Int} (ha : anyB p s = false) (h : n = 0) : alw p n s lo hi = true := by unfold alw; rw [ha]; simp [h]

theorem may_pc {k : Pk} (ok : k.Ok) {x : Pc} {d : List Int} (ht : PTy x.typ) (hn : PNo x) (h0 : 0 ≤ x.frm) (h1 : x.frm + d.length ≤ 65536) (hd : 1 ≤ d.length) : may (shp x.typ) (sgP k x d) [] [] = true := by
  have o1 := ok.org; have o2 := ok.num; have o3 := ok.srv
  rw [shp_ck ht]
  unfold may
  simp only [Bool.and_eq_true]
  rcases hn with ⟨hc, a1, a2, a3, a4⟩ | ⟨hc, a1, a2⟩
  · rw [hc]
    refine ⟨btw_t o1.1 o1.2, btw_t o2.1 o2.2, rfl, rfl, alw_t (by decide) o3.1 o3.2, alw_t (by decide) (by show (1 : Int) ≤ (d.length : Int); omega) (by show (d.length : Int) ≤ 65536; omega), alw_t (by decide) h0 (by show x.frm ≤ 65536 - (d.length : Int); omega), alw_t (by decide) ?_ a2, alw_t (by decide) ?_ a4, alw_f (by decide) rfl, alw_f (by decide) rfl, alw_f (by decide) rfl, rfl, alw_f (by decide) rfl⟩
    · rw [show one (anyB (if true = true then 7 else 3) 4) = 1 from by decide]; exact a1
    · rw [show one (anyB (if true = true then 7 else 3) 24) = 0 from by decide]; exact a3
  · rw [hc]
    exact ⟨btw_t o1.1 o1.2, btw_t o2.1 o2.2, rfl, rfl, alw_t (by decide) o3.1 o3.2, alw_t (by decide) (by show (1 : Int) ≤ (d.length : Int); omega) (by show (d.length : Int) ≤ 65536; omega), alw_t (by decide) h0 (by show x.frm ≤ 65536 - (d.length : Int); omega), alw_f (by decide) a1, alw_f (by decide) a2, alw_f (by decide) rfl, alw_f (by decide) rfl, alw_f (by decide) rfl, rfl, alw_f (by decide) rfl⟩

theorem prt_pc {k : Pk} (ok : k.Ok) {x : Pc} {d : List Int} (ht : PTy x.typ) (hn : PNo x) (h0 : 0 ≤ x.frm) (h1 : x.frm + d.length ≤ 65536) (hd : 1 ≤ d.length) (hs : frX k x + sz d.length + d.length ≤ 8192) :
    (prt (sgP k x d) [] []).1 = 0 ∧ ((prt (sgP k x d) [] []).2.length : Int) = frX k x + sz d.length + d.length := by
  have hl := lay_len ok ht hn h0 h1
  have hm := may_pc ok ht hn h0 h1 hd
  have ho : shp (sgP k x d).typ % 2 = 1 := by show shp x.typ % 2 = 1; rw [shp_ck ht]; split <;> rfl
  have he : prt (sgP k x d) [] [] = (0, layB (shp x.typ) (sgP k x d)) := by
    unfold prt
    rw [if_neg (by omega), show may (shp (sgP k x d).typ) (sgP k x d) [] [] = true from hm, if_neg (by simp), if_neg (by show ¬ 8192 < (layB (shp x.typ) (sgP k x d)).length; omega)]
    rfl
  rw [he]
  exact ⟨rfl, hl⟩

end Go.Proofs.YtlagadpfnkidjadDoor
