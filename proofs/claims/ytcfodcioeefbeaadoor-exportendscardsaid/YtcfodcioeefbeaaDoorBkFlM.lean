import Derived.Test.YtcfodcioeefbeaaDoorBkMk
import Derived.Test.YtcfodcioeefbeaaDoorBkLay
namespace Go.Proofs.YtcfodcioeefbeaaDoor
open Go.RowKit

/-- What is so of each piece of a cut. -/
structure PF (k : Pk) (y : Pc) : Prop where
  lo : 0 ≤ y.frm
  lt : y.frm < y.to
  hi : y.to ≤ k.size
  pc : pieceB k y = true
  ty : PTy y.typ
  no : PNo y
  f0 : 0 ≤ frX k y
  fit : frX k y + sz (y.to - y.frm) + (y.to - y.frm) ≤ k.mtu
  full : y.to = k.red ∨ y.to = k.size ∨ (y.typ = 0 ∧ y.to = k.red - 1) ∨ fitB (frX k y) k.mtu (y.to + 1 - y.frm) = false

/-- The six kinds of pieces, and what is counted behind each. -/
def Kd (k : Pk) (a nx pl : Int) (y : Pc) (nx' pl' : Int) : Prop :=
  (a < k.red ∧ y.to = k.red ∧ k.red < k.size ∧ y.typ = 2 ∧ y.chk = nx ∧ y.rep = 0 ∧ nx' = nx + 1 ∧ pl' = 0) ∨
  (a < k.red ∧ y.to = k.red ∧ k.red = k.size ∧ y.typ = 3 ∧ y.chk = nx ∧ y.rep = 0 ∧ nx' = nx + 1 ∧ pl' = 0) ∨
  (a < k.red ∧ y.to < k.red ∧ y.typ = 1 ∧ 0 < k.every ∧ pl = k.every - 1 ∧ y.chk = nx ∧ y.rep = 0 ∧ nx' = nx + 1 ∧ pl' = 0) ∨
  (a < k.red ∧ y.to < k.red ∧ y.typ = 0 ∧ y.chk = 0 ∧ y.rep = 0 ∧ (0 < k.every → pl + 1 < k.every) ∧ nx' = nx ∧ pl' = pl + 1) ∨
  (k.red ≤ a ∧ y.to = k.size ∧ y.typ = 7 ∧ y.chk = 0 ∧ y.rep = 0 ∧ nx' = nx ∧ pl' = pl) ∨
  (k.red ≤ a ∧ y.to < k.size ∧ y.typ = 4 ∧ y.chk = 0 ∧ y.rep = 0 ∧ nx' = nx ∧ pl' = pl)

/-- What is left of a cut, from a place on. -/
structure FSt (k : Pk) (base : Int) (rest : List Pc) (a nx pl : Int) : Prop where
  a0 : 0 ≤ a
  a1 : a ≤ k.size
  n0 : 1 ≤ nx
  n1 : nx ≤ base + 1 + a
  p0 : 0 ≤ pl
  p1 : pl ≤ a
  p2 : 0 < k.every → pl < k.every
  rst : (a < k.red ∧ ∃ f, (k.red - a).toNat ≤ f ∧ rest = redG k f a (nx - 1) pl ++ grnG k (k.size - k.red).toNat k.red) ∨ (k.red ≤ a ∧ ∃ f, (k.size - a).toNat ≤ f ∧ rest = grnG k f a)

theorem FSt.start {k : Pk} (ok : k.Ok) {base : Int} (hb : 0 ≤ base) : FSt k base (cutL k base) 0 (base + 1) 0 := by
  have h1 := ok.size
  have h2 := ok.red
  refine ⟨by omega, by omega, by omega, by omega, by omega, by omega, fun h => h, ?_⟩
  by_cases h : 0 < k.red
  · exact .inl ⟨h, k.red.toNat, by omega, by unfold cutL; rw [show base + 1 - 1 = base by omega]⟩
  · refine .inr ⟨by omega, (k.size - k.red).toNat, by omega, ?_⟩
    unfold cutL
    rw [redG_end (by omega), List.nil_append, show k.red = 0 by omega]
theorem FSt.done {k : Pk} {base a nx pl : Int} (h : FSt k base [] a nx pl) : a = k.size := by
  have h1 := h.a1
  rcases h.rst with ⟨q, f, hf, he⟩ | ⟨q, f, hf, he⟩
  · obtain ⟨f, rfl⟩ : ∃ f', f = f' + 1 := ⟨f - 1, by omega⟩
    rw [redG, if_pos q] at he
    split at he <;> simp at he
  · by_cases hh : a < k.size
    · obtain ⟨f, rfl⟩ : ∃ f', f = f' + 1 := ⟨f - 1, by omega⟩
      rw [grnG, if_pos hh] at he
      simp at he
    · omega

theorem room_fit {F mtu n : Int} (hF : 0 ≤ F) (hm0 : 0 ≤ mtu) (hm : mtu ≤ 4096) (hpos : 0 < rmz F mtu) (h0 : 0 ≤ n) (hn : n ≤ rmz F mtu) : F + sz n + n ≤ mtu := by
  have hs := rmz_spec hF hm0 hm
  rcases hs.2.1 with q | q
  · omega
  · have := fit_anti h0 hn (by omega) q
    simpa [fitB] using this
theorem cks_ckT (k : Pk) (t : Int) : cks (ckT k t) = true := by
  unfold ckT endT; split <;> (try split) <;> rfl
theorem pty_ckT (k : Pk) (t : Int) : PTy (ckT k t) := by
  unfold ckT endT PTy; split <;> (try split) <;> simp

theorem pf_c {k : Pk} (ok : k.Ok) {a c : Int} (h0 : 0 ≤ a) (h1 : a < k.red) (hc : 1 ≤ c ∧ c ≤ 4611686018427387903) : PF k (cPc k a k.red c 0) ∧ a + 20 ≤ max (a + 20) (a + ro1 k a c 0) ∧ a + 20 ≤ a + ro1 k a c 0 := by
  have hks := ok.size
  have hkr := ok.red
  have hkm := ok.mtu
  have hfb := fr1_bd ok h0 (show a ≤ 65536 by omega) (show 0 ≤ c ∧ c ≤ _ by omega) (show (0 : Int) ≤ 0 ∧ (0 : Int) ≤ 4611686018427387903 by omega)
  have hro := ro1_low ok h0 (show a ≤ 65536 by omega) (show 0 ≤ c ∧ c ≤ _ by omega) (show (0 : Int) ≤ 0 ∧ (0 : Int) ≤ 4611686018427387903 by omega)
  have hsp := rmz_spec (F := fr1 k a c 0) (mtu := k.mtu) (by omega) (by omega) (by omega)
  have hrr : ro1 k a c 0 = (rmz (fr1 k a c 0) k.mtu : Nat) := rfl
  have hfx : frX k (cPc k a k.red c 0) = fr1 k a c 0 := by unfold frX; rw [show (cPc k a k.red c 0).typ = ckT k (min (a + ro1 k a c 0) k.red) from rfl, cks_ckT]; rfl
  have ht : (cPc k a k.red c 0).to = min (a + ro1 k a c 0) k.red := rfl
  have hfr : (cPc k a k.red c 0).frm = a := rfl
  refine ⟨⟨h0, by rw [ht, hfr]; omega, by rw [ht]; omega, ?_, pty_ckT _ _, .inl ⟨cks_ckT _ _, hc.1, hc.2, by show (0 : Int) ≤ 0; omega, by show (0 : Int) ≤ _; omega⟩, by rw [hfx]; omega, ?_, ?_⟩, by omega, by omega⟩
  · rw [pieceB_iff]
    have has : asB c 0 = true := by unfold asB; rw [btw_t hc.1 hc.2, btw_t (show (0 : Int) ≤ 0 by omega) (by omega)]; rfl
    refine ⟨h0, by rw [ht, hfr]; omega, ?_⟩
    rw [ht, show (cPc k a k.red c 0).typ = ckT k (min (a + ro1 k a c 0) k.red) from rfl, show (cPc k a k.red c 0).chk = c from rfl, show (cPc k a k.red c 0).rep = 0 from rfl]
    by_cases he : min (a + ro1 k a c 0) k.red = k.red
    · refine .inr (.inr (.inl ⟨?_, he, ?_, has⟩))
      · unfold ckT endT; rw [if_pos he]; split <;> simp
      · unfold ckT; rw [if_pos he]
    · refine .inr (.inl ⟨?_, by omega, has⟩)
      unfold ckT; rw [if_neg he]
  · rw [hfx, ht, hfr]
    exact room_fit (by omega) (by omega) (by omega) (by omega) (by omega) (by omega)
  · rw [hfx, ht, hfr]
    by_cases he : min (a + ro1 k a c 0) k.red = k.red
    · exact .inl he
    · refine .inr (.inr (.inr ?_))
      rw [show min (a + ro1 k a c 0) k.red + 1 - a = (rmz (fr1 k a c 0) k.mtu : Nat) + 1 by omega]
      exact hsp.2.2

theorem pf_p {k : Pk} (ok : k.Ok) {a : Int} (h0 : 0 ≤ a) (h1 : a < k.red - 1) : PF k (pPc k a (k.red - 1)) := by
  have hks := ok.size
  have hkr := ok.red
  have hkm := ok.mtu
  have hfb := fr0_bd ok h0 (show a ≤ 65536 by omega)
  have hro := ro0_low ok h0 (show a ≤ 65536 by omega)
  have hsp := rmz_spec (F := fr0 k a) (mtu := k.mtu) (by omega) (by omega) (by omega)
  have hrr : ro0 k a = (rmz (fr0 k a) k.mtu : Nat) := rfl
  have hfx : frX k (pPc k a (k.red - 1)) = fr0 k a := rfl
  have ht : (pPc k a (k.red - 1)).to = min (a + ro0 k a) (k.red - 1) := rfl
  have hfr : (pPc k a (k.red - 1)).frm = a := rfl
  refine ⟨h0, by rw [ht, hfr]; omega, by rw [ht]; omega, ?_, .inl rfl, .inr ⟨rfl, rfl, rfl⟩, by rw [hfx]; omega, ?_, ?_⟩
  · rw [pieceB_iff]
    exact ⟨h0, by rw [ht, hfr]; omega, .inl ⟨rfl, by rw [ht]; omega, rfl⟩⟩
  · rw [hfx, ht, hfr]
    exact room_fit (by omega) (by omega) (by omega) (by omega) (by omega) (by omega)
  · rw [hfx, ht, hfr]
    by_cases he : min (a + ro0 k a) (k.red - 1) = k.red - 1
    · exact .inr (.inr (.inl ⟨rfl, he⟩))
    · refine .inr (.inr (.inr ?_))
      rw [show min (a + ro0 k a) (k.red - 1) + 1 - a = (rmz (fr0 k a) k.mtu : Nat) + 1 by omega]
      exact hsp.2.2

theorem pf_g {k : Pk} (ok : k.Ok) {a : Int} (h0 : k.red ≤ a) (h1 : a < k.size) : PF k (gPc k a) := by
  have hks := ok.size
  have hkr := ok.red
  have hkm := ok.mtu
  have hfb := fr0_bd ok (show 0 ≤ a by omega) (show a ≤ 65536 by omega)
  have hro := ro0_low ok (show 0 ≤ a by omega) (show a ≤ 65536 by omega)
  have hsp := rmz_spec (F := fr0 k a) (mtu := k.mtu) (by omega) (by omega) (by omega)
  have hrr : ro0 k a = (rmz (fr0 k a) k.mtu : Nat) := rfl
  have hty : (gPc k a).typ = if min (a + ro0 k a) k.size = k.size then 7 else 4 := rfl
  have hck : cks (gPc k a).typ = false := by rw [hty]; split <;> rfl
  have hfx : frX k (gPc k a) = fr0 k a := by unfold frX; rw [hck]; rfl
  have ht : (gPc k a).to = min (a + ro0 k a) k.size := rfl
  have hfr : (gPc k a).frm = a := rfl
  refine ⟨by rw [hfr]; omega, by rw [ht, hfr]; omega, by rw [ht]; omega, ?_, ?_, .inr ⟨hck, rfl, rfl⟩, by rw [hfx]; omega, ?_, ?_⟩
  · rw [pieceB_iff]
    refine ⟨by rw [hfr]; omega, by rw [ht, hfr]; omega, ?_⟩
    rw [hty, ht, hfr]
    by_cases he : min (a + ro0 k a) k.size = k.size
    · rw [if_pos he]; exact .inr (.inr (.inr (.inr ⟨rfl, h0, he, rfl⟩)))
    · rw [if_neg he]; exact .inr (.inr (.inr (.inl ⟨rfl, h0, by omega, rfl⟩)))
  · rw [hty]; unfold PTy; split <;> simp
  · rw [hfx, ht, hfr]
    exact room_fit (by omega) (by omega) (by omega) (by omega) (by omega) (by omega)
  · rw [hfx, ht, hfr]
    by_cases he : min (a + ro0 k a) k.size = k.size
    · exact .inr (.inl he)
    · refine .inr (.inr (.inr ?_))
      rw [show min (a + ro0 k a) k.size + 1 - a = (rmz (fr0 k a) k.mtu : Nat) + 1 by omega]
      exact hsp.2.2

theorem FSt.step {k : Pk} (ok : k.Ok) {base a nx pl : Int} (hb : 0 ≤ base ∧ base ≤ 4611686018427322367) {y : Pc} {rest : List Pc} (h : FSt k base (y :: rest) a nx pl) :
    PF k y ∧ y.frm = a ∧ ∃ nx' pl', Kd k a nx pl y nx' pl' ∧ FSt k base rest y.to nx' pl' := by
  have hks := ok.size
  have hkr := ok.red
  have a0 := h.a0
  have a1 := h.a1
  have n0 := h.n0
  have n1 := h.n1
  have p0 := h.p0
  have p1 := h.p1
  have p2 := h.p2
  rcases h.rst with ⟨q, f, hf, he⟩ | ⟨q, f, hf, he⟩
  · obtain ⟨f, rfl⟩ : ∃ f', f = f' + 1 := ⟨f - 1, by omega⟩
    rw [redG, if_pos q] at he
    obtain ⟨hpf, _, hlow⟩ := pf_c ok (c := nx) a0 q (by omega)
    have hrc : redC k a (nx - 1) pl = (decide (min (a + ro1 k a nx 0) k.red = k.red) || decide (pl = k.every - 1)) := by unfold redC; rw [show nx - 1 + 1 = nx by omega]
    have ht : (cPc k a k.red nx 0).to = min (a + ro1 k a nx 0) k.red := rfl
    have hty : (cPc k a k.red nx 0).typ = ckT k (min (a + ro1 k a nx 0) k.red) := rfl
    by_cases hc : redC k a (nx - 1) pl = true
    · rw [if_pos hc, show nx - 1 + 1 = nx by omega, List.cons_append, List.cons.injEq] at he
      obtain ⟨rfl, rfl⟩ := he
      rw [hrc, Bool.or_eq_true, decide_eq_true_eq, decide_eq_true_eq] at hc
      have hl := hpf.lt
      have hfr : (cPc k a k.red nx 0).frm = a := rfl
      refine ⟨hpf, rfl, nx + 1, 0, ?_, ⟨by omega, hpf.hi, by omega, by omega, by omega, by omega, fun h => h, ?_⟩⟩
      · by_cases hr : min (a + ro1 k a nx 0) k.red = k.red
        · by_cases hs : k.red < k.size
          · exact .inl ⟨q, by rw [ht, hr], hs, by rw [hty]; unfold ckT endT; rw [if_pos hr, if_pos hs], rfl, rfl, rfl, rfl⟩
          · exact .inr (.inl ⟨q, by rw [ht, hr], by omega, by rw [hty]; unfold ckT endT; rw [if_pos hr, if_neg hs], rfl, rfl, rfl, rfl⟩)
        · have hp : pl = k.every - 1 := by rcases hc with h | h; exact absurd h hr; exact h
          exact .inr (.inr (.inl ⟨q, by rw [ht]; omega, by rw [hty]; unfold ckT; rw [if_neg hr], by omega, hp, rfl, rfl, rfl, rfl⟩))
      · by_cases hr : (cPc k a k.red nx 0).to < k.red
        · exact .inl ⟨hr, f, by omega, by rw [show nx + 1 - 1 = nx by omega]⟩
        · refine .inr ⟨by omega, (k.size - k.red).toNat, by omega, ?_⟩
          rw [redG_end (by omega), List.nil_append, show (cPc k a k.red nx 0).to = k.red by rw [ht] at hr ⊢; omega]
    · rw [if_neg hc, List.cons_append, List.cons.injEq] at he
      obtain ⟨rfl, rfl⟩ := he
      have hc' : ¬ (min (a + ro1 k a nx 0) k.red = k.red ∨ pl = k.every - 1) := by rw [hrc, Bool.or_eq_true, decide_eq_true_eq, decide_eq_true_eq] at hc; exact hc
      have hpp := pf_p ok a0 (show a < k.red - 1 by omega)
      have hl := hpp.lt
      have hfr : (pPc k a (k.red - 1)).frm = a := rfl
      have ht' : (pPc k a (k.red - 1)).to = min (a + ro0 k a) (k.red - 1) := rfl
      refine ⟨hpp, rfl, nx, pl + 1, .inr (.inr (.inr (.inl ⟨q, by rw [ht']; omega, rfl, rfl, rfl, by omega, rfl, rfl⟩))), ⟨by omega, hpp.hi, n0, by omega, by omega, by omega, by omega, .inl ⟨by rw [ht']; omega, f, by omega, rfl⟩⟩⟩
  · by_cases hh : a < k.size
    · obtain ⟨f, rfl⟩ : ∃ f', f = f' + 1 := ⟨f - 1, by omega⟩
      rw [grnG, if_pos hh, List.cons.injEq] at he
      obtain ⟨rfl, rfl⟩ := he
      have hpg := pf_g ok q hh
      have hl := hpg.lt
      have hfr : (gPc k a).frm = a := rfl
      have hty : (gPc k a).typ = if min (a + ro0 k a) k.size = k.size then 7 else 4 := rfl
      have ht : (gPc k a).to = min (a + ro0 k a) k.size := rfl
      refine ⟨hpg, rfl, nx, pl, ?_, ⟨by omega, hpg.hi, n0, by omega, p0, by omega, p2, .inr ⟨by omega, f, by omega, rfl⟩⟩⟩
      by_cases hr : min (a + ro0 k a) k.size = k.size
      · exact .inr (.inr (.inr (.inr (.inl ⟨q, by rw [ht, hr], by rw [hty, if_pos hr], rfl, rfl, rfl, rfl⟩))))
      · exact .inr (.inr (.inr (.inr (.inr ⟨q, by rw [ht]; omega, by rw [hty, if_neg hr], rfl, rfl, rfl, rfl⟩))))
    · rw [grnG_end (by omega)] at he
      cases he

end Go.Proofs.YtcfodcioeefbeaaDoor
