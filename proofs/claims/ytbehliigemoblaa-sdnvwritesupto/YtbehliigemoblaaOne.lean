import Derived.Test.YtbehliigemoblaaAwake
import Derived.Test.YtbehliigemoblaaJoin
import Derived.Deep.QuietTactic
import Derived.BigQuiet
namespace Go.Proofs.Ytbehliigemoblaa
open Go.RowKit

theorem conv_any (W : World) (a : Option Addr) (n cap : Nat) (xs : List Int) (hl : xs.length = n) (hc : Lies .u8 W a xs) :
    (convert 25 9 (.slice a n cap)).run Try.prog W = .ok (.string (strOfNums xs)) W := by
  rcases hc with rfl | ⟨b, off, rfl, h⟩
  · obtain rfl : n = 0 := by simpa using hl.symm
    cases a with
    | none => exact run_convert_bytes_nil (P := Try.prog) W 25 5 Try.underlying25 Try.underlying5 0 cap 9 Try.underlying9
    | some x =>
      have hl0 := run_loadCells_list (P := Try.prog) W x ([].map (Value.int .u8)) (fun j v hj => by simp at hj)
      rw [run_convert_bytes_string W 25 9 5 _ 0 cap Try.underlying25 Try.underlying5 Try.underlying9, run_bytesToString W x 0 cap [] hl0]
      rfl
  · exact run_convert_bytes_arg (P := Try.prog) W 25 5 Try.underlying25 Try.underlying5 b off n cap xs hl (fun i hi => h i (by omega)) 9 Try.underlying9

theorem Lies.drewN {k : IntKind} {w : World} {a : Option Addr} {zs : List Int} (h : Lies k w a zs) (nd : Nat) : Lies k (w.drewN nd) a zs := by
  rcases h with h | ⟨b, off, ha, h⟩
  · exact .inl h
  · exact .inr ⟨b, off, ha, fun i hi => h i hi⟩

theorem Lies.take {k : IntKind} {w : World} {a : Option Addr} {zs : List Int} (h : Lies k w a zs) (n : Nat) : Lies k w a (zs.take n) := by
  rcases h with rfl | ⟨b, off, ha, h⟩
  · exact .inl (by simp)
  · refine .inr ⟨b, off, ha, fun i hi => ?_⟩
    have hi' : i < n ∧ i < zs.length := by simp at hi; omega
    rw [h i hi'.2]
    simp [List.getD_eq_getElem?_getD, hi'.1]

theorem al_nil : al [] = ([], 0) := rfl
theorem rd_nil : rd [] = (0, 0, 10) := rfl
theorem jn_nil : jn [] = [] := rfl

/-- No bytes at all. -/
theorem one_nil (a : Option Addr) (cap : Nat) (w : World) :
    Calls Try.prog 8 #[.slice a 0 cap] w fun e w' => e = .returned (.bool true) ∧ Below w.heap.size w w' := by
  go_enter Try.func8, Try.ntmps8
  go_wp2_with fail
  refine (awake_any _).mono ?_
  rintro e w1 ⟨rfl, hb1⟩
  go_wp2_with fail
  refine (read_any a [] 0 _ _ (fun _ h => by cases h) rfl (by omega) (.inl rfl)).mono ?_
  rintro e w' ⟨rfl, rfl⟩
  rw [rd_nil]
  go_wp2_with fail
  refine (all_none a cap w1).mono ?_
  rintro e w2 ⟨rfl, rfl⟩
  go_wp2_with fail
  refine (join_none none 0 _).mono ?_
  rintro e w2 ⟨rfl, rfl⟩
  have c1 := conv_any w1 none 0 0 [] rfl (.inl rfl)
  have c2 := conv_any w1 a 0 cap [] rfl (.inl rfl)
  go_wp2
  go_ret
  exact ⟨by simp, hb1⟩

/-- The first number is refused: so are all. -/
theorem one_bad (a : Option Addr) (zs : List Int) (len cap : Nat) (w : World) (hb : Bytey zs) (hl : zs.length = len) (hlc : len ≤ cap) (hcap : cap ≤ 17592186044415) (hc : Lies .u8 w a zs) (hne : 0 < len) (he : (rd zs).2.2 ≠ 0) :
    Calls Try.prog 8 #[.slice a len cap] w fun e w' => e = .returned (.bool true) ∧ Below w.heap.size w w' := by
  have hz : zs ≠ [] := by intro h; rw [h] at hl; simp at hl; omega
  have h1 : (rd zs).1 = 0 ∧ (rd zs).2.1 = 0 := by
    rcases rd_inv zs hb with ⟨h, _⟩ | ⟨_, h, h', _⟩
    · exact absurd h he
    · exact ⟨h, h'⟩
  have h2 := al_first zs hz he
  have h3 : (al zs).1 = [] := by
    rcases (jn_al zs hb).2.2 with ⟨h, _⟩ | ⟨_, h, _⟩
    · rw [h2] at h; exact absurd h he
    · exact h
  have HL : Hid (zs.length = len) := hl
  have HB : Hid (Bytey zs) := hb
  have HC : Hid (Lies .u8 w a zs) := hc
  have H1 : Hid ((rd zs).1 = 0) := h1.1
  have H1' : Hid ((rd zs).2.1 = 0) := h1.2
  have H2 : Hid ((al zs).2 = (rd zs).2.2) := h2
  have H3 : Hid ((al zs).1 = []) := h3
  clear hl hb hc h1 h2 h3 hz
  go_enter Try.func8, Try.ntmps8
  go_wp2_with fail
  refine (awake_any _).mono ?_
  rintro e w1 ⟨rfl, hb1⟩
  go_wp2_with fail
  refine (read_any a zs len _ _ HB.out HL.out (by omega) (HC.out.below hb1)).mono ?_
  rintro e w' ⟨rfl, rfl⟩
  rw [H1.out, H1'.out]
  go_wp2_with fail
  refine (all_any a zs len cap w1 HB.out HL.out hlc (by omega) (by omega) (HC.out.below hb1)).mono ?_
  rintro e w2 ⟨a', c', rfl, hown, hb2⟩
  rw [H2.out, H3.out]
  have HBel : Hid (Below w.heap.size w w2) := hb1.trans (hb2.mono hb1.size)
  clear hown hb1 hb2 H2 H3 H1 H1'
  generalize (rd zs).2.2 = r at he
  have hr : (r != 0) = true := by simp [he]
  have hr2 : (r == 0) = false := by simp [he]
  clear he
  go_wp2
  go_ret
  exact ⟨rfl, HBel.out⟩

set_option maxHeartbeats 1000000 in
theorem one_some (a : Option Addr) (zs : List Int) (len cap : Nat) (w : World) (hb : Bytey zs) (hl : zs.length = len) (hlc : len ≤ cap) (hcap : cap ≤ 14073748835530) (hc : Lies .u8 w a zs) (he : (rd zs).2.2 = 0) (hf : (al zs).2 ≠ 0) :
    Calls Try.prog 8 #[.slice a len cap] w fun e w' => e = .returned (.bool true) ∧ Below w.heap.size w w' := by
  obtain ⟨hk, hsl, ht, hn0, hn1⟩ : (rd zs).2.1 = (sz (rd zs).1 : Int) ∧ sz (rd zs).1 ≤ zs.length ∧ zs.take (sz (rd zs).1) = enc (rd zs).1 ∧ 0 ≤ (rd zs).1 ∧ (rd zs).1 ≤ 18446744073709551615 := by
    rcases rd_inv zs hb with ⟨_, h⟩ | ⟨h, _⟩
    · exact h
    · exact absurd he h
  have hs := sz_bounds (rd zs).1 hn0 hn1
  have hja := jn_al zs hb
  have HL : Hid (zs.length = len) := hl
  have HB : Hid (Bytey zs) := hb
  have HC : Hid (Lies .u8 w a zs) := hc
  have H1' : Hid ((rd zs).2.1 = (sz (rd zs).1 : Int)) := hk
  have H1e : Hid ((rd zs).2.2 = 0) := he
  have HT : Hid (zs.take (sz (rd zs).1) = enc (rd zs).1) := ht
  have HE : Hid ((enc (rd zs).1).length = sz (rd zs).1) := enc_length _ hn0 hn1
  have hs1 := hs.1
  have hsl' : sz (rd zs).1 ≤ len := by omega
  have H3 : Hid ((al zs).1 = []) := by
    rcases hja.2.2 with ⟨h, _⟩ | ⟨_, h, _⟩
    · exact absurd h hf
    · exact h
  clear hl hb hc hk ht hs hsl he hja
  go_enter Try.func8, Try.ntmps8
  go_wp2_with fail
  refine (awake_any _).mono ?_
  rintro e w1 ⟨rfl, hb1⟩
  go_wp2_with fail
  refine (read_any a zs len _ _ HB.out HL.out (by omega) (HC.out.below hb1)).mono ?_
  rintro e w' ⟨rfl, rfl⟩
  rw [H1e.out, H1'.out]
  generalize (rd zs).1 = n at *
  go_wp2_with fail
  refine (all_any a zs len cap w1 HB.out HL.out hlc (by omega) (by omega) (HC.out.below hb1)).mono ?_
  rintro e w2 ⟨a', c', rfl, hown, hb2⟩
  have HBel : Hid (Below w.heap.size w w2) := hb1.trans (hb2.mono hb1.size)
  have HAl : Hid (Lies .u64 w2 a' (al zs).1) := (own_lies hown).1
  clear hown hb1 hb2
  rw [H3.out]
  generalize (al zs).2 = r at *
  have hr : (r != 0) = true := by simp [hf]
  clear hf
  go_wp2_with fail
  refine (bytes_any n w2 hn0 hn1).mono ?_
  rintro e w3 ⟨g, c, rfl, hx, hb3⟩
  have HB3 : Hid (Below w.heap.size w w3) := HBel.out.trans (hb3.mono HBel.out.size)
  have HX : Hid (Lies .u8 w3 (some ⟨g, 0, none⟩) (enc n)) := (own_lies hx).1
  have HA3 : Hid (Lies .u64 w3 a' (al zs).1) := HAl.out.below hb3
  have k1 : ∀ nd, (convert 25 9 (.slice (some ⟨g, 0, none⟩) (sz n) c)).run Try.prog (w3.drewN nd) = .ok (.string (strOfNums (enc n))) (w3.drewN nd) := fun nd => conv_any _ _ _ _ _ HE.out (HX.out.drewN nd)
  have k2 : ∀ nd, (convert 25 9 (.slice a (sz n) cap)).run Try.prog (w3.drewN nd) = .ok (.string (strOfNums (enc n))) (w3.drewN nd) := fun nd => by
    have hh := ((HC.out.below HB3.out).take (sz n)).drewN nd
    rw [HT.out] at hh
    exact conv_any _ _ _ _ _ HE.out hh
  clear hb3 hx
  have q1 : decide ((sz n : Int) < 1) = false := decide_eq_false (by omega)
  have q2 : decide ((len : Int) < (sz n : Int)) = false := decide_eq_false (by omega)
  have q2' : decide (len < sz n) = false := decide_eq_false (by omega)
  have q3 : (sz n : Int) ≤ (cap : Int) := by omega
  go_wp2_with fail
  go_quiet (fail)
  go_wp2
  go_ret
  exact ⟨rfl, below_drewN HB3.out _⟩

set_option maxHeartbeats 1000000 in
theorem one_all (a : Option Addr) (zs : List Int) (len cap : Nat) (w : World) (hb : Bytey zs) (hl : zs.length = len) (hlc : len ≤ cap) (hcap : cap ≤ 14073748835530) (hc : Lies .u8 w a zs) (he : (rd zs).2.2 = 0) (hf : (al zs).2 = 0) :
    Calls Try.prog 8 #[.slice a len cap] w fun e w' => e = .returned (.bool true) ∧ Below w.heap.size w w' := by
  obtain ⟨hk, hsl, ht, hn0, hn1⟩ : (rd zs).2.1 = (sz (rd zs).1 : Int) ∧ sz (rd zs).1 ≤ zs.length ∧ zs.take (sz (rd zs).1) = enc (rd zs).1 ∧ 0 ≤ (rd zs).1 ∧ (rd zs).1 ≤ 18446744073709551615 := by
    rcases rd_inv zs hb with ⟨_, h⟩ | ⟨h, _⟩
    · exact h
    · exact absurd he h
  have hs := sz_bounds (rd zs).1 hn0 hn1
  have hja := jn_al zs hb
  have HL : Hid (zs.length = len) := hl
  have HB : Hid (Bytey zs) := hb
  have HC : Hid (Lies .u8 w a zs) := hc
  have H1' : Hid ((rd zs).2.1 = (sz (rd zs).1 : Int)) := hk
  have H1e : Hid ((rd zs).2.2 = 0) := he
  have HT : Hid (zs.take (sz (rd zs).1) = enc (rd zs).1) := ht
  have HE : Hid ((enc (rd zs).1).length = sz (rd zs).1) := enc_length _ hn0 hn1
  have hs1 := hs.1
  have hsl' : sz (rd zs).1 ≤ len := by omega
  have H3 : Hid (jn (al zs).1 = zs) := by
    rcases hja.2.2 with ⟨_, h⟩ | ⟨h, _⟩
    · exact h
    · exact absurd hf h
  have HN : Hid (Nums (al zs).1) := hja.1
  have hal : (al zs).1.length ≤ len := by omega
  have HF : Hid ((al zs).2 = 0) := hf
  clear hf
  clear hl hb hc hk ht hs hsl he hja
  go_enter Try.func8, Try.ntmps8
  go_wp2_with fail
  refine (awake_any _).mono ?_
  rintro e w1 ⟨rfl, hb1⟩
  go_wp2_with fail
  refine (read_any a zs len _ _ HB.out HL.out (by omega) (HC.out.below hb1)).mono ?_
  rintro e w' ⟨rfl, rfl⟩
  rw [H1e.out, H1'.out]
  generalize (rd zs).1 = n at *
  go_wp2_with fail
  refine (all_any a zs len cap w1 HB.out HL.out hlc (by omega) (by omega) (HC.out.below hb1)).mono ?_
  rintro e w2 ⟨a', c', rfl, hown, hb2⟩
  have HBel : Hid (Below w.heap.size w w2) := hb1.trans (hb2.mono hb1.size)
  have HAl : Hid (Lies .u64 w2 a' (al zs).1) := (own_lies hown).1
  clear hown hb1 hb2
  rw [HF.out]
  go_wp2_with fail
  refine (bytes_any n w2 hn0 hn1).mono ?_
  rintro e w3 ⟨g, c, rfl, hx, hb3⟩
  have HB3 : Hid (Below w.heap.size w w3) := HBel.out.trans (hb3.mono HBel.out.size)
  have HX : Hid (Lies .u8 w3 (some ⟨g, 0, none⟩) (enc n)) := (own_lies hx).1
  have HA3 : Hid (Lies .u64 w3 a' (al zs).1) := HAl.out.below hb3
  have k1 : ∀ nd, (convert 25 9 (.slice (some ⟨g, 0, none⟩) (sz n) c)).run Try.prog (w3.drewN nd) = .ok (.string (strOfNums (enc n))) (w3.drewN nd) := fun nd => conv_any _ _ _ _ _ HE.out (HX.out.drewN nd)
  have k2 : ∀ nd, (convert 25 9 (.slice a (sz n) cap)).run Try.prog (w3.drewN nd) = .ok (.string (strOfNums (enc n))) (w3.drewN nd) := fun nd => by
    have hh := ((HC.out.below HB3.out).take (sz n)).drewN nd
    rw [HT.out] at hh
    exact conv_any _ _ _ _ _ HE.out hh
  clear hb3 hx
  have q1 : decide ((sz n : Int) < 1) = false := decide_eq_false (by omega)
  have q2 : decide ((len : Int) < (sz n : Int)) = false := decide_eq_false (by omega)
  have q2' : decide (len < sz n) = false := decide_eq_false (by omega)
  have q3 : (sz n : Int) ≤ (cap : Int) := by omega
  go_wp2_with fail
  go_quiet (fail)
  go_wp2_with fail
  refine (join_any a' (al zs).1 (al zs).1.length _ _ HN.out rfl (by omega) (HA3.out.drewN _)).mono ?_
  rintro e w4 ⟨a4, c4, rfl, hown4, hb4⟩
  rw [H3.out, HL.out] at hown4
  rw [H3.out, HL.out]
  have HB4 : Hid (Below w.heap.size w w4) := (below_drewN HB3.out _).trans (hb4.mono HB3.out.size)
  have k3 := conv_any w4 a4 len c4 zs HL.out (own_lies hown4).1
  have k4 := conv_any w4 a len cap zs HL.out (HC.out.below HB4.out)
  clear hown4 hb4 k1 k2
  go_wp2
  go_ret
  exact ⟨by simp, HB4.out⟩

theorem one_any (a : Option Addr) (zs : List Int) (len cap : Nat) (w : World) (hb : Bytey zs) (hl : zs.length = len) (hlc : len ≤ cap) (hcap : cap ≤ 14073748835530) (hc : Lies .u8 w a zs) (_ : a = none → len = 0 ∧ cap = 0) :
    Calls Try.prog 8 #[.slice a len cap] w fun e w' => e = .returned (.bool true) ∧ Below w.heap.size w w' := by
  by_cases h0 : len = 0
  · subst h0; exact one_nil a cap w
  · by_cases he : (rd zs).2.2 = 0
    · by_cases hf : (al zs).2 = 0
      · exact one_all a zs len cap w hb hl hlc hcap hc he hf
      · exact one_some a zs len cap w hb hl hlc hcap hc he hf
    · exact one_bad a zs len cap w hb hl hlc (by omega) hc (by omega) he

end Go.Proofs.Ytbehliigemoblaa
