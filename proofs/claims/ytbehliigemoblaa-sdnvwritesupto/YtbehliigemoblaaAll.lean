import Derived.Test.YtbehliigemoblaaNums
import Derived.Test.YtbehliigemoblaaMem
import Derived.Test.YtbehliigemoblaaAllMath
namespace Go.Proofs.Ytbehliigemoblaa
open Go.RowKit

theorem Try.info_u64 : (Try.prog.info? 27).map (fun i => (i.zero, i.size, i.bytes)) = some (some (.int .u64 0), 1, 8) := by kernel_rfl

theorem own_shape {w : World} {base n : Nat} {e : TypeId} {v : Value} {xs : List Value} (h : w.ownsRow base e 1 v n xs) : ∃ a cap, v = .slice a n cap := by
  obtain ⟨_, ⟨rfl, rfl⟩ | ⟨g, cap, cur, rfl, _⟩⟩ := h
  · exact ⟨none, 0, rfl⟩
  · exact ⟨_, cap, rfl⟩

theorem own_lies {w : World} {base n cap : Nat} {e : TypeId} {a : Option Addr} {k : IntKind} {xs : List Int} (h : w.ownsRow base e 1 (.slice a n cap) n (xs.map (Value.int k))) : Lies k w a xs ∧ xs.length = n := by
  have hl : xs.length = n := by have := h.1; simpa using this
  refine ⟨?_, hl⟩
  obtain ⟨_, ⟨_, h0⟩ | ⟨g, cap', cur, hv, hb, hg, hn, hm, hs, ht⟩⟩ := id h
  · exact .inl (List.eq_nil_of_length_eq_zero (by omega))
  · simp only [Value.slice.injEq] at hv
    obtain ⟨rfl, _, rfl⟩ := hv
    refine .inr ⟨g, 0, rfl, fun i hi => ?_⟩
    rw [Nat.zero_add, h.cellAt i (by omega), List.getElem?_map, List.getD_eq_getElem?_getD, List.getElem?_eq_getElem hi]
    rfl

theorem own_grown {w0 w w' : World} {base n : Nat} {e : TypeId} {v : Value} {xs : List Value} (hb : Below base w0 w) (hg : w.grownBy w' v.ownBlock) (h : w.ownsRow base e 1 v n xs) (hs : base ≤ w.heap.size) : Below base w0 w' :=
  hb.grown hg hs (fun j hj => (h.lt j hj).1)

theorem lies_drop {k : IntKind} {w : World} {b off : Nat} {zs : List Int} (h : ∀ i, i < zs.length → w.cell? ⟨b, off + i, none⟩ = some (.int k (zs.getD i 0))) (m : Nat) : Lies k w (some ⟨b, off + m, none⟩) (zs.drop m) := by
  refine .inr ⟨b, off + m, rfl, fun i hi => ?_⟩
  simp at hi
  rw [Nat.add_assoc, h (m + i) (by omega)]
  simp [List.getD_eq_getElem?_getD]

def lenV : Value → Nat | .slice _ n _ => n | _ => 0

set_option maxHeartbeats 1000000 in
theorem all_some (b off : Nat) (zs : List Int) (cap : Nat) (w : World) (hb : Bytey zs) (hl : zs.length ≤ cap) (hm : zs.length ≤ 17592186044415) (hcm : cap ≤ 9223372036854775807)
    (hc : ∀ i, i < zs.length → w.cell? ⟨b, off + i, none⟩ = some (.int .u8 (zs.getD i 0))) :
    Calls Try.prog 21 #[.slice (some ⟨b, off, none⟩) zs.length cap] w fun e w' => ∃ a c, e = .returned (.tuple #[.slice a (al zs).1.length c, .int .i64 (al zs).2]) ∧
      w'.ownsRow w.heap.size 27 1 (.slice a (al zs).1.length c) (al zs).1.length ((al zs).1.map (Value.int .u64)) ∧ Below w.heap.size w w' := by
  obtain ⟨i0, hi, hz0, hz1, hz2⟩ := info_parts Try.info_u64
  have HB : Hid (Bytey zs) := hb
  have HC : Hid (∀ i, i < zs.length → w.cell? ⟨b, off + i, none⟩ = some (.int .u8 (zs.getD i 0))) := hc
  clear hb hc
  go_enter Try.func21, Try.ntmps21
  go_wp2_with fail
  go_loopw [0, 4] (fun s v wr => ∃ (m : Nat) (c : Nat) (ad : Option Addr) (acc : List Int), m ≤ zs.length ∧ zs.length - m ≤ c ∧ c ≤ cap ∧ (m < zs.length → ad = some ⟨b, off + m, none⟩) ∧ s = .slice ad (zs.length - m) c ∧ acc.length ≤ m ∧
      wr.ownsRow w.heap.size 27 1 v acc.length (acc.map (Value.int .u64)) ∧ Below w.heap.size w wr ∧ alGo (zs.length - m) acc (zs.drop m) = al zs) (fun s _ _ => lenV s)
  case atStart => exact ⟨0, cap, _, [], by omega, by omega, by omega, fun _ => rfl, rfl, by simp, World.ownsRow_nil _ _ _ _, Below.refl _ _, rfl⟩
  case round =>
    obtain ⟨m, c, ad, acc, hm1, hc1, hc2, had, rfl, hacc, hown, hbel, hal⟩ := hrel
    have HA : Hid (alGo (zs.length - m) acc (zs.drop m) = al zs) := hal
    clear hal
    by_cases hlt : m < zs.length
    · have had' := had hlt
      subst had'
      clear had
      have hp : (0 : Int) < ((zs.length - m : Nat) : Int) := by omega
      have HL : Hid (Lies .u8 wr (some ⟨b, off + m, none⟩) (zs.drop m)) := (lies_drop HC.out m).below hbel
      have HBm : Hid (Bytey (zs.drop m)) := fun z hz => HB.out z (List.mem_of_mem_drop hz)
      go_wp2_with fail
      refine (read_any _ (zs.drop m) (zs.length - m) _ _ HBm.out (by simp) (by omega) HL.out).mono ?_
      rintro e w' ⟨rfl, rfl⟩
      have hinv := rd_inv (zs.drop m) HBm.out
      rcases hinv with ⟨he, hk, hsl, ht, hn0, hn1⟩ | ⟨he, hx⟩
      · have hs0 := sz_bounds (rd (zs.drop m)).1 hn0 hn1
        have hs1 := hs0.1
        have hsl' : sz (rd (zs.drop m)).1 ≤ zs.length - m := by simpa using hsl
        have HA2 : Hid (alGo (zs.length - (m + sz (rd (zs.drop m)).1)) (acc ++ [(rd (zs.drop m)).1]) (zs.drop (m + sz (rd (zs.drop m)).1)) = al zs) := (alGo_step zs m acc hlt HB.out he hk hs1).trans HA.out
        rw [he, hk]
        clear hs0 HA he hk ht hsl
        generalize sz (rd (zs.drop m)).1 = k at *
        generalize (rd (zs.drop m)).1 = n at *
        have hk2 : (k : Int) ≤ ((zs.length - m : Nat) : Int) := by omega
        go_wp2_with (at_builtin; refine wpList_append_own _ rfl _ _ 31 rfl w.heap.size 27 i0 (.int .u64 0) 1 8 Try.underlying31 hi hz0 hz1 hz2 rfl (by decide) _ _ _ rfl (hown.alloc _) ⟨wr.heap.size, 0, none⟩ 1 1 [.int .u64 n] rfl rfl ?c1 ?c2 ?c3 ?c4 ?c5 ?_)
        case c1 => exact cell_one_new _ _ _
        case c2 => intro u hu; simp at hu; subst hu; rfl
        case c3 => unfold maxLen; omega
        case c4 => omega
        case c5 => have := hbel.size; simp; omega
        intro v' w1 hown1 hgrow _
        have HO : Hid (w1.ownsRow w.heap.size 27 1 v' (acc ++ [n]).length ((acc ++ [n]).map (Value.int .u64))) := by unfold Hid; simpa using hown1
        have HB1 : Hid (Below w.heap.size w w1) := own_grown (hbel.alloc hbel.size _) hgrow (hown.alloc _) (by have := hbel.size; simp; omega)
        clear hown hbel hown1 hgrow
        go_wp2
        go_roundw
        case rel =>
          refine ⟨m + k, c - k, if c = k then some ⟨b, off + m, none⟩ else some ⟨b, off + m + k, none⟩, acc ++ [n], by omega, by omega, by omega, ?_, ?_, by simp; omega, HO.out, HB1.out, HA2.out⟩
          · intro hmk
            rw [if_neg (by omega), Nat.add_assoc]
          · rw [show zs.length - m - k = zs.length - (m + k) from by omega]
        case measure => simp [lenV]; omega
      · have hal2 : Hid (al zs = ([], (rd (zs.drop m)).2.2)) := HA.out.symm.trans (alGo_bad zs m acc hlt he)
        have HBel : Hid (Below w.heap.size w wr) := hbel
        clear HA hown hbel hacc
        generalize (rd (zs.drop m)).2.2 = r at *
        have hne : (r != 0) = true := by simp [he]
        clear he hx
        go_wp2
        go_ret2
        refine ⟨none, 0, ?_, ?_, HBel.out⟩
        · rw [hal2.out]; rfl
        · rw [hal2.out]; exact World.ownsRow_nil _ _ _ _
    · have hal2 : Hid (al zs = (acc, 0)) := by
        have := HA.out
        rw [show zs.length - m = 0 from by omega, alGo] at this
        exact this.symm
      have HO : Hid (wr.ownsRow w.heap.size 27 1 _ acc.length (acc.map (Value.int .u64))) := hown
      have HBel : Hid (Below w.heap.size w wr) := hbel
      have hz0' : zs.length - m = 0 := by omega
      clear HA hown hbel hacc had
      rw [hz0']
      obtain ⟨av, cv, hv⟩ := own_shape HO.out
      subst hv
      go_wp2
      go_ret2
      refine ⟨av, cv, ?_, ?_, HBel.out⟩
      · rw [hal2.out]; rfl
      · rw [hal2.out]; exact HO.out

set_option maxHeartbeats 1000000 in
theorem all_none (a : Option Addr) (cap : Nat) (w : World) :
    Calls Try.prog 21 #[.slice a 0 cap] w fun e w' => e = .returned (.tuple #[.slice none 0 0, .int .i64 0]) ∧ w = w' := by
  go_enter Try.func21, Try.ntmps21
  go_wp2_with fail
  refine wp_loop_rounds 1 ?_
  rw [rounds_succ]
  go_wp2
  go_ret2
  exact ⟨rfl, rfl⟩

theorem all_any (a : Option Addr) (zs : List Int) (len cap : Nat) (w : World) (hb : Bytey zs) (hl : zs.length = len) (hlc : len ≤ cap) (hm : len ≤ 17592186044415) (hcm : cap ≤ 9223372036854775807) (hc : Lies .u8 w a zs) :
    Calls Try.prog 21 #[.slice a len cap] w fun e w' => ∃ a' c, e = .returned (.tuple #[.slice a' (al zs).1.length c, .int .i64 (al zs).2]) ∧
      w'.ownsRow w.heap.size 27 1 (.slice a' (al zs).1.length c) (al zs).1.length ((al zs).1.map (Value.int .u64)) ∧ Below w.heap.size w w' := by
  subst hl
  rcases hc with rfl | ⟨b, off, rfl, hc⟩
  · refine (all_none a cap w).mono ?_
    rintro e w' ⟨rfl, rfl⟩
    exact ⟨none, 0, rfl, World.ownsRow_nil _ _ _ _, Below.refl _ _⟩
  · exact all_some b off zs cap w hb hlc hm hcm hc

end Go.Proofs.Ytbehliigemoblaa
