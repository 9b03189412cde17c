import Derived.Test.YtkkmoplijicmpaeDoorChecked
import Derived.Test.YtkkmoplijicmpaeDoorLen
import Derived.WalkKit
import Derived.WalkSpells
import Derived.WalkLawsBesides
import Derived.Laws.BitsAllLaws
import Derived.Test.YtkkmoplijicmpaeDoorRead
import Derived.Test.YtkkmoplijicmpaeDoorMath
namespace Go.Proofs.YtkkmoplijicmpaeDoor
open Go.RowKit

theorem or_one (n : Int) (h0 : 0 ≤ n) (h1 : n ≤ 18446744073709551615) : bits .or .u64 n 1 = ((Nat.lor n.toNat 1 : Nat) : Int) := by
  rw [u64_or n 1 h0 (by omega) (by omega) (by omega)]; rfl
theorem or_one_lt (n : Int) (h0 : 0 ≤ n) (h1 : n ≤ 18446744073709551615) : ((Nat.lor n.toNat 1 : Nat) : Int) ≤ 18446744073709551615 := by
  rw [lor_one]; omega

set_option maxHeartbeats 400000 in
theorem size_any (n : Int) (w : World) (h0 : 0 ≤ n) (h1 : n ≤ 18446744073709551615) :
    Calls Tryd.prog 155 #[.int .u64 n] w fun e w' => e = .returned (.int .i64 (sz n)) ∧ w = w' := by
  have ho := or_one n h0 h1
  have hl := or_one_lt n h0 h1
  have hb : Lib.bitLen (Nat.lor n.toNat 1) ≤ 64 := Lib.bitLen_le _ 64 (Nat.le_refl _) (by omega)
  have hn : (0 : Int) ≤ ((Nat.lor n.toNat 1 : Nat) : Int) := by omega
  have hs : Hid ((sz n : Int) = ((Lib.bitLen (Nat.lor n.toNat 1) : Int) + 6) / 7) := by unfold Hid sz; omega
  generalize Nat.lor n.toNat 1 = y at ho hl hb hn hs
  go_enter Tryd.func155, Tryd.ntmps155
  go_wp2_with (go_at_call 161; refine (len64_any _ _ hn hl).mono ?_; rintro e w' ⟨rfl, rfl⟩)
  go_ret
  refine ⟨congrArg Ending.returned (congrArg (Value.int IntKind.i64) ?_), rfl⟩
  rw [hs.out]; omega

theorem pow7 (k : Nat) : (2 : Int) ^ (7 * k) = 128 ^ k := by rw [Int.pow_mul]; rfl

theorem hi_digit (n : Int) (k : Nat) (h0 : 0 ≤ n) : bits .or .u8 (n / 2 ^ (7 * k) % 256) 128 = n / 128 ^ k % 128 + 128 := by
  rw [pow7]
  have hq : 0 ≤ n / 128 ^ k := Int.ediv_nonneg h0 (Int.pow_nonneg (by omega))
  generalize n / 128 ^ k = q at hq ⊢
  rw [u8_or _ _ (by omega) (by omega) (by omega) (by omega)]
  obtain ⟨x, hx⟩ : ∃ x : Nat, q = x := ⟨q.toNat, by omega⟩
  subst hx
  have e : (((x : Int) % 256).toNat ||| (128 : Int).toNat) = x % 128 + 128 := by
    rw [show ((x : Int) % 256).toNat = x % 256 from by omega, show (128 : Int).toNat = 2 ^ 7 from rfl]
    by_cases hb : x % 256 < 128
    · rw [Nat.or_comm, nat_join 7 (2 ^ 7) (x % 256) (by omega) (by omega)]; omega
    · rw [show x % 256 = 2 ^ 7 ||| (x % 128) from by rw [nat_join 7 (2 ^ 7) (x % 128) (by omega) (by omega)]; omega]
      rw [Nat.or_comm, ← Nat.or_assoc, Nat.or_self, nat_join 7 (2 ^ 7) (x % 128) (by omega) (by omega)]; omega
  rw [e]; omega

theorem lo_digit (n : Int) (h0 : 0 ≤ n) : bits .andNot .u8 (n % 256) 128 = n % 128 := by
  rw [u8_andNot _ _ (by omega) (by omega) (by omega) (by omega)]
  obtain ⟨x, hx⟩ : ∃ x : Nat, n = x := ⟨n.toNat, by omega⟩
  subst hx
  rw [show ((x : Int) % 256).toNat = x % 256 from by omega, show 255 - (128 : Int).toNat = 127 from rfl, nat_mask7]
  omega

theorem Tryd.info_u8 : (Tryd.prog.info? 5).map (fun i => (i.zero, i.size, i.bytes)) = some (some (.int .u8 0), 1, 1) := by kernel_rfl

set_option maxHeartbeats 400000 in
theorem put_any (v : Value) (m : Nat) (xs : List Value) (base : Nat) (n : Int) (w : World) (h0 : 0 ≤ n) (h1 : n ≤ 18446744073709551615)
    (hown : w.ownsRow base 5 1 v m xs) (hbase : base ≤ w.heap.size) (hm : m + 10 ≤ 140737488355328) :
    Calls Tryd.prog 160 #[v, .int .u64 n] w fun e w' => ∃ g cap, e = .returned (.slice (some ⟨g, 0, none⟩) (m + sz n) cap) ∧
      w'.ownsRow base 5 1 (.slice (some ⟨g, 0, none⟩) (m + sz n) cap) (m + sz n) (xs ++ (enc n).map (Value.int .u8)) ∧ Below base w w' := by
  have hs := sz_bounds n h0 h1
  obtain ⟨hs1, hs2, hs3, hs4⟩ := hs
  clear hs3 hs4
  obtain ⟨i0, hi, hz0, hz1, hz2⟩ := info_parts Tryd.info_u8
  go_enter Tryd.func160, Tryd.ntmps160
  go_wp2_with (go_at_call 155; refine (size_any _ _ (by omega) (by omega)).mono ?_; rintro e w' ⟨rfl, rfl⟩)
  go_loopw [0, 5] (fun v' i wr => ∃ k : Nat, ∃ pre : List Int, i = .int .i64 k ∧ k ≤ 9 ∧ k + pre.length + 1 = sz n ∧ pre ++ tl n k = enc n ∧ wr.ownsRow base 5 1 v' (m + pre.length) (xs ++ pre.map (Value.int .u8)) ∧ Below base w wr) (fun _ i _ => (intOf i).toNat)
  case atStart => exact ⟨sz n - 1, [], by go_num, by omega, by simp; omega, rfl, by simpa using hown, Below.refl _ _⟩
  case round =>
    obtain ⟨k, pre, rfl, hk, hlen, hpre, hown', hbel⟩ := hrel
    have hpre' : Hid (pre ++ tl n k = enc n) := hpre
    have hlen' : Hid (k + pre.length + 1 = sz n) := hlen
    have hpl : pre.length ≤ 9 := by omega
    clear hpre hlen hown
    have hsz := hbel.size
    by_cases hz : 0 < k
    · have hz' : (0 : Int) < (k : Int) := by omega
      have h7 : (7 * (k : Int)) ≤ 63 := by omega
      go_wp2_with (at_builtin; refine wpList_append_own _ rfl _ _ 34 rfl base 5 i0 (.int .u8 0) 1 1 Tryd.underlying34 hi hz0 hz1 hz2 rfl (by decide) _ _ _ rfl (hown'.alloc _) ⟨wr.heap.size, 0, none⟩ 1 1 [.int .u8 (bits BinOp.or IntKind.u8 (n / 2 ^ (7 * k) % 256) 128)] rfl rfl ?c1 ?c2 ?c3 ?c4 ?c5 ?_)
      case c1 => exact cell_one_new _ _ _
      case c2 => intro u hu; simp at hu; subst hu; rfl
      case c3 => unfold maxLen; omega
      case c4 => omega
      case c5 => simp; omega
      intro v' w1 hown1 hgrow _
      have hb1 : Below base w w1 := (hbel.alloc (by omega) _).grown hgrow (by simp; omega) (by intro j hj; obtain ⟨_, _ | ⟨g, cap, cur, hv, hg, _⟩⟩ := hown' <;> simp_all [Value.ownBlock])
      rw [hi_digit n k h0] at hown1
      clear hown' hbel hgrow hsz
      go_wp2
      go_roundw
      case rel =>
        obtain ⟨k, rfl⟩ : ∃ k', k = k' + 1 := ⟨k - 1, by omega⟩
        refine ⟨k, pre ++ [n / 128 ^ (k + 1) % 128 + 128], by go_num, by omega, by have := hlen'.out; simp; omega, by have := hpre'.out; simpa [tl] using this, ?_, hb1⟩
        simpa [Nat.add_assoc] using hown1
      case measure => simp [intOf]; omega
    · have hk0 : k = 0 := by omega
      subst hk0
      go_wp2_with (at_builtin; refine wpList_append_own _ rfl _ _ 34 rfl base 5 i0 (.int .u8 0) 1 1 Tryd.underlying34 hi hz0 hz1 hz2 rfl (by decide) _ _ _ rfl (hown'.alloc _) ⟨wr.heap.size, 0, none⟩ 1 1 [.int .u8 (bits BinOp.andNot IntKind.u8 (n % 256) 128)] rfl rfl ?e1 ?e2 ?e3 ?e4 ?e5 ?_)
      case e1 => exact cell_one_new _ _ _
      case e2 => intro u hu; simp at hu; subst hu; rfl
      case e3 => unfold maxLen; omega
      case e4 => omega
      case e5 => simp; omega
      intro v' w1 hown1 hgrow _
      have hb1 : Below base w w1 := (hbel.alloc (by omega) _).grown hgrow (by simp; omega) (by intro j hj; obtain ⟨_, _ | ⟨g, cap, cur, hv, hg, _⟩⟩ := hown' <;> simp_all [Value.ownBlock])
      rw [lo_digit n h0] at hown1
      clear hown' hbel hgrow hsz
      have hend : ∃ g cap, v' = .slice (some ⟨g, 0, none⟩) (m + sz n) cap ∧ w1.ownsRow base 5 1 (.slice (some ⟨g, 0, none⟩) (m + sz n) cap) (m + sz n) (xs ++ (enc n).map (Value.int .u8)) := by
        have e1 : m + pre.length + 1 = m + sz n := by have := hlen'.out; omega
        have e2 : enc n = pre ++ [n % 128] := hpre'.out.symm
        rw [e1] at hown1
        rw [e2, List.map_append]
        obtain ⟨hl, ⟨_, h⟩ | ⟨g, cap, cur, hv, r⟩⟩ := hown1
        · omega
        · subst hv
          exact ⟨g, cap, rfl, hl, .inr ⟨g, cap, cur, rfl, r⟩⟩
      obtain ⟨g, cap, hv, hown2⟩ := hend
      subst hv
      go_wp2
      go_ret
      exact ⟨g, cap, rfl, hown2, hb1⟩

set_option maxHeartbeats 400000 in
theorem bytes_any (n : Int) (w : World) (h0 : 0 ≤ n) (h1 : n ≤ 18446744073709551615) :
    Calls Tryd.prog 154 #[.int .u64 n] w fun e w' => ∃ g cap, e = .returned (.slice (some ⟨g, 0, none⟩) (sz n) cap) ∧
      w'.ownsRow w.heap.size 5 1 (.slice (some ⟨g, 0, none⟩) (sz n) cap) (sz n) ((enc n).map (Value.int .u8)) ∧ Below w.heap.size w w' := by
  go_enter Tryd.func154, Tryd.ntmps154
  go_wp2_with (go_at_call 160; refine (put_any (.slice none 0 0) 0 [] w.heap.size n w h0 h1 (World.ownsRow_nil _ _ _ _) (Nat.le_refl _) (by omega)).mono ?_; rintro e w' ⟨g, cap, rfl, hown, hb⟩)
  go_ret
  simp only [Nat.zero_add, List.nil_append] at hown
  exact ⟨g, cap, by simp, hown, hb⟩

end Go.Proofs.YtkkmoplijicmpaeDoor

namespace Go.Proofs.YtkkmoplijicmpaeDoor
open Go.RowKit

theorem own_shape {w : World} {base n sz : Nat} {e : TypeId} {v : Value} {xs : List Value} (h : w.ownsRow base e sz v n xs) : ∃ a cap, v = .slice a n cap := by
  obtain ⟨_, ⟨rfl, rfl⟩ | ⟨g, cap, cur, rfl, _⟩⟩ := h
  · exact ⟨none, 0, rfl⟩
  · exact ⟨_, cap, rfl⟩

theorem own_lies {w : World} {base n cap : Nat} {e : TypeId} {a : Option Addr} {k : IntKind} {xs : List Int} (h : w.ownsRow base e 1 (.slice a n cap) n (xs.map (Value.int k))) : Lies k w a xs ∧ xs.length = n := by
  have hl : xs.length = n := by have := h.1; simpa using this
  refine ⟨?_, hl⟩
  obtain ⟨_, ⟨_, h0⟩ | ⟨g, cap', cur, hv, hb, hg, hn, hm, hs, ht⟩⟩ := id h
  · exact .inl (List.eq_nil_of_length_eq_zero (by omega))
  · simp only [Value.slice.injEq] at hv
    obtain ⟨rfl, _, rfl⟩ := hv
    refine .inr ⟨g, 0, rfl, fun i hi => ?_⟩
    rw [Nat.zero_add, h.cellAt i (by omega), List.getElem?_map, List.getD_eq_getElem?_getD, List.getElem?_eq_getElem hi]
    rfl

end Go.Proofs.YtkkmoplijicmpaeDoor

namespace Go.Proofs.YtkkmoplijicmpaeDoor

/-- What a reading comes to: an error, or a value and what is left. -/
inductive Res (α : Type) where
  | bad (e : Int)
  | ok (v : α) (rest : List Int)

def Pr (α : Type) := List Int → Res α

def Pr.ret {α : Type} (v : α) : Pr α := fun zs => .ok v zs
def Pr.fail {α : Type} (e : Int) : Pr α := fun _ => .bad e
def Pr.bind {α β : Type} (p : Pr α) (f : α → Pr β) : Pr β := fun zs => match p zs with
  | .bad e => .bad e
  | .ok v r => f v r

theorem Pr.bind_assoc {α β γ : Type} (p : Pr α) (f : α → Pr β) (g : β → Pr γ) : (p.bind f).bind g = p.bind fun v => (f v).bind g := by
  funext zs
  simp only [Pr.bind]
  cases p zs <;> rfl
/-- A reading that takes a piece, tells at once what is wrong, and is short of every shorter beginning. -/
structure Good {α : Type} (p : Pr α) : Prop where
  ok : ∀ zs v r, p zs = .ok v r → ∃ c, zs = c ++ r ∧ (∀ x, p (c ++ x) = .ok v x) ∧ ∀ k, k < c.length → p (c.take k) = .bad 20
  bad : ∀ zs e, p zs = .bad e → e ≠ 20 → ∀ x, p (zs ++ x) = .bad e

theorem Good.ret {α : Type} (v : α) : Good (Pr.ret v) :=
  ⟨fun zs v' r h => ⟨[], by simp [Pr.ret] at h; simp [h.2], by simp [Pr.ret] at h; intro x; simp [Pr.ret, h.1], by simp⟩, fun zs e h => by simp [Pr.ret] at h⟩
theorem Good.fail {α : Type} (e : Int) : Good (Pr.fail (α := α) e) :=
  ⟨fun zs v' r h => by simp [Pr.fail] at h, fun zs e' h _ x => by simp [Pr.fail] at h ⊢; exact h⟩

theorem Good.bind {α β : Type} {p : Pr α} {f : α → Pr β} (hp : Good p) (hf : ∀ v, Good (f v)) : Good (p.bind f) := by
  constructor
  · intro zs v r h
    simp only [Pr.bind] at h
    cases h1 : p zs with
    | bad e => rw [h1] at h; cases h
    | ok u r1 =>
      rw [h1] at h
      obtain ⟨c1, rfl, a1, b1⟩ := hp.ok zs u r1 h1
      obtain ⟨c2, rfl, a2, b2⟩ := (hf u).ok r1 v r h
      refine ⟨c1 ++ c2, by simp, fun x => ?_, fun k hk => ?_⟩
      · simp only [Pr.bind, List.append_assoc, a1, a2]
      · by_cases hk1 : k < c1.length
        · rw [List.take_append_of_le_length (by omega)]
          simp only [Pr.bind, b1 k hk1]
        · rw [List.take_append, List.take_of_length_le (by omega)]
          simp only [Pr.bind, a1]
          exact b2 _ (by simp at hk; omega)
  · intro zs e h he x
    simp only [Pr.bind] at h ⊢
    cases h1 : p zs with
    | bad e1 =>
      rw [h1] at h
      simp at h; subst h
      rw [hp.bad zs e1 h1 he x]
    | ok u r1 =>
      rw [h1] at h
      obtain ⟨c1, rfl, a1, b1⟩ := hp.ok zs u r1 h1
      rw [List.append_assoc, a1]
      exact (hf u).bad r1 e h he x

def oct : Pr Int := fun zs => match zs with
  | [] => .bad 20
  | c :: r => .ok c r
def numb (lo hi : Int) : Pr Int := fun zs =>
  if (rd zs).2.2 = 10 then .bad 20 else if (rd zs).2.2 ≠ 0 ∨ 4611686018427387903 < (rd zs).1 then .bad 22
  else if lo ≤ (rd zs).1 ∧ (rd zs).1 ≤ hi then .ok (rd zs).1 (zs.drop (rd zs).2.1.toNat) else .bad 23
def rowp (n : Int) : Pr (List Int) := fun zs => if (zs.length : Int) < n then .bad 20 else .ok (zs.take n.toNat) (zs.drop n.toNat)

theorem rdGo_cut : ∀ (zs : List Int) (v i : Int),
    ((rdGo v i zs).2.2 = 0 ∧ ∃ c r, zs = c ++ r ∧ (rdGo v i zs).2.1 = i + c.length ∧ (∀ x, rdGo v i (c ++ x) = rdGo v i zs) ∧ ∀ j, j < c.length → rdGo v i (c.take j) = (0, 0, 10)) ∨
    ((rdGo v i zs).2.2 ≠ 0 ∧ ((rdGo v i zs).2.2 ≠ 10 → ∀ x, rdGo v i (zs ++ x) = rdGo v i zs))
  | [], v, i => by right; simp [rdGo]
  | z :: zs, v, i => by
    by_cases h1 : i = 0 ∧ z = 128
    · right; simp [rdGo, h1]
    · by_cases h2 : 144115188075855871 < v
      · right; simp [rdGo, h1, h2]
      · by_cases h3 : z < 128
        · left
          refine ⟨by simp [rdGo, h1, h2, h3], [z], zs, by simp, by simp [rdGo, h1, h2, h3], fun x => by simp [rdGo, h1, h2, h3], fun j hj => ?_⟩
          obtain rfl : j = 0 := by simp at hj; omega
          rfl
        · rcases rdGo_cut zs (v * 128 + (z - 128)) (i + 1) with ⟨a, c, r, e, b, d, f⟩ | ⟨a, b⟩
          · left
            refine ⟨by simp only [rdGo, h1, h2, h3, if_false]; exact a, z :: c, r, by simp [e], ?_, fun x => ?_, fun j hj => ?_⟩
            · simp only [rdGo, h1, h2, h3, if_false, b]; simp; omega
            · simp only [rdGo, h1, h2, h3, if_false, List.cons_append, d]
            · cases j with
              | zero => rfl
              | succ j =>
                simp only [List.take_succ_cons, rdGo, h1, h2, h3, if_false]
                exact f j (by simp at hj; omega)
          · right
            refine ⟨by simp only [rdGo, h1, h2, h3, if_false]; exact a, fun hn x => ?_⟩
            simp only [rdGo, h1, h2, h3, if_false, List.cons_append] at hn ⊢
            exact b hn x

theorem Good.oct : Good oct := by
  constructor
  · intro zs v r h
    cases zs with
    | nil => simp [Go.Proofs.YtkkmoplijicmpaeDoor.oct] at h
    | cons c t =>
      simp only [Go.Proofs.YtkkmoplijicmpaeDoor.oct, Res.ok.injEq] at h
      obtain ⟨rfl, rfl⟩ := h
      refine ⟨[c], rfl, fun x => rfl, fun k hk => ?_⟩
      obtain rfl : k = 0 := by simp at hk; omega
      rfl
  · intro zs e h he x
    cases zs with
    | nil => simp only [Go.Proofs.YtkkmoplijicmpaeDoor.oct, Res.bad.injEq] at h; omega
    | cons c t => simp [Go.Proofs.YtkkmoplijicmpaeDoor.oct] at h

theorem numb_ok {lo hi : Int} {zs : List Int} {v : Int} {r : List Int} (h : numb lo hi zs = .ok v r) : (rd zs).2.2 = 0 ∧ (rd zs).1 = v ∧ lo ≤ v ∧ v ≤ hi ∧ v ≤ 4611686018427387903 ∧ r = zs.drop (rd zs).2.1.toNat := by
  unfold numb at h
  split at h
  · cases h
  · split at h
    · cases h
    · split at h
      · rename_i h1 h2 h3
        simp only [Res.ok.injEq] at h
        obtain ⟨rfl, rfl⟩ := h
        exact ⟨by omega, rfl, h3.1, h3.2, by omega, rfl⟩
      · cases h

theorem Good.numb (lo hi : Int) : Good (numb lo hi) := by
  constructor
  · intro zs v r h
    obtain ⟨h0, hv, hl, hh, hm, hr⟩ := numb_ok h
    rcases rdGo_cut zs 0 0 with ⟨a, c, t, e, b, d, f⟩ | ⟨a, _⟩
    · have b' : (rd zs).2.1 = c.length := by have : (rd zs).2.1 = 0 + (c.length : Int) := b; omega
      have hrt : r = t := by rw [hr, b', e]; simp
      subst hrt
      refine ⟨c, e, fun x => ?_, fun k hk => ?_⟩
      · have d' : rd (c ++ x) = rd zs := d x
        unfold Go.Proofs.YtkkmoplijicmpaeDoor.numb
        rw [d', if_neg (by omega), if_neg (by omega), if_pos (by omega), hv, b']
        simp
      · have f' : rd (c.take k) = (0, 0, 10) := f k hk
        unfold Go.Proofs.YtkkmoplijicmpaeDoor.numb
        rw [f', if_pos rfl]
    · exact absurd h0 a
  · intro zs e h he x
    unfold Go.Proofs.YtkkmoplijicmpaeDoor.numb at h ⊢
    split at h
    · simp at h; omega
    · rename_i h10
      rcases rdGo_cut zs 0 0 with ⟨a, c, t, e', b, d, f⟩ | ⟨a, b⟩
      · have d' : rd (zs ++ x) = rd zs := by
          have h1 : rd (c ++ (t ++ x)) = rd zs := d (t ++ x)
          rw [← List.append_assoc, ← e'] at h1; exact h1
        rw [d', if_neg h10]
        split at h
        · rename_i h2; rw [if_pos h2]; exact h
        · rename_i h2; rw [if_neg h2]
          split at h
          · cases h
          · rename_i h3; rw [if_neg h3]; exact h
      · have d' : rd (zs ++ x) = rd zs := b h10 x
        rw [d', if_neg h10]
        have a' : (rd zs).2.2 ≠ 0 := a
        rw [if_pos (.inl a')] at h ⊢; exact h

theorem Good.rowp (n : Int) : Good (rowp n) := by
  constructor
  · intro zs v r h
    unfold Go.Proofs.YtkkmoplijicmpaeDoor.rowp at h
    split at h
    · cases h
    · rename_i h1
      simp only [Res.ok.injEq] at h
      obtain ⟨rfl, rfl⟩ := h
      refine ⟨zs.take n.toNat, by simp, fun x => ?_, fun k hk => ?_⟩
      · unfold Go.Proofs.YtkkmoplijicmpaeDoor.rowp
        have hl : (zs.take n.toNat).length = n.toNat := by simp; omega
        rw [if_neg (by simp; omega)]
        congr 1
        · rw [List.take_append_of_le_length (by omega), List.take_of_length_le (by omega)]
        · rw [List.drop_append_of_le_length (by omega), List.drop_of_length_le (by omega)]; rfl
      · unfold Go.Proofs.YtkkmoplijicmpaeDoor.rowp
        simp at hk
        rw [if_pos (by simp; omega)]
  · intro zs e h he x
    unfold Go.Proofs.YtkkmoplijicmpaeDoor.rowp at h
    split at h
    · simp at h; omega
    · cases h

theorem Good.ite {α : Type} {c : Prop} [Decidable c] {p q : Pr α} (hp : Good p) (hq : Good q) : Good (if c then p else q) := by
  split <;> assumption

structure Ex where
  tag : Int
  data : List Int

structure Sg where
  typ : Int
  org : Int
  num : Int
  head : List Ex
  tail : List Ex
  srv : Int
  off : Int
  data : List Int
  chk : Int
  rep : Int
  upp : Int
  low : Int
  clm : List (Int × Int)
  rsn : Int

/-- The table of the types. -/
def shp (t : Int) : Int := if t < 0 ∨ 16 ≤ t then 0 else [3, 7, 7, 7, 3, 0, 0, 3, 9, 17, 0, 0, 33, 1, 33, 1].getD t.toNat 0

def kindp : Pr Int := oct.bind fun t => if shp t % 2 = 1 then Pr.ret t else Pr.fail 21
def extsp : Nat → List Ex → Pr (List Ex)
  | 0, acc => Pr.ret acc
  | n + 1, acc => oct.bind fun t => (numb 0 200).bind fun k => (rowp k).bind fun d => extsp n (acc ++ [⟨t, d⟩])
def claimsp (lower upper : Int) : Nat → Int → List (Int × Int) → Pr (List (Int × Int))
  | 0, _, acc => Pr.ret acc
  | n + 1, least, acc => (numb least (upper - lower - 1)).bind fun f => (numb 1 (upper - (lower + f))).bind fun k => claimsp lower upper n (lower + f + k - lower + 1) (acc ++ [(lower + f, lower + f + k)])
def mn : Int := 4611686018427387903
def blockp (h : Int) (s : Sg) : Pr Sg :=
  (numb 0 mn).bind fun sv => (numb 0 mn).bind fun o => (numb 1 (65536 - o)).bind fun n =>
    if h = 7 then (numb 1 mn).bind fun c => (numb 0 mn).bind fun r => (rowp n).bind fun d => Pr.ret { s with srv := sv, off := o, chk := c, rep := r, data := d }
    else (rowp n).bind fun d => Pr.ret { s with srv := sv, off := o, data := d }
def reportp (s : Sg) : Pr Sg :=
  (numb 1 mn).bind fun r => (numb 0 mn).bind fun c => (numb 1 65536).bind fun u => (numb 0 (u - 1)).bind fun l => (numb 1 1000).bind fun n =>
    (claimsp l u n.toNat 0 []).bind fun cl => Pr.ret { s with rep := r, chk := c, upp := u, low := l, clm := cl }
def reasonp (s : Sg) : Pr Sg := oct.bind fun r => if r ≤ 5 then Pr.ret { s with rsn := r } else Pr.fail 23
def contp (h : Int) (s : Sg) : Pr Sg :=
  if h = 3 ∨ h = 7 then blockp h s else if h = 9 then reportp s else if h = 17 then (numb 1 mn).bind fun r => Pr.ret { s with rep := r } else if h = 33 then reasonp s else Pr.ret s
def sg0 : Sg := ⟨0, 0, 0, [], [], 0, 0, [], 0, 0, 0, 0, [], 0⟩
def segp : Pr Sg := kindp.bind fun t => (numb 1 mn).bind fun o => (numb 1 (mn - 1)).bind fun n => oct.bind fun c =>
  (extsp (c / 16).toNat []).bind fun hd => (contp (shp t) { sg0 with typ := t, org := o, num := n, head := hd }).bind fun s => (extsp (c % 16).toNat []).bind fun tl => Pr.ret { s with tail := tl }

theorem Good.extsp : ∀ (n : Nat) (acc : List Ex), Good (extsp n acc)
  | 0, _ => Good.ret _
  | n + 1, _ => Good.bind Good.oct fun _ => Good.bind (Good.numb _ _) fun _ => Good.bind (Good.rowp _) fun _ => Good.extsp n _
theorem Good.claimsp (l u : Int) : ∀ (n : Nat) (least : Int) (acc : List (Int × Int)), Good (claimsp l u n least acc)
  | 0, _, _ => Good.ret _
  | n + 1, _, _ => Good.bind (Good.numb _ _) fun _ => Good.bind (Good.numb _ _) fun _ => Good.claimsp l u n _ _
theorem Good.contp (h : Int) (s : Sg) : Good (contp h s) :=
  Good.ite (Good.bind (Good.numb _ _) fun _ => Good.bind (Good.numb _ _) fun _ => Good.bind (Good.numb _ _) fun _ => Good.ite (Good.bind (Good.numb _ _) fun _ => Good.bind (Good.numb _ _) fun _ => Good.bind (Good.rowp _) fun _ => Good.ret _) (Good.bind (Good.rowp _) fun _ => Good.ret _))
    (Good.ite (Good.bind (Good.numb _ _) fun _ => Good.bind (Good.numb _ _) fun _ => Good.bind (Good.numb _ _) fun _ => Good.bind (Good.numb _ _) fun _ => Good.bind (Good.numb _ _) fun _ => Good.bind (Good.claimsp _ _ _ _ _) fun _ => Good.ret _)
      (Good.ite (Good.bind (Good.numb _ _) fun _ => Good.ret _) (Good.ite (Good.bind Good.oct fun _ => Good.ite (Good.ret _) (Good.fail _)) (Good.ret _))))
theorem Good.segp : Good segp :=
  Good.bind (Good.bind Good.oct fun _ => Good.ite (Good.ret _) (Good.fail _)) fun _ => Good.bind (Good.numb _ _) fun _ => Good.bind (Good.numb _ _) fun _ => Good.bind Good.oct fun _ =>
    Good.bind (Good.extsp _ _) fun _ => Good.bind (Good.contp _ _) fun _ => Good.bind (Good.extsp _ _) fun _ => Good.ret _

/-- What Parse answers: the error, and the segment where there is none. -/
def prs (zs : List Int) : Int × Sg := if 8192 < zs.length then (2, sg0) else match segp zs with
  | .bad e => (e, sg0)
  | .ok s [] => (0, s)
  | .ok _ (_ :: _) => (24, sg0)

/-- The state of a cursor: what was wrong first, and the place. -/
abbrev St := Int × Nat
/-- What is left to come of a reading. -/
def fin {α : Type} (p : Pr α) (zs : List Int) (st : St) : Res α := if st.1 ≠ 0 then .bad st.1 else p (zs.drop st.2)
/-- From st to st', with the value v, just p was read. -/
def Step {α : Type} (zs : List Int) (p : Pr α) (st : St) (v : α) (st' : St) : Prop := ∀ (β : Type) (K : α → Pr β), fin (p.bind K) zs st = fin (K v) zs st'

theorem Step.bind {α β : Type} {zs : List Int} {p : Pr α} {f : α → Pr β} {st st1 st2 : St} {v : α} {u : β} (h : Step zs p st v st1) (h' : Step zs (f v) st1 u st2) : Step zs (p.bind f) st u st2 := by
  intro γ K
  rw [Pr.bind_assoc, h, h']
theorem Step.ret {α : Type} {zs : List Int} {st : St} (v : α) : Step zs (Pr.ret v) st v st := fun _ _ => rfl
theorem Step.bad {α : Type} {zs : List Int} {p : Pr α} {st : St} (v : α) (h : st.1 ≠ 0) : Step zs p st v st := by
  intro β K; simp [fin, h]
end Go.Proofs.YtkkmoplijicmpaeDoor
