import Derived.Laws.Bits64
namespace Go.Proofs.YtjolflpmeodnaagDoor

/-- One shift of the register. -/
def cst (c : Nat) : Nat := if c % 2 = 1 then (c / 2) ^^^ 3988292384 else c / 2
/-- Some shifts. -/
def cit : Nat → Nat → Nat
  | 0, c => c
  | n + 1, c => cit n (cst c)
/-- The register behind some bytes. -/
def crc : Nat → List Int → Nat
  | c, [] => c
  | c, z :: l => crc (cit 8 (c ^^^ z.toNat)) l

theorem cst_lt {c : Nat} (h : c < 4294967296) : cst c < 4294967296 := by
  unfold cst
  split
  · have : (c / 2) ^^^ 3988292384 < 2 ^ 32 := Nat.xor_lt_two_pow (by omega) (by omega)
    omega
  · omega
theorem cst_hi {a : Nat} (h : a < 2147483648) : 2147483648 ≤ a ^^^ 3988292384 := by
  have h1 : (a ^^^ 3988292384).testBit 31 = true := by
    rw [Nat.testBit_xor, Nat.testBit_lt_two_pow (show a < 2 ^ 31 by omega)]
    decide
  exact Nat.ge_two_pow_of_testBit h1
theorem xor_inj {a b p : Nat} (h : a ^^^ p = b ^^^ p) : a = b := by
  have h1 : (a ^^^ p) ^^^ p = (b ^^^ p) ^^^ p := by rw [h]
  rw [Nat.xor_assoc, Nat.xor_assoc, Nat.xor_self, Nat.xor_zero, Nat.xor_zero] at h1
  exact h1
theorem cst_inj {c d : Nat} (hc : c < 4294967296) (hd : d < 4294967296) (h : cst c = cst d) : c = d := by
  unfold cst at h
  have hc' := cst_hi (a := c / 2) (by omega)
  have hd' := cst_hi (a := d / 2) (by omega)
  split at h <;> split at h
  · have := xor_inj h
    omega
  · omega
  · omega
  · omega
theorem cit_lt : ∀ (n : Nat) {c : Nat}, c < 4294967296 → cit n c < 4294967296
  | 0, _, h => h
  | n + 1, _, h => cit_lt n (cst_lt h)
theorem cit_inj : ∀ (n : Nat) {c d : Nat}, c < 4294967296 → d < 4294967296 → cit n c = cit n d → c = d
  | 0, _, _, _, _, h => h
  | n + 1, _, _, hc, hd, h => cst_inj hc hd (cit_inj n (cst_lt hc) (cst_lt hd) h)
theorem cit_succ : ∀ (n : Nat) (c : Nat), cit (n + 1) c = cst (cit n c)
  | 0, _ => rfl
  | n + 1, c => by
    show cit (n + 1) (cst c) = cst (cit n (cst c))
    exact cit_succ n (cst c)
theorem xb_lt {c : Nat} {z : Int} (hc : c < 4294967296) (hz : z.toNat < 256) : c ^^^ z.toNat < 4294967296 := by
  have : c ^^^ z.toNat < 2 ^ 32 := Nat.xor_lt_two_pow (by omega) (by omega)
  omega
theorem crc_lt : ∀ (l : List Int) {c : Nat}, (∀ z ∈ l, z.toNat < 256) → c < 4294967296 → crc c l < 4294967296
  | [], _, _, h => h
  | z :: l, _, hl, h => crc_lt l (fun y hy => hl y (List.mem_cons_of_mem _ hy)) (cit_lt 8 (xb_lt h (hl z (List.mem_cons_self ..))))
theorem crc_inj : ∀ (l : List Int) {c d : Nat}, (∀ z ∈ l, z.toNat < 256) → c < 4294967296 → d < 4294967296 → crc c l = crc d l → c = d
  | [], _, _, _, _, _, h => h
  | z :: l, c, d, hl, hc, hd, h => by
    have hz := hl z (List.mem_cons_self ..)
    have h1 := crc_inj l (fun y hy => hl y (List.mem_cons_of_mem _ hy)) (cit_lt 8 (xb_lt hc hz)) (cit_lt 8 (xb_lt hd hz)) h
    exact xor_inj (cit_inj 8 (xb_lt hc hz) (xb_lt hd hz) h1)
theorem crc_snoc : ∀ (l : List Int) (c : Nat) (z : Int), crc c (l ++ [z]) = cit 8 (crc c l ^^^ z.toNat)
  | [], _, _ => rfl
  | y :: l, c, z => crc_snoc l (cit 8 (c ^^^ y.toNat)) z
theorem crc_append : ∀ (l m : List Int) (c : Nat), crc c (l ++ m) = crc (crc c l) m
  | [], _, _ => rfl
  | y :: l, m, c => crc_append l m (cit 8 (c ^^^ y.toNat))
/-- One byte that is turned turns the register. -/
theorem crc_set {l : List Int} {k : Nat} {y t : Int} {c : Nat} (hk : l[k]? = some y) (hl : ∀ z ∈ l, 0 ≤ z ∧ z ≤ 255) (ht : 0 ≤ t ∧ t ≤ 255) (hc : c < 4294967296) :
    crc c (l.set k t) = crc c l ↔ t = y := by
  have hkl : k < l.length := (List.getElem?_eq_some_iff.mp hk).1
  have hy : l[k] = y := (List.getElem?_eq_some_iff.mp hk).2
  have hs : l.set k t = l.take k ++ t :: l.drop (k + 1) := by
    rw [List.set_eq_take_append_cons_drop, if_pos hkl]
  have hl0 : l = l.take k ++ y :: l.drop (k + 1) := by
    have h1 := List.take_append_drop k l
    rw [List.drop_eq_getElem_cons hkl, hy] at h1
    exact h1.symm
  have hb : ∀ z ∈ l, z.toNat < 256 := fun z hz => by have := hl z hz; omega
  have hyb := hl y (hy ▸ List.getElem_mem hkl)
  have hp : crc c (l.take k) < 4294967296 := crc_lt _ (fun z hz => hb z (List.mem_of_mem_take hz)) hc
  constructor
  · intro h
    rw [hs] at h
    have h2 : crc c l = crc c (l.take k ++ y :: l.drop (k + 1)) := congrArg (crc c) hl0
    rw [h2, crc_append, crc_append] at h
    have h3 := crc_inj (l.drop (k + 1)) (fun z hz => hb z (List.mem_of_mem_drop hz)) (cit_lt 8 (xb_lt hp (by omega))) (cit_lt 8 (xb_lt hp (by omega))) h
    have h4 := cit_inj 8 (xb_lt hp (by omega)) (xb_lt hp (by omega)) h3
    rw [Nat.xor_comm _ t.toNat, Nat.xor_comm _ y.toNat] at h4
    have h5 := xor_inj h4
    omega
  · intro h
    subst h
    rw [hs]
    exact congrArg (crc c) hl0.symm

/-- The sum of some bytes. -/
def crs (l : List Int) : Nat := crc 4294967295 l ^^^ 4294967295
theorem crs_lt {l : List Int} (hl : ∀ z ∈ l, 0 ≤ z ∧ z ≤ 255) : crs l < 4294967296 := by
  have h1 := crc_lt (c := 4294967295) l (fun z hz => by have := hl z hz; omega) (by omega)
  have : crs l < 2 ^ 32 := Nat.xor_lt_two_pow (by omega) (by omega)
  omega
theorem crs_set {l : List Int} {k : Nat} {y t : Int} (hk : l[k]? = some y) (hl : ∀ z ∈ l, 0 ≤ z ∧ z ≤ 255) (ht : 0 ≤ t ∧ t ≤ 255) :
    crs (l.set k t) = crs l ↔ t = y := by
  unfold crs
  constructor
  · intro h
    exact (crc_set hk hl ht (by omega)).mp (xor_inj h)
  · intro h
    rw [(crc_set hk hl ht (by omega)).mpr h]

/-! ## How the program and the document reckon it. -/
theorem wrap_u32 (n : Int) : IntKind.u32.wrap n = n % 4294967296 := by simp [IntKind.wrap, IntKind.bits, IntKind.signed]
theorem ofInt32 {a : Nat} (h : a < 4294967296) : (BitVec.ofInt 32 (a : Int)).toNat = a := by
  rw [BitVec.ofInt_natCast, BitVec.toNat_ofNat]; exact Nat.mod_eq_of_lt (by omega)
theorem xor_u32 {a b : Nat} (ha : a < 4294967296) (hb : b < 4294967296) : bits .xor .u32 (a : Int) (b : Int) = ((a ^^^ b : Nat) : Int) := by
  have hx : a ^^^ b < 2 ^ 32 := Nat.xor_lt_two_pow (by omega) (by omega)
  show IntKind.u32.wrap ((BitVec.ofInt 32 (a : Int) ^^^ BitVec.ofInt 32 (b : Int)).toNat : Int) = _
  rw [BitVec.toNat_xor, ofInt32 ha, ofInt32 hb, wrap_u32]
  omega
theorem and1_u32 {a : Nat} (ha : a < 4294967296) : bits .and .u32 (a : Int) 1 = ((a % 2 : Nat) : Int) := by
  show IntKind.u32.wrap ((BitVec.ofInt 32 (a : Int) &&& BitVec.ofInt 32 ((1 : Nat) : Int)).toNat : Int) = _
  rw [BitVec.toNat_and, ofInt32 ha, ofInt32 (by omega), wrap_u32, Nat.and_one_is_mod]
  omega
/-- A shift, as the program does it. -/
theorem shift_u32 {a : Nat} (ha : a < 4294967296) : bits .xor .u32 ((a : Int) / 2) (3988292384 * ((a : Int) % 2)) = ((cst a : Nat) : Int) := by
  have h1 : 3988292384 * ((a : Int) % 2) = ((3988292384 * (a % 2) : Nat) : Int) := by omega
  have h2 : ((a : Int) / 2) = ((a / 2 : Nat) : Int) := by omega
  rw [h1, h2, xor_u32 (by omega) (by omega)]
  unfold cst
  rcases Nat.mod_two_eq_zero_or_one a with h | h
  · rw [h, if_neg (by decide), Nat.mul_zero, Nat.xor_zero]
  · rw [h, if_pos rfl, Nat.mul_one]
/-- And as the document does. -/
theorem shift_odd {a : Nat} (ha : a < 4294967296) (h : a % 2 = 1) : bits .xor .u32 ((a : Int) / 2) 3988292384 = ((cst a : Nat) : Int) := by
  have h2 : ((a : Int) / 2) = ((a / 2 : Nat) : Int) := by omega
  have h3 := xor_u32 (a := a / 2) (b := 3988292384) (by omega) (by omega)
  rw [h2, show (3988292384 : Int) = ((3988292384 : Nat) : Int) from rfl, h3]
  unfold cst
  rw [if_pos h]
theorem shift_even {a : Nat} (h : ¬ a % 2 = 1) : (a : Int) / 2 = ((cst a : Nat) : Int) := by
  unfold cst
  rw [if_neg h]
  omega
end Go.Proofs.YtjolflpmeodnaagDoor
