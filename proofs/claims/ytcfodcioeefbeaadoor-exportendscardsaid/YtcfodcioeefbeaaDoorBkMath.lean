import Derived.Test.YtcfodcioeefbeaaDoorMath
namespace Go.Proofs.YtcfodcioeefbeaaDoor

/-- A session and a parcel. -/
structure Pk where
  org : Int
  num : Int
  srv : Int
  size : Int
  red : Int
  mtu : Int
  every : Int

/-- A piece. -/
structure Pc where
  typ : Int
  frm : Int
  to : Int
  chk : Int
  rep : Int

def sesB (k : Pk) : Bool := decide (1 ≤ k.org ∧ k.org ≤ 4611686018427387903 ∧ 1 ≤ k.num ∧ k.num ≤ 4611686018427387902)
def pclB (k : Pk) : Bool := decide (0 ≤ k.srv ∧ k.srv ≤ 4611686018427387903 ∧ 1 ≤ k.size ∧ k.size ≤ 65536 ∧ 0 ≤ k.red ∧ k.red ≤ k.size ∧ 80 ≤ k.mtu ∧ k.mtu ≤ 4096 ∧ 0 ≤ k.every ∧ k.every ≤ 65536)
structure Pk.Ok (k : Pk) : Prop where
  org : 1 ≤ k.org ∧ k.org ≤ 4611686018427387903
  num : 1 ≤ k.num ∧ k.num ≤ 4611686018427387902
  srv : 0 ≤ k.srv ∧ k.srv ≤ 4611686018427387903
  size : 1 ≤ k.size ∧ k.size ≤ 65536
  red : 0 ≤ k.red ∧ k.red ≤ k.size
  mtu : 80 ≤ k.mtu ∧ k.mtu ≤ 4096
  every : 0 ≤ k.every ∧ k.every ≤ 65536
theorem Pk.ok_of {k : Pk} (h : sesB k = true) (h' : pclB k = true) : k.Ok := by
  simp only [sesB, pclB, decide_eq_true_eq] at h h'
  exact ⟨by omega, by omega, by omega, by omega, by omega, by omega, by omega⟩
theorem Pk.Ok.ses {k : Pk} (h : k.Ok) : sesB k = true := by
  have := h.org; have := h.num
  simp only [sesB, decide_eq_true_eq]; omega
theorem Pk.Ok.pcl {k : Pk} (h : k.Ok) : pclB k = true := by
  have := h.srv; have := h.size; have := h.red; have := h.mtu; have := h.every
  simp only [pclB, decide_eq_true_eq]; omega

/-- How many bytes stand beside the length and the data: of no checkpoint, of one. -/
def fr0 (k : Pk) (at' : Int) : Int := 2 + sz k.org + sz k.num + sz k.srv + sz at'
def fr1 (k : Pk) (at' c r : Int) : Int := fr0 k at' + (sz c + sz r)

/-- Do n bytes fit? -/
def fitB (F mtu n : Int) : Bool := decide (F + sz n + n ≤ mtu)
/-- The room beside F bytes. -/
def rmz (F mtu : Int) : Nat := (List.range mtu.toNat).countP fun i : Nat => fitB F mtu ((i : Int) + 1)

theorem fit_anti {F mtu a b : Int} (h0 : 0 ≤ a) (h : a ≤ b) (h1 : b ≤ 18446744073709551615) (hf : fitB F mtu b = true) : fitB F mtu a = true := by
  have := sz_mono a b h0 h h1
  simp only [fitB, decide_eq_true_eq] at *
  omega
theorem sz_pos (n : Int) (h0 : 0 ≤ n) (h1 : n ≤ 18446744073709551615) : 1 ≤ sz n ∧ sz n ≤ 10 := ⟨(sz_bounds n h0 h1).1, (sz_bounds n h0 h1).2.1⟩
theorem sz62 (n : Int) (h0 : 0 ≤ n) (h1 : n ≤ 4611686018427387903) : 1 ≤ sz n ∧ sz n ≤ 9 := by
  have h := sz_bounds n h0 (by omega)
  refine ⟨h.1, ?_⟩
  rcases Nat.lt_or_ge (sz n) 10 with q | q
  · omega
  · have e : sz n = 10 := by omega
    have := h.2.2.2 (by omega)
    rw [e] at this
    simp at this; omega
theorem sz_small (n : Int) (h0 : 0 ≤ n) (h1 : n ≤ 65536) : 1 ≤ sz n ∧ sz n ≤ 3 := by
  have h := sz_bounds n h0 (by omega)
  refine ⟨h.1, ?_⟩
  have m := sz_mono n 65536 h0 h1 (by omega)
  have : sz 65536 = 3 := by decide +kernel
  omega

theorem countP_first (p : Nat → Bool) : ∀ (n r : Nat), r ≤ n → (∀ i, i < r → p i = true) → (∀ i, r ≤ i → i < n → p i = false) → (List.range n).countP p = r
  | 0, r, h, _, _ => by simp; omega
  | n + 1, r, h, h1, h2 => by
    rw [List.range_succ, List.countP_append, List.countP_singleton]
    rcases Nat.lt_or_ge n r with q | q
    · have e : r = n + 1 := by omega
      subst e
      rw [h1 n (by omega), if_pos rfl, countP_first p n n (Nat.le_refl _) (fun i hi => h1 i (by omega)) (fun i a b => by omega)]
    · rw [h2 n q (by omega), if_neg (by simp), countP_first p n r q h1 (fun i a b => h2 i a (by omega)), Nat.add_zero]

/-- The room is told by what fits. -/
theorem rmz_eq {F mtu : Int} {r : Nat} (hr : (r : Int) ≤ mtu) (hm : mtu ≤ 4096) (h1 : r = 0 ∨ fitB F mtu r = true) (h2 : fitB F mtu ((r : Int) + 1) = false) : rmz F mtu = r := by
  unfold rmz
  refine countP_first _ _ _ (by omega) (fun i hi => ?_) (fun i a b => ?_)
  · rcases h1 with h1 | h1
    · omega
    · exact fit_anti (by omega) (by omega) (by omega) h1
  · rcases Bool.eq_false_or_eq_true (fitB F mtu ((i : Int) + 1)) with q | q
    · exact absurd (fit_anti (F := F) (mtu := mtu) (a := (r : Int) + 1) (b := (i : Int) + 1) (by omega) (by omega) (by omega) q) (by rw [h2]; simp)
    · exact q

theorem rmz_ex {F mtu : Int} (hF : 0 ≤ F) (hm0 : 0 ≤ mtu) (hm : mtu ≤ 4096) : ∃ r : Nat, (r : Int) ≤ mtu ∧ (r = 0 ∨ fitB F mtu r = true) ∧ fitB F mtu ((r : Int) + 1) = false := by
  have key : ∀ n : Nat, (n : Int) ≤ mtu → (∃ r : Nat, r < n ∧ (r = 0 ∨ fitB F mtu r = true) ∧ fitB F mtu ((r : Int) + 1) = false) ∨ (n = 0 ∨ fitB F mtu n = true) := by
    intro n
    induction n with
    | zero => intro _; exact .inr (.inl rfl)
    | succ n ih =>
      intro h
      rcases ih (by omega) with ⟨r, a, b⟩ | q
      · exact .inl ⟨r, by omega, b⟩
      · rcases Bool.eq_false_or_eq_true (fitB F mtu ((n : Int) + 1)) with c | c
        · exact .inr (.inr (by rw [show ((n + 1 : Nat) : Int) = (n : Int) + 1 from by omega]; exact c))
        · exact .inl ⟨n, by omega, q, c⟩
  rcases key mtu.toNat (by omega) with ⟨r, a, b⟩ | q
  · exact ⟨r, by omega, b⟩
  · refine ⟨mtu.toNat, by omega, q, ?_⟩
    have := sz_pos ((mtu.toNat : Int) + 1) (by omega) (by omega)
    simp only [fitB, decide_eq_false_iff_not]; omega

theorem rmz_spec {F mtu : Int} (hF : 0 ≤ F) (hm0 : 0 ≤ mtu) (hm : mtu ≤ 4096) : (rmz F mtu : Int) ≤ mtu ∧ (rmz F mtu = 0 ∨ fitB F mtu (rmz F mtu) = true) ∧ fitB F mtu ((rmz F mtu : Int) + 1) = false := by
  obtain ⟨r, a, b, c⟩ := rmz_ex hF hm0 hm
  rw [rmz_eq a hm b c]
  exact ⟨a, b, c⟩
theorem rmz_low {F mtu : Int} (hF : 0 ≤ F) (hF1 : F ≤ 58) (hm0 : 80 ≤ mtu) (hm : mtu ≤ 4096) : 20 ≤ rmz F mtu := by
  obtain ⟨a, b, c⟩ := rmz_spec hF (by omega) hm
  rcases Nat.lt_or_ge (rmz F mtu) 20 with q | q
  · exfalso
    have h20 : fitB F mtu 20 = true := by
      have : sz 20 = 1 := by decide +kernel
      simp only [fitB, decide_eq_true_eq]; rw [this]; omega
    have := fit_anti (F := F) (mtu := mtu) (a := (rmz F mtu : Int) + 1) (b := 20) (by omega) (by omega) (by omega) h20
    rw [c] at this; cases this
  · exact q

theorem fr0_bd {k : Pk} (h : k.Ok) {at' : Int} (h0 : 0 ≤ at') (h1 : at' ≤ 65536) : 6 ≤ fr0 k at' ∧ fr0 k at' ≤ 32 := by
  have a := sz62 k.org (by have := h.org; omega) h.org.2
  have b := sz62 k.num (by have := h.num; omega) (by have := h.num; omega)
  have c := sz62 k.srv h.srv.1 h.srv.2
  have d := sz_small at' h0 h1
  unfold fr0; omega
theorem fr1_bd {k : Pk} (h : k.Ok) {at' c r : Int} (h0 : 0 ≤ at') (h1 : at' ≤ 65536) (hc : 0 ≤ c ∧ c ≤ 4611686018427387903) (hr : 0 ≤ r ∧ r ≤ 4611686018427387903) : 8 ≤ fr1 k at' c r ∧ fr1 k at' c r ≤ 50 := by
  have a := fr0_bd h h0 h1
  have b := sz62 c hc.1 hc.2
  have d := sz62 r hr.1 hr.2
  unfold fr1; omega

/-- The room of no checkpoint, of one. -/
def ro0 (k : Pk) (at' : Int) : Int := (rmz (fr0 k at') k.mtu : Nat)
def ro1 (k : Pk) (at' c r : Int) : Int := (rmz (fr1 k at' c r) k.mtu : Nat)
theorem ro0_low {k : Pk} (h : k.Ok) {at' : Int} (h0 : 0 ≤ at') (h1 : at' ≤ 65536) : 20 ≤ ro0 k at' ∧ ro0 k at' ≤ 4096 := by
  have a := fr0_bd h h0 h1
  have := rmz_low (F := fr0 k at') (mtu := k.mtu) (by omega) (by omega) h.mtu.1 h.mtu.2
  have := (rmz_spec (F := fr0 k at') (mtu := k.mtu) (by omega) (by have := h.mtu; omega) h.mtu.2).1
  have := h.mtu
  unfold ro0; omega
theorem ro1_low {k : Pk} (h : k.Ok) {at' c r : Int} (h0 : 0 ≤ at') (h1 : at' ≤ 65536) (hc : 0 ≤ c ∧ c ≤ 4611686018427387903) (hr : 0 ≤ r ∧ r ≤ 4611686018427387903) : 20 ≤ ro1 k at' c r ∧ ro1 k at' c r ≤ 4096 := by
  have a := fr1_bd h h0 h1 hc hr
  have := rmz_low (F := fr1 k at' c r) (mtu := k.mtu) (by omega) (by omega) h.mtu.1 h.mtu.2
  have := (rmz_spec (F := fr1 k at' c r) (mtu := k.mtu) (by omega) (by have := h.mtu; omega) h.mtu.2).1
  have := h.mtu
  unfold ro1; omega

/-- The type of the checkpoint that ends the red part; of one that ends at a place. -/
def endT (k : Pk) : Int := if k.red < k.size then 2 else 3
def ckT (k : Pk) (to : Int) : Int := if to = k.red then endT k else 1

/-- A checkpoint up to an end; a piece that is none. -/
def cPc (k : Pk) (at' e c r : Int) : Pc := ⟨ckT k (min (at' + ro1 k at' c r) e), at', min (at' + ro1 k at' c r) e, c, r⟩
def pPc (k : Pk) (at' e : Int) : Pc := ⟨0, at', min (at' + ro0 k at') e, 0, 0⟩
def gPc (k : Pk) (at' : Int) : Pc := ⟨if min (at' + ro0 k at') k.size = k.size then 7 else 4, at', min (at' + ro0 k at') k.size, 0, 0⟩

/-- The next piece of the red part; is it a checkpoint? -/
def redC (k : Pk) (at' base plains : Int) : Bool := decide (min (at' + ro1 k at' (base + 1) 0) k.red = k.red) || decide (plains = k.every - 1)
/-- The red part from a place on. -/
def redG (k : Pk) : Nat → Int → Int → Int → List Pc
  | 0, _, _, _ => []
  | f + 1, at', base, plains => if at' < k.red then
      (if redC k at' base plains then cPc k at' k.red (base + 1) 0 :: redG k f (cPc k at' k.red (base + 1) 0).to (base + 1) 0
       else pPc k at' (k.red - 1) :: redG k f (pPc k at' (k.red - 1)).to base (plains + 1)) else []
/-- The green part from a place on. -/
def grnG (k : Pk) : Nat → Int → List Pc
  | 0, _ => []
  | f + 1, at' => if at' < k.size then gPc k at' :: grnG k f (gPc k at').to else []

def cutL (k : Pk) (base : Int) : List Pc := redG k k.red.toNat 0 base 0 ++ grnG k (k.size - k.red).toNat k.red
/-- What Cut answers. -/
def cut (k : Pk) (base : Int) : List Pc × Int :=
  if sesB k = false then ([], 1) else if pclB k = false then ([], 40) else if base < 0 ∨ 4611686018427387903 - 65536 < base then ([], 1) else (cutL k base, 0)

theorem redG_end {k : Pk} {f : Nat} {at' base plains : Int} (h : k.red ≤ at') : redG k f at' base plains = [] := by
  cases f with
  | zero => rfl
  | succ f => rw [redG, if_neg (by omega)]
theorem grnG_end {k : Pk} {f : Nat} {at' : Int} (h : k.size ≤ at') : grnG k f at' = [] := by
  cases f with
  | zero => rfl
  | succ f => rw [grnG, if_neg (by omega)]


end Go.Proofs.YtcfodcioeefbeaaDoor
