import Derived.Test.YtlagadpfnkidjabDoorInvMath
namespace Go.Proofs.YtlagadpfnkidjabDoor

/-- The part of 'may' that speaks of what the type has. -/
def mayC (h : Int) (s : Sg) : Bool := (alw h s.srv 2 0 4611686018427387903 && (alw h (s.data.length : Int) 2 1 65536 && (alw h s.off 2 0 (65536 - (s.data.length : Int)) && (alw h s.chk 12 (one (anyB h 4)) 4611686018427387903 && (alw h s.rep 28 (one (anyB h 24)) 4611686018427387903 && (alw h s.upp 8 1 65536 && (alw h s.low 8 0 (s.upp - 1) && (alw h (s.clm.length : Int) 8 1 1000 && (clOk s.upp s.low s.clm && alw h s.rsn 32 0 5)))))))))
theorem may_mk {h : Int} {s : Sg} {hx tx : List Xr} (h0 : btw s.org 1 4611686018427387903 = true) (h1 : btw s.num 1 4611686018427387902 = true) (h2 : xsOk hx = true) (h3 : xsOk tx = true) (h4 : mayC h s = true) : may h s hx tx = true := by
  unfold may; unfold mayC at h4; rw [h0, h1, h2, h3, h4]; rfl
theorem btw_mk {n lo hi : Int} (h : lo ≤ n ∧ n ≤ hi) : btw n lo hi = true := by simp [btw, h]

theorem inv_1 (s s0 : Sg) (zs r : List Int) (hb : Bytey zs) (hs : s0 = { sg0 with typ := s0.typ, org := s0.org, num := s0.num, head := s0.head }) (h : contp 1 s0 zs = .ok s r) : zs = conB 1 s ++ r ∧ mayC 1 s = true ∧ s = { s with typ := s0.typ, org := s0.org, num := s0.num, head := s0.head, tail := [] } ∧ s0.typ = s.typ := by
  unfold contp at h
  rw [if_neg (by decide), if_neg (by decide), if_neg (by decide), if_neg (by decide)] at h
  obtain ⟨e8, e9⟩ := ret_inv h
  subst e8 e9
  refine ⟨by simp [conB], ?_, by rw [hs]; rfl, rfl⟩
  rw [hs]
  unfold mayC alw
  simp only [show anyB 1 2 = false from by decide, show anyB 1 4 = false from by decide, show anyB 1 8 = false from by decide, show anyB 1 12 = false from by decide, show anyB 1 24 = false from by decide, show anyB 1 28 = false from by decide, show anyB 1 32 = false from by decide, if_false, Bool.false_eq_true, sg0]
  rfl

theorem inv_3 (s s0 : Sg) (zs r : List Int) (hb : Bytey zs) (hs : s0 = { sg0 with typ := s0.typ, org := s0.org, num := s0.num, head := s0.head }) (h : contp 3 s0 zs = .ok s r) : zs = conB 3 s ++ r ∧ mayC 3 s = true ∧ s = { s with typ := s0.typ, org := s0.org, num := s0.num, head := s0.head, tail := [] } ∧ s0.typ = s.typ := by
  unfold contp at h
  rw [if_pos (by decide)] at h
  unfold blockp at h
  obtain ⟨a, r1, h1, g1⟩ := bind_inv h
  obtain ⟨b, r2, h2, g2⟩ := bind_inv g1
  obtain ⟨c, r3, h3, g3⟩ := bind_inv g2
  clear h g1 g2
  obtain ⟨e1, a1, a2, a3, a4⟩ := numb_inv hb h1
  subst e1
  obtain ⟨e2, b1, b2, b3, b4⟩ := numb_inv (bytey_right hb) h2
  subst e2
  obtain ⟨e3, c1, c2, c3, c4⟩ := numb_inv (bytey_right (bytey_right hb)) h3
  subst e3
  rw [if_neg (by decide)] at g3
  obtain ⟨l, r6, h6, g6⟩ := bind_inv g3
  clear g3
  obtain ⟨e6, e7⟩ := rowp_inv c3 h6
  subst e6
  obtain ⟨e8, e9⟩ := ret_inv g6
  subst e8 e9
  refine ⟨by simp [conB, blkB, jn_three, e7], ?_, by rw [hs]; rfl, rfl⟩
  rw [hs]
  unfold mayC alw
  simp only [show anyB 3 2 = true from by decide, show anyB 3 4 = false from by decide, show anyB 3 8 = false from by decide, show anyB 3 12 = false from by decide, show anyB 3 24 = false from by decide, show anyB 3 28 = false from by decide, show anyB 3 32 = false from by decide, if_true, if_false, Bool.false_eq_true, sg0]
  rw [btw_mk ⟨a1, a4⟩, btw_mk (show 1 ≤ (l.length : Int) ∧ (l.length : Int) ≤ 65536 by omega), btw_mk (show 0 ≤ b ∧ b ≤ 65536 - (l.length : Int) by omega)]
  rfl

theorem inv_7 (s s0 : Sg) (zs r : List Int) (hb : Bytey zs) (hs : s0 = { sg0 with typ := s0.typ, org := s0.org, num := s0.num, head := s0.head }) (h : contp 7 s0 zs = .ok s r) : zs = conB 7 s ++ r ∧ mayC 7 s = true ∧ s = { s with typ := s0.typ, org := s0.org, num := s0.num, head := s0.head, tail := [] } ∧ s0.typ = s.typ := by
  unfold contp at h
  rw [if_pos (by decide)] at h
  unfold blockp at h
  obtain ⟨a, r1, h1, g1⟩ := bind_inv h
  obtain ⟨b, r2, h2, g2⟩ := bind_inv g1
  obtain ⟨c, r3, h3, g3⟩ := bind_inv g2
  clear h g1 g2
  obtain ⟨e1, a1, a2, a3, a4⟩ := numb_inv hb h1
  subst e1
  obtain ⟨e2, b1, b2, b3, b4⟩ := numb_inv (bytey_right hb) h2
  subst e2
  obtain ⟨e3, c1, c2, c3, c4⟩ := numb_inv (bytey_right (bytey_right hb)) h3
  subst e3
  rw [if_pos rfl] at g3
  obtain ⟨d, r4, h4, g4⟩ := bind_inv g3
  obtain ⟨f, r5, h5, g5⟩ := bind_inv g4
  obtain ⟨l, r6, h6, g6⟩ := bind_inv g5
  clear g3 g4 g5
  obtain ⟨e4, d1, d2, d3, d4⟩ := numb_inv (bytey_right (bytey_right (bytey_right hb))) h4
  subst e4
  obtain ⟨e5, f1, f2, f3, f4⟩ := numb_inv (bytey_right (bytey_right (bytey_right (bytey_right hb)))) h5
  subst e5
  obtain ⟨e6, e7⟩ := rowp_inv c3 h6
  subst e6
  obtain ⟨e8, e9⟩ := ret_inv g6
  subst e8 e9
  refine ⟨by simp [conB, blkB, jn_three, jn_two, e7], ?_, by rw [hs]; rfl, rfl⟩
  rw [hs]
  unfold mayC alw
  simp only [show anyB 7 2 = true from by decide, show anyB 7 4 = true from by decide, show anyB 7 8 = false from by decide, show anyB 7 12 = true from by decide, show anyB 7 24 = false from by decide, show anyB 7 28 = true from by decide, show anyB 7 32 = false from by decide, if_true, if_false, Bool.false_eq_true, sg0]
  rw [btw_mk ⟨a1, a4⟩, btw_mk (show 1 ≤ (l.length : Int) ∧ (l.length : Int) ≤ 65536 by omega), btw_mk (show 0 ≤ b ∧ b ≤ 65536 - (l.length : Int) by omega), btw_mk (show one true ≤ d ∧ d ≤ 4611686018427387903 from ⟨d1, d2⟩), btw_mk (show one false ≤ f ∧ f ≤ 4611686018427387903 from ⟨f1, f2⟩)]
  rfl

theorem inv_9 (s s0 : Sg) (zs r : List Int) (hb : Bytey zs) (hs : s0 = { sg0 with typ := s0.typ, org := s0.org, num := s0.num, head := s0.head }) (h : contp 9 s0 zs = .ok s r) : zs = conB 9 s ++ r ∧ mayC 9 s = true ∧ s = { s with typ := s0.typ, org := s0.org, num := s0.num, head := s0.head, tail := [] } ∧ s0.typ = s.typ := by
  unfold contp at h
  rw [if_neg (by decide), if_pos (by decide)] at h
  unfold reportp at h
  obtain ⟨a, r1, h1, g1⟩ := bind_inv h
  obtain ⟨b, r2, h2, g2⟩ := bind_inv g1
  obtain ⟨c, r3, h3, g3⟩ := bind_inv g2
  obtain ⟨d, r4, h4, g4⟩ := bind_inv g3
  obtain ⟨f, r5, h5, g5⟩ := bind_inv g4
  obtain ⟨l, r6, h6, g6⟩ := bind_inv g5
  clear h g1 g2 g3 g4 g5
  obtain ⟨e1, a1, a2, a3, a4⟩ := numb_inv hb h1
  subst e1
  obtain ⟨e2, b1, b2, b3, b4⟩ := numb_inv (bytey_right hb) h2
  subst e2
  obtain ⟨e3, c1, c2, c3, c4⟩ := numb_inv (bytey_right (bytey_right hb)) h3
  subst e3
  obtain ⟨e4, d1, d2, d3, d4⟩ := numb_inv (bytey_right (bytey_right (bytey_right hb))) h4
  subst e4
  obtain ⟨e5, f1, f2, f3, f4⟩ := numb_inv (bytey_right (bytey_right (bytey_right (bytey_right hb)))) h5
  subst e5
  obtain ⟨cl, k1, k2, k3, k4⟩ := claimsp_inv d c d3 f.toNat 0 [] l r5 r6 (bytey_right (bytey_right (bytey_right (bytey_right (bytey_right hb))))) h6
  rw [List.nil_append] at k1
  subst k1 k3
  obtain ⟨e8, e9⟩ := ret_inv g6
  subst e8 e9
  have e7 : (l.length : Int) = f := by omega
  rw [Int.add_zero] at k4
  refine ⟨by simp [conB, repB, jn_five, e7], ?_, by rw [hs]; rfl, rfl⟩
  rw [hs]
  unfold mayC alw
  simp only [show anyB 9 2 = false from by decide, show anyB 9 4 = false from by decide, show anyB 9 8 = true from by decide, show anyB 9 12 = true from by decide, show anyB 9 24 = true from by decide, show anyB 9 28 = true from by decide, show anyB 9 32 = false from by decide, if_true, if_false, Bool.false_eq_true, sg0]
  rw [btw_mk (show one false ≤ b ∧ b ≤ 4611686018427387903 from ⟨b1, b2⟩), btw_mk (show one true ≤ a ∧ a ≤ 4611686018427387903 from ⟨a1, a2⟩), btw_mk ⟨c1, c2⟩, btw_mk ⟨d1, d2⟩, e7, btw_mk ⟨f1, f2⟩, k4]
  rfl

theorem inv_17 (s s0 : Sg) (zs r : List Int) (hb : Bytey zs) (hs : s0 = { sg0 with typ := s0.typ, org := s0.org, num := s0.num, head := s0.head }) (h : contp 17 s0 zs = .ok s r) : zs = conB 17 s ++ r ∧ mayC 17 s = true ∧ s = { s with typ := s0.typ, org := s0.org, num := s0.num, head := s0.head, tail := [] } ∧ s0.typ = s.typ := by
  unfold contp at h
  rw [if_neg (by decide), if_neg (by decide), if_pos (by decide)] at h
  obtain ⟨a, r1, h1, g1⟩ := bind_inv h
  clear h
  obtain ⟨e1, a1, a2, a3, a4⟩ := numb_inv hb h1
  subst e1
  obtain ⟨e8, e9⟩ := ret_inv g1
  subst e8 e9
  refine ⟨by simp [conB, jn], ?_, by rw [hs]; rfl, rfl⟩
  rw [hs]
  unfold mayC alw
  simp only [show anyB 17 2 = false from by decide, show anyB 17 4 = false from by decide, show anyB 17 8 = false from by decide, show anyB 17 12 = false from by decide, show anyB 17 24 = true from by decide, show anyB 17 28 = true from by decide, show anyB 17 32 = false from by decide, if_true, if_false, Bool.false_eq_true, sg0]
  rw [btw_mk (show one true ≤ a ∧ a ≤ 4611686018427387903 from ⟨a1, a2⟩)]
  rfl

theorem inv_33 (s s0 : Sg) (zs r : List Int) (hb : Bytey zs) (hs : s0 = { sg0 with typ := s0.typ, org := s0.org, num := s0.num, head := s0.head }) (h : contp 33 s0 zs = .ok s r) : zs = conB 33 s ++ r ∧ mayC 33 s = true ∧ s = { s with typ := s0.typ, org := s0.org, num := s0.num, head := s0.head, tail := [] } ∧ s0.typ = s.typ := by
  unfold contp at h
  rw [if_neg (by decide), if_neg (by decide), if_neg (by decide), if_pos (by decide)] at h
  unfold reasonp at h
  obtain ⟨a, r1, h1, g1⟩ := bind_inv h
  clear h
  have e1 := oct_inv h1
  subst e1
  have ha := hb a (by simp)
  split at g1
  case isFalse => simp [Pr.fail] at g1
  rename_i h5
  obtain ⟨e8, e9⟩ := ret_inv g1
  subst e8 e9
  refine ⟨by simp [conB], ?_, by rw [hs]; rfl, rfl⟩
  rw [hs]
  unfold mayC alw
  simp only [show anyB 33 2 = false from by decide, show anyB 33 4 = false from by decide, show anyB 33 8 = false from by decide, show anyB 33 12 = false from by decide, show anyB 33 24 = false from by decide, show anyB 33 28 = false from by decide, show anyB 33 32 = true from by decide, if_true, if_false, Bool.false_eq_true, sg0]
  rw [btw_mk ⟨ha.1, h5⟩]
  rfl

end Go.Proofs.YtlagadpfnkidjabDoor
