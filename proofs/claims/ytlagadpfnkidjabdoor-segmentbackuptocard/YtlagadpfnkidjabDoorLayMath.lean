import Derived.Test.YtlagadpfnkidjabDoorFields
namespace Go.Proofs.YtlagadpfnkidjabDoor

theorem bind_ok {α β : Type} {p : Pr α} {f : α → Pr β} {zs r : List Int} {v : α} (h : p zs = .ok v r) : (p.bind f) zs = f v r := by simp [Pr.bind, h]
theorem numb_enc (lo hi n : Int) (x : List Int) (h : lo ≤ n ∧ n ≤ hi) (h0 : 0 ≤ n) (h1 : n ≤ 4611686018427387903) : numb lo hi (enc n ++ x) = .ok n x := by
  have e := rd_enc n h0 (by omega) x
  have el := enc_length n h0 (by omega)
  unfold numb
  rw [e, if_neg (by simp), if_neg (by simp; omega), if_pos h]
  simp only [Int.toNat_natCast]
  rw [← el, List.drop_left]
theorem rowp_app (d x : List Int) : rowp (d.length : Int) (d ++ x) = .ok d x := by
  unfold rowp
  rw [if_neg (by simp; omega), Int.toNat_natCast, List.take_left, List.drop_left]
theorem extsp_enc : ∀ (l acc : List Ex) (x : List Int), (∀ y ∈ l, y.data.length ≤ 200) → extsp l.length acc (encXs l ++ x) = .ok (acc ++ l) x
  | [], acc, x, _ => by simp [extsp, encXs, Pr.ret]
  | y :: l, acc, x, h => by
    have hy := h y (by simp)
    have e : encXs (y :: l) ++ x = y.tag :: (enc (y.data.length : Int) ++ (y.data ++ (encXs l ++ x))) := by simp [encXs, encX]
    rw [e, List.length_cons, extsp, bind_ok (p := oct) (by rfl), bind_ok (numb_enc 0 200 _ _ (by omega) (by omega) (by omega)), bind_ok (rowp_app _ _), extsp_enc l _ x (fun z hz => h z (by simp [hz]))]
    simp
theorem jn_two (a b : Int) : jn [a, b] = enc a ++ enc b := by simp [jn]
theorem claimsp_enc (low upp : Int) (hl : 0 ≤ low) (hu : upp ≤ 65536) : ∀ (cl acc : List (Int × Int)) (least : Int) (x : List Int), 0 ≤ least → clOk upp (low + least) cl = true → claimsp low upp cl.length least acc (clmB low cl ++ x) = .ok (acc ++ cl) x
  | [], acc, _, x, _, _ => by simp [claimsp, clmB, Pr.ret]
  | (a, b) :: cl, acc, least, x, h0, h => by
    simp only [clOk, Bool.and_eq_true, decide_eq_true_eq] at h
    obtain ⟨h1, h2, h3, h4⟩ := h
    have e : clmB low ((a, b) :: cl) ++ x = enc (a - low) ++ (enc (b - a) ++ (clmB low cl ++ x)) := by simp [clmB, jn_two]
    rw [e, List.length_cons, claimsp, bind_ok (numb_enc _ _ _ _ (by omega) (by omega) (by omega)), bind_ok (numb_enc _ _ _ _ (by omega) (by omega) (by omega))]
    have e2 : low + (a - low) + (b - a) - low + 1 = b - low + 1 := by omega
    have e3 : low + (a - low) = a := by omega
    have e4 : a + (b - a) = b := by omega
    rw [e2, e3, e4, claimsp_enc low upp hl hu cl _ (b - low + 1) x (by omega) (by rw [show low + (b - low + 1) = b + 1 from by omega]; exact h4)]
    simp
theorem jn_five (a b c d e : Int) : jn [a, b, c, d, e] = enc a ++ (enc b ++ (enc c ++ (enc d ++ enc e))) := by simp [jn]
theorem jn_three (a b c : Int) : jn [a, b, c] = enc a ++ (enc b ++ enc c) := by simp [jn]

theorem cont_1 (s s0 : Sg) (hx tx : List Xr) (x : List Int) (h : may 1 s hx tx = true) (hs : s0 = { sg0 with typ := s.typ, org := s.org, num := s.num, head := s.head }) : contp 1 s0 (conB 1 s ++ x) = .ok { s with tail := [] } x := by
  subst hs
  unfold may at h
  simp only [Bool.and_eq_true, alw, show anyB 1 2 = false from by decide, show anyB 1 4 = false from by decide, show anyB 1 8 = false from by decide, show anyB 1 12 = false from by decide, show anyB 1 24 = false from by decide, show anyB 1 28 = false from by decide, show anyB 1 32 = false from by decide, if_false, beq_iff_eq, Bool.false_eq_true] at h
  obtain ⟨_, _, _, _, h4, h5, h6, h7, h8, h9, h10, h11, h12, h13⟩ := h
  obtain ⟨t1, t2, t3, t4, t5, t6, t7, t8, t9, t10, t11, t12, t13, t14⟩ := s
  simp only at h4 h5 h6 h7 h8 h9 h10 h11 h12 h13
  obtain rfl := h4
  obtain rfl : t8 = [] := List.eq_nil_of_length_eq_zero (by omega)
  obtain rfl := h6
  obtain rfl := h7
  obtain rfl := h8
  obtain rfl := h9
  obtain rfl := h10
  obtain rfl : t13 = [] := List.eq_nil_of_length_eq_zero (by omega)
  obtain rfl := h13
  unfold contp
  rw [if_neg (by decide), if_neg (by decide), if_neg (by decide), if_neg (by decide)]
  have e : conB 1 ⟨t1, t2, t3, t4, t5, 0, 0, [], 0, 0, 0, 0, [], 0⟩ ++ x = x := by simp [conB]
  rw [e]
  rfl

theorem cont_3 (s s0 : Sg) (hx tx : List Xr) (x : List Int) (h : may 3 s hx tx = true) (hs : s0 = { sg0 with typ := s.typ, org := s.org, num := s.num, head := s.head }) : contp 3 s0 (conB 3 s ++ x) = .ok { s with tail := [] } x := by
  subst hs
  unfold may at h
  simp only [Bool.and_eq_true, alw, show anyB 3 2 = true from by decide, show anyB 3 4 = false from by decide, show anyB 3 8 = false from by decide, show anyB 3 12 = false from by decide, show anyB 3 24 = false from by decide, show anyB 3 28 = false from by decide, show anyB 3 32 = false from by decide, if_true, if_false, beq_iff_eq, Bool.false_eq_true] at h
  obtain ⟨_, _, _, _, h4, h5, h6, h7, h8, h9, h10, h11, h12, h13⟩ := h
  obtain ⟨t1, t2, t3, t4, t5, t6, t7, t8, t9, t10, t11, t12, t13, t14⟩ := s
  simp only at h4 h5 h6 h7 h8 h9 h10 h11 h12 h13
  have b4 := btw_of h4
  have b5 := btw_of h5
  have b6 := btw_of h6
  obtain rfl := h7
  obtain rfl := h8
  obtain rfl := h9
  obtain rfl := h10
  obtain rfl : t13 = [] := List.eq_nil_of_length_eq_zero (by omega)
  obtain rfl := h13
  unfold contp
  rw [if_pos (by decide)]
  have e : conB 3 ⟨t1, t2, t3, t4, t5, t6, t7, t8, 0, 0, 0, 0, [], 0⟩ ++ x = enc t6 ++ (enc t7 ++ (enc (t8.length : Int) ++ (t8 ++ x))) := by simp [conB, blkB, jn_three]
  rw [e]; unfold blockp
  rw [bind_ok (numb_enc 0 mn _ _ ⟨b4.1, b4.2⟩ b4.1 b4.2), bind_ok (numb_enc 0 mn _ _ (by unfold mn; omega) (by omega) (by omega)), bind_ok (numb_enc _ _ _ _ (by omega) (by omega) (by omega)), if_neg (by decide), bind_ok (rowp_app _ _)]
  rfl

theorem cont_7 (s s0 : Sg) (hx tx : List Xr) (x : List Int) (h : may 7 s hx tx = true) (hs : s0 = { sg0 with typ := s.typ, org := s.org, num := s.num, head := s.head }) : contp 7 s0 (conB 7 s ++ x) = .ok { s with tail := [] } x := by
  subst hs
  unfold may at h
  simp only [Bool.and_eq_true, alw, show anyB 7 2 = true from by decide, show anyB 7 4 = true from by decide, show anyB 7 8 = false from by decide, show anyB 7 12 = true from by decide, show anyB 7 24 = false from by decide, show anyB 7 28 = true from by decide, show anyB 7 32 = false from by decide, if_true, if_false, beq_iff_eq, Bool.false_eq_true] at h
  obtain ⟨_, _, _, _, h4, h5, h6, h7, h8, h9, h10, h11, h12, h13⟩ := h
  obtain ⟨t1, t2, t3, t4, t5, t6, t7, t8, t9, t10, t11, t12, t13, t14⟩ := s
  simp only at h4 h5 h6 h7 h8 h9 h10 h11 h12 h13
  have b4 := btw_of h4
  have b5 := btw_of h5
  have b6 := btw_of h6
  have b7 := btw_of h7
  have b8 := btw_of h8
  have o7 : one true = 1 := rfl
  have o8 : one false = 0 := rfl
  rw [o7] at b7
  rw [o8] at b8
  obtain rfl := h9
  obtain rfl := h10
  obtain rfl : t13 = [] := List.eq_nil_of_length_eq_zero (by omega)
  obtain rfl := h13
  unfold contp
  rw [if_pos (by decide)]
  have e : conB 7 ⟨t1, t2, t3, t4, t5, t6, t7, t8, t9, t10, 0, 0, [], 0⟩ ++ x = enc t6 ++ (enc t7 ++ (enc (t8.length : Int) ++ (enc t9 ++ (enc t10 ++ (t8 ++ x))))) := by simp [conB, blkB, jn_three, jn_two]
  rw [e]; unfold blockp
  rw [bind_ok (numb_enc 0 mn _ _ ⟨b4.1, b4.2⟩ b4.1 b4.2), bind_ok (numb_enc 0 mn _ _ (by unfold mn; omega) (by omega) (by omega)), bind_ok (numb_enc _ _ _ _ (by omega) (by omega) (by omega)), if_pos rfl, bind_ok (numb_enc 1 mn _ _ ⟨b7.1, b7.2⟩ (by omega) b7.2), bind_ok (numb_enc 0 mn _ _ ⟨b8.1, b8.2⟩ b8.1 b8.2), bind_ok (rowp_app _ _)]
  rfl

theorem cont_9 (s s0 : Sg) (hx tx : List Xr) (x : List Int) (h : may 9 s hx tx = true) (hs : s0 = { sg0 with typ := s.typ, org := s.org, num := s.num, head := s.head }) : contp 9 s0 (conB 9 s ++ x) = .ok { s with tail := [] } x := by
  subst hs
  unfold may at h
  simp only [Bool.and_eq_true, alw, show anyB 9 2 = false from by decide, show anyB 9 4 = false from by decide, show anyB 9 8 = true from by decide, show anyB 9 12 = true from by decide, show anyB 9 24 = true from by decide, show anyB 9 28 = true from by decide, show anyB 9 32 = false from by decide, if_true, if_false, beq_iff_eq, Bool.false_eq_true] at h
  obtain ⟨_, _, _, _, h4, h5, h6, h7, h8, h9, h10, h11, h12, h13⟩ := h
  obtain ⟨t1, t2, t3, t4, t5, t6, t7, t8, t9, t10, t11, t12, t13, t14⟩ := s
  simp only at h4 h5 h6 h7 h8 h9 h10 h11 h12 h13
  obtain rfl := h4
  obtain rfl : t8 = [] := List.eq_nil_of_length_eq_zero (by omega)
  obtain rfl := h6
  have b7 := btw_of h7
  have b8 := btw_of h8
  have b9 := btw_of h9
  have b10 := btw_of h10
  have b11 := btw_of h11
  have o7 : one true = 1 := rfl
  have o8 : one false = 0 := rfl
  rw [o8] at b7
  rw [o7] at b8
  obtain rfl := h13
  unfold contp
  rw [if_neg (by decide), if_pos (by decide)]
  have e : conB 9 ⟨t1, t2, t3, t4, t5, 0, 0, [], t9, t10, t11, t12, t13, 0⟩ ++ x = enc t10 ++ (enc t9 ++ (enc t11 ++ (enc t12 ++ (enc (t13.length : Int) ++ (clmB t12 t13 ++ x))))) := by simp [conB, repB, jn_five]
  rw [e]; unfold reportp
  rw [bind_ok (numb_enc 1 mn _ _ ⟨b8.1, b8.2⟩ (by omega) b8.2), bind_ok (numb_enc 0 mn _ _ ⟨b7.1, b7.2⟩ b7.1 b7.2), bind_ok (numb_enc _ _ _ _ b9 (by omega) (by omega)), bind_ok (numb_enc _ _ _ _ b10 (by omega) (by omega)), bind_ok (numb_enc _ _ _ _ b11 (by omega) (by omega)), Int.toNat_natCast, bind_ok (claimsp_enc t12 t11 (by omega) (by omega) t13 [] 0 x (by omega) (by simpa using h12))]
  rfl

theorem cont_17 (s s0 : Sg) (hx tx : List Xr) (x : List Int) (h : may 17 s hx tx = true) (hs : s0 = { sg0 with typ := s.typ, org := s.org, num := s.num, head := s.head }) : contp 17 s0 (conB 17 s ++ x) = .ok { s with tail := [] } x := by
  subst hs
  unfold may at h
  simp only [Bool.and_eq_true, alw, show anyB 17 2 = false from by decide, show anyB 17 4 = false from by decide, show anyB 17 8 = false from by decide, show anyB 17 12 = false from by decide, show anyB 17 24 = true from by decide, show anyB 17 28 = true from by decide, show anyB 17 32 = false from by decide, if_true, if_false, beq_iff_eq, Bool.false_eq_true] at h
  obtain ⟨_, _, _, _, h4, h5, h6, h7, h8, h9, h10, h11, h12, h13⟩ := h
  obtain ⟨t1, t2, t3, t4, t5, t6, t7, t8, t9, t10, t11, t12, t13, t14⟩ := s
  simp only at h4 h5 h6 h7 h8 h9 h10 h11 h12 h13
  obtain rfl := h4
  obtain rfl : t8 = [] := List.eq_nil_of_length_eq_zero (by omega)
  obtain rfl := h6
  obtain rfl := h7
  obtain rfl := h9
  obtain rfl := h10
  obtain rfl : t13 = [] := List.eq_nil_of_length_eq_zero (by omega)
  obtain rfl := h13
  unfold contp
  have b8 := btw_of h8
  have o7 : one true = 1 := rfl
  rw [o7] at b8
  rw [if_neg (by decide), if_neg (by decide), if_pos (by decide)]
  have e : conB 17 ⟨t1, t2, t3, t4, t5, 0, 0, [], 0, t10, 0, 0, [], 0⟩ ++ x = enc t10 ++ x := by simp [conB, jn]
  rw [e, bind_ok (numb_enc 1 mn _ _ ⟨b8.1, b8.2⟩ (by omega) b8.2)]
  rfl

theorem cont_33 (s s0 : Sg) (hx tx : List Xr) (x : List Int) (h : may 33 s hx tx = true) (hs : s0 = { sg0 with typ := s.typ, org := s.org, num := s.num, head := s.head }) : contp 33 s0 (conB 33 s ++ x) = .ok { s with tail := [] } x := by
  subst hs
  unfold may at h
  simp only [Bool.and_eq_true, alw, show anyB 33 2 = false from by decide, show anyB 33 4 = false from by decide, show anyB 33 8 = false from by decide, show anyB 33 12 = false from by decide, show anyB 33 24 = false from by decide, show anyB 33 28 = false from by decide, show anyB 33 32 = true from by decide, if_true, if_false, beq_iff_eq, Bool.false_eq_true] at h
  obtain ⟨_, _, _, _, h4, h5, h6, h7, h8, h9, h10, h11, h12, h13⟩ := h
  obtain ⟨t1, t2, t3, t4, t5, t6, t7, t8, t9, t10, t11, t12, t13, t14⟩ := s
  simp only at h4 h5 h6 h7 h8 h9 h10 h11 h12 h13
  obtain rfl := h4
  obtain rfl : t8 = [] := List.eq_nil_of_length_eq_zero (by omega)
  obtain rfl := h6
  obtain rfl := h7
  obtain rfl := h8
  obtain rfl := h9
  obtain rfl := h10
  obtain rfl : t13 = [] := List.eq_nil_of_length_eq_zero (by omega)
  have b13 := btw_of h13
  unfold contp
  rw [if_neg (by decide), if_neg (by decide), if_neg (by decide), if_pos (by decide)]
  have e : conB 33 ⟨t1, t2, t3, t4, t5, 0, 0, [], 0, 0, 0, 0, [], t14⟩ ++ x = t14 :: x := by simp [conB]
  rw [e]; unfold reasonp
  rw [bind_ok (p := oct) (by rfl), if_pos b13.2]
  rfl

theorem seg_lay (s : Sg) (hx tx : List Xr) (x : List Int) (ho : shp s.typ % 2 = 1) (h : may (shp s.typ) s hx tx = true) (he : s.head = hx.map Xr.ex) (te : s.tail = tx.map Xr.ex) : segp (layB (shp s.typ) s ++ x) = .ok s x := by
  have hw := wr_of ho h
  have hm := h
  unfold may at h
  simp only [Bool.and_eq_true] at h
  obtain ⟨h0, h1, h2, h3, _⟩ := h
  have b0 := btw_of h0
  have b1 := btw_of h1
  have hl : s.head.length ≤ 15 := by rw [he, List.length_map]; exact hw.headL
  have tl : s.tail.length ≤ 15 := by rw [te, List.length_map]; exact hw.tailL
  have hd : ∀ y ∈ s.head, y.data.length ≤ 200 := by
    rw [he]; intro y hy; obtain ⟨z, hz, rfl⟩ := List.mem_map.mp hy; exact (hw.head z hz).2.2
  have td : ∀ y ∈ s.tail, y.data.length ≤ 200 := by
    rw [te]; intro y hy; obtain ⟨z, hz, rfl⟩ := List.mem_map.mp hy; exact (hw.tail z hz).2.2
  have e : layB (shp s.typ) s ++ x = s.typ :: (enc s.org ++ (enc s.num ++ ((16 * (s.head.length : Int) + s.tail.length) :: (encXs s.head ++ (conB (shp s.typ) s ++ (encXs s.tail ++ x)))))) := by simp [layB, jn_two]
  have hk : kindp (s.typ :: (enc s.org ++ (enc s.num ++ ((16 * (s.head.length : Int) + s.tail.length) :: (encXs s.head ++ (conB (shp s.typ) s ++ (encXs s.tail ++ x))))))) = .ok s.typ (enc s.org ++ (enc s.num ++ ((16 * (s.head.length : Int) + s.tail.length) :: (encXs s.head ++ (conB (shp s.typ) s ++ (encXs s.tail ++ x)))))) := by
    unfold kindp; rw [bind_ok (p := oct) (by rfl), if_pos ho]; rfl
  have c1 : ((16 * (s.head.length : Int) + s.tail.length) / 16).toNat = s.head.length := by omega
  have c2 : ((16 * (s.head.length : Int) + s.tail.length) % 16).toNat = s.tail.length := by omega
  have hc : contp (shp s.typ) { sg0 with typ := s.typ, org := s.org, num := s.num, head := s.head } (conB (shp s.typ) s ++ (encXs s.tail ++ x)) = .ok { s with tail := [] } (encXs s.tail ++ x) := by
    generalize hH : shp s.typ = H at *
    have hcl := shp_cases s.typ
    rw [hH] at hcl
    rcases hcl with q | q | q | q | q | q | q <;> subst q
    · simp at ho
    · exact cont_1 s _ hx tx _ hm rfl
    · exact cont_3 s _ hx tx _ hm rfl
    · exact cont_7 s _ hx tx _ hm rfl
    · exact cont_9 s _ hx tx _ hm rfl
    · exact cont_17 s _ hx tx _ hm rfl
    · exact cont_33 s _ hx tx _ hm rfl
  rw [e]
  unfold segp
  rw [bind_ok hk, bind_ok (numb_enc 1 mn _ _ ⟨b0.1, b0.2⟩ (by omega) b0.2), bind_ok (numb_enc 1 (mn - 1) _ _ (by unfold mn; omega) (by omega) (by omega)), bind_ok (p := oct) (by rfl), c1, c2, bind_ok (extsp_enc s.head [] _ hd), List.nil_append, bind_ok hc, bind_ok (extsp_enc s.tail [] x td)]
  rfl

/-- P2.5, on lists: what is printed, cut off or with more behind it. -/
theorem cut_math (s : Sg) (hx tx : List Xr) (he : s.head = hx.map Xr.ex) (te : s.tail = tx.map Xr.ex) (h : (prt s hx tx).1 = 0) :
    4 ≤ (prt s hx tx).2.length ∧ (prt s hx tx).2.length ≤ 8192 ∧ prs (prt s hx tx).2 = (0, s) ∧ (∀ k, k < (prt s hx tx).2.length → (prs ((prt s hx tx).2.take k)).1 = 20) ∧ ∀ more : List Int, more ≠ [] → (prs ((prt s hx tx).2 ++ more)).1 = 24 ∨ ((prs ((prt s hx tx).2 ++ more)).1 = 2 ∧ 8192 < ((prt s hx tx).2 ++ more).length) := by
  unfold prt at h ⊢
  split at h
  · simp at h
  · rename_i ho
    split at h
    · simp at h
    · rename_i hm
      split at h
      · simp at h
      · rename_i hb
        rw [if_neg ho, if_neg hm, if_neg hb]
        simp only
        have hm' : may (shp s.typ) s hx tx = true := by simpa using hm
        have hr := fun x => seg_lay s hx tx x (by omega) hm' he te
        have h0 := hr []
        rw [List.append_nil] at h0
        obtain ⟨c, hc, hx', hk⟩ := Good.segp.ok _ _ _ h0
        rw [List.append_nil] at hc
        subst hc
        have hw := wr_of (by omega) hm'
        have l4 : 4 ≤ (layB (shp s.typ) s).length := by
          have e1 := enc_length s.org hw.org.1 (by have := hw.org.2; omega)
          have e2 := enc_length s.num hw.num.1 (by have := hw.num.2; omega)
          have s1 := (sz_bounds s.org hw.org.1 (by have := hw.org.2; omega)).1
          have s2 := (sz_bounds s.num hw.num.1 (by have := hw.num.2; omega)).1
          simp only [layB, jn_two, List.length_cons, List.length_append]
          omega
        refine ⟨l4, by omega, ?_, fun k hk' => ?_, fun more hmore => ?_⟩
        · unfold prs; rw [if_neg hb, h0]
        · unfold prs; rw [if_neg (by simp; omega), hk k hk']
        · by_cases hbig : 8192 < (layB (shp s.typ) s ++ more).length
          · right; exact ⟨by unfold prs; rw [if_pos hbig], hbig⟩
          · left
            unfold prs; rw [if_neg hbig, hr more]
            cases more with
            | nil => exact absurd rfl hmore
            | cons a b => rfl

end Go.Proofs.YtlagadpfnkidjabDoor
