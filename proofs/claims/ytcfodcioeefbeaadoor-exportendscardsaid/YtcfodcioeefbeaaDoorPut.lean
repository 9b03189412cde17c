import Derived.Test.YtcfodcioeefbeaaDoorCur
namespace Go.Proofs.YtcfodcioeefbeaaDoor
open Go.RowKit

theorem between_t (n lo hi : Int) (w : World) (h : btw n lo hi = true) :
    Calls Tryd.prog 44 #[.int .i64 n, .int .i64 lo, .int .i64 hi] w fun e w' => e = .returned (.bool true) ∧ w = w' := by
  have := between_any n lo hi w
  rw [h] at this; exact this

/-- A field that belongs to some parts may be n. -/
def alw (p n s lo hi : Int) : Bool := if anyB p s then btw n lo hi else n == 0
set_option maxHeartbeats 400000 in
theorem allow_any (p n s lo hi : Int) (w : World) :
    Calls Tryd.prog 46 #[.int .u8 p, .int .i64 n, .int .u8 s, .int .i64 lo, .int .i64 hi] w fun e w' => e = .returned (.bool (alw p n s lo hi)) ∧ w = w' := by
  have HW : Hid (alw p n s lo hi = if anyB p s then btw n lo hi else n == 0) := rfl
  generalize alw p n s lo hi = q at *
  cases hA : anyB p s
  · rw [hA] at HW
    go_enter Tryd.func46, Tryd.ntmps46
    go_wp2_with fail
    refine (any_any _ _ _).mono ?_
    rintro e w' ⟨rfl, rfl⟩
    rw [hA]
    go_wp2
    go_ret
    exact ⟨by rw [HW.out]; rfl, rfl⟩
  · rw [hA] at HW
    go_enter Tryd.func46, Tryd.ntmps46
    go_wp2_with fail
    refine (any_any _ _ _).mono ?_
    rintro e w' ⟨rfl, rfl⟩
    rw [hA]
    go_wp2_with fail
    refine (between_any _ _ _ _).mono ?_
    rintro e w' ⟨rfl, rfl⟩
    go_wp2
    go_ret
    exact ⟨by rw [HW.out]; rfl, rfl⟩
theorem allow_t (p n s lo hi : Int) (w : World) (h : alw p n s lo hi = true) :
    Calls Tryd.prog 46 #[.int .u8 p, .int .i64 n, .int .u8 s, .int .i64 lo, .int .i64 hi] w fun e w' => e = .returned (.bool true) ∧ w = w' := by
  have := allow_any p n s lo hi w
  rw [h] at this; exact this

set_option maxHeartbeats 400000 in
theorem extsMayBe_nil (a : Option Addr) (c : Nat) (w : World) :
    Calls Tryd.prog 45 #[.slice a 0 c] w fun e w' => e = .returned (.bool true) ∧ w = w' := by
  go_enter Tryd.func45, Tryd.ntmps45
  go_wp2
  refine wp_loop_rounds 1 ?_
  rw [rounds_succ]
  go_wp2
  go_ret
  exact ⟨rfl, rfl⟩

set_option maxHeartbeats 400000 in
theorem putExts_nil (v : Value) (a : Option Addr) (c : Nat) (w : World) :
    Calls Tryd.prog 51 #[v, .slice a 0 c] w fun e w' => e = .returned v ∧ w = w' := by
  go_enter Tryd.func51, Tryd.ntmps51
  go_wp2
  refine wp_loop_rounds 1 ?_
  rw [rounds_succ]
  go_wp2
  go_ret
  exact ⟨rfl, rfl⟩

/-- Numbers that may be written. -/
def Smalls (l : List Int) : Prop := ∀ n ∈ l, 0 ≤ n ∧ n ≤ 4611686018427387903

theorem smalls_at {l : List Int} (h : Smalls l) (k : Nat) (hk : k < l.length) : 0 ≤ l.getD k 0 ∧ l.getD k 0 ≤ 4611686018427387903 := by
  rw [List.getD_eq_getElem?_getD, List.getElem?_eq_getElem hk]; exact h _ (List.getElem_mem hk)
theorem take_snoc (l : List Int) (k : Nat) (h : k < l.length) : l.take (k + 1) = l.take k ++ [l.getD k 0] := by
  rw [List.take_succ_eq_append_getElem h, List.getD_eq_getElem?_getD, List.getElem?_eq_getElem h]; rfl
theorem jn_len (l : List Int) (h : Smalls l) : (jn l).length ≤ 10 * l.length := jn_length l (fun n hn => by have := h n hn; omega)
theorem smalls_take {l : List Int} (h : Smalls l) (k : Nat) : Smalls (l.take k) := fun n hn => h n (List.mem_of_mem_take hn)

/-- A row of bytes is no row of numbers. -/
theorem own_ne {w : World} {base m g : Nat} {v : Value} {xs : List Value} {ns : List Int} (h : w.ownsRow base 5 1 v m xs) (hb : Blk .i64 w g 3 ns) : v.ownBlock ≠ some g := by
  intro e
  obtain ⟨_, ⟨rfl, _⟩ | ⟨g', cap, cur, rfl, _, hg, _⟩⟩ := h
  · cases e
  · simp [Value.ownBlock] at e
    subst e
    unfold Blk at hb
    rw [hg] at hb
    simp at hb

theorem own_below {w w' : World} {base size n : Nat} {e : TypeId} {v : Value} {xs : List Value} (h : w.ownsRow base e size v n xs) (hb : Below w.heap.size w w') : w'.ownsRow base e size v n xs :=
  own_keep h (row := none) ⟨hb.os, hb.tape, hb.output, hb.size, fun k hk _ => hb.block k hk⟩ (fun k _ e => by cases e)

/-- An append to a row of bytes that is owned: the row's block, or a new one. -/
theorem append_at {P : Program} (w : World) {ops : Array Oper} {rest : List Oper} {o : Oper} {a : Act} {Q : Exit → Act → World → Prop} (hgd : o.guard = none) (s x : Operand) (t : TypeId)
    (ho : o.op = .call { callee := .builtin .append, args := #[s, x], argTypes := #[t, t] })
    (base : Nat) (e : TypeId) (i : TypeInfo) (z : Value) (bytes : Nat) (ht : P.underlying t = some (.slice e)) (hi : P.info? e = some i) (hz : i.zero = some z)
    (hsize : i.size = 1) (hby : i.bytes = bytes) (hzs : z.cells.size = 1)
    (v : Value) (n : Nat) (xs : List Value) (hs : a.eval s = v) (hown : w.ownsRow base e 1 v n xs)
    (k : IntKind) (ao : Option Addr) (m c : Nat) (zs : List Int) (hx : a.eval x = .slice ao m c) (hnil : ao = none → m = 0 ∧ c = 0) (hl : zs.length = m) (hz' : Lies k w ao zs)
    (h63 : n + m ≤ maxLen) (hbytes : (n + m) * bytes ≤ 140737488355328) (hbase : base ≤ w.heap.size)
    (h : ∀ v' w', w'.ownsRow base e 1 v' (n + m) (xs ++ zs.map (Value.int k)) → w.grownBy w' v.ownBlock → (∀ j, v'.ownBlock = some j → v.ownBlock = some j ∨ w.heap.size ≤ j) → wpList P ops Q rest (a.put o.dst v') w') : wpList P ops Q (o :: rest) a w := by
  cases ao with
  | none =>
    obtain ⟨rfl, rfl⟩ := hnil rfl
    obtain rfl : zs = [] := List.eq_nil_of_length_eq_zero hl
    refine wpList_append_own_none hgd s x t ho base e i 1 ht hi v n xs hs hown hx ?_
    exact h v w (by simpa using hown) (World.grownBy.refl _ _) (fun j hj => .inl hj)
  | some ad =>
    refine wpList_append_own_at w hgd s x t ho base e i z 1 bytes ht hi hz hsize hby hzs (by decide) v n xs hs hown ad m c (zs.map (Value.int k)) hx (by simpa using hl) ?_ (by intro u hu; simp at hu; obtain ⟨y, _, rfl⟩ := hu; rfl) h63 hbytes hbase (fun v' w' h1 h2 _ h4 => h v' w' h1 h2 (fun j hj => ?_))
    · intro j u hj
      have hjl : j < zs.length := by
        rcases Nat.lt_or_ge j zs.length with q | q
        · exact q
        · rw [List.getElem?_eq_none (by simpa using q)] at hj; cases hj
      rcases hz' with rfl | ⟨b, off, hb, hc⟩
      · simp at hjl
      · simp only [Option.some.injEq] at hb
        subst hb
        rw [List.getElem?_map, List.getElem?_eq_getElem hjl] at hj
        simp only [Option.map_some, Option.some.injEq] at hj
        rw [show (⟨b, off, none⟩ : Addr).add j = ⟨b, off + j, none⟩ from by unfold Addr.add; split <;> simp_all, hc j hjl, ← hj]
        simp [List.getD_eq_getElem?_getD, List.getElem?_eq_getElem hjl]
    · rcases h4 with h4 | h4
      · left; rw [← h4]; exact hj
      · right; rw [h4] at hj; simp at hj; omega

/-- v became v', in place or in new memory; else nothing that was turned. -/
structure Grew (w w' : World) (v v' : Value) : Prop where
  grown : w.grownBy w' v.ownBlock
  stays : ∀ j, v'.ownBlock = some j → v.ownBlock = some j ∨ w.heap.size ≤ j

theorem Grew.refl (w : World) (v : Value) : Grew w w v v := ⟨World.grownBy.refl _ _, fun _ h => .inl h⟩
theorem Grew.trans {w w1 w2 : World} {v v1 v2 : Value} (h : Grew w w1 v v1) (k : Grew w1 w2 v1 v2) : Grew w w2 v v2 := by
  refine ⟨⟨k.grown.os.trans h.grown.os, k.grown.tape.trans h.grown.tape, k.grown.output.trans h.grown.output, Nat.le_trans h.grown.size k.grown.size, fun j hj hne => ?_⟩, fun j hj => ?_⟩
  · rw [k.grown.block j (Nat.lt_of_lt_of_le hj h.grown.size) ?_]
    · exact h.grown.block j hj hne
    · intro e
      rcases h.stays j e.symm with e' | e'
      · exact hne e'.symm
      · omega
  · rcases k.stays j hj with e | e
    · exact h.stays j e
    · right; have := h.grown.size; omega
theorem Grew.below {w w' : World} {v : Value} (h : Below w.heap.size w w') : Grew w w' v v := ⟨⟨h.os, h.tape, h.output, h.size, fun k hk _ => h.block k hk⟩, fun _ h => .inl h⟩
theorem Grew.base {w w' : World} {v v' : Value} {base size n : Nat} {e : TypeId} {xs : List Value} (h : Grew w w' v v') (ho : w.ownsRow base e size v n xs) (hb : base ≤ w.heap.size) : Below base w w' :=
  (Below.refl _ _).grown h.grown hb (fun k hk => (ho.lt k hk).1)

/-- A row of bytes is no block of another type. -/
theorem own_apart {w : World} {base m g : Nat} {v : Value} {xs : List Value} {cs : Array Value} {t : TypeId} {fr : Nat × Nat} (h : w.ownsRow base 5 1 v m xs) (hb : w.heap[g]? = some (.cells cs t fr)) (ht : t ≠ 5) : v.ownBlock ≠ some g := by
  intro e
  obtain ⟨_, ⟨rfl, _⟩ | ⟨g', cap, cur, rfl, _, hg, _⟩⟩ := h
  · cases e
  · simp [Value.ownBlock] at e
    subst e
    rw [hg] at hb
    simp at hb
    exact ht hb.2.1.symm
theorem Grew.keeps {w w' : World} {base m g : Nat} {v v' : Value} {xs : List Value} {cs : Array Value} {t : TypeId} {fr : Nat × Nat} (hw : Grew w w' v v') (h : w.ownsRow base 5 1 v m xs) (hb : w.heap[g]? = some (.cells cs t fr)) (ht : t ≠ 5) : w'.heap[g]? = some (.cells cs t fr) := by
  rw [hw.grown.block g ?_ (fun e => own_apart h hb ht e.symm)]
  · exact hb
  · rcases Nat.lt_or_ge g w.heap.size with q | q
    · exact q
    · rw [Array.getElem?_eq_none q] at hb; cases hb

def PutPost (v0 : Value) (base m : Nat) (xs : List Value) (ns : List Int) (w : World) (e : Ending) (w' : World) : Prop :=
  ∃ v, e = .returned v ∧ w'.ownsRow base 5 1 v (m + (jn ns).length) (xs ++ (jn ns).map (Value.int .u8)) ∧ Grew w w' v0 v

set_option maxHeartbeats 2000000 in
theorem putNumbers_any (v : Value) (m : Nat) (xs : List Value) (base : Nat) (g : Nat) (ns : List Int) (w : World) (hn : Smalls ns) (hl : ns.length ≤ 10) (hown : w.ownsRow base 5 1 v m xs) (hbase : base ≤ w.heap.size) (hm : m ≤ 100000000) (hb : Blk .i64 w g 3 ns) :
    Calls Tryd.prog 50 #[v, .slice (some ⟨g, 0, none⟩) ns.length ns.length] w (PutPost v base m xs ns w) := by
  obtain ⟨i0, hi, hz0, hz1, hz2⟩ := info_parts Tryd.info_u8
  have HN : Hid (Smalls ns) := hn
  have HO0 : Hid (w.ownsRow base 5 1 v m xs) := hown
  have HB0 : Hid (Blk .i64 w g 3 ns) := hb
  clear hn hown hb
  go_enter Tryd.func50, Tryd.ntmps50
  go_wp2_with fail
  go_loopw [0, 9] (fun v' i wr => ∃ k : Nat, k ≤ ns.length ∧ i = .int .i64 k ∧ wr.ownsRow base 5 1 v' (m + (jn (ns.take k)).length) (xs ++ (jn (ns.take k)).map (Value.int .u8)) ∧ Grew w wr v v' ∧ Blk .i64 wr g 3 ns) (fun _ i _ => ns.length - (intOf i).toNat)
  case atStart => exact ⟨0, Nat.zero_le _, rfl, by simpa [jn] using HO0.out, Grew.refl _ _, HB0.out⟩
  case round =>
    obtain ⟨k, hk, rfl, hown', hbel, hblk⟩ := hrel
    have HO : Hid (wr.ownsRow base 5 1 _ (m + (jn (ns.take k)).length) (xs ++ (jn (ns.take k)).map (Value.int .u8))) := hown'
    have HBl : Hid (Grew w wr v _) := hbel
    have HB : Hid (Blk .i64 wr g 3 ns) := hblk
    have hsz := hbel.grown.size
    clear hown' hbel
    by_cases hlt : k < ns.length
    · have hlt' : (k : Int) < (ns.length : Int) := by omega
      have hc := hblk.cell k hlt
      have hnn := smalls_at HN.out k hlt
      have hjl := jn_len (ns.take k) (smalls_take HN.out k)
      have htl : (ns.take k).length ≤ 10 := by simp; omega
      have hs := sz_bounds (ns.getD k 0) hnn.1 (by omega)
      have HE : Hid ((enc (ns.getD k 0)).length = sz (ns.getD k 0)) := enc_length _ hnn.1 (by omega)
      have HJ : Hid (jn (ns.take (k + 1)) = jn (ns.take k) ++ enc (ns.getD k 0)) := by unfold Hid; rw [take_snoc ns k hlt, jn_snoc]
      have hs1 : sz (ns.getD k 0) ≤ 10 := hs.2.1
      clear hblk hs
      generalize ns.getD k 0 = z at *
      obtain ⟨hz0', hz1'⟩ := hnn
      have hw64 : z % 18446744073709551616 = z := by omega
      go_wp2_with fail
      refine (bytes_any z _ hz0' (by omega)).mono ?_
      rintro e w1 ⟨g1, cap1, rfl, hown1, hb1⟩
      have HL1 := own_lies hown1
      have HLI : Hid (Lies .u8 w1 (some ⟨g1, 0, none⟩) (enc z)) := HL1.1
      have HO1 : Hid (w1.ownsRow base 5 1 _ (m + (jn (ns.take k)).length) (xs ++ (jn (ns.take k)).map (Value.int .u8))) := own_below HO.out hb1
      have HB1 : Hid (Blk .i64 w1 g 3 ns) := HB.out.below hb1 HB.out.lt
      have HBl1 : Hid (Grew w w1 v _) := HBl.out.trans (Grew.below hb1)
      have hsz1 : base ≤ w1.heap.size := by have := hb1.size; omega
      have hE := HE.out
      clear HO HB HBl hown1 hb1 HL1 hc
      go_wp2_with (at_builtin; refine append_at _ rfl _ _ 26 rfl base 5 i0 (.int .u8 0) 1 Tryd.underlying26 hi hz0 hz1 hz2 rfl _ _ _ rfl HO1.out .u8 (some ⟨g1, 0, none⟩) (sz z) cap1 (enc z) rfl (fun h => by cases h) HE.out HLI.out (by unfold maxLen; omega) (by omega) hsz1 ?_)
      intro v' w2 hown2 hgrow2 hst2
      have HB2 : Hid (Blk .i64 w2 g 3 ns) := HB1.out.of_eq (hgrow2.block g HB1.out.lt (fun e => own_ne HO1.out HB1.out e.symm))
      have HBl2 : Hid (Grew w w2 v v') := HBl1.out.trans ⟨hgrow2, hst2⟩
      have HO2 : Hid (w2.ownsRow base 5 1 v' (m + (jn (ns.take (k + 1))).length) (xs ++ (jn (ns.take (k + 1))).map (Value.int .u8))) := by
        unfold Hid
        rw [HJ.out, List.length_append, HE.out, List.map_append, ← List.append_assoc, ← Nat.add_assoc]
        simpa only [List.append_assoc] using hown2
      clear hown2 hgrow2 hst2 HO1 HB1 HBl1 HLI
      go_wp2
      go_roundw
      case rel => exact ⟨k + 1, by omega, by go_num, HO2.out, HBl2.out, HB2.out⟩
      case measure => simp [intOf]; omega
    · have hkn : k = ns.length := by omega
      subst hkn
      clear hlt
      go_wp2
      go_ret
      refine ⟨_, rfl, ?_, HBl.out⟩
      have := HO.out
      rw [List.take_of_length_le (Nat.le_refl _)] at this; exact this

end Go.Proofs.YtcfodcioeefbeaaDoor

namespace Go.Proofs.YtcfodcioeefbeaaDoor
open Go.RowKit

/-- A world with new blocks behind it. -/
def allocs (w : World) (os : List Obj) : World := os.foldl World.alloc w
theorem allocs_snoc (w : World) (os : List Obj) (o : Obj) : allocs w (os ++ [o]) = (allocs w os).alloc o := by simp [allocs]
theorem allocs_below (w : World) (os : List Obj) : Below w.heap.size w (allocs w os) := by
  induction os generalizing w with
  | nil => exact Below.refl _ _
  | cons o os ih =>
    have h := ih (w.alloc o)
    exact ((Below.refl _ w).alloc (Nat.le_refl _) o).trans (h.mono (by simp))
theorem allocs_append (w : World) (os os' : List Obj) : allocs (allocs w os) os' = allocs w (os ++ os') := by simp [allocs, List.foldl_append]
theorem allocs_drewN (w : World) (os : List Obj) (n : Nat) : allocs (w.drewN n) os = (allocs w os).drewN n := by
  induction os generalizing w with
  | nil => rfl
  | cons o os ih => exact ih (w.alloc o)
structure Xt where
  os : List Obj
  n : Nat
  deriving Inhabited
/-- A world with new blocks behind it, and after some draws: the class of worlds of a region that only reads, draws and makes new blocks. -/
def ext (w : World) (x : Xt) : World := (allocs w x.os).drewN x.n
theorem ext_ext (w : World) (x y : Xt) : ext (ext w x) y = ext w ⟨x.os ++ y.os, x.n + y.n⟩ := by
  simp only [ext]; rw [allocs_drewN, allocs_append, World.drewN_drewN]
theorem ext_below (w : World) (x : Xt) : Below w.heap.size w (ext w x) := ⟨(allocs_below w x.os).os, (allocs_below w x.os).tape, (allocs_below w x.os).output, (allocs_below w x.os).size, (allocs_below w x.os).block⟩
theorem ext_cell (w : World) (x : Xt) (a : Addr) (h : a.block < w.heap.size) : (ext w x).cell? a = w.cell? a := (ext_below w x).cell h

theorem wp_region_ext {P : Program} {id : Nat} {Q : Exit → Act → World → Prop} {a : Act} {w : World} {l : List Oper} (hm : P.follows .mixedOrders = true) (hB : Region.lexB .any l.toArray = true)
    (h : wpQuiet P l.toArray (fun w' => ∃ x, w' = ext w x) (fun a' => ∀ w', (∃ x, w' = ext w x) → Q .normal a' w') l a) : (Code.region id l.toArray true).wp P Q a w :=
  wp_region_quiet (C := fun w' => ∃ x, w' = ext w x) hm hB ⟨⟨[], 1⟩, rfl⟩ (by simpa using h)

/-- A callee's contract in such a region: it leaves the world alone. -/
theorem ext_same {P : Program} {f : FuncId} {args : Array Value} {w : World} {x : Xt} {v : Value}
    (h : Calls P f args (ext w x) fun e w' => e = .returned v ∧ ext w x = w') : Calls P f args (ext w x) fun e w'' => e = .returned v ∧ ∃ y, w'' = ext w y :=
  h.mono fun _ _ ⟨he, hm⟩ => ⟨he, x, hm.symm⟩
/-- .. it makes new blocks. -/
theorem ext_more {P : Program} {f : FuncId} {args : Array Value} {w : World} {x : Xt} {v : Value}
    (h : Calls P f args (ext w x) fun e w' => e = .returned v ∧ ∃ y, w' = ext (ext w x) y) : Calls P f args (ext w x) fun e w'' => e = .returned v ∧ ∃ y, w'' = ext w y :=
  h.mono fun _ _ ⟨he, y, hm⟩ => ⟨he, _, hm.trans (ext_ext w x y)⟩

end Go.Proofs.YtcfodcioeefbeaaDoor
