import Derived.Test.YtnfbfdngdkkffabDoorRow
import Derived.Maps.AppendAt
import Derived.Deep.RegionWith
import Derived.Deep.CutRange
namespace Go.Proofs.YtnfbfdngdkkffabDoor
open Go.RowKit

theorem own_keep {w w' : World} {base size n : Nat} {e : TypeId} {v : Value} {xs : List Value} {row : Option Nat} (h : w.ownsRow base e size v n xs) (hg : w.grownBy w' row) (hr : ∀ k, v.ownBlock = some k → row ≠ some k) : w'.ownsRow base e size v n xs := by
  have hlt := h.lt
  obtain ⟨hl, h | ⟨g, cap, cur, rfl, hb, hh, r⟩⟩ := h
  · exact ⟨hl, .inl h⟩
  · refine ⟨hl, .inr ⟨g, cap, cur, rfl, hb, ?_, r⟩⟩
    rw [hg.block g (hlt g rfl).2 (fun e => hr g rfl e.symm)]; exact hh

theorem own_base {w : World} {base base' size n : Nat} {e : TypeId} {v : Value} {xs : List Value} (h : w.ownsRow base e size v n xs) (hb : base' ≤ base) : w.ownsRow base' e size v n xs :=
  ⟨h.1, h.2.imp id fun ⟨g, cap, cur, h1, h2, h3⟩ => ⟨g, cap, cur, h1, Nat.le_trans hb h2, h3⟩⟩

/-- An extension as it lies: its tag, where its bytes are, with what room, and these. -/
structure Xr where
  tag : Int
  adr : Option Addr
  cap : Nat
  data : List Int

def Xr.val (x : Xr) : Value := .slice x.adr x.data.length x.cap
def Xr.cells (x : Xr) : List Value := [.int .i64 x.tag, x.val]
def Xr.ex (x : Xr) : Ex := ⟨x.tag, x.data⟩

structure Xr.Own (x : Xr) (w : World) (base : Nat) : Prop where
  row : w.ownsRow base 5 1 x.val x.data.length (x.data.map (Value.int .u8))
  bytes : Bytey x.data
  small : x.data.length ≤ 70000
  tag : 0 ≤ x.tag ∧ x.tag ≤ 255

/-- A list of extensions in memory of its own. -/
structure XOwn (w : World) (base : Nat) (v : Value) (xs : List Xr) : Prop where
  row : w.ownsRow base 81 2 v xs.length (xs.flatMap Xr.cells)
  data : ∀ x ∈ xs, x.Own w base
  apart : ∀ x ∈ xs, ∀ k, x.val.ownBlock = some k → v.ownBlock ≠ some k
  nodup : (xs.filterMap fun x => x.val.ownBlock).Nodup

theorem XOwn.nil (w : World) (base : Nat) : XOwn w base (.slice none 0 0) [] :=
  ⟨World.ownsRow_nil _ _ _ _, (fun _ h => by cases h), (fun _ h => by cases h), List.nodup_nil⟩

theorem XOwn.keep {w w' : World} {base : Nat} {v : Value} {xs : List Xr} {row : Option Nat} (h : XOwn w base v xs) (hg : w.grownBy w' row) (hr : ∀ k, row = some k → k < base) : XOwn w' base v xs :=
  ⟨own_keep h.row hg (fun k hk e => by have := hr k e; have := (h.row.lt k hk).1; omega),
   fun x hx => ⟨own_keep (h.data x hx).row hg (fun k hk e => by have := hr k e; have := ((h.data x hx).row.lt k hk).1; omega), (h.data x hx).bytes, (h.data x hx).small, (h.data x hx).tag⟩, h.apart, h.nodup⟩

/-- One more extension behind the others. -/
theorem XOwn.snoc {w w' : World} {base : Nat} {v v' : Value} {xs : List Xr} {x : Xr} (h : XOwn w base v xs) (hx : x.Own w base) (hne : ∀ k, x.val.ownBlock = some k → v.ownBlock ≠ some k) (hnew : ∀ y ∈ xs, ∀ k, x.val.ownBlock = some k → y.val.ownBlock ≠ some k)
    (hrow : w'.ownsRow base 81 2 v' (xs ++ [x]).length ((xs ++ [x]).flatMap Xr.cells)) (hg : w.grownBy w' v.ownBlock) (hat : v'.ownBlock = v.ownBlock ∨ v'.ownBlock = some w.heap.size) : XOwn w' base v' (xs ++ [x]) := by
  have hall : ∀ y ∈ xs ++ [x], y.Own w base ∧ ∀ k, y.val.ownBlock = some k → v.ownBlock ≠ some k := by
    intro y hy
    rcases List.mem_append.mp hy with hy | hy
    · exact ⟨h.data y hy, h.apart y hy⟩
    · simp at hy; subst hy; exact ⟨hx, hne⟩
  refine ⟨hrow, fun y hy => ?_, fun y hy k hk => ?_, ?_⟩
  · obtain ⟨h1, h2⟩ := hall y hy
    exact ⟨own_keep h1.row hg (fun k hk e => h2 k hk e), h1.bytes, h1.small, h1.tag⟩
  · obtain ⟨h1, h2⟩ := hall y hy
    rcases hat with e | e
    · rw [e]; exact h2 k hk
    · rw [e]; intro e'; simp at e'; have := (h1.row.lt k hk).2; omega
  · rw [List.filterMap_append]
    rw [List.nodup_append]
    refine ⟨h.nodup, ?_, ?_⟩
    · simp only [List.filterMap_cons, List.filterMap_nil]; split <;> simp
    · intro a ha c hc hac
      subst hac
      simp only [List.filterMap_cons, List.filterMap_nil] at hc
      split at hc
      · cases hc
      · rename_i k hk
        simp at hc; subst hc
        obtain ⟨y, hy, hy2⟩ := List.mem_filterMap.mp ha
        exact hnew y hy _ hk hy2

/-- The extension that is being read, in a block of its own. -/
def XB (w : World) (g : Nat) (t : Int) (v : Value) : Prop := w.heap[g]? = some (.cells #[.int .i64 t, v] 81 (0, 0))
theorem XB.c0 {w : World} {g : Nat} {t : Int} {v : Value} (h : XB w g t v) : w.cell? ⟨g, 0, none⟩ = some (.int .i64 t) := by unfold XB at h; simp [World.cell?, h]
theorem XB.c1 {w : World} {g : Nat} {t : Int} {v : Value} (h : XB w g t v) : w.cell? ⟨g, 1, none⟩ = some v := by unfold XB at h; simp [World.cell?, h]
theorem XB.fz {w : World} {g : Nat} {t : Int} {v : Value} (h : XB w g t v) (i : Nat) : w.frozen? ⟨g, i, none⟩ = false := by unfold XB at h; simp [World.frozen?, h]
theorem XB.set0 {w : World} {g : Nat} {t : Int} {v : Value} (h : XB w g t v) (t' : Int) : XB (w.setCell ⟨g, 0, none⟩ (.int .i64 t')) g t' v := by
  unfold XB at h ⊢
  simp only [World.setCell, Array.getElem?_modify, h, if_true, Option.map_some]
  simp
theorem XB.set1 {w : World} {g : Nat} {t : Int} {v : Value} (h : XB w g t v) (v' : Value) : XB (w.setCell ⟨g, 1, none⟩ v') g t v' := by
  unfold XB at h ⊢
  simp only [World.setCell, Array.getElem?_modify, h, if_true, Option.map_some]
  simp
theorem XB.lt {w : World} {g : Nat} {t : Int} {v : Value} (h : XB w g t v) : g < w.heap.size := by
  rcases Nat.lt_or_ge g w.heap.size with hg | hg
  · exact hg
  · unfold XB at h; rw [Array.getElem?_eq_none hg] at h; cases h
theorem XB.grown {w w' : World} {g : Nat} {t : Int} {v : Value} {row : Option Nat} (h : XB w g t v) (hg : w.grownBy w' row) (hne : row ≠ some g) : XB w' g t v := (hg.block g h.lt (fun e => hne e.symm)).trans h

theorem grown_undrew {w w' : World} {row : Option Nat} (h : w.drew.grownBy w' row) : w.grownBy w' row := ⟨h.os, h.tape, h.output, h.size, h.block⟩

theorem grown_step {w W W' : World} {row row' : Option Nat} (h : w.grownBy W row) (hg : W.grownBy W' row') (hr : ∀ k, row' = some k → w.heap.size ≤ k) : w.grownBy W' row :=
  ⟨hg.os.trans h.os, hg.tape.trans h.tape, hg.output.trans h.output, Nat.le_trans h.size hg.size, fun k hk hne => (hg.block k (Nat.lt_of_lt_of_le hk h.size) (fun e => by have := hr k e.symm; omega)).trans (h.block k hk hne)⟩
theorem grown_alloc (w : World) (o : Obj) (row : Option Nat) : w.grownBy (w.alloc o) row :=
  ⟨rfl, rfl, rfl, by simp, fun k hk _ => Below.heap_alloc w o k hk⟩
theorem cell_two_new (w : World) (x y : Value) (t : TypeId) : ∀ j u, [x, y][j]? = some u → (w.alloc (.cells #[x, y] t)).cell? ((⟨w.heap.size, 0, none⟩ : Addr).add j) = some u := by
  intro j u hj
  match j, hj with
  | 0, hj => simp at hj; subst hj; simp [Addr.add]
  | 1, hj => simp at hj; subst hj; simp [Addr.add]

theorem Tryd.info_ext : (Tryd.prog.info? 81).map (fun i => (i.zero, i.size, i.bytes)) = some (some (.agg #[.int .i64 0, .slice none 0 0]), 2, 32) := by kernel_rfl

def ExtsAt (b : Nat) (a : Option Addr) (len cap : Nat) (zs : List Int) (st : St) (tl : List Value) (n : Nat) (w : World) (e : Ending) (w' : World) : Prop :=
  ∃ a' c xs st', e = .returned (.slice a' n c) ∧ xs.length = n ∧ XOwn w' w.heap.size (.slice a' n c) xs ∧ At w' b a len cap zs st' tl ∧ w.grownBy w' (some b) ∧ Step zs (extsp n []) st (xs.map Xr.ex) st'

theorem extsp_step (zs : List Int) (n k : Nat) (hk : k < n) (acc : List Ex) {st st1 st2 st3 st0 : St} {t m : Int} {d : List Int} (h : ∀ (β : Type) (K : List Ex → Pr β), fin ((extsp n []).bind K) zs st0 = fin ((extsp (n - k) acc).bind K) zs st)
    (h1 : Step zs oct st t st1) (h2 : Step zs (numb 0 200) st1 m st2) (h3 : Step zs (rowp m) st2 d st3) : ∀ (β : Type) (K : List Ex → Pr β), fin ((extsp n []).bind K) zs st0 = fin ((extsp (n - (k + 1)) (acc ++ [⟨t, d⟩])).bind K) zs st3 := by
  intro β K
  rw [h, show n - k = (n - (k + 1)) + 1 from by omega, extsp, Pr.bind_assoc, h1, Pr.bind_assoc, h2, Pr.bind_assoc, h3]

set_option maxHeartbeats 2000000 in
theorem exts_at {b len cap : Nat} {a : Option Addr} {zs : List Int} {st : St} {tl : List Value} {w : World} (n : Nat) (hn : n ≤ 15) (h : At w b a len cap zs st tl) :
    Calls Tryd.prog 74 #[.pointer (some ⟨b, 0, none⟩), .int .i64 n] w (ExtsAt b a len cap zs st tl n w) := by
  obtain ⟨i0, hi, hz0, hz1, hz2⟩ := info_parts Tryd.info_ext
  have HA : Hid (At w b a len cap zs st tl) := h
  have hbw := h.lt
  clear h
  go_enter Tryd.func74, Tryd.ntmps74
  go_wp2_with fail
  go_loopw [5, 8] (fun l i wr => ∃ (k : Nat) (xs : List Xr) (st' : St), k ≤ n ∧ i = .int .i64 k ∧ xs.length = k ∧ XOwn wr w.heap.size l xs ∧ At wr b a len cap zs st' tl ∧ w.grownBy wr (some b) ∧ (∀ (β : Type) (K : List Ex → Pr β), fin ((extsp n []).bind K) zs st = fin ((extsp (n - k) (xs.map Xr.ex)).bind K) zs st')) (fun _ i _ => n - (intOf i).toNat)
  case atStart => exact ⟨0, [], st, by omega, rfl, rfl, XOwn.nil _ _, HA.out, World.grownBy.refl _ _, fun _ _ => rfl⟩
  case round =>
    obtain ⟨k, xs, st', hk, rfl, hxl, hxo, hat, hgr, hfin⟩ := hrel
    have HX : Hid (XOwn wr w.heap.size _ xs) := hxo
    have HT : Hid (At wr b a len cap zs st' tl) := hat
    have HG : Hid (w.grownBy wr (some b)) := hgr
    have HF : Hid (∀ (β : Type) (K : List Ex → Pr β), fin ((extsp n []).bind K) zs st = fin ((extsp (n - k) (xs.map Xr.ex)).bind K) zs st') := hfin
    have HXL : Hid (xs.length = k) := hxl
    have hsz := hgr.size
    clear hxo hat hgr hfin hxl
    by_cases hlt : k < n
    · have hlt' : (k : Int) < (n : Int) := by omega
      have hbg : b < wr.heap.size := by omega
      have hat0 := HT.out.other ((Below.refl _ _).alloc (Nat.le_refl _) (.cells #[.int .i64 0, .slice none 0 0] 81))
      have hxb0 : XB (wr.alloc (.cells #[.int .i64 0, .slice none 0 0] 81)) wr.heap.size 0 (.slice none 0 0) := heap_alloc_new' _ _
      have HT0 : Hid (At (wr.alloc (.cells #[.int .i64 0, .slice none 0 0] 81)) b a len cap zs st' tl) := hat0
      have HX0 : Hid (XB (wr.alloc (.cells #[.int .i64 0, .slice none 0 0] 81)) wr.heap.size 0 (.slice none 0 0)) := hxb0
      clear hat0 hxb0
      go_wp2_with fail
      refine (octet_at HT0.out).mono ?_
      rintro e w1 ⟨t, st1, rfl, hat1, hg1, hs1, ht0, ht1⟩
      have hxb1 := HX0.out.grown hg1 (by simp; omega)
      have x0 := hxb1.c0
      have z0 := hxb1.fz 0
      have HX1 : Hid (XB (w1.setCell ⟨wr.heap.size, 0, none⟩ (.int .i64 t)) wr.heap.size t (.slice none 0 0)) := hxb1.set0 t
      have HT1 : Hid (At (w1.setCell ⟨wr.heap.size, 0, none⟩ (.int .i64 t)).drew b a len cap zs st1 tl) := hat1.keep (((Below.refl _ _).setCell (by simp; omega) _).drew)
      have HS1 : Hid (Step zs oct st' t st1) := hs1
      have HG1 : Hid ((wr.alloc (.cells #[.int .i64 0, .slice none 0 0] 81)).grownBy w1 (some b)) := hg1
      clear hat1 hg1 hs1 hxb1
      go_wp2_with fail
      go_region_with (first
        | (go_at_call 72
           refine (number_at 0 200 HT1.out).mono ?_
           rintro e w2 ⟨m, st2, rfl, hat2, hg2, hs2, hm0, hm1, hm2⟩
           have HM : 0 ≤ m ∧ m ≤ 200 := by omega
           have HT2 : Hid (At w2 b a len cap zs st2 tl) := hat2
           have HX2 : Hid (XB w2 wr.heap.size t (.slice none 0 0)) := HX1.out.grown (grown_undrew hg2) (by simp; omega)
           have HS2 : Hid (Step zs (numb 0 200) st1 m st2) := hs2
           have HG2 : Hid ((w1.setCell ⟨wr.heap.size, 0, none⟩ (.int .i64 t)).grownBy w2 (some b)) := grown_undrew hg2
           clear hat2 hg2 hs2 hm0 hm1 hm2)
        | (go_at_call 82
           refine (row_at m (by omega) (by omega) HT2.out).mono ?_
           rintro e w3 ⟨ad, cd, d, st3, rfl, hown3, hd3, hby3, hat3, hg3, hs3⟩
           have hxb3 := HX2.out.grown hg3 (by simp; omega)
           have x1 := hxb3.c1
           have z1 := hxb3.fz 1
           have HX3 : Hid (XB (w3.setCell ⟨wr.heap.size, 1, none⟩ (.slice ad d.length cd)) wr.heap.size t (.slice ad d.length cd)) := hxb3.set1 _
           have HT3 : Hid (At w3 b a len cap zs st3 tl) := hat3
           have HS3 : Hid (Step zs (rowp m) st2 d st3) := hs3
           have HG3 : Hid (w2.grownBy w3 (some b)) := hg3
           have HO3 : Hid (w3.ownsRow w2.heap.size 5 1 (.slice ad d.length cd) d.length (d.map (Value.int .u8)) ∧ d.length ≤ 70000 ∧ Bytey d) := ⟨hown3, hd3, hby3⟩
           clear hxb3 hat3 hs3 hg3 hown3 hd3 hby3))
      have hg01 : wr.grownBy w1 (some b) := grown_trans (grown_alloc _ _ _) HG1.out
      have hg02 : wr.grownBy w2 (some b) := grown_trans (grown_step hg01 (grown_set _ _ _ _) (by simp)) HG2.out
      have hg03 : wr.grownBy w3 (some b) := grown_trans hg02 HG3.out
      have hg04 : wr.grownBy (w3.setCell ⟨wr.heap.size, 1, none⟩ (.slice ad d.length cd)) (some b) := grown_step hg03 (grown_set _ _ _ _) (by simp)
      have hsz2 : wr.heap.size < w2.heap.size := HX2.out.lt
      have hxo4 := HX.out.keep hg04 (by simp; omega)
      have hxnew : (Xr.mk t ad cd d).Own (w3.setCell ⟨wr.heap.size, 1, none⟩ (.slice ad d.length cd)) w.heap.size :=
        ⟨own_base (own_keep HO3.out.1 (grown_set _ _ _ _) (fun k hk e => by have := (HO3.out.1.lt k hk).1; simp at e; omega)) (by omega), HO3.out.2.2, HO3.out.2.1, ht0, ht1⟩
      have hxne : ∀ k, (Xr.mk t ad cd d).val.ownBlock = some k → w2.heap.size ≤ k := fun k hk => (HO3.out.1.lt k hk).1
      have hat4 : At (w3.setCell ⟨wr.heap.size, 1, none⟩ (.slice ad d.length cd)) b a len cap zs st3 tl := HT3.out.keep ((Below.refl _ _).setCell (by simp; omega) _)
      have HF2 : Hid (∀ (β : Type) (K : List Ex → Pr β), fin ((extsp n []).bind K) zs st = fin ((extsp (n - (k + 1)) (xs.map Xr.ex ++ [⟨t, d⟩])).bind K) zs st3) := extsp_step zs n k hlt _ HF.out HS1.out HS2.out HS3.out
      have hc0 := HX3.out.c0
      have hc1 := HX3.out.c1
      have hnb : ∀ y ∈ xs, ∀ k, y.val.ownBlock = some k → k < wr.heap.size := fun y hy k hk => ((HX.out.data y hy).row.lt k hk).2
      have hnv : ∀ k, u5.ownBlock = some k → w.heap.size ≤ k ∧ k < wr.heap.size := fun k hk => HX.out.row.lt k hk
      have HGW : Hid (w.grownBy (w3.setCell ⟨wr.heap.size, 1, none⟩ (.slice ad d.length cd)) (some b)) := grown_trans HG.out hg04
      have hsz4 : w.heap.size ≤ (w3.setCell ⟨wr.heap.size, 1, none⟩ (.slice ad d.length cd)).heap.size := HGW.out.size
      have HX4 : Hid (XOwn (w3.setCell ⟨wr.heap.size, 1, none⟩ (.slice ad d.length cd)) w.heap.size u5 xs) := hxo4
      have HN4 : Hid ((Xr.mk t ad cd d).Own (w3.setCell ⟨wr.heap.size, 1, none⟩ (.slice ad d.length cd)) w.heap.size) := hxnew
      have HT4 : Hid (At (w3.setCell ⟨wr.heap.size, 1, none⟩ (.slice ad d.length cd)) b a len cap zs st3 tl) := hat4
      have HNE : Hid ((∀ k, (Xr.mk t ad cd d).val.ownBlock = some k → w2.heap.size ≤ k) ∧ (∀ y ∈ xs, ∀ k, y.val.ownBlock = some k → k < wr.heap.size) ∧ (∀ k, u5.ownBlock = some k → w.heap.size ≤ k ∧ k < wr.heap.size) ∧ wr.heap.size < w2.heap.size) := ⟨hxne, hnb, hnv, hsz2⟩
      have hx3 : (w3.setCell ⟨wr.heap.size, 1, none⟩ (.slice ad d.length cd)).heap[wr.heap.size]? = some (.cells #[.int .i64 t, .slice ad d.length cd] 81 (0, 0)) := HX3.out
      have hkl := HXL.out
      clear hg01 hg02 hg03 hg04 hxo4 hxnew hxne hat4 hnb hnv HX HT HG HF HT0 HX0 HX1 HT1 HS1 HG1 HT2 HX2 HS2 HG2 HX3 HT3 HS3 HG3 HO3 HM x0 x1 z0 z1
      generalize hW4 : w3.setCell ⟨wr.heap.size, 1, none⟩ (.slice ad d.length cd) = W4 at *
      clear hW4
      go_wp2_with (at_builtin; refine wpList_append_own_at _ rfl _ _ 24 rfl w.heap.size 81 i0 (.agg #[.int .i64 0, .slice none 0 0]) 2 32 Tryd.underlying24 hi hz0 hz1 hz2 rfl (by decide) _ _ _ rfl (HX4.out.row.alloc _) ⟨W4.heap.size, 0, none⟩ 1 1 [.int .i64 t, .slice ad d.length cd] rfl rfl ?c1 ?c2 ?c3 ?c4 ?c5 ?_)
      case c1 => exact cell_two_new _ _ _ _
      case c2 => intro u hu; simp at hu; rcases hu with rfl | rfl <;> rfl
      case c3 => unfold maxLen; omega
      case c4 => omega
      case c5 => simp; omega
      intro v' w5 hown5 hgrow5 _ hat5
      obtain ⟨hne1, hne2, hne3, hne4⟩ := HNE.out
      have HX5 : Hid (XOwn w5 w.heap.size v' (xs ++ [⟨t, ad, cd, d⟩])) := by
        refine XOwn.snoc (HX4.out.keep (grown_alloc _ (.cells #[.int .i64 t, .slice ad d.length cd] 81) none) (by simp)) ⟨HN4.out.row.alloc _, HN4.out.bytes, HN4.out.small, HN4.out.tag⟩ ?_ ?_ ?_ hgrow5 (by simpa using hat5)
        · intro k hk e
          have := hne1 k hk; have := hne3 k e; omega
        · intro y hy k hk e
          have := hne1 k hk; have := hne2 y hy k e; omega
        · rw [List.length_append, List.flatMap_append, HXL.out]
          exact hown5
      have HT5 : Hid (At w5 b a len cap zs st3 tl) := HT4.out.keep (((Below.refl _ _).alloc (by omega) _).grown hgrow5 (by simp; omega) (fun k hk => by have := hne3 k hk; omega))
      have HG5 : Hid (w.grownBy w5 (some b)) := grown_step (grown_trans HGW.out (grown_alloc _ _ _)) hgrow5 (fun k hk => (hne3 k hk).1)
      clear hne1 hne2 hne3 hne4 HNE hown5 hgrow5 hat5 hx3 hc0 hc1 HX4 HN4 HT4 HGW
      go_wp2
      go_roundw
      case rel =>
        refine ⟨k + 1, xs ++ [⟨t, ad, cd, d⟩], st3, by omega, by go_num, by simp; omega, HX5.out, HT5.out, HG5.out, ?_⟩
        intro β K
        rw [List.map_append]
        exact HF2.out β K
      case measure => simp [intOf]; omega
    · have hkn : k = n := by omega
      subst hkn
      obtain ⟨av, cv, hv⟩ := own_shape HX.out.row
      have hxl := HXL.out
      rw [hxl] at hv
      subst hv
      go_wp2
      go_ret
      refine ⟨av, cv, xs, st', rfl, hxl, HX.out, HT.out, HG.out, fun β K => ?_⟩
      have := HF.out β K
      rw [Nat.sub_self] at this; exact this

end Go.Proofs.YtnfbfdngdkkffabDoor
