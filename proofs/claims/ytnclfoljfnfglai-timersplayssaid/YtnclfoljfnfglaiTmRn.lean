import Derived.Test.YtnclfoljfnfglaiTmLw2
import Derived.Test.YtnclfoljfnfglaiStp
import Derived.Test.YtnclfoljfnfglaiTmEq
import Derived.BigQuiet
namespace Go.Proofs.Ytnclfoljfnfglai
open Go.RowKit Go.Maps
set_option linter.unusedVariables false

/-! ## The law's own table: keys, and what each has left -/
abbrev IR (w : World) (base : Nat) (v : Value) (l : List Int) : Prop := w.ownsRow base 3 1 v l.length (l.map (Value.int .i64))
theorem IR.keep {S : Nat → Prop} {w w' : World} {base : Nat} {v : Value} {l : List Int} (h : IR w base v l) (hk : Kq S w w') (hs : ∀ g, v.ownBlock = some g → ¬ S g) : IR w' base v l := by
  have hlt := World.ownsRow.lt h
  obtain ⟨h1, h2⟩ := h
  refine ⟨h1, ?_⟩
  rcases h2 with h2 | ⟨g, cap, cur, rfl, hg, hh, r⟩
  · exact .inl h2
  · exact .inr ⟨g, cap, cur, rfl, hg, (hk.block g (hlt g rfl).2 (hs g rfl)).trans hh, r⟩
theorem IR.some {w : World} {base : Nat} {v : Value} {l : List Int} (h : IR w base v l) (hn : 0 < l.length) : ∃ g cap, v = .slice (some ⟨g, 0, none⟩) l.length cap ∧ base ≤ g ∧ g < w.heap.size := by
  obtain ⟨_, ⟨rfl, h0⟩ | ⟨g, cap, cur, rfl, hb, hg, hc, _⟩⟩ := h
  · omega
  · exact ⟨g, cap, rfl, hb, (Array.getElem?_eq_some_iff.mp hg).1⟩
theorem IR.shape {w : World} {base : Nat} {v : Value} {l : List Int} (h : IR w base v l) : ∃ a cap, v = .slice a l.length cap := by
  obtain ⟨_, ⟨rfl, h0⟩ | ⟨g, cap, cur, rfl, _⟩⟩ := h
  · exact ⟨none, 0, by rw [h0]⟩
  · exact ⟨_, cap, rfl⟩
theorem IR.cell {w : World} {base g n cap : Nat} {l : List Int} (h : IR w base (.slice (Option.some ⟨g, 0, none⟩) n cap) l) {i : Nat} {c : Int} (hc : l[i]? = Option.some c) : w.cell? ⟨g, i, none⟩ = Option.some (.int .i64 c) := by
  have hi : i < l.length := (List.getElem?_eq_some_iff.mp hc).1
  have hn : n = l.length := by
    obtain ⟨_, ⟨e, _⟩ | ⟨g', cap', cur, e, _⟩⟩ := h
    · cases e
    · cases e; rfl
  subst hn
  rw [World.ownsRow.cellAt h i (by omega), List.getElem?_map, hc]; rfl
/-- The law's table in memory: what it holds of its own lies between 'pr' and 'top'. -/
structure Rn (w : World) (pr top : Nat) (R : Tl) : Prop where
  ex : ∃ vk vl, w.heap[pr]? = some (.cells #[vk, vl] 60 (0, 0)) ∧ KR w (pr + 1) vk (R.map Prod.fst) ∧ IR w (pr + 1) vl (R.map Prod.snd) ∧
    (∀ g, vk.ownBlock = some g → vl.ownBlock ≠ some g) ∧ (∀ g, vk.ownBlock = some g → g < top) ∧ (∀ g, vl.ownBlock = some g → g < top)
theorem Rn.lt {w : World} {pr top : Nat} {R : Tl} (h : Rn w pr top R) : pr < w.heap.size := by
  obtain ⟨_, _, h1, _⟩ := h.ex
  exact (Array.getElem?_eq_some_iff.1 h1).1
theorem Rn.keep {S : Nat → Prop} {w w' : World} {pr top : Nat} {R : Tl} (h : Rn w pr top R) (hk : Kq S w w') (hs : ∀ g, S g → g < pr ∨ w.heap.size ≤ g) : Rn w' pr top R := by
  have hl := h.lt
  obtain ⟨vk, vl, h1, h2, h3, h4⟩ := h.ex
  have hn : ∀ g, pr ≤ g → g < w.heap.size → ¬ S g := fun g h5 h6 h7 => by rcases hs g h7 with h8 | h8 <;> omega
  exact ⟨vk, vl, (hk.block pr hl (hn pr (Nat.le_refl _) hl)).trans h1, h2.keep hk (fun g hg => by have := World.ownsRow.lt h2 g hg; exact hn g (by omega) this.2), IR.keep h3 hk (fun g hg => by have := World.ownsRow.lt h3 g hg; exact hn g (by omega) this.2), h4⟩
theorem Rn.top {w : World} {pr top : Nat} {R : Tl} (h : Rn w pr top R) : Rn w pr w.heap.size R := by
  obtain ⟨vk, vl, h1, h2, h3, h4, _⟩ := h.ex
  exact ⟨vk, vl, h1, h2, h3, h4, fun g hg => (World.ownsRow.lt h2 g hg).2, fun g hg => (World.ownsRow.lt h3 g hg).2⟩
theorem Rn.drew {w : World} {pr top : Nat} {R : Tl} (h : Rn w pr top R) : Rn w.drew pr top R := h.keep (S := fun _ => False) (Kq.refl _ _).drew (fun g h => h.elim)
theorem Rn.drewN {w : World} {pr top : Nat} {R : Tl} (h : Rn w pr top R) (n : Nat) : Rn (w.drewN n) pr top R := h.keep (S := fun _ => False) ((Kq.refl _ _).drewN n) (fun g h => h.elim)
theorem Rn.alloc {w : World} {pr top : Nat} {R : Tl} (h : Rn w pr top R) (o : Obj) : Rn (w.alloc o) pr top R := h.keep (S := fun _ => False) ((Kq.refl _ _).alloc o) (fun g h => h.elim)

/-- A key is started: the last start of a key counts. -/
def upR (R : Tl) (k : Kx) (n : Int) : Tl := if k ∈ R.map Prod.fst then R.map (fun x => if x.1 = k then (k, n) else x) else R ++ [(k, n)]
theorem upR_keys_in {R : Tl} {k : Kx} {n : Int} (h : k ∈ R.map Prod.fst) : (upR R k n).map Prod.fst = R.map Prod.fst := by
  rw [upR, if_pos h, List.map_map]
  refine List.map_congr_left fun x _ => ?_
  simp only [Function.comp]
  split
  · rename_i e; exact e.symm
  · rfl
theorem upR_keys_out {R : Tl} {k : Kx} {n : Int} (h : k ∉ R.map Prod.fst) : (upR R k n).map Prod.fst = R.map Prod.fst ++ [k] := by
  rw [upR, if_neg h]; simp
theorem upR_nd {R : Tl} (k : Kx) (n : Int) (h : (R.map Prod.fst).Nodup) : ((upR R k n).map Prod.fst).Nodup := by
  by_cases e : k ∈ R.map Prod.fst
  · rw [upR_keys_in e]; exact h
  · rw [upR_keys_out e, List.nodup_append]
    exact ⟨h, by simp, fun a ha b hb e2 => by simp at hb; subst hb; subst e2; exact e ha⟩
theorem upR_mem {R : Tl} {k x : Kx} {n c : Int} : (x, c) ∈ upR R k n ↔ (x = k ∧ c = n) ∨ ((x, c) ∈ R ∧ x ≠ k) := by
  unfold upR
  by_cases e : k ∈ R.map Prod.fst
  · rw [if_pos e, List.mem_map]
    constructor
    · rintro ⟨⟨y, d⟩, h1, h2⟩
      by_cases e2 : y = k
      · simp only [e2, if_true, Prod.mk.injEq] at h2
        exact .inl ⟨h2.1.symm, h2.2.symm⟩
      · simp only [e2, if_false, Prod.mk.injEq] at h2
        obtain ⟨rfl, rfl⟩ := h2
        exact .inr ⟨h1, e2⟩
    · rintro (⟨rfl, rfl⟩ | ⟨h1, h2⟩)
      · obtain ⟨⟨y, d⟩, h3, h4⟩ := List.mem_map.mp e
        have h4' : y = x := h4
        exact ⟨(y, d), h3, by simp [h4']⟩
      · exact ⟨(x, c), h1, by simp [h2]⟩
  · rw [if_neg e, List.mem_append]
    constructor
    · rintro (h1 | h1)
      · exact .inr ⟨h1, fun e2 => e (List.mem_map.mpr ⟨_, h1, e2⟩)⟩
      · simp at h1; exact .inl h1
    · rintro (⟨rfl, rfl⟩ | ⟨h1, _⟩)
      · exact .inr (by simp)
      · exact .inl h1
theorem upR_perm {L R : Tl} {k : Kx} {n : Int} (h : L.Perm R) (hn : (L.map Prod.fst).Nodup) : (putT L k n).Perm (upR R k n) := by
  have hr : (R.map Prod.fst).Nodup := (h.map _).nodup_iff.mp hn
  have h1 : ((putT L k n).map Prod.fst).Nodup := by
    simp only [putT, List.map_cons, List.nodup_cons]
    exact ⟨fun e => by obtain ⟨x, hx, e2⟩ := List.mem_map.mp e; exact (mem_delT.mp hx).2 e2, nd_delT hn⟩
  have ndf : ∀ {L : Tl}, (L.map Prod.fst).Nodup → L.Nodup := fun {L} h => by
    unfold List.Nodup at *
    rw [List.pairwise_map] at h
    exact h.imp fun h1 h2 => h1 (by rw [h2])
  rw [List.perm_ext_iff_of_nodup (ndf h1) (ndf (upR_nd k n hr))]
  rintro ⟨x, c⟩
  rw [mem_putT, upR_mem, h.mem_iff]

theorem upR_set {R : Tl} {k : Kx} {n : Int} {i : Nat} (hnd : (R.map Prod.fst).Nodup) (hi : (R.map Prod.fst)[i]? = some k) : (upR R k n).map Prod.snd = (R.map Prod.snd).set i n := by
  have hk : k ∈ R.map Prod.fst := List.mem_of_getElem? hi
  rw [upR, if_pos hk, List.map_map]
  apply List.ext_getElem?
  intro j
  rw [List.getElem?_map, List.getElem?_set, List.length_map, List.getElem?_map]
  by_cases e : i = j
  · subst e
    rw [List.getElem?_map] at hi
    cases h : R[i]? with
    | none => rw [h] at hi; cases hi
    | some x =>
      rw [h] at hi
      have hx : x.1 = k := by simpa using hi
      have hl := (List.getElem?_eq_some_iff.mp h).1
      simp [hx, hl]
  · rw [if_neg e]
    cases h : R[j]? with
    | none => rfl
    | some x =>
      have hx : x.1 ≠ k := fun e2 => e ((List.getElem?_inj (List.getElem?_eq_some_iff.mp hi).1 hnd).mp (by rw [hi, List.getElem?_map, h]; simp [e2]))
      simp [hx]
theorem grown_setC (w : World) (a : Addr) (u : Value) : w.grownBy (w.setCell a u) (some a.block) := ⟨rfl, rfl, rfl, by simp, fun k _ hk => heap_setCell_other w a k u (fun e => hk (by rw [e]))⟩
theorem Kq.setC {S : Nat → Prop} {w0 w : World} (h : Kq S w0 w) (a : Addr) (u : Value) (hs : S a.block ∨ w0.heap.size ≤ a.block) : Kq S w0 (w.setCell a u) := h.grown (grown_setC w a u) (fun k hk => by cases hk; exact hs)
/-- A row's block is a given one, or new. -/
theorem KR.app {w w' : World} {base : Nat} {v' : Value} {l : List Kx} {k : Kx} (h : w'.ownsRow base 51 5 v' (l.length + 1) (l.flatMap kV ++ [.int .i64 k.1, .int .i64 k.2.1, .int .i64 k.2.2.1, .int .i64 k.2.2.2.1, .int .i64 k.2.2.2.2])) : KR w' base v' (l ++ [k]) := by
  unfold KR
  rw [List.length_append]
  have e7 : (l ++ [k]).flatMap kV = l.flatMap kV ++ [.int .i64 k.1, .int .i64 k.2.1, .int .i64 k.2.2.1, .int .i64 k.2.2.2.1, .int .i64 k.2.2.2.2] := by simp [kV]
  rw [e7]; exact h
theorem IR.app {w' : World} {base : Nat} {v' : Value} {l : List Int} {n : Int} (h : w'.ownsRow base 3 1 v' (l.length + 1) (l.map (Value.int .i64) ++ [.int .i64 n])) : IR w' base v' (l ++ [n]) := by
  unfold IR
  rw [List.length_append, List.map_append]; exact h
theorem Try.pinfo_int : (Try.prog.info? 3).map (fun i => (i.zero, i.size, i.bytes)) = some (some (.int .i64 0), 1, 8) := by kernel_rfl
theorem one_new (w : World) (a : Value) (t : TypeId) : ∀ j u, [a][j]? = some u → (w.alloc (.cells #[a] t)).cell? ((⟨w.heap.size, 0, none⟩ : Addr).add j) = some u := by
  intro j u hj
  match j, hj with
  | 0, hj => simp at hj; subst hj; simp [Addr.add]

set_option maxHeartbeats 8000000 in
set_option maxRecDepth 100000 in
theorem rstart_any (pr top : Nat) (R : Tl) (k : Kx) (n : Int) (w : World) (h : Rn w pr top R) (hl : R.length < 2199023255552) (hw : ∀ x ∈ R.map Prod.fst, kW x) (hk : kW k) (hnd : (R.map Prod.fst).Nodup) :
    Calls Try.prog 27 #[.pointer (some ⟨pr, 0, none⟩), kA k, .int .i64 n] w fun e w' => e = .returned (.tuple #[]) ∧ Rn w' pr w'.heap.size (upR R k n) ∧ Kq (fun g => pr ≤ g) w w' := by
  obtain ⟨vk, vl, h1, h2, h3, h4, _⟩ := h.ex
  obtain ⟨ak, ck, rfl⟩ := h2.shape
  obtain ⟨al, cl, rfl⟩ := IR.shape h3
  obtain ⟨m, hm⟩ : ∃ m, R.length = m := ⟨_, rfl⟩
  have lk : (R.map Prod.fst).length = m := by rw [List.length_map]; exact hm
  have lv : (R.map Prod.snd).length = m := by rw [List.length_map]; exact hm
  have hlt := h.lt
  obtain ⟨k0, k1, k2, k3, k4⟩ := k
  obtain ⟨W, hW⟩ : ∃ W, w.alloc (kO (k0, k1, k2, k3, k4)) = W := ⟨_, rfl⟩
  have hWs : w.heap.size < W.heap.size := by rw [← hW]; simp
  have HB : Hid (Kq (fun g => pr ≤ g) w W) := by rw [← hW]; exact (Kq.refl _ _).alloc _
  have HP : Hid (W.heap[pr]? = some (.cells #[.slice ak m ck, .slice al m cl] 60 (0, 0))) := by
    have hb : W.heap[pr]? = w.heap[pr]? := by rw [← hW]; exact (World.grownBy_alloc w _ none).block pr hlt (by simp)
    show _ = _
    rw [hb, h1, lk, lv]
  have HC : Hid (W.cell? ⟨w.heap.size, 0, none⟩ = some (.int .i64 k0) ∧ W.cell? ⟨w.heap.size, 1, none⟩ = some (.int .i64 k1) ∧ W.cell? ⟨w.heap.size, 2, none⟩ = some (.int .i64 k2) ∧ W.cell? ⟨w.heap.size, 3, none⟩ = some (.int .i64 k3) ∧ W.cell? ⟨w.heap.size, 4, none⟩ = some (.int .i64 k4) ∧ W.cell? ⟨pr, 0, none⟩ = some (.slice ak m ck) ∧ W.cell? ⟨pr, 1, none⟩ = some (.slice al m cl)) := 
    ⟨by rw [← hW]; simp, by rw [← hW]; simp, by rw [← hW]; simp, by rw [← hW]; simp, by rw [← hW]; simp, by simp [World.cell?, HP.out], by simp [World.cell?, HP.out]⟩
  have HK : Hid (KR W (pr + 1) (.slice ak m ck) (R.map Prod.fst)) := by
    have := h2.keep (S := fun _ => False) ((Kq.refl _ _).alloc (kO (k0, k1, k2, k3, k4))) (fun _ _ h => h)
    rw [hW, lk] at this; exact this
  have HI : Hid (IR W (pr + 1) (.slice al m cl) (R.map Prod.snd)) := by
    have := IR.keep (S := fun _ => False) h3 ((Kq.refl _ _).alloc (kO (k0, k1, k2, k3, k4))) (fun _ _ h => h)
    rw [hW, lv] at this; exact this
  have HN4 : Hid (∀ g, (Value.slice ak m ck).ownBlock = some g → (Value.slice al m cl).ownBlock ≠ some g) := by
    have := h4; rw [lk, lv] at this; exact this
  have HLk : Hid ((R.map Prod.fst).length = m ∧ (R.map Prod.snd).length = m ∧ R.length = m) := ⟨lk, lv, hm⟩
  have hml : m < 2199023255552 := by omega
  clear h h1 h2 h3 h4 lk lv hm hl
  go_enter Try.func27, Try.ntmps27
  go_wp2
  clear hW
  go_loopw [6] (fun v wr => ∃ i : Nat, v = .int .i64 i ∧ i ≤ m ∧ (∃ q, wr = W.drewN q) ∧ ∀ j, j < i → (R.map Prod.fst)[j]? ≠ some (k0, k1, k2, k3, k4))
    (fun v _ => m - (intOf v).toNat)
  case atStart => exact ⟨0, rfl, by omega, ⟨0, rfl⟩, fun j hj => by omega⟩
  case round =>
    obtain ⟨i, rfl, hi, ⟨q, rfl⟩, hno⟩ := hrel
    obtain ⟨c0, c1, c2, c3, c4, c5, c6⟩ := HC.out
    have HNo : Hid (∀ j, j < i → (R.map Prod.fst)[j]? ≠ some (k0, k1, k2, k3, k4)) := hno
    clear hno
    by_cases him : i = m
    · subst him
      obtain ⟨V, hV⟩ : ∃ V, W.drewN q = V := ⟨_, rfl⟩
      have VB : Hid (Kq (fun g => pr ≤ g) w V) := by rw [← hV]; exact HB.out.drewN q
      have VP : Hid (V.heap[pr]? = some (.cells #[.slice ak i ck, .slice al i cl] 60 (0, 0))) := by rw [← hV]; exact HP.out
      have VK : Hid (KR V (pr + 1) (.slice ak i ck) (R.map Prod.fst)) := by rw [← hV]; exact HK.out.keep (S := fun _ => False) ((Kq.refl _ _).drewN q) (fun _ _ h => h)
      have VI : Hid (IR V (pr + 1) (.slice al i cl) (R.map Prod.snd)) := by rw [← hV]; exact IR.keep (S := fun _ => False) HI.out ((Kq.refl _ _).drewN q) (fun _ _ h => h)
      have hVs : pr + 1 ≤ V.heap.size := by have := VB.out.size; omega
      have d0 : V.cell? ⟨w.heap.size, 0, none⟩ = some (.int .i64 k0) := by rw [← hV]; exact c0
      have d1 : V.cell? ⟨w.heap.size, 1, none⟩ = some (.int .i64 k1) := by rw [← hV]; exact c1
      have d2 : V.cell? ⟨w.heap.size, 2, none⟩ = some (.int .i64 k2) := by rw [← hV]; exact c2
      have d3 : V.cell? ⟨w.heap.size, 3, none⟩ = some (.int .i64 k3) := by rw [← hV]; exact c3
      have d4 : V.cell? ⟨w.heap.size, 4, none⟩ = some (.int .i64 k4) := by rw [← hV]; exact c4
      have d5 : V.cell? ⟨pr, 0, none⟩ = some (.slice ak i ck) := by rw [← hV]; exact c5
      have d6 : V.cell? ⟨pr, 1, none⟩ = some (.slice al i cl) := by rw [← hV]; exact c6
      have HNm : Hid ((k0, k1, k2, k3, k4) ∉ R.map Prod.fst) := fun e => by
        obtain ⟨j, hj⟩ := List.getElem?_of_mem e
        exact HNo.out j (by have := (List.getElem?_eq_some_iff.mp hj).1; rw [HLk.out.1] at this; exact this) hj
      have hfz : V.frozen? ⟨pr, 0, none⟩ = false := frozen_of_row V pr 0 _ _ VP.out
      have hprV : pr < V.heap.size := by omega
      obtain ⟨i0, hi0, hz0, hz1, hz2⟩ := info_parts Try.pinfo_key
      obtain ⟨i1, hi1, hy0, hy1, hy2⟩ := info_parts Try.pinfo_int
      clear c0 c1 c2 c3 c4 c5 c6 HC HP HNo HB HK HI
      rw [hV]
      clear hV
      go_wp2_with fail
      go_region_law (first
        | (refine step_append_at rfl (.tmp 36) (.tmp 38) 58 rfl (pr + 1) 51 i0 (.agg #[.int .i64 0, .int .i64 0, .int .i64 0, .int .i64 0, .int .i64 0]) 5 40 Try.underlying58 hi0 hz0 hz1 hz2 rfl (by decide) (.slice ak i ck) (R.map Prod.fst).length ((R.map Prod.fst).flatMap kV) (by simp [Act.eval]) (World.ownsRow.alloc (World.ownsRow.drew VK.out) _) ⟨V.heap.size, 0, none⟩ 1 1 [.int .i64 k0, .int .i64 k1, .int .i64 k2, .int .i64 k3, .int .i64 k4] (by simp [Act.eval]) rfl (five_new _ _ _ _ _ _ _) (by simp [Value.oneCell']) (by unfold maxLen; have := HLk.out.1; omega) (by have := HLk.out.1; omega) (by simp; omega) ?_
           intro v6 w6 hown6 hgrow6 hat6
           have G6 : V.grownBy w6 (Value.slice ak i ck).ownBlock := ((⟨rfl, rfl, rfl, Nat.le_refl _, fun _ _ _ => rfl⟩ : V.grownBy V.drew (Value.slice ak i ck).ownBlock).trans (World.grownBy_alloc V.drew _ _)).trans hgrow6
           have hbp : w6.heap[pr]? = V.heap[pr]? := G6.block pr hprV (fun e => by have := (World.ownsRow.lt VK.out pr e.symm).1; omega)
           have c6 : w6.cell? ⟨pr, 0, none⟩ = some (.slice ak i ck) := (World.cell?_of_block (a := ⟨pr, 0, none⟩) hbp).trans d5
           have f6 : w6.frozen? ⟨pr, 0, none⟩ = false := (World.frozen?_of_block (a := ⟨pr, 0, none⟩) hbp).trans hfz
           have HP6 : Hid (w6.heap[pr]? = some (.cells #[.slice ak i ck, .slice al i cl] 60 (0, 0))) := hbp.trans VP.out
           have HO6 : Hid (KR w6 (pr + 1) v6 (R.map Prod.fst ++ [(k0, k1, k2, k3, k4)])) := KR.app (w := w6) hown6
           have HG6 : Hid (V.grownBy w6 (Value.slice ak i ck).ownBlock ∧ (v6.ownBlock = (Value.slice ak i ck).ownBlock ∨ ∃ g, v6.ownBlock = some g ∧ V.heap.size ≤ g)) := ⟨G6, hat6.imp id (fun e => ⟨_, e, by simp⟩)⟩
           clear hown6 hgrow6 hat6 hbp G6
           obtain ⟨g6, cap6, hv6, _, _, _⟩ := HO6.out.some (by simp)
           obtain ⟨m6, hm6⟩ : ∃ m, (R.map Prod.fst ++ [(k0, k1, k2, k3, k4)]).length = m := ⟨_, rfl⟩
           rw [hm6] at hv6
           subst hv6
           clear hm6))
      all_goals (
        obtain ⟨X, hX⟩ : ∃ X, w6.setCell ⟨pr, 0, none⟩ (Value.slice (some ⟨g6, 0, none⟩) m6 cap6) = X := ⟨_, rfl⟩
        have HX : Hid (w6.setCell ⟨pr, 0, none⟩ (Value.slice (some ⟨g6, 0, none⟩) m6 cap6) = X) := hX
        rw [hX]
        have XP : Hid (X.heap[pr]? = some (.cells #[(Value.slice (some ⟨g6, 0, none⟩) m6 cap6), .slice al i cl] 60 (0, 0))) := by rw [← hX]; exact heap_setCell_same w6 pr 0 _ _ (Value.slice (some ⟨g6, 0, none⟩) m6 cap6) HP6.out
        have hne6 : ∀ g, (Value.slice (some ⟨g6, 0, none⟩) m6 cap6).ownBlock = some g → (Value.slice al i cl).ownBlock ≠ some g := fun g hg e => by
          rcases HG6.out.2 with h | ⟨g', h, h'⟩
          · exact HN4.out g (h ▸ hg) e
          · have e2 : g' = g := Option.some.inj (h.symm.trans hg)
            have := (World.ownsRow.lt VI.out g e).2
            omega
        have XK : Hid (KR X (pr + 1) (Value.slice (some ⟨g6, 0, none⟩) m6 cap6) (R.map Prod.fst ++ [(k0, k1, k2, k3, k4)])) := by
          rw [← hX]
          exact HO6.out.keep (S := (· = pr)) ((Kq.refl _ _).setC ⟨pr, 0, none⟩ (Value.slice (some ⟨g6, 0, none⟩) m6 cap6) (.inl rfl)) (fun g hg e => by have e' : g = pr := e; have := (World.ownsRow.lt HO6.out g hg).1; omega)
        have XI : Hid (IR X (pr + 1) (.slice al i cl) (R.map Prod.snd)) := by
          rw [← hX]
          refine IR.keep (S := fun g => g = pr ∨ (Value.slice ak i ck).ownBlock = some g) VI.out (((Kq.refl _ _).grown HG6.out.1 (fun g hg => .inl (.inr hg))).setC ⟨pr, 0, none⟩ (Value.slice (some ⟨g6, 0, none⟩) m6 cap6) (.inl (.inl rfl))) (fun g hg e => ?_)
          rcases e with e | e
          · have := (World.ownsRow.lt VI.out g hg).1; omega
          · exact HN4.out g e hg
        have XQ : Hid (Kq (fun g => pr ≤ g) w X) := by
          rw [← hX]
          exact (VB.out.grown HG6.out.1 (fun g hg => .inl (by have := (World.ownsRow.lt VK.out g hg).1; show pr ≤ g; omega))).setC ⟨pr, 0, none⟩ (Value.slice (some ⟨g6, 0, none⟩) m6 cap6) (.inl (Nat.le_refl _))
        have x1 : X.cell? ⟨pr, 1, none⟩ = some (.slice al i cl) := by simp [World.cell?, XP.out]
        have fz1 : X.frozen? ⟨pr, 1, none⟩ = false := frozen_of_row X pr 1 _ _ XP.out
        have hXs : pr + 1 ≤ X.heap.size := by have := XQ.out.size; omega
        clear d0 d1 d2 d3 d4 d5 d6 hfz c6 f6 hX
        go_wp2_with (first
          | (at_builtin; refine wpList_append_own_at _ rfl _ _ 31 rfl (pr + 1) 3 i1 (.int .i64 0) 1 8 Try.underlying31 hi1 hy0 hy1 hy2 rfl (by decide) (.slice al i cl) (R.map Prod.snd).length ((R.map Prod.snd).map (Value.int .i64)) rfl (World.ownsRow.alloc XI.out _) ⟨X.heap.size, 0, none⟩ 1 1 [.int .i64 n] rfl rfl (one_new _ _ _) (by simp [Value.oneCell']) (by unfold maxLen; have := HLk.out.2.1; omega) (by have := HLk.out.2.1; omega) (by simp; omega) ?_
             intro v8 w8 hown8 hgrow8 hnil8 hloc8; clear hnil8
             have G8 : X.grownBy w8 (Value.slice al i cl).ownBlock := (World.grownBy_alloc X _ _).trans hgrow8
             have hb8 : w8.heap[pr]? = X.heap[pr]? := G8.block pr (by omega) (fun e => by have := (World.ownsRow.lt XI.out pr e.symm).1; omega)
             have y1 : w8.cell? ⟨pr, 1, none⟩ = some (.slice al i cl) := (World.cell?_of_block (a := ⟨pr, 1, none⟩) hb8).trans x1
             have fy1 : w8.frozen? ⟨pr, 1, none⟩ = false := (World.frozen?_of_block (a := ⟨pr, 1, none⟩) hb8).trans fz1
             have HO8 : Hid (IR w8 (pr + 1) v8 (R.map Prod.snd ++ [n])) := IR.app hown8
             have HG8 : Hid (X.grownBy w8 (Value.slice al i cl).ownBlock ∧ (v8.ownBlock = (Value.slice al i cl).ownBlock ∨ ∃ g, v8.ownBlock = some g ∧ X.heap.size ≤ g) ∧ w8.heap[pr]? = X.heap[pr]?) := ⟨G8, hloc8.imp id (fun e => ⟨_, e, by simp⟩), hb8⟩
             clear hown8 hgrow8 hloc8 G8 hb8
             obtain ⟨g8, cap8, hv8, _, _⟩ := IR.some HO8.out (by simp)
             obtain ⟨m8, hm8⟩ : ∃ m, (R.map Prod.snd ++ [n]).length = m := ⟨_, rfl⟩
             rw [hm8] at hv8
             subst hv8
             clear hm8)
          | go_in)
        go_end0
        obtain ⟨Y, hY⟩ : ∃ Y, w8.setCell ⟨pr, 1, none⟩ (Value.slice (some ⟨g8, 0, none⟩) m8 cap8) = Y := ⟨_, rfl⟩
        rw [hY]
        have YP : Y.heap[pr]? = some (.cells #[(Value.slice (some ⟨g6, 0, none⟩) m6 cap6), (Value.slice (some ⟨g8, 0, none⟩) m8 cap8)] 60 (0, 0)) := by rw [← hY]; exact heap_setCell_same w8 pr 1 _ _ (Value.slice (some ⟨g8, 0, none⟩) m8 cap8) (HG8.out.2.2.trans XP.out)
        have YK : KR Y (pr + 1) (Value.slice (some ⟨g6, 0, none⟩) m6 cap6) (R.map Prod.fst ++ [(k0, k1, k2, k3, k4)]) := by
          rw [← hY]
          refine XK.out.keep (S := fun g => g = pr ∨ (Value.slice al i cl).ownBlock = some g) (((Kq.refl _ _).grown HG8.out.1 (fun g hg => .inl (.inr hg))).setC ⟨pr, 1, none⟩ (Value.slice (some ⟨g8, 0, none⟩) m8 cap8) (.inl (.inl rfl))) (fun g hg e => ?_)
          rcases e with e | e
          · have := (World.ownsRow.lt XK.out g hg).1; omega
          · exact hne6 g hg e
        have YI : IR Y (pr + 1) (Value.slice (some ⟨g8, 0, none⟩) m8 cap8) (R.map Prod.snd ++ [n]) := by
          rw [← hY]
          exact IR.keep (S := (· = pr)) HO8.out ((Kq.refl _ _).setC ⟨pr, 1, none⟩ (Value.slice (some ⟨g8, 0, none⟩) m8 cap8) (.inl rfl)) (fun g hg e => by have e' : g = pr := e; have := (World.ownsRow.lt HO8.out g hg).1; omega)
        have YQ : Kq (fun g => pr ≤ g) w Y := by
          rw [← hY]
          exact (XQ.out.grown HG8.out.1 (fun g hg => .inl (by have := (World.ownsRow.lt XI.out g hg).1; show pr ≤ g; omega))).setC ⟨pr, 1, none⟩ (Value.slice (some ⟨g8, 0, none⟩) m8 cap8) (.inl (Nat.le_refl _))
        refine ⟨rfl, ⟨(Value.slice (some ⟨g6, 0, none⟩) m6 cap6), (Value.slice (some ⟨g8, 0, none⟩) m8 cap8), YP, ?_, ?_, fun g hg e => ?_, fun g hg => (World.ownsRow.lt YK g hg).2, fun g hg => (World.ownsRow.lt YI g hg).2⟩, YQ⟩
        · rw [upR_keys_out HNm.out]; exact YK
        · rw [upR, if_neg HNm.out, List.map_append]; exact YI
        · rcases HG8.out.2.1 with h | ⟨g', h, h'⟩
          · exact hne6 g hg (h ▸ e)
          · have e2 : g' = g := Option.some.inj (h.symm.trans e)
            have := (World.ownsRow.lt XK.out g hg).2
            omega)
    · have hlz : (i : Int) < (m : Int) := by omega
      obtain ⟨x, hx⟩ : ∃ x, (R.map Prod.fst)[i]? = some x := ⟨_, List.getElem?_eq_getElem (by rw [HLk.out.1]; omega)⟩
      obtain ⟨gk, capk, ek, _, _, _⟩ := HK.out.some (by rw [HLk.out.1]; omega)
      obtain ⟨rfl, hmm, rfl⟩ : ak = some ⟨gk, 0, none⟩ ∧ m = (R.map Prod.fst).length ∧ ck = capk := by simpa using ek
      obtain ⟨gl, capl, el, _, hgl⟩ := IR.some HI.out (by rw [HLk.out.2.1]; omega)
      obtain ⟨rfl, hml2, rfl⟩ : al = some ⟨gl, 0, none⟩ ∧ m = (R.map Prod.snd).length ∧ cl = capl := by simpa using el
      obtain ⟨x0, x1, x2, x3, x4⟩ := x
      obtain ⟨q0, q1, q2, q3, q4⟩ := HK.out.cells hx
      simp only at q0 q1 q2 q3 q4
      have HX : Hid ((R.map Prod.fst)[i]? = some (x0, x1, x2, x3, x4)) := hx
      have hkx : kW (x0, x1, x2, x3, x4) := hw _ (List.mem_of_getElem? hx)
      have heq := fun w => eql_key hkx hk w
      have hg := eqGuard51
      obtain ⟨bq, hbq⟩ : ∃ b, decide (((x0, x1, x2, x3, x4) : Kx) = (k0, k1, k2, k3, k4)) = b := ⟨_, rfl⟩
      rw [hbq] at heq
      have HBq : Hid (decide (((x0, x1, x2, x3, x4) : Kx) = (k0, k1, k2, k3, k4)) = bq) := hbq
      obtain ⟨y, hy⟩ : ∃ y, (R.map Prod.snd)[i]? = some y := ⟨_, List.getElem?_eq_getElem (by rw [HLk.out.2.1]; omega)⟩
      have r0 : W.cell? ⟨gl, i, none⟩ = some (.int .i64 y) := IR.cell HI.out hy
      have fz0 : W.frozen? ⟨gl, i, none⟩ = false := by
        have := HI.out
        unfold IR at this
        rw [HLk.out.2.1] at this
        exact World.ownsRow.frozenAt this i
      have hwi : IntKind.i64.wrap ((i : Int) + 1) = (i : Int) + 1 := by rw [IntKind.wrap_i64]; omega
      clear hx ek el hmm hml2 hbq hy hkx
      go_wp2_with fail
      go_quiet (fail)
      cases bq with
      | false =>
        go_wp2
        have hne := of_decide_eq_false HBq.out
        refine ⟨⟨i + 1, by simp, by omega, ⟨q + nq, rfl⟩, fun j hj e => ?_⟩, by simp [intOf]; omega⟩
        by_cases ej : j = i
        · subst ej; rw [HX.out] at e; exact hne (Option.some.inj e)
        · exact HNo.out j (by omega) e
      | true =>
        have hke := of_decide_eq_true HBq.out
        have HKe : Hid ((R.map Prod.fst)[i]? = some (k0, k1, k2, k3, k4)) := by show _ = _; rw [HX.out, hke]
        clear hke
        go_wp2
        refine bodyPost_ret (results_none rfl _ _ _) rfl ?_
        obtain ⟨Y, hY⟩ : ∃ Y, (W.drewN (q + nq)).setCell ⟨gl, i, none⟩ (.int .i64 n) = Y := ⟨_, rfl⟩
        have K1 : Kq (· = gl) W Y := by rw [← hY]; exact ((Kq.refl _ _).drewN (q + nq)).setC ⟨gl, i, none⟩ _ (.inl rfl)
        have hIs : IR Y (pr + 1) (.slice (some ⟨gl, 0, none⟩) m cl) ((R.map Prod.snd).set i n) := by
          have h9 : World.ownsRow (W.drewN (q + nq)) (pr + 1) 3 1 (.slice (some ⟨gl, 0, none⟩) m cl) m ((R.map Prod.snd).map (Value.int .i64)) := by
            have := HI.out
            unfold IR at this
            rw [HLk.out.2.1] at this
            exact this
          unfold IR
          rw [List.length_set, HLk.out.2.1, List.map_set, ← hY]
          exact (h9.stored i (.int .i64 n)).1
        have hgp : pr + 1 ≤ gl := (World.ownsRow.lt HI.out gl rfl).1
        have hkk : KR Y (pr + 1) (.slice (some ⟨gk, 0, none⟩) m ck) (R.map Prod.fst) := HK.out.keep K1 (fun g hg e => HN4.out g hg (by rw [show g = gl from e]; rfl))
        rw [hY]
        refine ⟨rfl, ⟨_, _, (K1.block pr (by have := HB.out.size; omega) (fun e => by have e' : pr = gl := e; omega)).trans HP.out, ?_, ?_, HN4.out, fun g hg => (World.ownsRow.lt hkk g hg).2, fun g hg => (World.ownsRow.lt hIs g hg).2⟩, HB.out.then K1 (fun g _ e => by have e' : g = gl := e; show pr ≤ g; omega)⟩
        · rw [upR_keys_in (List.mem_of_getElem? HKe.out)]; exact hkk
        · rw [upR_set hnd HKe.out]; exact hIs

end Go.Proofs.Ytnclfoljfnfglai
