import Derived.Test.YtcefemblcifogaiTmRm
import Derived.Test.YtcefemblcifogaiTmAwk
namespace Go.Proofs.Ytcefemblcifogai
open Go.RowKit Go.Maps
set_option linter.unusedVariables false

theorem below_low {n n' : Nat} {w w' : World} (h : Below n w w') (hn : n' ≤ n) : Below n' w w' := ⟨h.os, h.tape, h.output, h.size, fun k hk => h.block k (by omega)⟩
theorem Tb.drewN {w : World} {p bl bh : Nat} {L : Tl} {Hs : List Int} (h : Tb w p bl bh L Hs) (n : Nat) : Tb (w.drewN n) p bl bh L Hs := h.keep (S := fun _ => False) ((Kq.refl _ _).drewN n) (fun h => h) (fun h => h) (fun h => h)

set_option maxHeartbeats 32000000 in
set_option maxRecDepth 100000 in
theorem run10_walk (a0 a1 : Option Addr) (l : Tl) (hs : List Int) (c0 c1 : Nat) (w : World) (hS : Sta w a0 l) (hI : Itt w a1 hs) (hok : ∀ x ∈ l, kW x.1 ∧ kI x.2 = true) (hoi : ∀ x ∈ hs, kI x = true) (hln : l.length ≤ 9223372036854775807) (hhn : hs.length ≤ 4611686018427387000) :
    Calls Try.prog 8 #[.slice a0 l.length c0, .slice a1 hs.length c1] w fun e w' => e = .returned (.bool true) ∧ Below w.heap.size w w' := by
  have HS : Hid (Sta w a0 l) := hS
  have HI : Hid (Itt w a1 hs) := hI
  have HOk : Hid (∀ x ∈ l, kW x.1 ∧ kI x.2 = true) := hok
  have HOi : Hid (∀ x ∈ hs, kI x = true) := hoi
  obtain ⟨n, hn⟩ : ∃ n, l.length = n := ⟨_, rfl⟩
  have HN : Hid (l.length = n) := hn
  obtain ⟨m, hm⟩ : ∃ n, hs.length = n := ⟨_, rfl⟩
  have HM : Hid (hs.length = m) := hm
  rw [hn] at hln
  rw [hm] at hhn
  rw [hn, hm]
  have hA := awake10_any w
  clear hS hI hok hoi hn hm
  go_enter Try.func8, Try.ntmps8
  go_wp2_with fail
  refine hA.mono ?_
  rintro e w1 ⟨rfl, hb1⟩
  have HB1 : Hid (Below w.heap.size w w1) := hb1
  clear hb1 hA
  have hN := new10_any w1
  go_wp2_with fail
  refine hN.mono ?_
  rintro e w2 ⟨rfl, hT2, hb2, hz2⟩
  obtain ⟨bl, hbl⟩ : ∃ x, w1.heap.size = x := ⟨_, rfl⟩
  obtain ⟨bh, hbh⟩ : ∃ x, w1.heap.size + 1 = x := ⟨_, rfl⟩
  obtain ⟨p, hp⟩ : ∃ x, w1.heap.size + 2 = x := ⟨_, rfl⟩
  obtain ⟨pr, hpr⟩ : ∃ x, w2.heap.size = x := ⟨_, rfl⟩
  rw [hp, hbh, hbl] at hT2
  rw [hp]
  have hzl : w.heap.size ≤ bl ∧ bl < pr ∧ bh < pr ∧ p < pr ∧ w.heap.size ≤ bh := by have := HB1.out.size; omega
  obtain ⟨W, hW⟩ : ∃ W, w2.alloc (.cells #[.slice none 0 0, .slice none 0 0] 60) = W := ⟨_, rfl⟩
  have HBW : Hid (Below w.heap.size w W) := by
    show Below _ _ _
    rw [← hW]
    have h2 : Below w.heap.size w w2 := HB1.out.trans (below_low hb2 HB1.out.size)
    exact h2.alloc h2.size _
  have HTW : Hid (Tb W p bl bh [] []) := by show Tb _ _ _ _ _ _; rw [← hW]; exact hT2.alloc _
  have HRW : Hid (Rn W pr W.heap.size []) := by
    show Rn _ _ _ _
    rw [← hW]
    refine ⟨.slice none 0 0, .slice none 0 0, ?_, World.ownsRow_nil _ _ _ _, World.ownsRow_nil _ _ _ _, fun g hg => by simp [Value.ownBlock] at hg, fun g hg => by simp [Value.ownBlock] at hg, fun g hg => by simp [Value.ownBlock] at hg⟩
    rw [← hpr]; exact (MapKept.heap_alloc _ _).1
  clear hT2 hb2 hz2 hN HB1 hp hbl hbh
  go_wp2
  clear hW hpr
  go_loopw [8] (fun v8 wr => ∃ (i : Nat) (L R : Tl), v8 = .int .i64 i ∧ i ≤ n ∧ Tb wr p bl bh L [] ∧ Rn wr pr wr.heap.size R ∧ L.Perm R ∧ RO R 0 ∧ Below w.heap.size w wr)
    (fun v _ => n - (intOf v).toNat)
  case atStart => exact ⟨0, [], [], rfl, by omega, HTW.out, HRW.out, List.Perm.refl _, RO.nil 0, HBW.out⟩
  case round =>
    clear HTW HRW HBW
    obtain ⟨i, L, R, rfl, hi, hT, hR, hP, hO, hB⟩ := hrel
    have HT : Hid (Tb wr p bl bh L []) := hT
    have HR : Hid (Rn wr pr wr.heap.size R) := hR
    have HP : Hid (L.Perm R) := hP
    have HO : Hid (RO R 0) := hO
    have HB : Hid (Below w.heap.size w wr) := hB
    clear hT hR hP hO hB
    by_cases hin : i = n
    · subst hin
      have HL : Hid (LR L R) := LR.of_perm HP.out HT.out.pos
      go_wp2
      go_loopw [12] (fun v12 wr2 => ∃ (q : Nat) (L R : Tl) (Hs : List Int), v12 = .int .i64 q ∧ q ≤ m ∧ Tb wr2 p bl bh L Hs ∧ Rn wr2 pr wr2.heap.size R ∧ LR L R ∧ RO R q ∧ (∀ x ∈ Hs, 1 ≤ x ∧ x ≤ 3) ∧ Below w.heap.size w wr2)
        (fun v _ => m - (intOf v).toNat)
      case atStart => exact ⟨0, L, R, [], rfl, by omega, HT.out, HR.out, HL.out, by simpa using HO.out, by simp, HB.out⟩
      case round =>
        clear HT HR HP HO HB HL
        obtain ⟨q, L2, R2, Hs, rfl, hq, hT, hR, hLR, hO, hH, hB⟩ := hrel
        have HT : Hid (Tb wr p bl bh L2 Hs) := hT
        have HR : Hid (Rn wr pr wr.heap.size R2) := hR
        have HLR : Hid (LR L2 R2) := hLR
        have HO : Hid (RO R2 q) := hO
        have HH : Hid (∀ x ∈ Hs, 1 ≤ x ∧ x ≤ 3) := hH
        have HB : Hid (Below w.heap.size w wr) := hB
        clear hT hR hLR hO hH hB
        have hwq : IntKind.i64.wrap ((q : Int) + 1) = (q : Int) + 1 := by rw [IntKind.wrap_i64]; omega
        by_cases hqm : q = m
        · subst hqm
          obtain ⟨M, hM⟩ : ∃ M, R2.length = M := ⟨_, rfl⟩
          have HMl : Hid (R2.length = M) := hM
          have hMb : M ≤ 432 := by rw [← hM]; exact HO.out.len
          clear hM
          go_wp2
          go_loopw [17, 18] (fun v17 v18 wr4 => ∃ j : Nat, v17 = .int .i64 ((posR (R2.take j)).length : Nat) ∧ v18 = .int .i64 j ∧ j ≤ M ∧ Tb wr4 p bl bh L2 Hs ∧ Rn wr4 pr wr4.heap.size R2 ∧ Below w.heap.size w wr4)
            (fun _ v _ => M - (intOf v).toNat)
          case atStart => exact ⟨0, by simp [posR], rfl, by omega, HT.out, HR.out, HB.out⟩
          case round =>
            clear HT HR HB
            obtain ⟨j, rfl, rfl, hj, hT, hR, hB⟩ := hrel
            have HT : Hid (Tb wr p bl bh L2 Hs) := hT
            have HR : Hid (Rn wr pr wr.heap.size R2) := hR
            have HB : Hid (Below w.heap.size w wr) := hB
            clear hT hB
            obtain ⟨vk, vl, h1, h2, h3, h4, _⟩ := hR.ex
            obtain ⟨ak, ck, rfl⟩ := h2.shape
            obtain ⟨al, cl, rfl⟩ := IR.shape h3
            rw [List.length_map, HMl.out] at h1 h2
            rw [List.length_map, HMl.out] at h1 h3
            have e5 : wr.cell? ⟨pr, 0, none⟩ = some (.slice ak M ck) := by simp [World.cell?, h1]
            have hpw : pr < wr.heap.size := hR.lt
            have HP1 : Hid (wr.heap[pr]? = some (.cells #[.slice ak M ck, .slice al M cl] 60 (0, 0))) := h1
            have HK2 : Hid (KR wr (pr + 1) (.slice ak M ck) (R2.map Prod.fst)) := h2
            have HI3 : Hid (IR wr (pr + 1) (.slice al M cl) (R2.map Prod.snd)) := h3
            obtain ⟨cn, hcn⟩ : ∃ c, (posR (R2.take j)).length = c := ⟨_, rfl⟩
            have HCn : Hid ((posR (R2.take j)).length = cn) := hcn
            have hcl : cn ≤ j := by rw [← hcn]; exact posR_le R2 j
            rw [hcn]
            clear hR h1 h2 h3 h4 hcn
            by_cases hjm : j = M
            · subst hjm
              have hjz : ¬ (j : Int) < (j : Int) := by omega
              have hC := count10_any p bl bh L2 Hs wr HT.out
              have hLc : L2.length = cn := by
                rw [(HLR.out.perm HT.out.nd HO.out).length_eq, ← HCn.out, ← HMl.out, List.take_length]
              rw [hLc] at hC
              clear hLc
              go_wp2_with fail
              refine hC.mono ?_
              rintro e w4 ⟨rfl, hw4⟩
              rw [hw4]
              clear hw4 w4 hC
              go_wp2
              go_ret
              exact ⟨rfl, HB.out⟩
            · have hjz : (j : Int) < (M : Int) := by omega
              obtain ⟨⟨x, c⟩, hx⟩ : ∃ x, R2[j]? = some x := ⟨_, List.getElem?_eq_getElem (by rw [HMl.out]; omega)⟩
              have hxm := List.mem_of_getElem? hx
              have hok2 := HO.out.ok _ hxm
              have hxk : (R2.map Prod.fst)[j]? = some x := by rw [List.getElem?_map, hx]; rfl
              have hxs : (R2.map Prod.snd)[j]? = some c := by rw [List.getElem?_map, hx]; rfl
              obtain ⟨gk, capk, ek, hgk1, hgk2, _⟩ := HK2.out.some (by rw [List.length_map, HMl.out]; omega)
              obtain ⟨rfl, hmm, rfl⟩ : ak = some ⟨gk, 0, none⟩ ∧ M = (R2.map Prod.fst).length ∧ ck = capk := by simpa using ek
              obtain ⟨gl, capl, el, hgl1, hgl2⟩ := IR.some HI3.out (by rw [List.length_map, HMl.out]; omega)
              obtain ⟨rfl, hml2, rfl⟩ : al = some ⟨gl, 0, none⟩ ∧ M = (R2.map Prod.snd).length ∧ cl = capl := by simpa using el
              have hkey := HLR.out.key HO.out hxm
              have hLf := left10_any p bl bh L2 Hs x wr HT.out hok2.1.kW
              rw [hkey] at hLf
              have hlv : 1 ≤ c → lftT L2 x = c := fun h8 => lft_in HT.out.nd ((HLR.out.mem _ _).mpr ⟨hxm, h8⟩)
              have hlo : ¬ 1 ≤ c → lftT L2 x = 0 := fun h8 => lft_out (fun e => by
                have h9 : decide (x ∈ L2.map Prod.fst) = true := decide_eq_true e
                rw [hkey] at h9
                exact h8 (of_decide_eq_true h9))
              obtain ⟨x0, x1, x2, x3, x4⟩ := x
              obtain ⟨q0, q1, q2, q3, q4⟩ := HK2.out.cells hxk
              simp only at q0 q1 q2 q3 q4
              have r0 : wr.cell? ⟨gl, j, none⟩ = some (.int .i64 c) := IR.cell HI3.out hxs
              have HX : Hid (R2[j]? = some ((x0, x1, x2, x3, x4), c)) := hx
              have hwj : IntKind.i64.wrap ((j : Int) + 1) = (j : Int) + 1 := by rw [IntKind.wrap_i64]; omega
              have hwn : IntKind.i64.wrap ((cn : Int) + 1) = (cn : Int) + 1 := by rw [IntKind.wrap_i64]; omega
              clear hx hxm hok2 hxk hxs ek el hmm hml2 hkey
              by_cases hc1 : 1 ≤ c
              · rw [hlv hc1, decide_eq_true hc1] at hLf
                have hc0 : (0 : Int) < c := by omega
                clear hlv hlo
                go_wp2_with fail
                refine hLf.mono ?_
                rintro e w5 ⟨rfl, hb5⟩
                have T5 : Hid (Tb w5 p bl bh L2 Hs) := HT.out.keep (S := fun _ => False) (Kq.of_below hb5) (fun h => h) (fun h => h) (fun h => h)
                have HR5 : Hid (Rn w5 pr w5.heap.size R2) := (HR.out.keep (S := fun _ => False) (Kq.of_below hb5) (fun _ h => h.elim)).top
                have B5 : Hid (Below w.heap.size w w5) := HB.out.trans (below_low hb5 HB.out.size)
                have z6 : w5.cell? ⟨pr, 1, none⟩ = some (.slice (some ⟨gl, 0, none⟩) M cl) := by
                  have h8 : wr.cell? ⟨pr, 1, none⟩ = some (.slice (some ⟨gl, 0, none⟩) M cl) := by simp [World.cell?, HP1.out]
                  exact tm_cell h8 hb5
                have z7 : w5.cell? ⟨gl, j, none⟩ = some (.int .i64 c) := tm_cell r0 hb5
                clear hb5 hLf e5 q0 q1 q2 q3 q4 r0
                go_wp2
                exact ⟨⟨j + 1, by rw [posR_step HX.out, HCn.out, if_pos hc1]; simp, by simp, by omega, T5.out, HR5.out, B5.out⟩, by simp [intOf]; omega⟩
              · rw [hlo hc1, decide_eq_false hc1] at hLf
                have hc0 : ¬ (0 : Int) < c := by omega
                clear hlv hlo
                go_wp2_with fail
                refine hLf.mono ?_
                rintro e w5 ⟨rfl, hb5⟩
                have T5 : Hid (Tb w5 p bl bh L2 Hs) := HT.out.keep (S := fun _ => False) (Kq.of_below hb5) (fun h => h) (fun h => h) (fun h => h)
                have HR5 : Hid (Rn w5 pr w5.heap.size R2) := (HR.out.keep (S := fun _ => False) (Kq.of_below hb5) (fun _ h => h.elim)).top
                have B5 : Hid (Below w.heap.size w w5) := HB.out.trans (below_low hb5 HB.out.size)
                have z6 : w5.cell? ⟨pr, 1, none⟩ = some (.slice (some ⟨gl, 0, none⟩) M cl) := by
                  have h8 : wr.cell? ⟨pr, 1, none⟩ = some (.slice (some ⟨gl, 0, none⟩) M cl) := by simp [World.cell?, HP1.out]
                  exact tm_cell h8 hb5
                have z7 : w5.cell? ⟨gl, j, none⟩ = some (.int .i64 c) := tm_cell r0 hb5
                clear hb5 hLf e5 q0 q1 q2 q3 q4 r0
                go_wp2
                exact ⟨⟨j + 1, by rw [posR_step HX.out, HCn.out, if_neg (show ¬ 1 ≤ c by omega)]; simp, by simp, by omega, T5.out, HR5.out, B5.out⟩, by simp [intOf]; omega⟩
        · have hqz : (q : Int) < (m : Int) := by omega
          obtain ⟨y, hy⟩ : ∃ x, hs[q]? = some x := ⟨_, List.getElem?_eq_getElem (by rw [HM.out]; omega)⟩
          have hym := HOi.out _ (List.mem_of_getElem? hy)
          rcases HI.out.below HB.out with hnil | ⟨g, off, rfl, hcell⟩
          · rw [hnil] at hy; simp at hy
          have s0 := hcell q _ hy
          have hPk := pick_any y 8 wr hym (by omega) (by omega)
          have hp1 := pk_lo y 8 (by omega)
          have hp2 := pk_hi y 8 (by omega)
          obtain ⟨hh, hhe⟩ : ∃ x, pk y 8 = x := ⟨_, rfl⟩
          rw [hhe] at hPk hp1 hp2
          clear hy hym hcell hhe
          go_wp2_with fail
          refine hPk.mono ?_
          rintro e w3 ⟨rfl, hw3⟩
          rw [hw3]
          clear hw3 w3 hPk s0
          go_wp2
          go_loopw [14] (fun v14 wr3 => ∃ (k : Nat) (Hq : List Int), v14 = .int .i64 k ∧ 1 ≤ k ∧ k ≤ 4 ∧ Tb wr3 p bl bh L2 Hq ∧ Rn wr3 pr wr3.heap.size R2 ∧ (∀ x ∈ Hq, 1 ≤ x ∧ x ≤ 3) ∧ (∀ x : Int, 1 ≤ x → x < (k : Int) → (x ∈ Hq ↔ hb hh x = true)) ∧ Below w.heap.size w wr3)
            (fun v _ => 4 - (intOf v).toNat)
          case atStart => exact ⟨1, Hs, rfl, by omega, by omega, HT.out, HR.out, HH.out, fun x h1 h2 => by omega, HB.out⟩
          case round =>
            clear HT HR HH HB
            obtain ⟨k, Hq, rfl, hk1, hk4, hT, hR, hH, hE, hB⟩ := hrel
            have HT : Hid (Tb wr p bl bh L2 Hq) := hT
            have HR : Hid (Rn wr pr wr.heap.size R2) := hR
            have HH : Hid (∀ x ∈ Hq, 1 ≤ x ∧ x ≤ 3) := hH
            have HE : Hid (∀ x : Int, 1 ≤ x → x < (k : Int) → (x ∈ Hq ↔ hb hh x = true)) := hE
            have HB : Hid (Below w.heap.size w wr) := hB
            clear hT hR hH hE hB
            by_cases hk5 : k = 4
            · subst hk5
              have hpq : ∀ x ∈ R2, (x.1.1 ∈ Hq ↔ hb hh x.1.1 = true) := fun x hx => by
                have h8 := (HO.out.ok x hx).1.1
                exact HE.out _ h8.1 (by have := h8.2; show x.1.1 < (4 : Int); omega)
              have HPq : Hid (∀ x ∈ R2, (x.1.1 ∈ Hq ↔ hb hh x.1.1 = true)) := hpq
              have hLl := HLR.out.len HT.out.nd HO.out
              have hTk := tick10_any p bl bh L2 Hq wr HT.out (by omega)
              have hol : (srtK (outS L2 Hq)).length ≤ 432 := by
                rw [out_len HLR.out HT.out.nd HO.out hpq]
                exact Nat.le_trans (List.length_filter_le _ _) HO.out.len
              clear hpq
              go_wp2_with fail
              refine hTk.mono ?_
              rintro e w5 ⟨v5, rfl, hkr5, hT5, hk5⟩
              have HT5 : Hid (Tb w5 p bl bh (tickT L2 Hq) Hq) := hT5
              have R5 : Rn w5 pr wr.heap.size R2 := HR.out.keep hk5 (fun g hg => .inl (by rw [show g = bl from hg]; omega))
              have B5 : Hid (Below w.heap.size w w5) := HB.out.trans (hk5.below HB.out.size (fun g hg => by rw [show g = bl from hg]; omega))
              have hRt := rtick_any pr wr.heap.size wr.heap.size R2 hh (srtK (outS L2 Hq)) v5 w5 R5 (Nat.le_refl _) hkr5 ⟨hp1, hp2⟩ (by have := HO.out.len; omega) (by omega) (fun x hx => by
                have h8 := HO.out.ok x hx
                exact ⟨h8.1.kW, h8.1.1, by have := h8.2.1; omega, by have := h8.2.2; omega⟩) (out_kw HLR.out HO.out) (out_all HLR.out HPq.out) (srtK_rises (outS_nd Hq HT.out.nd)) (out_len HLR.out HT.out.nd HO.out HPq.out)
              clear hkr5 hT5 hk5 R5 hTk hol hLl
              go_wp2_with fail
              refine hRt.mono ?_
              rintro e w6 ⟨rfl, hR6, hk6⟩
              have T6 : Hid (Tb w6 p bl bh (tickT L2 Hq) Hq) := HT5.out.keep hk6 (by omega) (by omega) (by omega)
              have HR6 : Hid (Rn w6 pr wr.heap.size (R2.map (dn hh))) := hR6
              have B6 : Hid (Below w.heap.size w w6) := B5.out.trans (hk6.below B5.out.size (fun g hg => by have hg' : pr ≤ g := hg; omega))
              clear hR6 hk6 hRt
              go_wp2
              refine ⟨⟨q + 1, tickT L2 Hq, R2.map (dn hh), Hq, by simp, by omega, T6.out, HR6.out.top, HLR.out.tick HPq.out, ?_, HH.out, B6.out⟩, by simp [intOf]; omega⟩
              have h8 := HO.out.dn hh
              rw [show (((q + 1 : Nat)) : Int) = (q : Int) + 1 by omega]
              exact h8
            · have hkz : (k : Int) ≤ 3 := by omega
              have hwk : IntKind.i64.wrap ((k : Int) + 1) = (k : Int) + 1 := by rw [IntKind.wrap_i64]; omega
              have hld := held_any hh (k : Int) wr ⟨hp1, hp2⟩ ⟨by omega, by omega⟩
              obtain ⟨b, hbe⟩ : ∃ x, hb hh (k : Int) = x := ⟨_, rfl⟩
              rw [hbe] at hld
              have HBe : Hid (hb hh (k : Int) = b) := hbe
              clear hbe
              have hHl := held_le HT.out.ndH HH.out
              have hHo := hold10_any p bl bh L2 Hq (k : Int) wr HT.out (kI_of (by omega)) (by omega)
              have hGo := go10_any p bl bh L2 Hq (k : Int) wr HT.out (kI_of (by omega))
              go_wp2_with fail
              refine hld.mono ?_
              rintro e w4 ⟨rfl, hw4⟩
              rw [hw4]
              clear hw4 w4 hld
              cases b with
              | true =>
                clear hGo
                go_wp2_with fail
                refine hHo.mono ?_
                rintro e w5 ⟨rfl, hT5, hk5⟩
                have HT5 : Hid (Tb w5 p bl bh L2 (addH Hq (k : Int))) := hT5
                have HR5 : Hid (Rn w5 pr w5.heap.size R2) := (HR.out.keep hk5 (fun g hg => .inl (by rw [show g = bh from hg]; omega))).top
                have HB5 : Hid (Below w.heap.size w w5) := HB.out.trans (hk5.below HB.out.size (fun g hg => by rw [show g = bh from hg]; omega))
                clear hT5 hk5 hHo
                go_wp2
                refine ⟨⟨k + 1, _, by simp, by omega, by omega, HT5.out, HR5.out, fun x hx => ?_, fun x h1 h2 => ?_, HB5.out⟩, by simp [intOf]; omega⟩
                · rcases mem_addH.mp hx with rfl | hx
                  · omega
                  · exact HH.out x hx
                · rw [mem_addH]
                  by_cases e : x = (k : Int)
                  · subst e; simp [HBe.out]
                  · rw [← HE.out x h1 (by omega)]; simp [e]
              | false =>
                clear hHo
                go_wp2_with fail
                refine hGo.mono ?_
                rintro e w5 ⟨rfl, hT5, hk5⟩
                have HT5 : Hid (Tb w5 p bl bh L2 (delH Hq (k : Int))) := hT5
                have HR5 : Hid (Rn w5 pr w5.heap.size R2) := (HR.out.keep hk5 (fun g hg => .inl (by rw [show g = bh from hg]; omega))).top
                have HB5 : Hid (Below w.heap.size w w5) := HB.out.trans (hk5.below HB.out.size (fun g hg => by rw [show g = bh from hg]; omega))
                have HNd : Hid Hq.Nodup := HT.out.ndH
                clear hT5 hk5 hGo
                go_wp2
                refine ⟨⟨k + 1, _, by simp, by omega, by omega, HT5.out, HR5.out, fun x hx => HH.out x ((mem_delH HNd.out).mp hx).2, fun x h1 h2 => ?_, HB5.out⟩, by simp [intOf]; omega⟩
                rw [mem_delH HNd.out]
                by_cases e : x = (k : Int)
                · subst e; simp [HBe.out]
                · rw [← HE.out x h1 (by omega)]; simp [e]
    · have hiz : (i : Int) < (n : Int) := by omega
      obtain ⟨⟨k, c⟩, hx⟩ : ∃ x, l[i]? = some x := ⟨_, List.getElem?_eq_getElem (by rw [HN.out]; omega)⟩
      have hxm := HOk.out _ (List.mem_of_getElem? hx)
      rcases HS.out.below (HB.out) with hnil | ⟨g, off, rfl, hcell⟩
      · rw [hnil] at hx; simp at hx
      obtain ⟨s0, s1, s2, s3, s4, s5⟩ := hcell i _ hx
      have hgw : g < wr.heap.size := World.block_lt_of_cell? _ ⟨g, off + i * 6, none⟩ s0
      have hRt := right_any k wr hxm.1
      have hsm := rgt_small k
      have hmy := rgt_may k
      have hup := fun n hn => HO.out.up k n hn
      have hPk := fun w => pick_any c 12 w hxm.2 (by omega) (by omega)
      have hp1 := pk_lo c 12 (by omega)
      have hp2 := pk_hi c 12 (by omega)
      obtain ⟨x, hxe⟩ : ∃ x, rgt k = x := ⟨_, rfl⟩
      obtain ⟨nn, hnn⟩ : ∃ x, 1 + pk c 12 = x := ⟨_, rfl⟩
      obtain ⟨nq, hnq⟩ : ∃ x, pk c 12 = x := ⟨_, rfl⟩
      rw [hxe] at hRt hsm hmy hup
      rw [hnq] at hPk hp1 hp2 hnn
      have hwn : IntKind.i64.wrap (1 + nq) = nn := by rw [IntKind.wrap_i64]; omega
      have hnb : 1 ≤ nn ∧ nn ≤ 12 := by omega
      have HUp : Hid (RO (upR R x nn) 0) := hup nn hnb
      have HSm : Hid (smallK x) := hsm
      have HMy : Hid (mayK x) := hmy
      have hwi : IntKind.i64.wrap ((i : Int) + 1) = (i : Int) + 1 := by rw [IntKind.wrap_i64]; omega
      obtain ⟨k0, k1, k2, k3, k4⟩ := k
      obtain ⟨x0, x1, x2, x3, x4⟩ := x
      simp only at s0 s1 s2 s3 s4 s5
      clear hx hxm hcell hsm hmy hup hxe hnn hnq
      go_wp2_with fail
      refine hRt.mono ?_
      rintro e w3 ⟨rfl, hb3⟩
      obtain ⟨V, hV⟩ : ∃ V, w3.alloc (kO (x0, x1, x2, x3, x4)) = V := ⟨_, rfl⟩
      obtain ⟨gx, hgx⟩ : ∃ x, w3.heap.size = x := ⟨_, rfl⟩
      have hbV : Below wr.heap.size wr V := by rw [← hV]; exact hb3.alloc hb3.size _
      have t5 : V.cell? ⟨g, off + i * 6 + 5, none⟩ = some (.int .i64 c) := tm_cell s5 hbV
      have v0 : V.cell? ⟨gx, 0, none⟩ = some (.int .i64 x0) := by rw [← hV, ← hgx]; simp
      have v1 : V.cell? ⟨gx, 1, none⟩ = some (.int .i64 x1) := by rw [← hV, ← hgx]; simp
      have v2 : V.cell? ⟨gx, 2, none⟩ = some (.int .i64 x2) := by rw [← hV, ← hgx]; simp
      have v3 : V.cell? ⟨gx, 3, none⟩ = some (.int .i64 x3) := by rw [← hV, ← hgx]; simp
      have v4 : V.cell? ⟨gx, 4, none⟩ = some (.int .i64 x4) := by rw [← hV, ← hgx]; simp
      have TV : Hid (Tb V p bl bh L []) := HT.out.keep (S := fun _ => False) (Kq.of_below hbV) (fun h => h) (fun h => h) (fun h => h)
      have RV : Hid (Rn V pr V.heap.size R) := (HR.out.keep (S := fun _ => False) (Kq.of_below hbV) (fun _ h => h.elim)).top
      have BV : Hid (Below w.heap.size w V) := HB.out.trans (below_low hbV HB.out.size)
      have hxb : ¬ gx = bl := by have := HT.out.lts.2.1; have := hb3.size; omega
      have hgV : gx < V.heap.size := by rw [← hV, ← hgx]; simp
      have hprl : pr ≤ gx := by have := HR.out.lt; have := hb3.size; omega
      clear hb3 hbV hRt s0 s1 s2 s3 s4 s5
      have hSt := start10_ok p bl bh L [] (x0, x1, x2, x3, x4) nn V TV.out HMy.out ⟨hnb.1, by omega⟩ (by rw [HP.out.length_eq]; have := HO.out.len; omega)
      go_wp2_with fail
      refine (hPk _).mono ?_
      rintro e w4 ⟨rfl, hw4⟩
      rw [hw4]
      clear hw4 w4
      go_wp2_with fail
      refine hSt.mono ?_
      rintro e w5 ⟨rfl, hT5, hk5⟩
      have b5 := hk5.block gx hgV hxb
      have y0 := (World.cell?_of_block (a := ⟨gx, 0, none⟩) b5).trans v0
      have y1 := (World.cell?_of_block (a := ⟨gx, 1, none⟩) b5).trans v1
      have y2 := (World.cell?_of_block (a := ⟨gx, 2, none⟩) b5).trans v2
      have y3 := (World.cell?_of_block (a := ⟨gx, 3, none⟩) b5).trans v3
      have y4 := (World.cell?_of_block (a := ⟨gx, 4, none⟩) b5).trans v4
      have HT5 : Hid (Tb w5 p bl bh (putT L (x0, x1, x2, x3, x4) nn) []) := hT5
      have R5 : Rn w5 pr w5.heap.size R := (RV.out.keep hk5 (fun g hg => .inl (by rw [show g = bl from hg]; omega))).top
      have B5 : Hid (Below w.heap.size w w5) := BV.out.trans (hk5.below BV.out.size (fun g hg => by rw [show g = bl from hg]; omega))
      have hRs := rstart_any pr _ R (x0, x1, x2, x3, x4) nn w5 R5 (by have := HO.out.len; omega) (fun x hx => by obtain ⟨y, hy, rfl⟩ := List.mem_map.mp hx; exact (HO.out.ok _ hy).1.kW) HSm.out.kW HO.out.nd
      clear hT5 hk5 b5 R5 hSt v0 v1 v2 v3 v4 t5 TV RV BV hV
      go_wp2_with fail
      refine hRs.mono ?_
      rintro e w6 ⟨rfl, hR6, hk6⟩
      have T6 : Hid (Tb w6 p bl bh (putT L (x0, x1, x2, x3, x4) nn) []) := HT5.out.keep hk6 (by omega) (by omega) (by omega)
      have HR6 : Hid (Rn w6 pr w6.heap.size (upR R (x0, x1, x2, x3, x4) nn)) := hR6
      have B6 : Hid (Below w.heap.size w w6) := B5.out.trans (hk6.below B5.out.size (fun g hg => by have hg' : pr ≤ g := hg; omega))
      have HP6 : Hid ((putT L (x0, x1, x2, x3, x4) nn).Perm (upR R (x0, x1, x2, x3, x4) nn)) := upR_perm HP.out HT.out.nd
      obtain ⟨vk, vl, hbx, hkr6, _⟩ := hR6.ex
      obtain ⟨ak, ck, rfl⟩ := hkr6.shape
      obtain ⟨M, hM⟩ : ∃ M, (upR R (x0, x1, x2, x3, x4) nn).length = M := ⟨_, rfl⟩
      rw [List.length_map, hM] at hbx
      have z5 : w6.cell? ⟨pr, 0, none⟩ = some (.slice ak M ck) := by simp [World.cell?, hbx]
      have hC := fun q => count10_any p bl bh _ [] (w6.drewN q) (T6.out.drewN q)
      rw [HP6.out.length_eq, hM] at hC
      clear hR6 hk6 hRs hbx hkr6 hM HT5 B5 y0 y1 y2 y3 y4
      go_wp2_with fail
      go_quiet (first | (go_at_call 28; refine Calls.quiet_of_same (hC _)))
      go_wp2
      exact ⟨⟨i + 1, _, _, by simp, by omega, T6.out.drewN _, (HR6.out.drewN _).top, HP6.out, HUp.out, below_drewN B6.out _⟩, by simp [intOf]; omega⟩

end Go.Proofs.Ytcefemblcifogai
