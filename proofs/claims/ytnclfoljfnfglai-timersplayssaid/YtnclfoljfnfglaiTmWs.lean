import Derived.Test.YtnclfoljfnfglaiTmWo
import Derived.Test.YtnclfoljfnfglaiTmF6
namespace Go.Proofs.Ytnclfoljfnfglai
open Go.RowKit Go.Maps
set_option linter.unusedVariables false

section
variable {own own' own1 : Nat → Nat} {w w' w1 w2 : World} {pw base b : Nat} {T : Bool → Tbl} {vo vw : Value} {os ws : List Value} {ls ms : List (List Kx)} {S : Nat → Prop} {k : Bool} {L R : Tl} {H Hr : List Int}

theorem Wo.prog1 (h : Wo own w pw T vo vw os ws ls ms) (k : Bool) (hk : Kq S w w') (hS : ∀ g, S g → g < w.heap.size → own g = tgT k) (hT : Tb w' (T k).p (T k).bl (T k).bh L H) :
    ∃ own', Wo own' w' pw (upP T k L H) vo vw os ws ls ms ∧ (∀ g, g < w.heap.size → own' g = own g) ∧ (∀ g, w.heap.size ≤ g → own' g = 10 + os.length) :=
  ⟨_, h.prog k hk hS hT, fun g hg => if_pos hg, fun g hg => if_neg (by omega)⟩
theorem Wo.rfP (h : Wo own1 w1 pw (upP T k L H) vo vw os ws ls ms) : Rf w1 (T k).r (fun g => own1 g = tgR k) (T k).R (T k).Hr := by
  have := h.rf k
  rw [upP_same] at this
  exact this
theorem Wo.orP (h : Wo own1 w1 pw (upP T k L H) vo vw os ws ls ms) : own1 (T k).r = tgR k := by
  have := h.orr k
  rw [upP_same] at this
  exact this
theorem Wo.ref1 (h : Wo own1 w1 pw (upP T k L H) vo vw os ws ls ms) (hk : Kq (fun g => g = (T k).r ∨ own1 g = tgR k) w1 w2) (hR : Rf w2 (T k).r (grF (fun g => own1 g = tgR k) w1 w2) R Hr) :
    ∃ own2, Wo own2 w2 pw (upQ (upP T k L H) k R Hr) vo vw os ws ls ms ∧ (∀ g, g < w1.heap.size → own2 g = own1 g) := by
  have e : (upP T k L H k).r = (T k).r := (upP_adr T k L H k).2.2.2.1
  refine ⟨_, h.refc k (.slice none 0 0) (S := fun g => g = (T k).r ∨ own1 g = tgR k) hk (fun g hg _ => hg.elim (fun q => by rw [q]; exact h.orP) id) ?_ (fun g hg => by simp [Value.ownBlock] at hg), fun g hg => if_pos hg⟩
  rw [e]
  exact hR.more fun g hg _ => ⟨hg, by simp [Value.ownBlock]⟩
theorem Wo.ref2 {v : Value} (h : Wo own1 w1 pw (upP T k L H) vo vw os ws ls ms) (hk : Kq (fun g => g = (T k).r ∨ own1 g = tgR k) w1 w2) (hR : Rf w2 (T k).r (fun g => grF (fun g => own1 g = tgR k) w1 w2 g ∧ v.ownBlock ≠ some g) R Hr) (hv : ∀ g, v.ownBlock = some g → w1.heap.size ≤ g) :
    ∃ own2, Wo own2 w2 pw (upQ (upP T k L H) k R Hr) vo vw os ws ls ms ∧ (∀ g, g < w1.heap.size → own2 g = own1 g) ∧ (∀ g, v.ownBlock = some g → own2 g = 9) := by
  have e : (upP T k L H k).r = (T k).r := (upP_adr T k L H k).2.2.2.1
  refine ⟨_, h.refc k v (S := fun g => g = (T k).r ∨ own1 g = tgR k) hk (fun g hg _ => hg.elim (fun q => by rw [q]; exact h.orP) id) ?_ hv, fun g hg => if_pos hg, fun g hg => ?_⟩
  · rw [e]; exact hR
  · show (if g < w1.heap.size then own1 g else if v.ownBlock = some g then 9 else tgR k) = 9
    rw [if_neg (by have := hv g hg; omega), if_pos hg]
/-- A step touches nothing below. -/
theorem Kq.bas (h0 : ∀ g, g < base → own g = 0) (hbs : base ≤ w.heap.size) (hk : Kq S w w') (hS : ∀ g, S g → g < w.heap.size → own g ≠ 0) : Below base w w' :=
  ⟨hk.os, hk.tape, hk.output, hk.size, fun g hg => hk.block g (by omega) (fun e => hS g e (by omega) (h0 g hg))⟩
theorem below_dn {n n' : Nat} {w w' : World} (h : Below n w w') (hn : n' ≤ n) : Below n' w w' := ⟨h.os, h.tape, h.output, h.size, fun k hk => h.block k (by omega)⟩

/-- The law's world after so many steps. -/
def Ws (base : Nat) (w : World) (pw b : Nat) : Prop := ∃ own T vo vw os ws ls, Wo own w pw T vo vw os ws ls ls ∧ (∀ k, Rel (T k).L (T k).R (T k).H (T k).Hr b) ∧ ls.length ≤ b ∧ (∀ l ∈ ls, l.length ≤ b ∧ ∀ y ∈ l, kW y) ∧ (∀ g, g < base → own g = 0) ∧ base ≤ w.heap.size
theorem Ws.after (hW : Wo own w pw (upQ (upP T k L H) k R Hr) vo vw os ws ls ls) (hR : ∀ j, Rel (T j).L (T j).R (T j).H (T j).Hr b) (hk : Rel L R H Hr (b + 1)) (hl : ls.length ≤ b + 1) (hls : ∀ l ∈ ls, l.length ≤ b + 1 ∧ ∀ y ∈ l, kW y) (h0 : ∀ g, g < base → own g = 0) (hbs : base ≤ w.heap.size) : Ws base w pw (b + 1) := by
  refine ⟨own, _, vo, vw, os, ws, ls, hW, fun j => ?_, hl, hls, h0, hbs⟩
  by_cases e : j = k
  · subst e
    rw [upQ_same, upP_same]
    exact hk
  · rw [upQ_other _ _ _ e, upP_other _ _ _ e]
    exact (hR j).mono (by omega)
theorem Ws.same (h : Ws base w pw b) (hb : Below w.heap.size w w') : Ws base w' pw (b + 1) := by
  obtain ⟨own, T, vo, vw, os, ws, ls, hW, hR, hl, hls, h0, hbs⟩ := h
  exact ⟨own, T, vo, vw, os, ws, ls, hW.same hb, fun k => (hR k).mono (by omega), by omega, fun l hl => ⟨by have := (hls l hl).1; omega, (hls l hl).2⟩, h0, Nat.le_trans hbs hb.size⟩
theorem tgT_pos (k : Bool) : tgT k ≠ 0 := by have := tgT_or k; omega
theorem tgR_pos (k : Bool) : tgR k ≠ 0 := by have := tgR_or k; omega
theorem more_ls (hls : ∀ l ∈ ls, l.length ≤ b ∧ ∀ y ∈ l, kW y) : ∀ l ∈ ls, l.length ≤ b + 1 ∧ ∀ y ∈ l, kW y := fun l hl => ⟨by have := (hls l hl).1; omega, (hls l hl).2⟩
end

end Go.Proofs.Ytnclfoljfnfglai
