import Derived.Test.YtjolflpmeodnaahPlRf
import Derived.Test.YtjolflpmeodnaahPlWh
namespace Go.Proofs.Ytjolflpmeodnaah
set_option linter.unusedVariables false
open Go.RowKit

/-! ## Edges -/

def edges (p : Int) : List Ct → List Int
  | [] => []
  | c :: l => (if c.p = p then [c.f, c.t] else []) ++ edges p l
theorem edges_append (p : Int) (l m : List Ct) : edges p (l ++ m) = edges p l ++ edges p m := by
  induction l with
  | nil => rfl
  | cons c l ih => simp [edges, ih]
theorem edges_mem {p : Int} {l : List Ct} {c : Ct} (hc : c ∈ l) (hp : c.p = p) : c.f ∈ edges p l ∧ c.t ∈ edges p l := by
  induction l with
  | nil => cases hc
  | cons d l ih =>
    simp only [edges, List.mem_append]
    rcases List.mem_cons.mp hc with rfl | h
    · rw [if_pos hp]; exact ⟨.inl (by simp), .inl (by simp)⟩
    · exact ⟨.inr (ih h).1, .inr (ih h).2⟩
theorem edges_bnd {p : Int} {l : List Ct} (hm : ∀ c ∈ l, mayC c = true) {e : Int} (he : e ∈ edges p l) : 0 ≤ e ∧ e ≤ 1099511627776 := by
  induction l with
  | nil => cases he
  | cons d l ih =>
    simp only [edges, List.mem_append] at he
    rcases he with h | h
    · have := mayC_iff.mp (hm d (by simp))
      split at h
      · simp at h; omega
      · cases h
    · exact ih (fun c hc => hm c (by simp [hc])) h

/-- The first edge behind a tick. -/
def ED (a : Int) (S : List Int) (o : Int) : Prop := (o = -1 ∧ ∀ e ∈ S, e ≤ a) ∨ (a < o ∧ o ∈ S ∧ ∀ e ∈ S, ¬ (a < e ∧ e < o))
def upd (a o e : Int) : Int := if a < e ∧ (o < 0 ∨ e < o) then e else o
theorem ED.step {a o : Int} {S : List Int} (h0 : 0 ≤ a) (h : ED a S o) (e : Int) : ED a (S ++ [e]) (upd a o e) := by
  unfold upd
  rcases h with ⟨rfl, h1⟩ | ⟨h1, h2, h3⟩
  · by_cases he : a < e
    · rw [if_pos ⟨he, .inl (by omega)⟩]
      refine .inr ⟨he, by simp, fun e' h' => ?_⟩
      rcases List.mem_append.mp h' with h | h
      · have := h1 e' h; omega
      · simp at h; omega
    · rw [if_neg (by omega)]
      refine .inl ⟨rfl, fun e' h' => ?_⟩
      rcases List.mem_append.mp h' with h | h
      · exact h1 e' h
      · simp at h; omega
  · by_cases he : a < e ∧ e < o
    · rw [if_pos ⟨he.1, .inr he.2⟩]
      refine .inr ⟨he.1, by simp, fun e' h' => ?_⟩
      rcases List.mem_append.mp h' with h | h
      · have := h3 e' h; omega
      · simp at h; omega
    · rw [if_neg (by omega)]
      refine .inr ⟨h1, by simp [h2], fun e' h' => ?_⟩
      rcases List.mem_append.mp h' with h | h
      · exact h3 e' h
      · simp at h; subst h; exact he
theorem ED.calm {p a o : Int} {l : List Ct} (h : ED a (edges p l) o) (ho : o ≠ -1) : Calm p a o l := by
  rcases h with ⟨h1, _⟩ | ⟨h1, h2, h3⟩
  · exact absurd h1 ho
  · exact fun c hc hp => ⟨h3 _ (edges_mem hc hp).1, h3 _ (edges_mem hc hp).2⟩
theorem ED.none_rt {p a x : Int} {l : List Ct} (h : ED a (edges p l) (-1)) (h0 : 0 ≤ a) (hx : a ≤ x) : rt p x l = 0 := by
  rcases h with ⟨_, h1⟩ | ⟨h1, _⟩
  · exact rt_zero fun c hc hh => by have := h1 _ (edges_mem hc hh.1).2; omega
  · omega
theorem ED.bnd {p a o : Int} {l : List Ct} (hm : ∀ c ∈ l, mayC c = true) (h : ED a (edges p l) o) : o = -1 ∨ (a < o ∧ o ≤ 1099511627776) := by
  rcases h with ⟨h1, _⟩ | ⟨h1, h2, _⟩
  · exact .inl h1
  · exact .inr ⟨h1, (edges_bnd hm h2).2⟩

theorem tick2_any (x : Int) (w : World) : Calls Try.prog 23 #[.int .i64 x] w fun e w' => e = .returned (.int .i64 (cn x)) ∧ w' = w := by
  go_enter Try.func23, Try.ntmps23
  go_wp2
  go_ret
  exact ⟨rfl, rfl⟩

set_option maxHeartbeats 4000000 in
theorem edge2_any (a : Option Addr) (cp : Nat) (l : List Ct) (p x : Int) (w : World) (h : Cta w a l) (hx : 0 ≤ x) (hn : l.length ≤ 100) :
    Calls Try.prog 24 #[.slice a l.length cp, .int .i64 p, .int .i64 x] w fun e w' => (∃ o, e = .returned (.int .i64 o) ∧ ED x (edges p l) o) ∧ w' = w := by
  have HS : Hid (Cta w a l) := h
  clear h
  go_enter Try.func24, Try.ntmps24
  go_wp2_with fail
  go_loopw [7, 8] (fun q i wr => ∃ (k : Nat) (o : Int), k ≤ l.length ∧ i = .int .i64 k ∧ q = .int .i64 o ∧ wr = w ∧ Hid (ED x (edges p (l.take k)) o)) (fun _ i _ => l.length - (intOf i).toNat)
  case atStart => exact ⟨0, -1, by omega, rfl, rfl, rfl, (.inl ⟨rfl, by simp [edges]⟩ : ED x (edges p (l.take 0)) (-1))⟩
  case round =>
    obtain ⟨k, o, hk, rfl, rfl, rfl, HR⟩ := hrel
    by_cases hlt : k < l.length
    · have hlt' : (k : Int) < (l.length : Int) := by omega
      obtain ⟨c, hc⟩ := pl_get l k hlt
      obtain ⟨g, off, rfl, q1, q2, q3, q4⟩ := HS.out.at hc
      have HT : Hid (edges p (l.take (k + 1)) = edges p (l.take k) ++ (if c.p = p then [c.f, c.t] else [])) := by
        show _ = _
        rw [List.take_add_one, hc, edges_append]; simp [edges]
      clear hc
      obtain ⟨cp', cf, ct, cr⟩ := c
      simp only at q1 q2 q3 q4 HT
      by_cases hp : cp' = p
      · have HU : Hid (ED x (edges p (l.take (k + 1))) (upd x (upd x o cf) ct)) := by
          show ED _ _ _
          rw [HT.out, if_pos hp, show [cf, ct] = [cf] ++ [ct] from rfl, ← List.append_assoc]
          exact (HR.out.step hx cf).step hx ct
        clear HR HT
        subst hp
        -- the two edges
        have HU1 : ∀ (o1 o2 : Int), upd x o cf = o1 → upd x o1 ct = o2 → Hid (ED x (edges cp' (l.take (k + 1))) o2) := fun o1 o2 h1 h2 => by rw [← h2, ← h1]; exact HU
        clear HU
        by_cases e1 : x < cf ∧ (o < 0 ∨ cf < o)
        · have HU2 := HU1 cf
          by_cases e2 : x < ct ∧ (cf < 0 ∨ ct < cf)
          · have HU3 := HU2 ct (if_pos e1) (if_pos e2)
            clear HU1 HU2
            have b1 : x < ct := e2.1
            have b2 : ct < cf := by omega
            have hcf : ¬ cf < 0 := by omega
            clear e2
            rcases e1 with ⟨a1, a2 | a2⟩
            all_goals (
              go_wp2
              go_roundw
              case rel => exact ⟨k + 1, ct, by omega, by go_num, by go_num, by trivial, HU3⟩
              case measure => simp [intOf]; omega)
          · have HU3 := HU2 cf (if_pos e1) (if_neg e2)
            clear HU1 HU2
            have hcf : ¬ cf < 0 := by omega
            by_cases b1 : x < ct
            · have b2 : ¬ ct < cf := fun h => e2 ⟨b1, .inr h⟩
              clear e2
              rcases e1 with ⟨a1, a2 | a2⟩
              all_goals (
                go_wp2
                go_roundw
                case rel => exact ⟨k + 1, cf, by omega, by go_num, by go_num, by trivial, HU3⟩
                case measure => simp [intOf]; omega)
            · clear e2
              rcases e1 with ⟨a1, a2 | a2⟩
              all_goals (
                go_wp2
                go_roundw
                case rel => exact ⟨k + 1, cf, by omega, by go_num, by go_num, by trivial, HU3⟩
                case measure => simp [intOf]; omega)
        · have HU2 := HU1 o
          by_cases e2 : x < ct ∧ (o < 0 ∨ ct < o)
          · have HU3 := HU2 ct (if_neg e1) (if_pos e2)
            clear HU1 HU2
            by_cases a1 : x < cf
            · have a2 : ¬ o < 0 := fun h => e1 ⟨a1, .inl h⟩
              have a3 : ¬ cf < o := fun h => e1 ⟨a1, .inr h⟩
              clear e1
              have b2 : ct < o := by omega
              have b1 := e2.1
              clear e2
              go_wp2
              go_roundw
              case rel => exact ⟨k + 1, ct, by omega, by go_num, by go_num, by trivial, HU3⟩
              case measure => simp [intOf]; omega
            · clear e1
              rcases e2 with ⟨b1, b2 | b2⟩
              all_goals (
                go_wp2
                go_roundw
                case rel => exact ⟨k + 1, ct, by omega, by go_num, by go_num, by trivial, HU3⟩
                case measure => simp [intOf]; omega)
          · have HU3 := HU2 o (if_neg e1) (if_neg e2)
            clear HU1 HU2
            by_cases a1 : x < cf
            · have a2 : ¬ o < 0 := fun h => e1 ⟨a1, .inl h⟩
              have a3 : ¬ cf < o := fun h => e1 ⟨a1, .inr h⟩
              by_cases b1 : x < ct
              · have b3 : ¬ ct < o := fun h => e2 ⟨b1, .inr h⟩
                clear e1 e2
                go_wp2
                go_roundw
                case rel => exact ⟨k + 1, o, by omega, by go_num, by go_num, by trivial, HU3⟩
                case measure => simp [intOf]; omega
              · clear e1 e2
                go_wp2
                go_roundw
                case rel => exact ⟨k + 1, o, by omega, by go_num, by go_num, by trivial, HU3⟩
                case measure => simp [intOf]; omega
            · by_cases b1 : x < ct
              · have b2 : ¬ o < 0 := fun h => e2 ⟨b1, .inl h⟩
                have b3 : ¬ ct < o := fun h => e2 ⟨b1, .inr h⟩
                clear e1 e2
                go_wp2
                go_roundw
                case rel => exact ⟨k + 1, o, by omega, by go_num, by go_num, by trivial, HU3⟩
                case measure => simp [intOf]; omega
              · clear e1 e2
                go_wp2
                go_roundw
                case rel => exact ⟨k + 1, o, by omega, by go_num, by go_num, by trivial, HU3⟩
                case measure => simp [intOf]; omega
      · have HU : Hid (ED x (edges p (l.take (k + 1))) o) := by show ED _ _ _; rw [HT.out, if_neg hp, List.append_nil]; exact HR.out
        clear HR HT
        go_wp2
        go_roundw
        case rel => exact ⟨k + 1, o, by omega, by go_num, by go_num, by trivial, HU⟩
        case measure => simp [intOf]; omega
    · have hkn : k = l.length := by omega
      subst hkn
      have HV : Hid (ED x (edges p l) o) := by have := HR.out; rw [List.take_length] at this; exact this
      clear HR
      go_wp2
      go_ret
      exact ⟨⟨o, rfl, HV.out⟩, rfl⟩

end Go.Proofs.Ytjolflpmeodnaah
