import Derived.Test.YtlagadpfnkidjacDef
import Derived.Test.YtlagadpfnkidjacSal
namespace Go.Proofs.Ytlagadpfnkidjac
open Go.RowKit

/-- Both answers' lists, by turns. -/
def zz (A B : List Rw) : Nat → List Rw
  | 0 => []
  | i + 1 => zz A B i ++ (A[i]?.toList ++ B[i]?.toList)
theorem zz_mem {A B : List Rw} : ∀ {i j : Nat} {y : Rw}, (zz A B i)[j]? = some y → ∃ k, k < i ∧ (A[k]? = some y ∨ B[k]? = some y)
  | 0, j, y, h => by simp [zz] at h
  | i + 1, j, y, h => by
    rcases List.mem_append.mp (List.mem_of_getElem? h) with q | q
    · obtain ⟨j', hj⟩ := List.getElem?_of_mem q
      obtain ⟨k, hk, e⟩ := zz_mem hj
      exact ⟨k, by omega, e⟩
    · rcases List.mem_append.mp q with q | q
      · exact ⟨i, by omega, .inl (Option.mem_toList.mp q)⟩
      · exact ⟨i, by omega, .inr (Option.mem_toList.mp q)⟩
theorem zz_next {A B : List Rw} {i : Nat} {x y : Rw} (hx : A[i]? = some x) (hy : B[i]? = some y) : zz A B i ++ [x] ++ [y] = zz A B (i + 1) := by
  rw [zz, hx, hy]; simp
theorem zz_len {A B : List Rw} : ∀ {i : Nat}, i ≤ A.length → i ≤ B.length → (zz A B i).length = 2 * i
  | 0, _, _ => rfl
  | i + 1, h, h' => by
    have hx : A[i]? = some A[i] := List.getElem?_eq_getElem (by omega)
    have hy : B[i]? = some B[i] := List.getElem?_eq_getElem (by omega)
    have := zz_len (A := A) (B := B) (i := i) (by omega) (by omega)
    rw [← zz_next hx hy]
    simp
    omega

theorem mem_flat {cc : List (List Sp)} {x : List Sp} (h : x ∈ cc) : x.length ≤ cc.flatten.length := by
  induction cc with
  | nil => cases h
  | cons y r ih =>
    rw [List.flatten_cons, List.length_append]
    rcases List.mem_cons.mp h with rfl | h
    · omega
    · have := ih h; omega
theorem DR.pos {m : Nat} : ∀ {a : List (List Sp)}, DR m a → ∀ x ∈ a, 1 ≤ x.length
  | [], _, x, h => by cases h
  | y :: r, h, x, hx => by
    rcases List.mem_cons.mp hx with rfl | q
    · exact h.1
    · exact DR.pos h.2.2.2 x q
theorem DlR.bnd {l : List Sp} {most : Int} {cc : List (List Sp)} {er : Int} (h : DlR l most cc er) : cc.length ≤ 2000 ∧ ∀ x ∈ cc, 1 ≤ x.length ∧ x.length ≤ 2000 := by
  rcases h with ⟨_, _, rfl⟩ | ⟨_, _, _, rfl⟩ | ⟨hs, _, _, hd, he⟩
  · exact ⟨by simp, fun x hx => by cases hx⟩
  · exact ⟨by simp, fun x hx => by cases hx⟩
  · have hl := hs.1
    have h1 := hd.many
    rw [he] at h1
    refine ⟨by omega, fun x hx => ⟨hd.pos x hx, ?_⟩⟩
    have h2 := mem_flat hx
    rw [he] at h2
    omega

theorem SOwn.ls_head {W : World} {base g cap N n c : Nat} {L : List Sp} (h : SOwn W base (.slice (some ⟨g, 0, none⟩) N cap) L) (hn : n ≤ N) (hc : n ≤ c) (hc2 : c ≤ 9223372036854775807) : Ls W (.slice (some ⟨g, 0, none⟩) n c) (L.take n) := by
  have hl := h.lenEq
  have ht : (L.take n).length = n := by simp; omega
  refine ⟨⟨some ⟨g, 0, none⟩, c, by rw [ht], ?_, by rw [ht]; exact hc, hc2⟩, by rw [ht]; omega⟩
  rcases h.spa with h0 | ⟨g', off, ha, hcell⟩
  · left; rw [h0]; simp
  · right
    refine ⟨g', off, ha, fun i p hp => ?_⟩
    rw [List.getElem?_take] at hp
    split at hp
    · exact hcell i p hp
    · cases hp

set_option maxHeartbeats 2000000 in
theorem owned_zero (w : World) (Bk : Nat) (a a' : Option Addr) (c c' : Nat) (h : Book w Bk (.slice a 0 c) (.slice a' 0 c')) :
    Calls Try.prog 14 #[.pointer (some ⟨Bk, 0, none⟩)] w fun e w' => e = .returned (.bool true) ∧ w' = w := by
  have b0 := h.c0
  have b1 := h.c1
  clear h
  go_enter Try.func14, Try.ntmps14
  go_wp2_with fail
  go_loop [3] (fun i => i = .int .i64 0) (fun _ => 0)
  case atStart => rfl
  case round =>
    subst hrel
    go_wp2_with fail
    go_loop [5] (fun i => i = .int .i64 0) (fun _ => 0)
    case atStart => rfl
    case round =>
      subst hrel
      go_wp2_with fail
      go_loop [8] (fun i => i = .int .i64 0) (fun _ => 0)
      case atStart => rfl
      case round =>
        subst hrel
        go_wp2
        go_ret
        exact ⟨rfl, rfl⟩

/-- Owned of a book that was filled. -/
theorem owned_all {w : World} {lo Bk : Nat} {lv : Value} {cs : List Rw} (h : Bkp w lo Bk lv cs) (hm : cs.length ≤ 1048576) :
    Calls Try.prog 14 #[.pointer (some ⟨Bk, 0, none⟩)] w fun e w' => e = .returned (.bool true) ∧ Kp (fun g => g = Bk ∨ inC cs g) w w' := by
  by_cases hp : 0 < cs.length
  · obtain ⟨L, cap, hb, _⟩ := h.bks hp
    exact owned_some w lo Bk L cap cs.length cs hb hm hp
  · obtain ⟨a, c, rfl⟩ := own_shape h.row
    have hb := h.book
    rw [show cs.length = 0 by omega] at hb
    refine (owned_zero w Bk a none c 0 hb).mono ?_
    rintro e w' ⟨rfl, rfl⟩
    exact ⟨rfl, Kp.refl _ _⟩

end Go.Proofs.Ytlagadpfnkidjac
