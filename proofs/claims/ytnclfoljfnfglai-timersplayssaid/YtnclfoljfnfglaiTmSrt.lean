import Derived.Test.YtnclfoljfnfglaiTmIns
import Derived.Test.YtnclfoljfnfglaiLen
namespace Go.Proofs.Ytnclfoljfnfglai
open Go.RowKit Go.Maps
set_option linter.unusedVariables false

theorem blen_any (n : Nat) (hn : n < 2199023255552) (w : World) : Calls Try.prog 76 #[.int .u64 n] w fun e w' => (∃ l : Int, e = .returned (.int .i64 l)) ∧ w = w' := by
  have h := len64_any (n : Int) w (by omega) (by omega)
  go_enter Try.func76, Try.ntmps76
  go_wp2_with fail
  refine h.mono ?_
  rintro e w' ⟨rfl, rfl⟩
  go_wp2
  go_ret
  exact ⟨⟨_, rfl⟩, rfl⟩

/-- What a sort of one or two keys leaves. -/
def srt2 (l : List Kx) : List Kx := match l with | [x, y] => if cmpK y x < 0 then [y, x] else [x, y] | l => l

theorem ins12_any (g og cap base : Nat) (l : List Kx) (w : World) (hl : l.length = 1 ∨ l.length = 2) (h : KR w base (.slice (some ⟨g, 0, none⟩) l.length cap) l) (ho : w.heap[og]? = some ordO) :
    Calls Try.prog 90 #[.slice (some ⟨g, 0, none⟩) l.length cap, .int .i64 0, .int .i64 l.length, cmpF og] w fun e w' => e = .returned (.tuple #[]) ∧ KR w' base (.slice (some ⟨g, 0, none⟩) l.length cap) (srt2 l) ∧ Kq (· = g) w w' := by
  match l, hl with
  | [x], _ => exact (ins1_any _ _ w).mono fun e w' ⟨h1, h2⟩ => by subst h2; exact ⟨h1, h, Kq.refl _ _⟩
  | [x, y], _ => exact ins2_any g og cap base x y w h ho

theorem pdq12_any (g og cap base : Nat) (l : List Kx) (lim : Int) (w : World) (hl : l.length = 1 ∨ l.length = 2) (h : KR w base (.slice (some ⟨g, 0, none⟩) l.length cap) l) (ho : w.heap[og]? = some ordO) :
    Calls Try.prog 77 #[.slice (some ⟨g, 0, none⟩) l.length cap, .int .i64 0, .int .i64 l.length, .int .i64 lim, cmpF og] w fun e w' => e = .returned (.tuple #[]) ∧ KR w' base (.slice (some ⟨g, 0, none⟩) l.length cap) (srt2 l) ∧ Kq (· = g) w w' := by
  have hI := ins12_any g og cap base l w hl h ho
  obtain ⟨n, hn⟩ : ∃ n, l.length = n := ⟨_, rfl⟩
  rw [hn] at hI hl ⊢
  have hw : IntKind.i64.wrap (n : Int) = n := by rw [IntKind.wrap_i64]; omega
  have h12 : (n : Int) ≤ 12 := by omega
  clear h ho hn hl
  go_enter Try.func77, Try.ntmps77
  go_wp2
  refine wp_loop_rounds 1 ?_
  rw [rounds_succ]
  go_wp2_with fail
  refine hI.mono ?_
  rintro e w' ⟨rfl, hr, hk⟩
  go_wp2
  refine bodyPost_ret (results_none rfl _ _ _) rfl ?_
  exact ⟨rfl, hr, hk⟩

theorem sortF12_any (g og cap base : Nat) (l : List Kx) (w : World) (hl : l.length = 1 ∨ l.length = 2) (h : KR w base (.slice (some ⟨g, 0, none⟩) l.length cap) l) (ho : w.heap[og]? = some ordO) :
    Calls Try.prog 73 #[.slice (some ⟨g, 0, none⟩) l.length cap, cmpF og] w fun e w' => e = .returned (.tuple #[]) ∧ KR w' base (.slice (some ⟨g, 0, none⟩) l.length cap) (srt2 l) ∧ Kq (· = g) w w' := by
  have hI := fun lim => pdq12_any g og cap base l lim w hl h ho
  obtain ⟨n, hn⟩ : ∃ n, l.length = n := ⟨_, rfl⟩
  rw [hn] at hI hl ⊢
  have hw : IntKind.u64.wrap (n : Int) = n := by simp [IntKind.wrap, IntKind.bits, IntKind.signed]; omega
  have hB := blen_any n (by omega) w
  clear h ho hn hl
  go_enter Try.func73, Try.ntmps73
  go_wp2_with fail
  refine hB.mono ?_
  rintro e w' ⟨⟨lim, rfl⟩, rfl⟩
  go_wp2_with fail
  refine (hI lim).mono ?_
  rintro e w' ⟨rfl, hr, hk⟩
  go_wp2
  go_end0
  exact ⟨rfl, hr, hk⟩

theorem osort12_any (g og cap base : Nat) (l : List Kx) (w : World) (hl : l.length = 1 ∨ l.length = 2) (h : KR w base (.slice (some ⟨g, 0, none⟩) l.length cap) l) (ho : w.heap[og]? = some ordO) :
    Calls Try.prog 57 #[.slice (some ⟨og, 0, none⟩) 5 5, .slice (some ⟨g, 0, none⟩) l.length cap] w fun e w' => e = .returned (.tuple #[]) ∧ KR w' base (.slice (some ⟨g, 0, none⟩) l.length cap) (srt2 l) ∧ Kq (· = g) w w' := by
  have hI := sortF12_any g og cap base l w hl h ho
  obtain ⟨n, hn⟩ : ∃ n, l.length = n := ⟨_, rfl⟩
  rw [hn] at hI hl ⊢
  clear h ho hn hl
  go_enter Try.func57, Try.ntmps57
  go_wp2_with fail
  refine hI.mono ?_
  rintro e w' ⟨rfl, hr, hk⟩
  go_wp2
  go_end0
  exact ⟨rfl, hr, hk⟩

end Go.Proofs.Ytnclfoljfnfglai
