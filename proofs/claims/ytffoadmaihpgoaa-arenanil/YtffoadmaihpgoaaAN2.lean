/- What every call of a nil Arena and of a zero one answers. -/
import Derived.Test.YtffoadmaihpgoaaAN1
namespace Go.Proofs.Ytffoadmaihpgoaa
set_option linter.unusedVariables false
set_option linter.unusedSimpArgs false
open Go.RowKit

def zeroA : Array Value := #[.int .i64 0, .int .i64 0, .slice none 0 0, .map none]
/-- A nil Arena, or a zero one. -/
def NoneAt (w : World) (pa : Option Addr) : Prop := pa = none ∨ ∃ z, pa = some ⟨z, 0, none⟩ ∧ Blk w z zeroA 67
theorem NoneAt.below {w w' : World} {pa : Option Addr} (h : NoneAt w pa) (hb : Below w.heap.size w w') : NoneAt w' pa := by
  rcases h with h | ⟨z, e, h⟩
  · exact .inl h
  · exact .inr ⟨z, e, h.below hb h.lt⟩
theorem none_yes (w : World) (pa : Option Addr) (h : NoneAt w pa) : Calls Try.prog 41 #[.pointer pa] w fun e w' => e = .returned (.bool true) ∧ w' = w := by
  rcases h with rfl | ⟨z, rfl, h⟩
  · go_enter Try.func41, Try.ntmps41
    go_wp2
    go_ret
    exact ⟨rfl, rfl⟩
  · have c2 : w.cell? ⟨z, 2, none⟩ = some (.slice none 0 0) := by rw [h.cell]; rfl
    have hz := h.lt
    clear h
    go_enter Try.func41, Try.ntmps41
    go_wp2
    go_ret
    exact ⟨rfl, rfl⟩
theorem nSettle (w : World) (pa : Option Addr) (v : Value) (s o n : Int) (l : Bool) (h : NoneAt w pa) : Calls Try.prog 15 #[.pointer pa, .agg #[.int .i64 s, .int .i64 o], .int .i64 n, .bool l] w fun e w' => e = .returned (.int .i64 1) ∧ Below w.heap.size w w' := by
  have H := hide (fun o => h.below (below_alloc w o))
  have H0 := hide h
  clear h
  go_enter Try.func15, Try.ntmps15
  go_wp2_with (first | (go_at_call 41; refine (none_yes _ _ (H.out _)).mono ?_; rintro e w' ⟨rfl, rfl⟩) | (go_at_call 41; refine (none_yes _ _ H0.out).mono ?_; rintro e w' ⟨rfl, rfl⟩))
  go_ret
  exact ⟨rfl, by first | exact Below.refl _ _ | exact below_alloc _ _⟩
theorem nDead (w : World) (pa : Option Addr) (v : Value) (s o n : Int) (l : Bool) (h : NoneAt w pa) : Calls Try.prog 25 #[.pointer pa, .agg #[.int .i64 s, .int .i64 o], .int .i64 n] w fun e w' => e = .returned (.int .i64 1) ∧ Below w.heap.size w w' := by
  have H := hide (fun o => h.below (below_alloc w o))
  have H0 := hide h
  clear h
  go_enter Try.func25, Try.ntmps25
  go_wp2_with (first | (go_at_call 41; refine (none_yes _ _ (H.out _)).mono ?_; rintro e w' ⟨rfl, rfl⟩) | (go_at_call 41; refine (none_yes _ _ H0.out).mono ?_; rintro e w' ⟨rfl, rfl⟩))
  go_ret
  exact ⟨rfl, by first | exact Below.refl _ _ | exact below_alloc _ _⟩
theorem nHold (w : World) (pa : Option Addr) (v : Value) (s o n : Int) (l : Bool) (h : NoneAt w pa) : Calls Try.prog 26 #[.pointer pa, .int .i64 n] w fun e w' => e = .returned (.int .i64 1) ∧ Below w.heap.size w w' := by
  have H := hide (fun o => h.below (below_alloc w o))
  have H0 := hide h
  clear h
  go_enter Try.func26, Try.ntmps26
  go_wp2_with (first | (go_at_call 41; refine (none_yes _ _ (H.out _)).mono ?_; rintro e w' ⟨rfl, rfl⟩) | (go_at_call 41; refine (none_yes _ _ H0.out).mono ?_; rintro e w' ⟨rfl, rfl⟩))
  go_ret
  exact ⟨rfl, by first | exact Below.refl _ _ | exact below_alloc _ _⟩
theorem nLet (w : World) (pa : Option Addr) (v : Value) (s o n : Int) (l : Bool) (h : NoneAt w pa) : Calls Try.prog 27 #[.pointer pa, .int .i64 n] w fun e w' => e = .returned (.int .i64 1) ∧ Below w.heap.size w w' := by
  have H := hide (fun o => h.below (below_alloc w o))
  have H0 := hide h
  clear h
  go_enter Try.func27, Try.ntmps27
  go_wp2_with (first | (go_at_call 41; refine (none_yes _ _ (H.out _)).mono ?_; rintro e w' ⟨rfl, rfl⟩) | (go_at_call 41; refine (none_yes _ _ H0.out).mono ?_; rintro e w' ⟨rfl, rfl⟩))
  go_ret
  exact ⟨rfl, by first | exact Below.refl _ _ | exact below_alloc _ _⟩
theorem nFree (w : World) (pa : Option Addr) (v : Value) (s o n : Int) (l : Bool) (h : NoneAt w pa) : Calls Try.prog 31 #[.pointer pa, .int .i64 n] w fun e w' => e = .returned (.int .i64 1) ∧ Below w.heap.size w w' := by
  have H := hide (fun o => h.below (below_alloc w o))
  have H0 := hide h
  clear h
  go_enter Try.func31, Try.ntmps31
  go_wp2_with (first | (go_at_call 41; refine (none_yes _ _ (H.out _)).mono ?_; rintro e w' ⟨rfl, rfl⟩) | (go_at_call 41; refine (none_yes _ _ H0.out).mono ?_; rintro e w' ⟨rfl, rfl⟩))
  go_ret
  exact ⟨rfl, by first | exact Below.refl _ _ | exact below_alloc _ _⟩
theorem nWrite (w : World) (pa : Option Addr) (v : Value) (s o n : Int) (l : Bool) (h : NoneAt w pa) : Calls Try.prog 13 #[.pointer pa, .agg #[.int .i64 s, .int .i64 o], v] w fun e w' => e = .returned (.int .i64 1) ∧ Below w.heap.size w w' := by
  have H := hide (fun o => h.below (below_alloc w o))
  have H0 := hide h
  clear h
  go_enter Try.func13, Try.ntmps13
  go_wp2_with (first | (go_at_call 41; refine (none_yes _ _ (H.out _)).mono ?_; rintro e w' ⟨rfl, rfl⟩) | (go_at_call 41; refine (none_yes _ _ H0.out).mono ?_; rintro e w' ⟨rfl, rfl⟩))
  go_ret
  exact ⟨rfl, by first | exact Below.refl _ _ | exact below_alloc _ _⟩
end Go.Proofs.Ytffoadmaihpgoaa
