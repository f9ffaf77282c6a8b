/- What every call of a nil Arena and of a zero one answers: those with other results. -/
import Derived.Test.YtffoadmaihpgoaaAN2
namespace Go.Proofs.Ytffoadmaihpgoaa
set_option linter.unusedVariables false
set_option linter.unusedSimpArgs false
open Go.RowKit

theorem bcell {W w1 : World} (hb : Below W.heap.size W w1) : (∀ b o, b < W.heap.size → w1.cell? ⟨b, o, none⟩ = W.cell? ⟨b, o, none⟩) ∧ (∀ b o, b < W.heap.size → w1.frozen? ⟨b, o, none⟩ = W.frozen? ⟨b, o, none⟩) :=
  ⟨fun b o h => hb.cell (p := ⟨b, o, none⟩) h, fun b o h => hb.frozen (p := ⟨b, o, none⟩) h⟩
theorem nreserve (w : World) (pa : Option Addr) (f : Value) (k n : Int) (h : NoneAt w pa) : Calls Try.prog 38 #[.pointer pa, .int .u8 k, .int .i64 n, f] w fun e w' => e = .returned (.tuple #[.agg #[.int .i64 0, .int .i64 0], .int .i64 1]) ∧ Below w.heap.size w w' := by
  have H := hide (fun o => h.below (below_alloc w o))
  clear h
  go_enter Try.func38, Try.ntmps38
  go_wp2_with (go_at_call 41; refine (none_yes _ _ (H.out _)).mono ?_; rintro e w' ⟨rfl, rfl⟩)
  exact bodyPost_ret (v := .tuple #[.agg #[.int .i64 0, .int .i64 0], .int .i64 1]) (by simp [results, Try.results38, go_sem]) rfl ⟨rfl, by first | exact below_alloc _ _ | exact (below_alloc _ _).setCell (by simp) _⟩
theorem nReserve (w : World) (pa : Option Addr) (n : Int) (h : NoneAt w pa) : Calls Try.prog 12 #[.pointer pa, .int .i64 n] w fun e w' => e = .returned (.tuple #[.agg #[.int .i64 0, .int .i64 0], .int .i64 1]) ∧ Below w.heap.size w w' := by
  have H := hide (fun o o' => (h.below (below_alloc w o)).below (below_alloc _ o'))
  clear h
  go_enter Try.func12, Try.ntmps12
  go_wp2_with (go_at_call 38; refine (nreserve _ _ _ _ _ (H.out _ _)).mono ?_; rintro e w1 ⟨rfl, hb⟩; have HBW := hide ((((Below.refl w.heap.size w).alloc (Nat.le_refl _) _).alloc (by simp) _).trans (hb.mono (by simp; omega))); obtain ⟨hc, hf⟩ := bcell hb; have hz : w.heap.size + 1 < w1.heap.size := (by have := hb.size; simp at this; omega); clear hb)
  exact bodyPost_ret (v := .tuple #[.agg #[.int .i64 0, .int .i64 0], .int .i64 1]) (by simp [results, Try.results12, go_sem, hc, hz]) rfl ⟨rfl, by repeat (first | exact HBW.out | refine Below.setCell ?_ (by simp) _)⟩
theorem nReserveDest (w : World) (pa : Option Addr) (n : Int) (h : NoneAt w pa) : Calls Try.prog 24 #[.pointer pa, .int .i64 n] w fun e w' => e = .returned (.tuple #[.agg #[.int .i64 0, .int .i64 0], .int .i64 1]) ∧ Below w.heap.size w w' := by
  have H := hide (fun o o' => (h.below (below_alloc w o)).below (below_alloc _ o'))
  clear h
  go_enter Try.func24, Try.ntmps24
  go_wp2_with (go_at_call 38; refine (nreserve _ _ _ _ _ (H.out _ _)).mono ?_; rintro e w1 ⟨rfl, hb⟩; have HBW := hide ((((Below.refl w.heap.size w).alloc (Nat.le_refl _) _).alloc (by simp) _).trans (hb.mono (by simp; omega))); obtain ⟨hc, hf⟩ := bcell hb; have hz : w.heap.size + 1 < w1.heap.size := (by have := hb.size; simp at this; omega); clear hb)
  exact bodyPost_ret (v := .tuple #[.agg #[.int .i64 0, .int .i64 0], .int .i64 1]) (by simp [results, Try.results24, go_sem, hc, hz]) rfl ⟨rfl, by repeat (first | exact HBW.out | refine Below.setCell ?_ (by simp) _)⟩
theorem nRead (w : World) (pa : Option Addr) (v : Value) (s o n : Int) (l : Bool) (h : NoneAt w pa) : Calls Try.prog 16 #[.pointer pa, .agg #[.int .i64 s, .int .i64 o], .int .i64 n] w fun e w' => e = .returned (.tuple #[.slice none 0 0, .int .i64 1]) ∧ Below w.heap.size w w' := by
  have H := hide (fun o => h.below (below_alloc w o))
  have H0 := hide h
  clear h
  go_enter Try.func16, Try.ntmps16
  go_wp2_with (first | (go_at_call 41; refine (none_yes _ _ (H.out _)).mono ?_; rintro e w' ⟨rfl, rfl⟩) | (go_at_call 41; refine (none_yes _ _ H0.out).mono ?_; rintro e w' ⟨rfl, rfl⟩))
  go_ret2
  exact ⟨rfl, by first | exact Below.refl _ _ | exact below_alloc _ _⟩
theorem nSeal (w : World) (pa : Option Addr) (v : Value) (s o n : Int) (l : Bool) (h : NoneAt w pa) : Calls Try.prog 28 #[.pointer pa] w fun e w' => e = .returned (.tuple #[]) ∧ Below w.heap.size w w' := by
  have H := hide (fun o => h.below (below_alloc w o))
  have H0 := hide h
  clear h
  go_enter Try.func28, Try.ntmps28
  go_wp2_with (first | (go_at_call 41; refine (none_yes _ _ (H.out _)).mono ?_; rintro e w' ⟨rfl, rfl⟩) | (go_at_call 41; refine (none_yes _ _ H0.out).mono ?_; rintro e w' ⟨rfl, rfl⟩))
  go_returns
  exact ⟨rfl, by first | exact Below.refl _ _ | exact below_alloc _ _⟩
theorem nFinish (w : World) (pa : Option Addr) (v : Value) (s o n : Int) (l : Bool) (h : NoneAt w pa) : Calls Try.prog 32 #[.pointer pa] w fun e w' => e = .returned (.tuple #[]) ∧ Below w.heap.size w w' := by
  have H := hide (fun o => h.below (below_alloc w o))
  have H0 := hide h
  clear h
  go_enter Try.func32, Try.ntmps32
  go_wp2_with (first | (go_at_call 41; refine (none_yes _ _ (H.out _)).mono ?_; rintro e w' ⟨rfl, rfl⟩) | (go_at_call 41; refine (none_yes _ _ H0.out).mono ?_; rintro e w' ⟨rfl, rfl⟩))
  go_returns
  exact ⟨rfl, by first | exact Below.refl _ _ | exact below_alloc _ _⟩
theorem nVictims (w : World) (pa : Option Addr) (v : Value) (s o n : Int) (l : Bool) (h : NoneAt w pa) : Calls Try.prog 30 #[.pointer pa] w fun e w' => e = .returned (.slice none 0 0) ∧ Below w.heap.size w w' := by
  have H := hide (fun o => h.below (below_alloc w o))
  have H0 := hide h
  clear h
  go_enter Try.func30, Try.ntmps30
  go_wp2_with (first | (go_at_call 41; refine (none_yes _ _ (H.out _)).mono ?_; rintro e w' ⟨rfl, rfl⟩) | (go_at_call 41; refine (none_yes _ _ H0.out).mono ?_; rintro e w' ⟨rfl, rfl⟩))
  go_ret
  exact ⟨rfl, by first | exact Below.refl _ _ | exact below_alloc _ _⟩
theorem nSegments (w : World) (pa : Option Addr) (v : Value) (s o n : Int) (l : Bool) (h : NoneAt w pa) : Calls Try.prog 18 #[.pointer pa] w fun e w' => e = .returned (.slice none 0 0) ∧ Below w.heap.size w w' := by
  have H := hide (fun o => h.below (below_alloc w o))
  have H0 := hide h
  clear h
  go_enter Try.func18, Try.ntmps18
  go_wp2_with (first | (go_at_call 41; refine (none_yes _ _ (H.out _)).mono ?_; rintro e w' ⟨rfl, rfl⟩) | (go_at_call 41; refine (none_yes _ _ H0.out).mono ?_; rintro e w' ⟨rfl, rfl⟩))
  go_ret
  exact ⟨rfl, by first | exact Below.refl _ _ | exact below_alloc _ _⟩
theorem nBytes (w : World) (pa : Option Addr) (v : Value) (s o n : Int) (l : Bool) (h : NoneAt w pa) : Calls Try.prog 33 #[.pointer pa, .int .i64 n] w fun e w' => e = .returned (.slice none 0 0) ∧ Below w.heap.size w w' := by
  have H := hide (fun o => h.below (below_alloc w o))
  have H0 := hide h
  clear h
  go_enter Try.func33, Try.ntmps33
  go_wp2_with (first | (go_at_call 41; refine (none_yes _ _ (H.out _)).mono ?_; rintro e w' ⟨rfl, rfl⟩) | (go_at_call 41; refine (none_yes _ _ H0.out).mono ?_; rintro e w' ⟨rfl, rfl⟩))
  go_ret
  exact ⟨rfl, by first | exact Below.refl _ _ | exact below_alloc _ _⟩
theorem ntold (w : World) (pa : Option Addr) (v : Value) (s o n : Int) (l : Bool) (h : NoneAt w pa) : Calls Try.prog 65 #[.pointer pa, .bool l] w fun e w' => e = .returned (.slice none 0 0) ∧ Below w.heap.size w w' := by
  have H := hide (fun o => h.below (below_alloc w o))
  have H0 := hide h
  clear h
  go_enter Try.func65, Try.ntmps65
  go_wp2_with (first | (go_at_call 41; refine (none_yes _ _ (H.out _)).mono ?_; rintro e w' ⟨rfl, rfl⟩) | (go_at_call 41; refine (none_yes _ _ H0.out).mono ?_; rintro e w' ⟨rfl, rfl⟩))
  go_ret
  exact ⟨rfl, by first | exact Below.refl _ _ | exact below_alloc _ _⟩
theorem nLive (w : World) (pa : Option Addr) (h : NoneAt w pa) : Calls Try.prog 35 #[.pointer pa] w fun e w' => e = .returned (.slice none 0 0) ∧ Below w.heap.size w w' := by
  have H := hide h
  clear h
  go_enter Try.func35, Try.ntmps35
  go_wp2_with (go_at_call 65; refine (ntold _ _ (.bool true) 0 0 0 _ H.out).mono ?_; rintro e w' ⟨rfl, hb⟩)
  go_ret
  exact ⟨rfl, hb⟩
theorem nPending (w : World) (pa : Option Addr) (h : NoneAt w pa) : Calls Try.prog 36 #[.pointer pa] w fun e w' => e = .returned (.slice none 0 0) ∧ Below w.heap.size w w' := by
  have H := hide h
  clear h
  go_enter Try.func36, Try.ntmps36
  go_wp2_with (go_at_call 65; refine (ntold _ _ (.bool true) 0 0 0 _ H.out).mono ?_; rintro e w' ⟨rfl, hb⟩)
  go_ret
  exact ⟨rfl, hb⟩
theorem nConfig (w : World) (pa : Option Addr) (h : NoneAt w pa) : Calls Try.prog 17 #[.pointer pa] w fun e w' => e = .returned (.agg #[.int .i64 0, .int .i64 0]) ∧ Below w.heap.size w w' := by
  have H := hide (fun o => h.below (below_alloc w o))
  clear h
  go_enter Try.func17, Try.ntmps17
  go_wp2_with (go_at_call 41; refine (none_yes _ _ (H.out _)).mono ?_; rintro e w' ⟨rfl, rfl⟩)
  exact bodyPost_ret (v := .agg #[.int .i64 0, .int .i64 0]) (by simp [results, Try.results17, go_sem]) rfl ⟨rfl, by first | exact below_alloc _ _⟩
theorem nnumbers (w : World) : Calls Try.prog 29 #[.slice none 0 0] w fun e w' => e = .returned (.string ⟨#[]⟩) ∧ w' = w := by
  go_enter Try.func29, Try.ntmps29
  go_wp2
  go_rounds 1
  go_wp2
  go_ret
  exact ⟨rfl, rfl⟩
theorem nrooms (w : World) : Calls Try.prog 34 #[.slice none 0 0] w fun e w' => e = .returned (.string ⟨#[]⟩) ∧ w' = w := by
  go_enter Try.func34, Try.ntmps34
  go_wp2
  go_rounds 1
  go_wp2
  go_ret
  exact ⟨rfl, rfl⟩
theorem nsegments (w : World) : Calls Try.prog 19 #[.slice none 0 0] w fun e w' => e = .returned (.string ⟨#[]⟩) ∧ w' = w := by
  go_enter Try.func19, Try.ntmps19
  go_wp2
  go_rounds 1
  go_wp2
  go_ret
  exact ⟨rfl, rfl⟩
end Go.Proofs.Ytffoadmaihpgoaa
