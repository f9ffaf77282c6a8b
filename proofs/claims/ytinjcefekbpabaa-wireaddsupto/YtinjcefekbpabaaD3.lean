/- wire.first: the number at the beginning of some bytes. -/
import Derived.Test.YtinjcefekbpabaaD2
import Derived.Test.YtinjcefekbpabaaP1
namespace Go.Proofs.Ytinjcefekbpabaa
set_option linter.unusedVariables false
set_option linter.unusedSimpArgs false
open Go.RowKit

def FirstOk (r : Nat × Nat × Nat) (w : World) (e : Ending) (w' : World) : Prop := e = .returned (.tuple #[.int .u64 r.1, .int .i64 r.2.1, .int .i64 r.2.2]) ∧ w' = w

set_option maxRecDepth 100000 in
set_option maxHeartbeats 800000 in
theorem first_any (w : World) (sv : Value) (xs : List UInt8) (h : Rd w sv xs) :
    Calls Try.prog 79 #[sv] w (FirstOk (firstGo 0 0 xs) w) := by
  obtain ⟨ao, c, rfl, hc, hm, hcell⟩ := h
  unfold maxLen at hm
  go_enter Try.func79, Try.ntmps79
  go_wp2
  go_loop [5, 10] (fun v i => ∃ k x : Nat, k ≤ xs.length ∧ k ≤ 9 ∧ i = .int .i64 k ∧ v = .int .u64 x ∧ x < 128 ^ k ∧ firstGo 0 0 xs = firstGo x k (xs.drop k)) (fun _ i => xs.length - (intOf i).toNat)
  case atStart => exact ⟨0, 0, Nat.zero_le _, Nat.zero_le _, rfl, rfl, by decide, rfl⟩
  case round =>
    obtain ⟨k, x, hk, hk9, rfl, rfl, hx0, hf⟩ := hrel
    have HX := hide hx0
    clear hx0
    by_cases hlt : k < xs.length
    · have hd : xs.drop k = xs[k] :: xs.drop (k + 1) := List.drop_eq_getElem_cons hlt
      obtain ⟨b, o, rfl, hcel⟩ : ∃ b o, ao = some ⟨b, o, none⟩ ∧ ∀ i (h : i < xs.length), w.cell? ⟨b, o + i, none⟩ = some (u8c xs[i]) := by
        rcases hcell with ⟨_, h⟩ | h
        · omega
        · exact h
      have hck := hcel k hlt
      rw [hd] at hf
      have HF := hide hf
      clear hf hd hcell hcel
      obtain ⟨u, hu⟩ : ∃ u, u = xs[k] := ⟨_, rfl⟩
      rw [← hu] at hck HF
      have hub : u.toNat < 256 := u.toNat_lt
      clear hu
      unfold u8c at hck
      obtain ⟨y, hy⟩ : ∃ y, y = u.toNat := ⟨_, rfl⟩
      rw [← hy] at hck hub
      have HY := hide hy
      clear hy
      go_wp2
      case roundEnd =>
        have h9 : ¬ (k : Int) = 9 := by assumption
        have h1 : (128 : Int) ≤ (y : Int) := by assumption
        have hor := or_step x y k HX.out hub hk9 (fun e => absurd (by omega) h9)
        go_round
        case rel =>
          refine ⟨k + 1, x + y % 128 * 128 ^ k, by omega, by omega, by go_num, by rw [hor], step_lt x y k HX.out, ?_⟩
          rw [HF.out, HY.out]
          exact first_more x u _ k (by omega) (by rw [← HY.out]; omega)
        case measure => simp [intOf]; omega
      all_goals go_ret3
      · have h9 : (k : Int) = 9 := by assumption
        have h1 : (1 : Int) < (y : Int) := by assumption
        rw [HF.out, first_form9 x u _ k (by omega) (by rw [← HY.out]; omega)]
        exact ⟨rfl, rfl⟩
      · have h9 : (k : Int) = 9 := by assumption
        have h0 : y = 0 := by assumption
        rw [HF.out, first_form0 x u _ k (fun _ => by rw [← HY.out]; omega) (by rw [← HY.out]; exact h0) (by omega)]
        exact ⟨rfl, rfl⟩
      · have h9 : (k : Int) = 9 := by assumption
        have h1 : (y : Int) ≤ 1 := by assumption
        have h0 : ¬ y = 0 := by assumption
        obtain rfl : k = 9 := by omega
        have hor := or_step x y 9 HX.out hub hk9 (fun _ => by omega)
        rw [show (2 : Int) ^ (7 * 9) = 9223372036854775808 from by decide] at hor
        rw [HF.out, first_end x u _ 9 (fun _ => by rw [← HY.out]; omega) (by rw [← HY.out]; omega) (by rw [← HY.out]; omega), ← HY.out]
        exact ⟨congrArg (fun q => Ending.returned (.tuple #[.int .u64 q, .int .i64 10, .int .i64 0])) hor, rfl⟩
      · have h9 : ¬ (k : Int) = 9 := by assumption
        have h0 : y = 0 := by assumption
        have hk0 : 0 < k := by assumption
        rw [HF.out, first_form0 x u _ k (fun _ => by rw [← HY.out]; omega) (by rw [← HY.out]; exact h0) hk0]
        exact ⟨rfl, rfl⟩
      · have h9 : ¬ (k : Int) = 9 := by assumption
        have h0 : y = 0 := by assumption
        have hk0 : ¬ 0 < k := by assumption
        subst h0
        have hor : bits .or .u64 (x : Int) (IntKind.u64.wrap (IntKind.u64.wrap (bits .and .u8 0 127) * 2 ^ (7 * k))) = ((x + 0 % 128 * 128 ^ k : Nat) : Int) := or_step x 0 k HX.out hub hk9 (fun _ => by omega)
        rw [HF.out, first_end x u _ k (fun _ => by rw [← HY.out]; omega) (by rw [← HY.out]; omega) (by omega), ← HY.out]
        exact ⟨congrArg (fun q => Ending.returned (.tuple #[.int .u64 q, .int .i64 ((k : Int) + 1), .int .i64 0])) hor, rfl⟩
      · have h9 : ¬ (k : Int) = 9 := by assumption
        have h1 : (y : Int) < 128 := by assumption
        have h0 : ¬ y = 0 := by assumption
        have hor := or_step x y k HX.out hub hk9 (fun _ => by omega)
        rw [HF.out, first_end x u _ k (fun _ => by omega) (by rw [← HY.out]; omega) (by rw [← HY.out]; omega), ← HY.out]
        exact ⟨congrArg (fun q => Ending.returned (.tuple #[.int .u64 q, .int .i64 ((k : Int) + 1), .int .i64 0])) hor, rfl⟩
    · have HF := hide hf
      clear hf hcell
      go_wp2
      go_ret3
      rw [HF.out, List.drop_eq_nil_of_le (by omega)]
      exact ⟨rfl, rfl⟩
end Go.Proofs.Ytinjcefekbpabaa
