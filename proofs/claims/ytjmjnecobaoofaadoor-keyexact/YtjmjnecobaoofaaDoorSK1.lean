/- A word turned right, as the program does it, and as the document does. -/
import Derived.Test.YtjmjnecobaoofaaDoorSA
namespace Go.Proofs.YtjmjnecobaoofaaDoor
set_option linter.unusedVariables false
set_option linter.unusedSimpArgs false
open Go.RowKit

set_option maxRecDepth 20000 in
theorem rotl_any (w : World) (x n : Nat) (hx : x < 4294967296) (h1 : 1 ≤ n) (h2 : n ≤ 31) (q : Int) (hq : q = -n) : Calls Tryd.prog 49 #[.int .u32 x, .int .i64 q] w fun e w' => e = .returned (.int .u32 (rr n x : Nat)) ∧ w' = w := by
  obtain ⟨m, hm⟩ : ∃ m : Nat, m = 18446744073709551616 - n := ⟨_, rfl⟩
  obtain ⟨s, hs⟩ : ∃ s : Nat, s = 32 - n := ⟨_, rfl⟩
  have a1 : IntKind.u64.wrap q = (m : Int) := by rw [IntKind.wrap_u64]; omega
  have a2 : bits .and .u64 (m : Int) 31 = (s : Int) := by
    rw [show (31 : Int) = ((31 : Nat) : Int) from rfl, u64_and_nat m 31 (by omega) (by decide), show (31 : Nat) = 2 ^ 5 - 1 from rfl, Nat.and_two_pow_sub_one_eq_mod]; omega
  have a3 : IntKind.u64.wrap (32 - s) = (n : Int) := by rw [IntKind.wrap_u64]; omega
  have a4 : IntKind.u32.wrap ((x : Int) * 2 ^ s) = ((x * 2 ^ s % 4294967296 : Nat) : Int) := by rw [IntKind.wrap_u32']; simp
  have a5 : bits .or .u32 ((x : Int) * 2 ^ s % 4294967296) ((x : Int) / 2 ^ n) = ((rr n x : Nat) : Int) := by
    have e1 : (x : Int) * 2 ^ s % 4294967296 = ((x * 2 ^ s % 4294967296 : Nat) : Int) := by simp
    have e2 : (x : Int) / 2 ^ n = ((x / 2 ^ n : Nat) : Int) := by simp
    rw [e1, e2, u32_or_nat _ _ (Nat.mod_lt _ (by decide)) (Nat.lt_of_le_of_lt (Nat.div_le_self _ _) hx), hs, rr_or n x (by omega) hx]
  have hs32 : s < 32 := by omega
  clear hm hs hq
  go_enter Tryd.func49, Tryd.ntmps49
  go_wp2
  go_ret
  exact ⟨rfl, rfl⟩
set_option maxRecDepth 20000 in
theorem right_any (w : World) (x n : Nat) (hx : x < 4294967296) (h1 : 1 ≤ n) (h2 : n ≤ 31) : Calls Tryd.prog 48 #[.int .u32 x, .int .i64 n] w fun e w' => e = .returned (.int .u32 (rr n x : Nat)) ∧ w' = w := by
  go_enter Tryd.func48, Tryd.ntmps48
  go_wp2_with fail
  refine (rotl_any _ x n hx h1 h2 _ (by go_num)).mono ?_
  rintro e w' ⟨rfl, rfl⟩
  go_wp2
  go_ret
  exact ⟨rfl, rfl⟩
theorem pow_lt33 (n : Nat) (h : n ≤ 32) : 2 ^ n ≤ 4294967296 := Nat.pow_le_pow_right (n := 2) (by decide) h
set_option maxRecDepth 20000 in
theorem part_any (w : World) (n : Nat) (h : n ≤ 32) : Calls Tryd.prog 33 #[.int .i64 n] w fun e w' => e = .returned (.int .u64 (2 ^ n : Nat)) ∧ w' = w := by
  go_enter Tryd.func33, Tryd.ntmps33
  go_wp2
  go_loopw [3, 4] (fun v i wr => ∃ k : Nat, i = .int .i64 k ∧ k ≤ n ∧ v = .int .u64 (2 ^ k : Nat) ∧ wr = w) (fun _ i _ => n - (intOf i).toNat)
  case atStart => exact ⟨0, rfl, by omega, rfl, rfl⟩
  case round =>
    obtain ⟨k, rfl, hk, rfl, rfl⟩ := hrel
    have hp := pow_lt33 k (by omega)
    obtain ⟨p, hpp⟩ : ∃ p, p = 2 ^ k := ⟨_, rfl⟩
    rw [← hpp] at hp ⊢
    have HP := hide hpp
    clear hpp
    by_cases hlt : k < n
    · have g : IntKind.u64.wrap ((p : Int) * 2) = ((p * 2 : Nat) : Int) := by rw [IntKind.wrap_u64]; omega
      go_wp2
      refine ⟨⟨k + 1, by go_num, by omega, ?_, by trivial⟩, by simp [intOf]; omega⟩
      rw [Nat.pow_succ, ← HP.out]
      first | rfl | simp
    · go_wp2
      go_ret
      obtain rfl : k = n := by omega
      rw [← HP.out]
      exact ⟨rfl, rfl⟩
theorem wrapi64_nat (n : Nat) (h : n < 9223372036854775808) : IntKind.i64.wrap (n : Int) = (n : Int) := by simp [IntKind.wrap, IntKind.bits, IntKind.signed]; omega
theorem wrap64_nat (n : Nat) (h : n < 18446744073709551616) : IntKind.u64.wrap (n : Int) = (n : Int) := by rw [IntKind.wrap_u64]; omega
set_option maxRecDepth 20000 in
theorem rright_any (w : World) (x n : Nat) (hx : x < 4294967296) (h : n ≤ 32) : Calls Tryd.prog 45 #[.int .u64 x, .int .i64 n] w fun e w' => e = .returned (.int .u64 (x / 2 ^ n : Nat)) ∧ w' = w := by
  have HP := hide (fun w => part_any w n h)
  have hp := Nat.two_pow_pos n
  have hd : x / 2 ^ n ≤ x := Nat.div_le_self _ _
  have c2 : (x : Int) / (2 ^ n : Nat) = ((x / 2 ^ n : Nat) : Int) := rfl
  generalize x / 2 ^ n = d at c2 hd ⊢
  generalize 2 ^ n = p at HP hp c2
  have hne : ¬ (p : Int) = 0 := by omega
  have hne2 : ¬ p = 0 := by omega
  have c3 := wrap64_nat d (by omega)
  go_enter Tryd.func45, Tryd.ntmps45
  go_wp2_with fail
  refine (HP.out _).mono ?_
  rintro e w' ⟨rfl, rfl⟩
  go_wp2
  go_ret
  exact ⟨rfl, rfl⟩
set_option maxRecDepth 20000 in
set_option maxHeartbeats 1000000 in
theorem turned_any (w : World) (x n : Nat) (hx : x < 4294967296) (h : n ≤ 32) : Calls Tryd.prog 44 #[.int .u64 x, .int .i64 n] w fun e w' => e = .returned (.int .u64 (rr n x : Nat)) ∧ ∃ m, w' = w.drewN m := by
  have HP := hide (fun w => part_any w n h)
  obtain ⟨l, hl⟩ : ∃ l, l = 32 - n := ⟨_, rfl⟩
  have g0 : (32 : Int) - n = (l : Int) := by omega
  have HQ := hide (fun w => part_any w l (by omega))
  have hp := Nat.two_pow_pos n
  have hr := rr_lt n x h hx
  have hrd : rr n x = x / 2 ^ n + x % 2 ^ n * 2 ^ l := by rw [hl]; rfl
  have c2 : (x : Int) / (2 ^ n : Nat) = ((x / 2 ^ n : Nat) : Int) := rfl
  have c3 : (x : Int).tmod (2 ^ n : Nat) = ((x % 2 ^ n : Nat) : Int) := by rw [Int.tmod_eq_emod_of_nonneg (by omega)]; rfl
  have hl32 : l ≤ 32 := by omega
  have c0 := wrapi64_nat l (by omega)
  have c4 : ((x % 2 ^ n : Nat) : Int) * ((2 ^ l : Nat) : Int) = ((x % 2 ^ n * 2 ^ l : Nat) : Int) := by simp
  generalize x % 2 ^ n * 2 ^ l = y at hrd c4
  generalize x / 2 ^ n = d at c2 hrd
  generalize x % 2 ^ n = m at c3 c4
  generalize 2 ^ n = p at HP hp c2 c3
  generalize 2 ^ l = r at HQ c4
  generalize rr n x = z at hr hrd ⊢
  have hne : ¬ (p : Int) = 0 := by omega
  have hne2 : ¬ p = 0 := by omega
  have c5 := wrap64_nat d (by omega)
  have c6 : IntKind.u64.wrap ((m : Int) * (r : Int)) = (y : Int) := by rw [c4]; exact wrap64_nat y (by omega)
  have c7 : IntKind.u64.wrap ((d : Int) + (y : Int)) = (z : Int) := by rw [IntKind.wrap_u64]; omega
  clear hl hrd c4
  go_enter Tryd.func44, Tryd.ntmps44
  go_wp2
  refine wp_region_quiet_lit (by kernel_rfl) (by kernel_rfl) ?_
  quiet_step (fail)
  quiet_step (fail)
  quiet_step (exact Calls.quiet_of_same (HP.out _))
  quiet_step (fail)
  quiet_step (fail)
  quiet_step (fail)
  quiet_step (exact Calls.quiet_of_same (HP.out _))
  quiet_step (fail)
  quiet_step (fail)
  quiet_step (fail)
  quiet_step (exact Calls.quiet_of_same (HQ.out _))
  quiet_step (fail)
  quiet_step (fail)
  quiet_step (fail)
  refine wpQuiet_nil ?_
  intro _ hw'
  obtain ⟨nq, hw''⟩ := hw'
  subst hw''
  go_wp2
  go_ret
  exact ⟨rfl, _, rfl⟩
end Go.Proofs.YtjmjnecobaoofaaDoor
