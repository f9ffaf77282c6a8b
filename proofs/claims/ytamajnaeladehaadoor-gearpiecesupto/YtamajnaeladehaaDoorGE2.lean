/- Whether a way of cutting may be: both ways. -/
import Derived.Test.YtamajnaeladehaaDoorGE1
namespace Go.Proofs.YtamajnaeladehaaDoor
set_option linter.unusedVariables false
set_option linter.unusedSimpArgs false
open Go.RowKit

theorem pow_pw : ∀ k : Nat, k < 13 → 2 ≤ k → pw ((2 ^ k : Nat) : Int) = k := of_decide_eq_true (by kernel_rfl)
theorem pw_none (me : Int) (h : ∀ j : Nat, 2 ≤ j → j < 13 → me ≠ ((2 ^ j : Nat) : Int)) : pw me = 0 := by
  rcases Nat.eq_zero_or_pos (pw me) with h0 | h0
  · exact h0
  · obtain ⟨_, _, h1, h2, h3⟩ := pw_range me (by omega)
    exact absurd (by rw [Int.natCast_pow]; exact h3) (h (pw me) h1 (by omega))
theorem pow_le13 (k : Nat) (h : k ≤ 13) : 2 ^ k ≤ 8192 := Nat.pow_le_pow_right (by omega) h
set_option maxRecDepth 20000 in
set_option maxHeartbeats 1000000 in
theorem power_any (me : Int) (w : World) : Calls Tryd.prog 37 #[.int .i64 me] w fun e w' => e = .returned (.int .i64 (pw me : Int)) ∧ w' = w := by
  go_enter Tryd.func37, Tryd.ntmps37
  go_wp2
  go_loopw [3, 4] (fun v i wr => ∃ k : Nat, i = .int .i64 k ∧ 2 ≤ k ∧ k ≤ 13 ∧ v = .int .i64 ((2 ^ k : Nat) : Int) ∧ (∀ j, 2 ≤ j → j < k → me ≠ ((2 ^ j : Nat) : Int)) ∧ wr = w) (fun _ i _ => 13 - (intOf i).toNat)
  case atStart => exact ⟨2, rfl, by omega, by omega, rfl, fun j h1 h2 => by omega, rfl⟩
  case round =>
    obtain ⟨k, rfl, hk2, hk, rfl, hne, rfl⟩ := hrel
    obtain ⟨v, hv⟩ : ∃ v : Nat, v = 2 ^ k := ⟨_, rfl⟩
    have hv2 : 2 * v = 2 ^ (k + 1) := by rw [hv, Nat.pow_succ]; omega
    have hv3 : v ≤ 8192 := by rw [hv]; exact pow_le13 k hk
    rw [← hv]
    have HV := hide hv
    have HV2 := hide hv2
    have HN := hide hne
    clear hv hv2 hne
    by_cases hlt : k < 13
    · have hki : (k : Int) ≤ 12 := by omega
      by_cases he : me = (v : Int)
      · subst he
        have HP : Hid (pw (v : Int) = k) := hide (by rw [HV.out]; exact pow_pw k hlt hk2)
        go_wp2
        go_ret
        exact ⟨by rw [HP.out]; rfl, rfl⟩
      · have he2 : ¬ (v : Int) = me := fun e => he e.symm
        have HE := hide he
        clear he
        go_wp2
        refine ⟨⟨k + 1, by go_num, by omega, by omega, ?_, fun j h1 h2 => ?_, by trivial⟩, by simp [intOf]; omega⟩
        · rw [← HV2.out]; congr 1; push_cast; omega
        · by_cases e : j = k
          · rw [e, ← HV.out]; exact HE.out
          · exact HN.out j h1 (by omega)
    · have hki : ¬ (k : Int) ≤ 12 := by omega
      obtain rfl : k = 13 := by omega
      have HP : Hid (pw me = 0) := hide (pw_none me HN.out)
      go_wp2
      go_ret
      exact ⟨by rw [HP.out]; rfl, rfl⟩
theorem pw_out (me : Int) (h : me < 4 ∨ 4096 < me) : pw me = 0 := by
  rcases Nat.eq_zero_or_pos (pw me) with h0 | h0
  · exact h0
  · have := pw_range me (by omega)
    omega
set_option maxRecDepth 20000 in
set_option maxHeartbeats 1000000 in
theorem check_any (mn me mx : Int) (w : World) : Calls Tryd.prog 27 #[cutV mn me mx] w fun e w' => e = .returned (.int .i64 (chk mn me mx)) ∧ Below w.heap.size w w' := by
  unfold cutV
  have HB := hide ((Below.refl w.heap.size w).alloc (Nat.le_refl _) (.cells #[.int .i64 mn, .int .i64 me, .int .i64 mx] 23))
  by_cases h1 : me < 4
  · have HC : Hid (chk mn me mx = 50) := hide (chk_not (.inl (pw_out me (.inl h1))))
    go_enter Tryd.func27, Tryd.ntmps27
    go_wp2
    go_ret
    exact ⟨by rw [HC.out]; rfl, HB.out⟩
  by_cases h2 : 4096 < me
  · have HC : Hid (chk mn me mx = 50) := hide (chk_not (.inl (pw_out me (.inr h2))))
    go_enter Tryd.func27, Tryd.ntmps27
    go_wp2
    go_ret
    exact ⟨by rw [HC.out]; rfl, HB.out⟩
  obtain ⟨m, rfl⟩ : ∃ m : Nat, me = (m : Int) := ⟨me.toNat, by omega⟩
  have hm1 : 4 ≤ m := by omega
  have hm2 : m ≤ 4096 := by omega
  have HO : Hid (∀ (w : World), Calls Tryd.prog 40 #[.int .u64 (m : Int)] w fun e w' => e = .returned (.int .i64 (onesI m)) ∧ w' = w) := hide (fun w => ones_any m (by omega) w)
  have hp := ones_pw m (by omega)
  obtain ⟨o, ho⟩ : ∃ o, o = onesI (m : Int) := ⟨_, rfl⟩
  rw [← ho] at hp HO
  clear ho
  by_cases h3 : ¬ o = 1
  · have HC : Hid (chk mn m mx = 50) := hide (chk_not (.inl (by
      rcases Nat.eq_zero_or_pos (pwN m) with h0 | h0
      · exact h0
      · exact absurd (hp.2 (.inl (by omega))) h3)))
    clear hp
    have h3' : (o == 1) = false := by simpa using h3
    go_enter Tryd.func27, Tryd.ntmps27
    go_wp2_with fail
    refine (HO.out _).mono ?_
    rintro e w' ⟨rfl, rfl⟩
    go_wp2
    go_ret
    exact ⟨by rw [HC.out]; rfl, HB.out⟩
  have h3 : o = 1 := Classical.not_not.1 h3
  have hpw : pw (m : Int) ≠ 0 := by
    rcases hp.1 h3 with h | h | h
    · exact h
    · omega
    · omega
  clear hp
  subst h3
  have HPW := hide hpw
  clear hpw
  by_cases h4 : mn < 1
  · have HC : Hid (chk mn m mx = 50) := hide (chk_not (.inr (.inl (by omega))))
    go_enter Tryd.func27, Tryd.ntmps27
    go_wp2_with fail
    refine (HO.out _).mono ?_
    rintro e w' ⟨rfl, rfl⟩
    go_wp2
    go_ret
    exact ⟨by rw [HC.out]; rfl, HB.out⟩
  by_cases h5 : (m : Int) < mn
  · have HC : Hid (chk mn m mx = 50) := hide (chk_not (.inr (.inr (.inl (by omega)))))
    go_enter Tryd.func27, Tryd.ntmps27
    go_wp2_with fail
    refine (HO.out _).mono ?_
    rintro e w' ⟨rfl, rfl⟩
    go_wp2
    go_ret
    exact ⟨by rw [HC.out]; rfl, HB.out⟩
  by_cases h6 : mx < (m : Int)
  · have HC : Hid (chk mn m mx = 50) := hide (chk_not (.inr (.inr (.inr (.inl (by omega))))))
    go_enter Tryd.func27, Tryd.ntmps27
    go_wp2_with fail
    refine (HO.out _).mono ?_
    rintro e w' ⟨rfl, rfl⟩
    go_wp2
    go_ret
    exact ⟨by rw [HC.out]; rfl, HB.out⟩
  by_cases h7 : 8000 < mx
  · have HC : Hid (chk mn m mx = 50) := hide (chk_not (.inr (.inr (.inr (.inr (by omega))))))
    go_enter Tryd.func27, Tryd.ntmps27
    go_wp2_with fail
    refine (HO.out _).mono ?_
    rintro e w' ⟨rfl, rfl⟩
    go_wp2
    go_ret
    exact ⟨by rw [HC.out]; rfl, HB.out⟩
  have HC : Hid (chk mn m mx = 0) := hide (chk_of HPW.out (by omega) (by omega) (by omega) (by omega))
  go_enter Tryd.func27, Tryd.ntmps27
  go_wp2_with fail
  refine (HO.out _).mono ?_
  rintro e w' ⟨rfl, rfl⟩
  go_wp2
  go_ret
  exact ⟨by rw [HC.out]; rfl, HB.out⟩
set_option maxRecDepth 20000 in
set_option maxHeartbeats 1000000 in
theorem rcheck_any (mn me mx : Int) (w : World) : Calls Tryd.prog 21 #[cutV mn me mx] w fun e w' => e = .returned (.int .i64 (chk mn me mx)) ∧ Below w.heap.size w w' := by
  unfold cutV
  have HB := hide ((Below.refl w.heap.size w).alloc (Nat.le_refl _) (.cells #[.int .i64 mn, .int .i64 me, .int .i64 mx] 23))
  have HO : Hid (∀ (w : World), Calls Tryd.prog 37 #[.int .i64 me] w fun e w' => e = .returned (.int .i64 (pw me : Int)) ∧ w' = w) := hide (fun w => power_any me w)
  obtain ⟨p, hp⟩ : ∃ p, p = pw me := ⟨_, rfl⟩
  rw [← hp] at HO
  have HP := hide hp
  clear hp
  by_cases h3 : p = 0
  · subst h3
    have HC : Hid (chk mn me mx = 50) := hide (chk_not (.inl HP.out.symm))
    go_enter Tryd.func21, Tryd.ntmps21
    go_wp2_with fail
    refine (HO.out _).mono ?_
    rintro e w' ⟨rfl, rfl⟩
    go_wp2
    go_ret
    exact ⟨by rw [HC.out]; rfl, HB.out⟩
  have h3' : ¬ (p : Int) = 0 := by omega
  have HPW : Hid (pw me ≠ 0) := hide (by rw [← HP.out]; exact h3)
  by_cases h4 : mn < 1
  · have HC : Hid (chk mn me mx = 50) := hide (chk_not (.inr (.inl (by omega))))
    go_enter Tryd.func21, Tryd.ntmps21
    go_wp2_with fail
    refine (HO.out _).mono ?_
    rintro e w' ⟨rfl, rfl⟩
    go_wp2
    go_ret
    exact ⟨by rw [HC.out]; rfl, HB.out⟩
  by_cases h5 : me < mn
  · have HC : Hid (chk mn me mx = 50) := hide (chk_not (.inr (.inr (.inl (by omega)))))
    go_enter Tryd.func21, Tryd.ntmps21
    go_wp2_with fail
    refine (HO.out _).mono ?_
    rintro e w' ⟨rfl, rfl⟩
    go_wp2
    go_ret
    exact ⟨by rw [HC.out]; rfl, HB.out⟩
  by_cases h6 : mx < me
  · have HC : Hid (chk mn me mx = 50) := hide (chk_not (.inr (.inr (.inr (.inl (by omega))))))
    go_enter Tryd.func21, Tryd.ntmps21
    go_wp2_with fail
    refine (HO.out _).mono ?_
    rintro e w' ⟨rfl, rfl⟩
    go_wp2
    go_ret
    exact ⟨by rw [HC.out]; rfl, HB.out⟩
  by_cases h7 : 8000 < mx
  · have HC : Hid (chk mn me mx = 50) := hide (chk_not (.inr (.inr (.inr (.inr (by omega))))))
    go_enter Tryd.func21, Tryd.ntmps21
    go_wp2_with fail
    refine (HO.out _).mono ?_
    rintro e w' ⟨rfl, rfl⟩
    go_wp2
    go_ret
    exact ⟨by rw [HC.out]; rfl, HB.out⟩
  have hall : ((p : Int) == 0 || decide (mn < 1) || decide (me < mn) || decide (mx < me) || decide (8000 < mx)) = false := by
    simp only [h4, h5, h6, h7, decide_false, Bool.or_false]; simpa using h3'
  have HC : Hid (chk mn me mx = 0) := hide (chk_of HPW.out (by omega) (by omega) (by omega) (by omega))
  go_enter Tryd.func21, Tryd.ntmps21
  go_wp2_with fail
  refine (HO.out _).mono ?_
  rintro e w' ⟨rfl, rfl⟩
  go_wp2
  go_ret
  exact ⟨by rw [HC.out]; rfl, HB.out⟩
end Go.Proofs.YtamajnaeladehaaDoor
