/- A quotient by one or more, by two or more; the mean of some numbers, step by step. -/
import Derived.Test.YtbemmhngadpjcaaFL4
namespace Go.Proofs.Ytbemmhngadpjcaa
set_option linter.unusedVariables false
set_option linter.unusedSimpArgs false
open Ieee

theorem dv_half (x : Nat) (h : 9007199254740992 ≤ x) : dv x = 2 * dv (x - 4503599627370496) := by
  obtain ⟨s, B, e1, v1, b1, c1⟩ := dv_rep x
  obtain ⟨u, rfl⟩ : ∃ u, s = u + 1 := ⟨s - 1, by omega⟩
  rw [v1, show x - 4503599627370496 = u * 4503599627370496 + B by omega, dv_of u B b1 (.inr (by omega)), Nat.pow_succ, ← Nat.mul_assoc, Nat.mul_comm]
theorem dv_small (x : Nat) (h : x < 9007199254740992) : dv x = x := by
  have := dv_of 0 x h (.inl rfl)
  simpa using this
theorem log2_top (n : Nat) (h1 : 4503599627370496 ≤ n) (h2 : n < 9007199254740992) : n.log2 = 52 := by
  have a := Nat.log2_self_le (n := n) (by omega)
  have b := Nat.lt_log2_self (n := n)
  have c : ¬ 53 ≤ n.log2 := fun h => by
    have := Nat.pow_le_pow_right (n := 2) (by omega) h
    rw [show (2 : Nat) ^ 53 = 9007199254740992 from rfl] at this
    omega
  have d : ¬ n.log2 + 1 ≤ 52 := fun h => by
    have := Nat.pow_le_pow_right (n := 2) (by omega) h
    rw [show (2 : Nat) ^ 52 = 4503599627370496 from rfl] at this
    omega
  omega
theorem log2_low (m : Nat) (h0 : m ≠ 0) (h2 : m < 9007199254740992) : m.log2 ≤ 52 := by
  have a := Nat.log2_self_le h0
  have c : ¬ 53 ≤ m.log2 := fun h => by
    have := Nat.pow_le_pow_right (n := 2) (by omega) h
    rw [show (2 : Nat) ^ 53 = 9007199254740992 from rfl] at this
    omega
  omega
theorem quo_le (D n C : Nat) (hn : 0 < n) (h : D ≤ C * n) : 2 * (D / n) + (D % n != 0).toNat ≤ 2 * C := by
  have hdm := Nat.div_add_mod D n
  by_cases hr : D % n = 0
  · rw [hr] at hdm ⊢
    have : D / n ≤ C := by
      rw [Nat.div_le_iff_le_mul_add_pred hn, Nat.mul_comm]; omega
    simp; omega
  · have hlt : D / n < C := by
      rcases Nat.lt_or_ge (D / n) C with q | q
      · exact q
      · have hm := Nat.mul_le_mul_left n q
        rw [Nat.mul_comm n C] at hm
        omega
    have hb : ∀ b : Bool, b.toNat ≤ 1 := fun b => by cases b <;> decide
    have := hb (D % n != 0)
    omega
theorem div_near (s : Bool) (x k : Nat) (hx : x < infR) (hk : k < infR) (hk1 : 2 ^ uE ≤ dv k) : ∃ r, double.div (double.word s x) (double.word false k) = some (double.word s r) ∧ r ≤ x ∧ (2 ^ (uE + 1) ≤ dv k → 9007199254740992 ≤ x → r + 4503599627370496 ≤ x) := by
  obtain ⟨m, p, e1, v1, m53, z1, _⟩ := read_fin s x hx
  obtain ⟨n, q, e2, v2, n53, z2, n52⟩ := read_fin false k hk
  have hp52 : (2 : Nat) ^ 53 ≤ 2 ^ uE := Nat.pow_le_pow_right (by omega) (by unfold uE; omega)
  have hkQ : 4503599627370496 ≤ k := by
    rcases Nat.lt_or_ge k 4503599627370496 with h | h
    · rw [dv_small k (by omega)] at hk1
      rw [show (2 : Nat) ^ 53 = 9007199254740992 from rfl] at hp52
      omega
    · exact h
  have hnQ := n52 hkQ
  have hn0 : n ≠ 0 := by omega
  have ln := log2_top n hnQ n53
  by_cases hm0 : m = 0
  · obtain ⟨more, hmore⟩ : ∃ more, more = double.fractionBits + 2 + n.log2 - m.log2 := ⟨_, rfl⟩
    obtain ⟨r, e, hr, h0⟩ := near_word s (2 * (m <<< more / n) + (m <<< more % n != 0).toNat) ((p : Int) - 1074 - ((q : Int) - 1074) - more - 1)
    have hr0 : r = 0 := h0 (by rw [hm0]; simp)
    refine ⟨r, by unfold Format.div; rw [e1, e2]; simp only [Datum.quotient, if_neg hn0, ← hmore, Bool.xor_false]; exact congrArg some e, by omega, fun _ h => ?_⟩
    have := z1.1 hm0
    omega
  · have lm := log2_low m hm0 m53
    obtain ⟨more, hmore⟩ : ∃ more, more = double.fractionBits + 2 + n.log2 - m.log2 := ⟨_, rfl⟩
    have hmore2 : more = 106 - m.log2 := by
      rw [hmore, ln]
      show 52 + 2 + 52 - m.log2 = _
      omega
    have hq : 1022 ≤ q := by
      rcases Nat.lt_or_ge q 1022 with h | h
      · exfalso
        have a1 : n * 2 ^ q < 2 ^ 53 * 2 ^ q := Nat.mul_lt_mul_of_pos_right n53 (pow_pos q)
        rw [← Nat.pow_add] at a1
        have a2 : (2 : Nat) ^ (53 + q) ≤ 2 ^ uE := Nat.pow_le_pow_right (by omega) (by unfold uE; omega)
        omega
      · exact h
    obtain ⟨J, hJ⟩ : ∃ J, J + uE = q + more := ⟨q + more - 1074, by unfold uE; omega⟩
    have hJ1 : J + 1074 = q + more := hJ
    have hJ2 : 2 ≤ J := by omega
    obtain ⟨a, b, hab, hz⟩ : ∃ a b : Nat, (p : Int) - 1074 - ((q : Int) - 1074) - more - 1 + 1074 = (a : Int) - b ∧ (a = 0 ∨ b = 0) := ⟨((p : Int) - 1074 - ((q : Int) - 1074) - more - 1 + 1074).toNat, (-((p : Int) - 1074 - ((q : Int) - 1074) - more - 1 + 1074)).toNat, by omega, by omega⟩
    have habJ : a + J + 1 = p + b := by omega
    obtain ⟨r, e, hr⟩ := nearest_rnd s (2 * (m * 2 ^ more / n) + (m * 2 ^ more % n != 0).toNat) ((p : Int) - 1074 - ((q : Int) - 1074) - more - 1) a b hab hz
    have hJn : n * 2 ^ J * 2 ^ uE = n * 2 ^ q * 2 ^ more := by rw [Nat.mul_assoc, ← Nat.pow_add, hJ, Nat.pow_add, Nat.mul_assoc]
    refine ⟨r, by unfold Format.div; rw [e1, e2]; simp only [Datum.quotient, if_neg hn0, ← hmore, Bool.xor_false, Nat.shiftLeft_eq]; exact congrArg some e, ?_, fun hk2 hx2 => ?_⟩
    · refine hr.2.1 x ?_
      have hC : m * 2 ^ more ≤ m * 2 ^ J * n := by
        rw [Nat.mul_assoc]
        refine Nat.mul_le_mul_left m ?_
        refine Nat.le_of_mul_le_mul_right ?_ (pow_pos uE)
        rw [Nat.mul_comm (2 ^ J) n, hJn, v2, Nat.mul_comm]
        exact Nat.mul_le_mul_right _ hk1
      have hq1 := quo_le (m * 2 ^ more) n (m * 2 ^ J) (by omega) hC
      have h1 := Nat.mul_le_mul_right (2 ^ a) hq1
      refine Nat.le_trans h1 ?_
      rw [← v1, Nat.mul_assoc m (2 ^ p), ← Nat.pow_add, ← habJ, Nat.mul_assoc 2, Nat.mul_assoc m, ← Nat.pow_add, Nat.pow_succ, Nat.mul_comm 2, Nat.mul_assoc m, Nat.add_comm J a]
      exact Nat.le_refl _
    · have hle : r ≤ x - 4503599627370496 := by
        refine hr.2.1 (x - 4503599627370496) ?_
        obtain ⟨J', rfl⟩ : ∃ J', J = J' + 1 := ⟨J - 1, by omega⟩
        have hC : m * 2 ^ more ≤ m * 2 ^ J' * n := by
          rw [Nat.mul_assoc]
          refine Nat.mul_le_mul_left m ?_
          refine Nat.le_of_mul_le_mul_right ?_ (pow_pos (uE + 1))
          have e4 : 2 ^ J' * n * 2 ^ (uE + 1) = n * 2 ^ q * 2 ^ more := by
            rw [← hJn, Nat.pow_succ, Nat.pow_succ, Nat.mul_comm (2 ^ J') n, Nat.mul_assoc n, Nat.mul_assoc n, Nat.mul_assoc (2 ^ J'), Nat.mul_comm (2 ^ uE) 2]
          rw [e4, v2, Nat.mul_comm]
          exact Nat.mul_le_mul_right _ hk2
        have hq1 := quo_le (m * 2 ^ more) n (m * 2 ^ J') (by omega) hC
        have h1 := Nat.mul_le_mul_right (2 ^ a) hq1
        refine Nat.le_trans h1 ?_
        have hh := dv_half x hx2
        have e5 : dv x * 2 ^ b = 2 * (m * 2 ^ J') * 2 ^ a * 2 := by
          rw [← v1, Nat.mul_assoc m (2 ^ p), ← Nat.pow_add, ← habJ, Nat.mul_comm 2, Nat.mul_assoc m, Nat.mul_assoc m, Nat.mul_assoc m]
          refine congrArg (m * ·) ?_
          rw [← Nat.pow_succ, ← Nat.pow_add, ← Nat.pow_succ]
          exact congrArg (2 ^ ·) (by omega)
        rw [hh, Nat.mul_assoc 2] at e5
        omega
      omega
end Go.Proofs.Ytbemmhngadpjcaa
