/- One step of the mean and of the squares: nothing overflows, and what is added is not below nought. -/
import Derived.Test.YtbemmhngadpjcaaFL5
namespace Go.Proofs.Ytbemmhngadpjcaa
set_option linter.unusedVariables false
set_option linter.unusedSimpArgs false
open Ieee

theorem dv_pow (s : Nat) : dv (s * 4503599627370496 + 4503599627370496) = 2 ^ (52 + s) := by
  rw [dv_of s 4503599627370496 (by omega) (.inr (by omega)), Nat.pow_add]
theorem dv_pow' (s e : Nat) (h : 52 + s = e) : dv (s * 4503599627370496 + 4503599627370496) = 2 ^ e := by
  subst h
  exact dv_pow s
/-- The rung of 2^63. -/
def R63 : Nat := 1085 * 4503599627370496 + 4503599627370496
def R64 : Nat := 1086 * 4503599627370496 + 4503599627370496
theorem dv63 : dv R63 = 2 ^ (63 + uE) := dv_pow' 1085 (63 + uE) rfl
theorem dv64 : dv R64 = 2 * dv R63 := by
  have h := dv_half R64 (by unfold R64; omega)
  rw [h]
  congr 2
theorem R63_lt : R63 < infR := by unfold R63 infR; omega
theorem R64_lt : R64 < infR := by unfold R64 infR; omega
theorem val_le (s : Bool) (r : Nat) : (val s r).natAbs = dv r := by unfold val; cases s <;> simp
theorem dv_zero : dv 0 = 0 := by decide
theorem near_zero {neg : Bool} {r : Nat} (h : Near 0 neg r) : r = 0 := by
  have := h.1.2.1 0 (by simp)
  omega
/-- What is rounded stays between two floats that it lay between. -/
theorem near_between {T : Int} {neg s t : Bool} {r x y : Nat} (h : Near T neg r) (hx : x ≤ infR) (hy : y ≤ infR) (h1 : val s x ≤ T) (h2 : T ≤ val t y) : val s x ≤ val neg r ∧ val neg r ≤ val t y := by
  rcases Int.lt_trichotomy T 0 with q | q | q
  · have hn := h.2.2 q
    subst hn
    have e : val true r = -(dv r : Int) := rfl
    refine ⟨?_, ?_⟩
    · -- below: x is below nought
      cases s with
      | false => unfold val at h1; simp at h1 <;> omega
      | true =>
        have hr := h.1.2.1 x (by simp only [Nat.pow_zero, Nat.mul_one]; unfold val at h1; simp at h1 <;> omega)
        have := dv_mono r x hr
        unfold val; simp <;> omega
    · cases t with
      | false => unfold val; simp <;> omega
      | true =>
        have hr := h.1.2.2 y hy (by simp only [Nat.pow_zero, Nat.mul_one]; unfold val at h2; simp at h2 <;> omega)
        have := dv_mono y r hr
        unfold val; simp <;> omega
  · subst q
    have hr := near_zero h
    subst hr
    have e : val neg 0 = 0 := by unfold val; rw [dv_zero]; cases neg <;> rfl
    rw [e]
    exact ⟨h1, h2⟩
  · have hn := h.2.1 q
    subst hn
    refine ⟨?_, ?_⟩
    · cases s with
      | true => unfold val; simp <;> omega
      | false =>
        have hr := h.1.2.2 x hx (by simp only [Nat.pow_zero, Nat.mul_one]; unfold val at h1; simp at h1 <;> omega)
        have := dv_mono x r hr
        unfold val; simp <;> omega
    · cases t with
      | true => unfold val at h2; simp at h2 <;> omega
      | false =>
        have hr := h.1.2.1 y (by simp only [Nat.pow_zero, Nat.mul_one]; unfold val at h2; simp at h2 <;> omega)
        have := dv_mono r y hr
        unfold val; simp <;> omega
theorem near_le {T : Int} {neg : Bool} {r t : Nat} (h : Near T neg r) (ht : T.natAbs ≤ dv t) : r ≤ t := h.1.2.1 t (by simpa using ht)
theorem near_sign {T : Int} {neg : Bool} {r : Nat} (h : Near T neg r) : (0 ≤ T → neg = false ∨ r = 0) ∧ (T ≤ 0 → neg = true ∨ r = 0) := by
  refine ⟨fun hT => ?_, fun hT => ?_⟩
  · rcases Int.lt_or_eq_of_le hT with q | q
    · exact .inl (h.2.1 q)
    · right; subst q; exact near_zero h
  · rcases Int.lt_or_eq_of_le hT with q | q
    · exact .inl (h.2.2 q)
    · right; subst q; exact near_zero h
/-- The step is not longer than the way. -/
theorem step_short (T : Int) (neg : Bool) (rd rs : Nat) (h : Near T neg rd) (h1 : rs ≤ rd) (h2 : (9007199254740992 ≤ rd → rs + 4503599627370496 ≤ rd) ∨ ∃ x, x ≤ infR ∧ dv x = T.natAbs) : dv rs ≤ T.natAbs := by
  rcases Nat.lt_or_ge T.natAbs 9007199254740992 with q | q
  · have e := dv_small T.natAbs q
    have hr := near_le h (t := T.natAbs) (by omega)
    have := dv_mono rs T.natAbs (by omega)
    omega
  · rcases h2 with h2 | ⟨x, hx, hv⟩
    · have hb : 9007199254740992 ≤ rd := by
        refine h.1.2.2 9007199254740992 (by unfold infR; omega) ?_
        have : dv 9007199254740992 = 9007199254740992 := by decide
        rw [this]; simpa using q
      have h3 := h2 hb
      have h4 := dv_mono rs (rd - 4503599627370496) (by omega)
      have h5 := dv_half rd hb
      -- rd is at most twice the way
      have h6 : dv rd ≤ 2 * T.natAbs := by
        obtain ⟨l, hl⟩ : ∃ l, l = T.natAbs.log2 := ⟨_, rfl⟩
        have a1 := Nat.lt_log2_self (n := T.natAbs)
        have a2 := Nat.log2_self_le (n := T.natAbs) (by omega)
        rw [← hl] at a1 a2
        have a3 : 52 ≤ l := by
          rcases Nat.lt_or_ge l 52 with g | g
          · have := Nat.pow_le_pow_right (n := 2) (by omega) (show l + 1 ≤ 52 by omega)
            rw [show (2 : Nat) ^ 52 = 4503599627370496 from rfl] at this
            omega
          · exact g
        obtain ⟨s, hs⟩ : ∃ s, 52 + s = l + 1 := ⟨l + 1 - 52, by omega⟩
        have a4 := dv_pow s
        rw [hs] at a4
        have a5 := near_le h (t := s * 4503599627370496 + 4503599627370496) (by omega)
        have a6 := dv_mono _ _ a5
        rw [Nat.pow_succ] at a4
        omega
      omega
    · have hr := near_le h (t := x) (by omega)
      have := dv_mono rs x (by omega)
      omega
theorem welford (sx sm : Bool) (rx rm k : Nat) (hx : rx ≤ R63) (hm : rm ≤ R63) (hk : k < infR) (hk1 : 2 ^ uE ≤ dv k) (h2 : 2 ^ (uE + 1) ≤ dv k ∨ rm = 0) :
    ∃ (d st e p : Nat) (sm' : Bool) (rm' : Nat), double.sub (double.word sx rx) (double.word sm rm) = some d ∧ double.div d (double.word false k) = some st ∧ double.add (double.word sm rm) st = some (double.word sm' rm') ∧ rm' ≤ R63 ∧ double.sub (double.word sx rx) (double.word sm' rm') = some e ∧ double.mul d e = some p ∧ Non p := by
  have R63l := R63_lt
  have R64l := R64_lt
  have hdx := dv_mono rx R63 hx
  have hdm := dv_mono rm R63 hm
  have h64 := dv64
  have ax := val_le sx rx
  have am := val_le sm rm
  obtain ⟨sd, rd, e1, n1⟩ := sub_near sx sm rx rm (by omega) (by omega)
  obtain ⟨T, hT⟩ : ∃ T, T = val sx rx - val sm rm := ⟨_, rfl⟩
  rw [← hT] at n1
  have hrd : rd ≤ R64 := near_le n1 (by omega)
  obtain ⟨rs, e2, q1, q2⟩ := div_near sd rd k (by omega) hk hk1
  have hshort : dv rs ≤ T.natAbs := by
    refine step_short T sd rd rs n1 q1 ?_
    rcases h2 with h2 | h2
    · exact .inl (fun h => q2 h2 h)
    · refine .inr ⟨rx, by omega, ?_⟩
      subst h2
      have : val sm 0 = 0 := by unfold val; rw [dv_zero]; cases sm <;> rfl
      rw [hT, this]; simp; exact ax.symm
  have as := val_le sd rs
  have sg := near_sign n1
  -- where the step leads
  have bet : (0 ≤ T → val sm rm ≤ val sm rm + val sd rs ∧ val sm rm + val sd rs ≤ val sx rx) ∧ (T ≤ 0 → val sx rx ≤ val sm rm + val sd rs ∧ val sm rm + val sd rs ≤ val sm rm) := by
    refine ⟨fun h => ?_, fun h => ?_⟩
    · have hs : 0 ≤ val sd rs := by
        rcases sg.1 h with g | g
        · subst g; unfold val; simp
        · have : rs = 0 := by omega
          subst this; unfold val; rw [dv_zero]; cases sd <;> simp
      omega
    · have hs : val sd rs ≤ 0 := by
        rcases sg.2 h with g | g
        · subst g; unfold val; simp
        · have : rs = 0 := by omega
          subst this; unfold val; rw [dv_zero]; cases sd <;> simp
      omega
  obtain ⟨sm', rm', e3, n3⟩ := add_near sm sd rm rs (by omega) (by omega)
  have hb : (0 ≤ T → val sm rm ≤ val sm' rm' ∧ val sm' rm' ≤ val sx rx) ∧ (T ≤ 0 → val sx rx ≤ val sm' rm' ∧ val sm' rm' ≤ val sm rm) :=
    ⟨fun h => near_between n3 (by omega) (by omega) (bet.1 h).1 (bet.1 h).2, fun h => near_between n3 (by omega) (by omega) (bet.2 h).1 (bet.2 h).2⟩
  have hrm' : rm' ≤ R63 := by
    refine near_le n3 ?_
    rcases Int.le_total 0 T with h | h
    · have := bet.1 h; omega
    · have := bet.2 h; omega
  have hdm' := dv_mono rm' R63 hrm'
  have am' := val_le sm' rm'
  obtain ⟨se, re, e4, n4⟩ := sub_near sx sm' rx rm' (by omega) (by omega)
  have hre : re ≤ R64 := near_le n4 (by omega)
  have sg4 := near_sign n4
  obtain ⟨p, e5, np⟩ := mul_non sd se rd re (by omega) (by omega) (by
    rcases Int.le_total 0 T with h | h
    · rcases sg.1 h with g | g
      · rcases sg4.1 (by have := hb.1 h; omega) with g4 | g4
        · left; rw [g, g4]
        · exact .inr (.inr g4)
      · exact .inr (.inl g)
    · rcases sg.2 h with g | g
      · rcases sg4.2 (by have := hb.2 h; omega) with g4 | g4
        · left; rw [g, g4]
        · exact .inr (.inr g4)
      · exact .inr (.inl g))
  exact ⟨_, _, _, p, sm', rm', e1, e2, e3, hrm', e4, e5, np⟩
theorem one_dv : dv (1022 * 4503599627370496 + 4503599627370496) = 2 ^ uE := dv_pow' 1022 uE rfl
theorem two_dv : dv (1023 * 4503599627370496 + 4503599627370496) = 2 ^ (uE + 1) := dv_pow' 1023 (uE + 1) rfl
/-- The float of a whole number of 64 bits. -/
theorem float_int (neg : Bool) (n : Nat) (h : n ≤ 9223372036854775808) : ∃ r, double.nearest neg n 0 = double.word neg r ∧ r ≤ R63 ∧ (1 ≤ n → 2 ^ uE ≤ dv r) ∧ (2 ≤ n → 2 ^ (uE + 1) ≤ dv r) := by
  obtain ⟨r, e, hr⟩ := int_near neg n
  refine ⟨r, e, ?_, fun h1 => ?_, fun h1 => ?_⟩
  · refine hr.2.1 R63 ?_
    rw [Nat.pow_zero, Nat.mul_one, Nat.mul_one, dv63, Nat.pow_add]
    exact Nat.mul_le_mul_right _ h
  · rw [← one_dv]
    refine dv_mono _ _ (hr.2.2 _ (by unfold infR; omega) ?_)
    rw [Nat.pow_zero, Nat.mul_one, Nat.mul_one, one_dv]
    exact Nat.le_mul_of_pos_left _ h1
  · rw [← two_dv]
    refine dv_mono _ _ (hr.2.2 _ (by unfold infR; omega) ?_)
    rw [Nat.pow_zero, Nat.mul_one, Nat.mul_one, two_dv, Nat.pow_succ, Nat.mul_comm]
    exact Nat.mul_le_mul_right _ h1
end Go.Proofs.Ytbemmhngadpjcaa
