/- Floats that are equal. -/
import Derived.Test.YtnknjcnbbljagaaFL3
import Derived.Test.YtnknjcnbbljagaaTF12
namespace Go.Proofs.Ytnknjcnbbljagaa
set_option linter.unusedVariables false
set_option linter.unusedSimpArgs false
namespace FF
open Ieee

theorem dv_stepG (s B : Nat) (hB : B < 9007199254740992) (h : s = 0 ∨ 4503599627370496 ≤ B) : dv (s * 4503599627370496 + B + 1) = (B + 1) * 2 ^ s := by
  by_cases hb : B + 1 < 9007199254740992
  · rw [Nat.add_assoc]
    exact dv_of s (B + 1) hb (by omega)
  · have e : B + 1 = 9007199254740992 := by omega
    have e2 : s * 4503599627370496 + B + 1 = (s + 1) * 4503599627370496 + 4503599627370496 := by omega
    rw [e2, dv_of (s + 1) 4503599627370496 (by omega) (.inr (by omega)), Nat.pow_succ, e, Nat.mul_comm (2 ^ s) 2, ← Nat.mul_assoc]
theorem dv_succG (r : Nat) : dv r < dv (r + 1) := by
  obtain ⟨s, B, e, v, b, c⟩ := dv_rep r
  have h := dv_stepG s B b c
  rw [← e] at h
  rw [v, h, Nat.add_mul, Nat.one_mul]
  have := pow_pos s
  omega
theorem dv_ltG (r t : Nat) (h : r < t) : dv r < dv t := Nat.lt_of_lt_of_le (dv_succG r) (dv_mono _ _ h)
theorem dv_injG (r t : Nat) (h : dv r = dv t) : r = t := by
  rcases Nat.lt_trichotomy r t with q | q | q
  · have := dv_ltG _ _ q; omega
  · exact q
  · have := dv_ltG _ _ q; omega
theorem dv_zero : dv 0 = 0 := by simp [dv]
/-- What a word is, but for a nought's sign. -/
def canF (a : Nat) : Nat := if a % 9223372036854775808 = 0 then 0 else a
def nnF (a : Nat) : Prop := a % 9223372036854775808 ≤ infR
theorem word_of (a : Nat) (ha : a < 18446744073709551616) : a = double.word (a / 9223372036854775808 % 2 == 1) (a % 9223372036854775808) := by
  have hs : double.signWeight = 9223372036854775808 := by decide
  unfold Format.word
  rw [hs]
  by_cases h : a / 9223372036854775808 % 2 = 1
  · rw [if_pos (by simpa using h)]; omega
  · rw [if_neg (by simpa using h)]; omega
theorem read_nan (a : Nat) (h : infR < a % 9223372036854775808) : ∃ s q, double.read a = .nan s q := by
  have hs : double.signWeight = 9223372036854775808 := by decide
  have hb : double.binade = 4503599627370496 := by decide
  have hi : double.infRung = infR := by decide
  unfold Format.read
  simp only [hs, hb, hi]
  rw [if_neg (by unfold infR at h; omega), if_neg (by omega), if_neg (by omega)]
  exact ⟨_, _, rfl⟩
theorem order_numb (s t : Bool) (m n p q : Nat) (r u : Nat) (v1 : m * 2 ^ p = dv r) (v2 : n * 2 ^ q = dv u) : (Datum.order (.number s m ((p : Int) - 1074)) (.number t n ((q : Int) - 1074)) = some .eq) ↔ (if s then -(dv r : Int) else (dv r : Int)) = (if t then -(dv u : Int) else (dv u : Int)) := by
  obtain ⟨b, hb⟩ : ∃ b : Nat, b = min p q := ⟨_, rfl⟩
  have hbase : min ((p : Int) - 1074) ((q : Int) - 1074) = (b : Int) - 1074 := by omega
  have hi : ((p : Int) - 1074 - ((b : Int) - 1074)).toNat = p - b := by omega
  have hj : ((q : Int) - 1074 - ((b : Int) - 1074)).toNat = q - b := by omega
  simp only [Datum.order, hbase, hi, hj, signed_val]
  have pb := pow_pos b
  have q1 : m * 2 ^ (p - b) * 2 ^ b = dv r := by rw [← v1, Nat.mul_assoc, ← Nat.pow_add]; congr 2; omega
  have q2 : n * 2 ^ (q - b) * 2 ^ b = dv u := by rw [← v2, Nat.mul_assoc, ← Nat.pow_add]; congr 2; omega
  generalize m * 2 ^ (p - b) = X at *
  generalize n * 2 ^ (q - b) = Y at *
  generalize 2 ^ b = Z at *
  have cmp : ∀ x y : Int, (some (compare x y) = some Ordering.eq) ↔ x = y := fun x y => by
    constructor
    · intro h
      have h' : compareOfLessAndEq x y = .eq := Option.some.inj h
      unfold compareOfLessAndEq at h'
      split at h'
      · cases h'
      · split at h'
        · assumption
        · cases h'
    · intro h
      subst h
      show some (compareOfLessAndEq x x) = _
      unfold compareOfLessAndEq
      rw [if_neg (Int.lt_irrefl _), if_pos rfl]
  rw [cmp, ← q1, ← q2]
  have z : (Z : Int) ≠ 0 := by omega
  rw [Int.natCast_mul, Int.natCast_mul]
  cases s <;> cases t <;> simp only [Bool.false_eq_true, if_false, if_true]
  · exact ⟨fun h => by rw [h], fun h => Int.eq_of_mul_eq_mul_right z h⟩
  · rw [← Int.neg_mul]
    exact ⟨fun h => by rw [h], fun h => Int.eq_of_mul_eq_mul_right z h⟩
  · rw [← Int.neg_mul]
    exact ⟨fun h => by rw [h], fun h => Int.eq_of_mul_eq_mul_right z h⟩
  · rw [← Int.neg_mul, ← Int.neg_mul]
    exact ⟨fun h => by rw [h], fun h => Int.eq_of_mul_eq_mul_right z h⟩
theorem eqK_iff (a b : Nat) (ha : a < 18446744073709551616) (hb : b < 18446744073709551616) : eqK a b = true ↔ canF a = canF b ∧ nnF a := by
  have e0 : eqK a b = true ↔ double.order a b = some .eq := by
    unfold eqK
    exact beq_iff_eq
  rw [e0]
  have wa := word_of a ha
  have wb := word_of b hb
  unfold canF nnF Format.order
  have hI : infR = 9218868437227405312 := rfl
  obtain ⟨ra, hra⟩ : ∃ r, r = a % 9223372036854775808 := ⟨_, rfl⟩
  obtain ⟨rb, hrb⟩ : ∃ r, r = b % 9223372036854775808 := ⟨_, rfl⟩
  obtain ⟨sa, hsa⟩ : ∃ s, s = (a / 9223372036854775808 % 2 == 1) := ⟨_, rfl⟩
  obtain ⟨sb, hsb⟩ : ∃ s, s = (b / 9223372036854775808 % 2 == 1) := ⟨_, rfl⟩
  have same : sa = sb → ra = rb → a = b := fun h1 h2 => by rw [← hsa, ← hra] at wa; rw [← hsb, ← hrb] at wb; rw [wa, wb, h1, h2]
  have diff : a = b → sa = sb ∧ ra = rb := fun h => by subst h; exact ⟨hsa.trans hsb.symm, hra.trans hrb.symm⟩
  rw [← hra, ← hrb]
  by_cases na : ra ≤ infR
  · by_cases nb : rb ≤ infR
    · by_cases fa : ra < infR
      · obtain ⟨m, p, e1, v1, _⟩ := read_fin sa ra fa
        rw [hsa, hra, ← wa] at e1
        by_cases fb : rb < infR
        · obtain ⟨n, q, e2, v2, _⟩ := read_fin sb rb fb
          rw [hsb, hrb, ← wb] at e2
          rw [e1, e2]
          rw [← hsa, ← hsb]
          refine (order_numb sa sb m n p q ra rb v1 v2).trans ?_
          have za : dv ra = 0 ↔ ra = 0 := ⟨fun h => dv_injG _ _ (h.trans dv_zero.symm), fun h => by rw [h]; exact dv_zero⟩
          have zb : dv rb = 0 ↔ rb = 0 := ⟨fun h => dv_injG _ _ (h.trans dv_zero.symm), fun h => by rw [h]; exact dv_zero⟩
          have inj : dv ra = dv rb → ra = rb := dv_injG _ _
          constructor
          · intro h
            refine ⟨?_, na⟩
            by_cases h0 : ra = 0
            · have d0 := za.2 h0
              have : dv rb = 0 := by cases sa <;> cases sb <;> simp at h <;> omega
              rw [if_pos h0, if_pos (zb.1 this)]
            · have d0 : dv ra ≠ 0 := fun e => h0 (za.1 e)
              have h1 : sa = sb ∧ dv ra = dv rb := by cases sa <;> cases sb <;> simp at h ⊢ <;> omega
              have h2 := inj h1.2
              rw [if_neg h0, if_neg (by omega)]
              exact same h1.1 h2
          · rintro ⟨h, _⟩
            by_cases h0 : ra = 0
            · rw [if_pos h0] at h
              by_cases h1 : rb = 0
              · rw [za.2 h0, zb.2 h1]; simp
              · rw [if_neg h1] at h; omega
            · rw [if_neg h0] at h
              by_cases h1 : rb = 0
              · rw [if_pos h1] at h; omega
              · rw [if_neg h1] at h
                obtain ⟨g1, g2⟩ := diff h
                rw [g1, g2]
        · have eb : rb = infR := by omega
          have e2 := read_inf sb
          rw [← eb, hsb, hrb, ← wb] at e2
          rw [e1, e2]
          constructor
          · intro h; simp only [Datum.order] at h; split at h <;> cases h
          · rintro ⟨h, _⟩
            rw [if_neg (show rb ≠ 0 by omega)] at h
            split at h
            · omega
            · exact absurd (diff h).2 (by omega)
      · have ea : ra = infR := by omega
        have e1 := read_inf sa
        rw [← ea, hsa, hra, ← wa] at e1
        by_cases fb : rb < infR
        · obtain ⟨n, q, e2, v2, _⟩ := read_fin sb rb fb
          rw [hsb, hrb, ← wb] at e2
          rw [e1, e2]
          constructor
          · intro h; simp only [Datum.order] at h; split at h <;> cases h
          · rintro ⟨h, _⟩
            rw [if_neg (show ra ≠ 0 by omega)] at h
            split at h
            · omega
            · exact absurd (diff h).2 (by omega)
        · have eb : rb = infR := by omega
          have e2 := read_inf sb
          rw [← eb, hsb, hrb, ← wb] at e2
          rw [e1, e2, ← hsa, ← hsb]
          rw [if_neg (show ra ≠ 0 by omega), if_neg (show rb ≠ 0 by omega)]
          constructor
          · intro h
            refine ⟨same ?_ (by omega), na⟩
            cases sa <;> cases sb <;> first | rfl | (exfalso; revert h; decide)
          · rintro ⟨h, _⟩
            rw [(diff h).1]
            cases sb <;> decide
    · obtain ⟨s, q, e2⟩ := read_nan b (by rw [← hrb]; omega)
      rw [e2]
      constructor
      · intro h
        revert h
        cases double.read a <;> simp [Datum.order]
      · rintro ⟨h, _⟩
        rw [if_neg (show rb ≠ 0 by omega)] at h
        split at h
        · omega
        · exact absurd (diff h).2 (by omega)
  · obtain ⟨s, q, e1⟩ := read_nan a (by rw [← hra]; omega)
    rw [e1]
    constructor
    · intro h; simp [Datum.order] at h
    · rintro ⟨_, h⟩; omega
end FF
end Go.Proofs.Ytnknjcnbbljagaa
