/- Sums, differences, products, quotients, roots of floats: what is known of them. -/
import Derived.Test.YtnknjcnbbljagaaFL2
namespace Go.Proofs.Ytnknjcnbbljagaa
set_option linter.unusedVariables false
set_option linter.unusedSimpArgs false
open Ieee

/-- The value of a word of this sign and rung. -/
def val (neg : Bool) (r : Nat) : Int := if neg then -(dv r : Int) else (dv r : Int)
/-- What a sum or a difference is rounded to. -/
def Near (T : Int) (neg : Bool) (r : Nat) : Prop := Rnd T.natAbs 0 0 r ∧ (0 < T → neg = false) ∧ (T < 0 → neg = true)
theorem signed_val (neg : Bool) (m up : Nat) : signed neg m up = if neg then -((m * 2 ^ up : Nat) : Int) else ((m * 2 ^ up : Nat) : Int) := by
  unfold signed; rw [Nat.shiftLeft_eq]
theorem Rnd.shift {mag a r : Nat} (h : Rnd mag a 0 r) : Rnd (mag * 2 ^ a) 0 0 r := by
  unfold Rnd at h ⊢
  simpa using h
theorem sum_near (s t : Bool) (m n : Nat) (i j : Nat) : ∃ neg r, ((Datum.number s m ((i : Int) - 1074)).sum (.number t n ((j : Int) - 1074))).map double.write = some (double.word neg r) ∧ Near ((if s then -((m * 2 ^ i : Nat) : Int) else ((m * 2 ^ i : Nat) : Int)) + (if t then -((n * 2 ^ j : Nat) : Int) else ((n * 2 ^ j : Nat) : Int))) neg r := by
  obtain ⟨b, hb⟩ : ∃ b : Nat, b = min i j := ⟨_, rfl⟩
  have hbase : min ((i : Int) - 1074) ((j : Int) - 1074) = (b : Int) - 1074 := by omega
  have hi : ((i : Int) - 1074 - ((b : Int) - 1074)).toNat = i - b := by omega
  have hj : ((j : Int) - 1074 - ((b : Int) - 1074)).toNat = j - b := by omega
  simp only [Datum.sum, hbase, hi, hj, signed_val, Option.map_some, Format.write]
  obtain ⟨tot, htot⟩ : ∃ tot : Int, tot = (if s then -((m * 2 ^ (i - b) : Nat) : Int) else ((m * 2 ^ (i - b) : Nat) : Int)) + (if t then -((n * 2 ^ (j - b) : Nat) : Int) else ((n * 2 ^ (j - b) : Nat) : Int)) := ⟨_, rfl⟩
  rw [← htot]
  have key : (if s then -((m * 2 ^ i : Nat) : Int) else ((m * 2 ^ i : Nat) : Int)) + (if t then -((n * 2 ^ j : Nat) : Int) else ((n * 2 ^ j : Nat) : Int)) = tot * ((2 ^ b : Nat) : Int) := by
    have e1 : m * 2 ^ i = m * 2 ^ (i - b) * 2 ^ b := by rw [Nat.mul_assoc, ← Nat.pow_add]; congr 2; omega
    have e2 : n * 2 ^ j = n * 2 ^ (j - b) * 2 ^ b := by rw [Nat.mul_assoc, ← Nat.pow_add]; congr 2; omega
    rw [e1, e2, htot, Int.add_mul]
    cases s <;> cases t <;> simp [Int.neg_mul]
  rw [key]
  obtain ⟨r, e, hr⟩ := nearest_rnd (if tot = 0 then s && t else decide (tot < 0)) tot.natAbs ((b : Int) - 1074) b 0 (by omega) (.inr rfl)
  refine ⟨_, r, congrArg some e, ?_, ?_, ?_⟩
  · rw [Int.natAbs_mul, Int.natAbs_natCast]
    exact hr.shift
  · intro h
    have hp := pow_pos b
    have : 0 < tot := by
      rcases Int.lt_trichotomy tot 0 with q | q | q
      · have := Int.mul_neg_of_neg_of_pos q (show (0 : Int) < ((2 ^ b : Nat) : Int) by omega)
        omega
      · rw [q] at h; simp at h
      · exact q
    rw [if_neg (by omega)]
    exact decide_eq_false (by omega)
  · intro h
    have hp := pow_pos b
    have : tot < 0 := by
      rcases Int.lt_trichotomy tot 0 with q | q | q
      · exact q
      · rw [q] at h; simp at h
      · have := Int.mul_pos q (show (0 : Int) < ((2 ^ b : Nat) : Int) by omega)
        omega
    rw [if_neg (by omega)]
    exact decide_eq_true this
theorem val_of {neg : Bool} {m p r : Nat} (h : m * 2 ^ p = dv r) : (if neg then -((m * 2 ^ p : Nat) : Int) else ((m * 2 ^ p : Nat) : Int)) = val neg r := by
  unfold val; rw [h]
theorem add_near (s t : Bool) (x y : Nat) (hx : x < infR) (hy : y < infR) : ∃ neg r, double.add (double.word s x) (double.word t y) = some (double.word neg r) ∧ Near (val s x + val t y) neg r := by
  obtain ⟨m, p, e1, v1, _⟩ := read_fin s x hx
  obtain ⟨n, q, e2, v2, _⟩ := read_fin t y hy
  obtain ⟨neg, r, h1, h2⟩ := sum_near s t m n p q
  rw [val_of v1, val_of v2] at h2
  exact ⟨neg, r, by unfold Format.add; rw [e1, e2]; exact h1, h2⟩
theorem sub_near (s t : Bool) (x y : Nat) (hx : x < infR) (hy : y < infR) : ∃ neg r, double.sub (double.word s x) (double.word t y) = some (double.word neg r) ∧ Near (val s x - val t y) neg r := by
  obtain ⟨m, p, e1, v1, _⟩ := read_fin s x hx
  obtain ⟨n, q, e2, v2, _⟩ := read_fin t y hy
  obtain ⟨neg, r, h1, h2⟩ := sum_near s (!t) m n p q
  rw [val_of v1, val_of v2] at h2
  refine ⟨neg, r, by unfold Format.sub; rw [e1, e2]; exact h1, ?_⟩
  have : val s x + val (!t) y = val s x - val t y := by unfold val; cases t <;> simp <;> omega
  rw [← this]; exact h2
/-- One, in units of the least number: its place. -/
def uE : Nat := 1074
/-- Of a whole number its float. -/
theorem int_near (neg : Bool) (n : Nat) : ∃ r, double.nearest neg n 0 = double.word neg r ∧ Rnd (n * 2 ^ uE) 0 0 r := by
  obtain ⟨r, e, hr⟩ := nearest_rnd neg n 0 uE 0 (by unfold uE; omega) (.inr rfl)
  exact ⟨r, e, hr.shift⟩
/-- Not below nought, or a nought: infinity too. -/
def Non (w : Nat) : Prop := ∃ neg r, w = double.word neg r ∧ r ≤ infR ∧ (neg = false ∨ r = 0)
theorem infR_le {r : Nat} (h : r ≤ infR) : r < infR ∨ r = infR := by omega
end Go.Proofs.Ytnknjcnbbljagaa
