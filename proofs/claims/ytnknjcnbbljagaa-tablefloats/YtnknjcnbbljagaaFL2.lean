/- The nearest float: its bounds; reading a float back. -/
import Derived.Test.YtnknjcnbbljagaaFL1
namespace Go.Proofs.Ytnknjcnbbljagaa
set_option linter.unusedVariables false
set_option linter.unusedSimpArgs false
open Ieee

/-- The rung of infinity. -/
def infR : Nat := 9218868437227405312
theorem dLeast : double.leastPlace = -1074 := by decide
theorem dBin : double.binade = 4503599627370496 := by decide
theorem dInf : double.infRung = 9218868437227405312 := by decide
theorem dSign : double.signWeight = 9223372036854775808 := by decide
theorem dFrac : (double.fractionBits : Int) = 52 := by decide
/-- A magnitude is rounded to a rung: from both sides. -/
def Rnd (mag a b r : Nat) : Prop := r ≤ infR ∧ (∀ t, mag * 2 ^ a ≤ dv t * 2 ^ b → r ≤ t) ∧ (∀ t, t ≤ infR → dv t * 2 ^ b ≤ mag * 2 ^ a → t ≤ r)
theorem nearest_rnd (neg : Bool) (mag : Nat) (place : Int) (a b : Nat) (hp : place + 1074 = (a : Int) - b) (hz : a = 0 ∨ b = 0) : ∃ r, double.nearest neg mag place = double.word neg r ∧ Rnd mag a b r := by
  by_cases h0 : mag = 0
  · refine ⟨0, by rw [Format.nearest, if_pos h0], Nat.zero_le _, fun t _ => Nat.zero_le _, fun t _ ht => ?_⟩
    subst h0
    rw [Nat.zero_mul] at ht
    have h1 : dv t * 2 ^ b = 0 := by omega
    have h2 : dv t = 0 := by
      rcases Nat.mul_eq_zero.1 h1 with h | h
      · exact h
      · have := pow_pos b; omega
    rcases Nat.eq_zero_or_pos t with h | h
    · omega
    · have := dv_mono 1 t h
      rw [show dv 1 = 1 by decide] at this
      omega
  · have hl1 := Nat.lt_log2_self (n := mag)
    have hl2 := Nat.log2_self_le h0
    obtain ⟨l, hl⟩ : ∃ l, l = mag.log2 := ⟨_, rfl⟩
    rw [← hl] at hl1 hl2
    obtain ⟨sh, hsh⟩ : ∃ sh, sh = (l + a) - (b + 52) := ⟨_, rfl⟩
    obtain ⟨last, hlast⟩ : ∃ last : Int, last = max (place + l - 52) (-1074) := ⟨_, rfl⟩
    have hls : last + 1074 = (sh : Int) := by omega
    obtain ⟨up, hup⟩ : ∃ up, up = (place - last).toNat := ⟨_, rfl⟩
    obtain ⟨dr, hdr⟩ : ∃ dr, dr = (last - place).toNat := ⟨_, rfl⟩
    have hud : up + (b + sh) = a + dr := by omega
    obtain ⟨K, hK⟩ : ∃ K, K = Toward.even.cut neg (mag * 2 ^ up) dr := ⟨_, rfl⟩
    have hn : double.nearest neg mag place = double.word neg (min (sh * 4503599627370496 + K) 9218868437227405312) := by
      rw [Format.nearest, if_neg h0]
      simp only [dFrac, dLeast, dBin, dInf, ← hl, ← hlast, ← hup, ← hdr, Nat.shiftLeft_eq, ← hK]
      rw [show (last - -1074).toNat = sh by omega]
    -- what the kept number is between
    have KU : ∀ B, mag * 2 ^ a ≤ B * 2 ^ (sh + b) → K ≤ B := fun B h => by
      rw [hK]
      refine cut_le neg _ _ B ?_
      have e1 : mag * 2 ^ up * 2 ^ (b + sh) = mag * 2 ^ a * 2 ^ dr := by rw [Nat.mul_assoc, ← Nat.pow_add, hud, Nat.pow_add, Nat.mul_assoc]
      have e2 := Nat.mul_le_mul_right (2 ^ dr) h
      rw [← e1, Nat.mul_assoc B, Nat.mul_comm (2 ^ (sh + b)), ← Nat.mul_assoc B, Nat.add_comm sh b] at e2
      exact Nat.le_of_mul_le_mul_right e2 (pow_pos _)
    have KL : ∀ B, B * 2 ^ (sh + b) ≤ mag * 2 ^ a → B ≤ K := fun B h => by
      rw [hK]
      refine le_cut neg _ _ B ?_
      have e1 : mag * 2 ^ up * 2 ^ (b + sh) = mag * 2 ^ a * 2 ^ dr := by rw [Nat.mul_assoc, ← Nat.pow_add, hud, Nat.pow_add, Nat.mul_assoc]
      have e2 := Nat.mul_le_mul_right (2 ^ dr) h
      rw [← e1, Nat.mul_assoc B, Nat.mul_comm (2 ^ (sh + b)), ← Nat.mul_assoc B, Nat.add_comm sh b] at e2
      exact Nat.le_of_mul_le_mul_right e2 (pow_pos _)
    have M1 : mag * 2 ^ a < 2 ^ (l + 1 + a) := by
      rw [Nat.pow_add]
      exact Nat.mul_lt_mul_of_pos_right hl1 (pow_pos a)
    have M2 : 2 ^ (l + a) ≤ mag * 2 ^ a := by
      rw [Nat.pow_add]
      exact Nat.mul_le_mul_right _ hl2
    refine ⟨_, hn, Nat.min_le_right _ _, fun t ht => ?_, fun t htI ht => ?_⟩
    · refine Nat.le_trans (Nat.min_le_left _ _) ?_
      obtain ⟨s, B, e1, v1, b1, c1⟩ := dv_rep t
      rw [v1, Nat.mul_assoc, ← Nat.pow_add] at ht
      rcases Nat.lt_trichotomy s sh with hlt | heq | hgt
      · exfalso
        have q1 : B * 2 ^ (s + b) < 2 ^ (53 + (s + b)) := by
          rw [Nat.pow_add 2 53]
          exact Nat.mul_lt_mul_of_pos_right (by omega) (pow_pos _)
        have q2 : 2 ^ (53 + (s + b)) ≤ 2 ^ (l + a) := Nat.pow_le_pow_right (by omega) (by omega)
        omega
      · subst heq
        have := KU B ht
        omega
      · have q1 : K ≤ 9007199254740992 := KU _ (by
          have : 2 ^ (l + 1 + a) ≤ 2 ^ (53 + (sh + b)) := Nat.pow_le_pow_right (by omega) (by omega)
          rw [Nat.pow_add 2 53] at this
          rw [show (9007199254740992 : Nat) = 2 ^ 53 from rfl]
          omega)
        omega
    · refine Nat.le_min.2 ⟨?_, htI⟩
      obtain ⟨s, B, e1, v1, b1, c1⟩ := dv_rep t
      rw [v1, Nat.mul_assoc, ← Nat.pow_add] at ht
      rcases Nat.lt_trichotomy s sh with hlt | heq | hgt
      · have q1 : 4503599627370496 ≤ K := KL _ (by
          have : 2 ^ (52 + (sh + b)) ≤ 2 ^ (l + a) := Nat.pow_le_pow_right (by omega) (by omega)
          rw [Nat.pow_add 2 52] at this
          rw [show (4503599627370496 : Nat) = 2 ^ 52 from rfl]
          omega)
        omega
      · subst heq
        have := KL B ht
        omega
      · exfalso
        have q1 : 2 ^ (52 + (s + b)) ≤ B * 2 ^ (s + b) := by
          rw [Nat.pow_add 2 52]
          exact Nat.mul_le_mul_right _ (by omega)
        have q2 : 2 ^ (l + 1 + a) ≤ 2 ^ (52 + (s + b)) := Nat.pow_le_pow_right (by omega) (by omega)
        omega
/-- What a finite word stands for. -/
theorem read_fin (neg : Bool) (r : Nat) (h : r < infR) : ∃ (m : Nat) (p : Nat), double.read (double.word neg r) = .number neg m ((p : Int) - 1074) ∧ m * 2 ^ p = dv r ∧ m < 9007199254740992 ∧ (m = 0 ↔ r = 0) ∧ (4503599627370496 ≤ r → 4503599627370496 ≤ m) := by
  unfold infR at h
  have e1 : double.word neg r / 9223372036854775808 % 2 = if neg then 1 else 0 := by
    unfold Format.word
    rw [dSign]
    cases neg <;> simp <;> omega
  have e2 : double.word neg r % 9223372036854775808 = r := by
    unfold Format.word
    rw [dSign]
    cases neg <;> simp <;> omega
  have e3 : (double.word neg r / 9223372036854775808 % 2 == 1) = neg := by rw [e1]; cases neg <;> rfl
  unfold Format.read
  simp only [dSign, dBin, dInf, dLeast, e2, e3]
  by_cases h1 : r < 4503599627370496
  · exact ⟨r, 0, by rw [if_pos h1]; rfl, by rw [dv, if_pos h1]; simp, by omega, Iff.rfl, fun h => by omega⟩
  · refine ⟨4503599627370496 + r % 4503599627370496, r / 4503599627370496 - 1, by rw [if_neg h1, if_pos h]; congr 1 <;> omega, by rw [dv, if_neg h1], by omega, ⟨fun h => by omega, fun h => by omega⟩, fun _ => by omega⟩
theorem read_inf (neg : Bool) : double.read (double.word neg infR) = .infinity neg := by cases neg <;> decide
end Go.Proofs.Ytnknjcnbbljagaa
