/- The sum: one step of the register, eight, a byte, many bytes; what is unlike stays unlike (pure). -/
import Derived.Test.YtbnedlcldfpfdaaSM
namespace Go.Proofs.Ytbnedlcldfpfdaa
set_option linter.unusedVariables false
set_option linter.unusedSimpArgs false

/-- The register moved by one bit. -/
def stepN (r : Nat) : Nat := if r % 2 = 1 then (r / 2) ^^^ 2197175160 else r / 2
/-- By eight. -/
def st8 (r : Nat) : Nat := stepN (stepN (stepN (stepN (stepN (stepN (stepN (stepN r)))))))
/-- The register behind a byte. -/
def crcB (r : Nat) (x : UInt8) : Nat := st8 (r ^^^ x.toNat)
/-- Behind many. -/
def regL (r : Nat) (xs : List UInt8) : Nat := xs.foldl crcB r
/-- The sum of what gave s with these behind it. -/
def moreN (s : Nat) (xs : List UInt8) : Nat := 4294967295 - regL (4294967295 - s) xs

theorem xor_lt32 {a b : Nat} (ha : a < 4294967296) (hb : b < 4294967296) : a ^^^ b < 4294967296 := Nat.xor_lt_two_pow (n := 32) ha hb
theorem step_lt {r : Nat} (h : r < 4294967296) : stepN r < 4294967296 := by
  unfold stepN
  split
  · exact xor_lt32 (by omega) (by omega)
  · omega
theorem st8_lt {r : Nat} (h : r < 4294967296) : st8 r < 4294967296 := by
  unfold st8; exact step_lt (step_lt (step_lt (step_lt (step_lt (step_lt (step_lt (step_lt h)))))))
theorem u8_lt32 (x : UInt8) : x.toNat < 4294967296 := Nat.lt_of_lt_of_le x.toNat_lt (by omega)
theorem crcB_lt {r : Nat} (x : UInt8) (h : r < 4294967296) : crcB r x < 4294967296 := st8_lt (xor_lt32 h (u8_lt32 x))
theorem regL_lt : ∀ (xs : List UInt8) {r : Nat}, r < 4294967296 → regL r xs < 4294967296
  | [], _, h => h
  | x :: xs, _, h => regL_lt xs (crcB_lt x h)
theorem regL_append (r : Nat) (xs ys : List UInt8) : regL r (xs ++ ys) = regL (regL r xs) ys := by unfold regL; rw [List.foldl_append]
theorem regL_cons (r : Nat) (x : UInt8) (xs : List UInt8) : regL r (x :: xs) = regL (crcB r x) xs := rfl
theorem regL_nil (r : Nat) : regL r [] = r := rfl
theorem moreN_lt (s : Nat) (xs : List UInt8) : moreN s xs < 4294967296 := by unfold moreN; omega
theorem moreN_append (s : Nat) (xs ys : List UInt8) : moreN (moreN s xs) ys = moreN s (xs ++ ys) := by
  have h := regL_lt xs (r := 4294967295 - s) (by omega)
  unfold moreN
  rw [regL_append, show 4294967295 - (4294967295 - regL (4294967295 - s) xs) = regL (4294967295 - s) xs from by omega]

theorem xor_div2 (a b : Nat) : (a ^^^ b) / 2 = a / 2 ^^^ b / 2 := Nat.xor_div_two
theorem xor_mod2 (a b : Nat) : (a ^^^ b) % 2 = (a % 2 + b % 2) % 2 := by
  have h := @Nat.xor_mod_two_pow a b 1
  rw [Nat.pow_one] at h
  rw [h]
  rcases Nat.mod_two_eq_zero_or_one a with ha | ha <;> rcases Nat.mod_two_eq_zero_or_one b with hb | hb <;> rw [ha, hb] <;> rfl
theorem step_xor (a b : Nat) : stepN (a ^^^ b) = stepN a ^^^ stepN b := by
  have hm := xor_mod2 a b
  unfold stepN
  rw [xor_div2]
  rcases Nat.mod_two_eq_zero_or_one a with ha | ha <;> rcases Nat.mod_two_eq_zero_or_one b with hb | hb <;> rw [ha, hb] at hm <;> rw [hm, ha, hb]
  · rfl
  · rw [if_pos rfl, if_neg (by decide), if_pos rfl, Nat.xor_assoc]
  · rw [if_pos rfl, if_pos rfl, if_neg (by decide), Nat.xor_assoc, Nat.xor_comm (b / 2), ← Nat.xor_assoc]
  · rw [if_neg (by decide), if_pos rfl, if_pos rfl, Nat.xor_assoc, Nat.xor_comm 2197175160, Nat.xor_assoc, Nat.xor_self, Nat.xor_zero]
theorem st8_xor (a b : Nat) : st8 (a ^^^ b) = st8 a ^^^ st8 b := by unfold st8; simp only [step_xor]
theorem step_zero {d : Nat} (h : d < 4294967296) (e : stepN d = 0) : d = 0 := by
  unfold stepN at e
  split at e
  · have : d / 2 = 2197175160 := by
      have e2 : (d / 2 ^^^ 2197175160) ^^^ 2197175160 = 0 ^^^ 2197175160 := by rw [e]
      rwa [Nat.xor_assoc, Nat.xor_self, Nat.xor_zero, Nat.zero_xor] at e2
    omega
  · omega
theorem st8_zero {d : Nat} (h : d < 4294967296) (e : st8 d = 0) : d = 0 := by
  unfold st8 at e
  have l1 := step_lt h; have l2 := step_lt l1; have l3 := step_lt l2; have l4 := step_lt l3; have l5 := step_lt l4; have l6 := step_lt l5; have l7 := step_lt l6
  exact step_zero h (step_zero l1 (step_zero l2 (step_zero l3 (step_zero l4 (step_zero l5 (step_zero l6 (step_zero l7 e)))))))
theorem xor_eq_zero {a b : Nat} (h : a ^^^ b = 0) : a = b := by
  have e2 : (a ^^^ b) ^^^ b = 0 ^^^ b := by rw [h]
  rwa [Nat.xor_assoc, Nat.xor_self, Nat.xor_zero, Nat.zero_xor] at e2
theorem st8_inj {a b : Nat} (ha : a < 4294967296) (hb : b < 4294967296) (h : st8 a = st8 b) : a = b := by
  refine xor_eq_zero (st8_zero (xor_lt32 ha hb) ?_)
  rw [st8_xor, h, Nat.xor_self]
theorem xor_right_inj {a b c : Nat} (h : a ^^^ c = b ^^^ c) : a = b := by
  have e2 : (a ^^^ c) ^^^ c = (b ^^^ c) ^^^ c := by rw [h]
  rwa [Nat.xor_assoc, Nat.xor_assoc, Nat.xor_self, Nat.xor_zero, Nat.xor_zero] at e2
theorem crcB_inj {a b : Nat} (x : UInt8) (ha : a < 4294967296) (hb : b < 4294967296) (h : crcB a x = crcB b x) : a = b :=
  xor_right_inj (st8_inj (xor_lt32 ha (u8_lt32 x)) (xor_lt32 hb (u8_lt32 x)) h)
theorem regL_inj : ∀ (xs : List UInt8) {a b : Nat}, a < 4294967296 → b < 4294967296 → regL a xs = regL b xs → a = b
  | [], _, _, _, _, h => h
  | x :: xs, _, _, ha, hb, h => crcB_inj x ha hb (regL_inj xs (crcB_lt x ha) (crcB_lt x hb) h)
theorem step_even (h : Nat) : stepN (2 * h) = h := by unfold stepN; rw [if_neg (by omega)]; omega
theorem st8_high (h : Nat) : st8 (256 * h) = h := by
  unfold st8
  rw [show 256 * h = 2 * (2 * (2 * (2 * (2 * (2 * (2 * (2 * h))))))) from by omega]
  simp only [step_even]
theorem join256 (h l : Nat) (hl : l < 256) : 256 * h ^^^ l = 256 * h + l := by
  have e := nat_join 8 (256 * h) l (by omega) hl
  rw [← e]
  apply Nat.eq_of_testBit_eq
  intro i
  rw [Nat.testBit_xor, Nat.testBit_or]
  by_cases hi : i < 8
  · have : (256 * h).testBit i = false := by
      rw [show 256 * h = 2 ^ 8 * h from rfl, Nat.testBit_two_pow_mul]
      simp; omega
    rw [this]; simp
  · have : l.testBit i = false := Nat.testBit_lt_two_pow (Nat.lt_of_lt_of_le hl (Nat.pow_le_pow_right (n := 2) (by omega) (show 8 ≤ i by omega)))
    rw [this]; simp
/-- A byte by the table. -/
theorem crcB_tab {r : Nat} (x : UInt8) : st8 ((r % 256) ^^^ x.toNat) ^^^ (r / 256) = crcB r x := by
  unfold crcB
  have hx := x.toNat_lt
  have e : r ^^^ x.toNat = 256 * (r / 256) ^^^ ((r % 256) ^^^ x.toNat) := by
    rw [← Nat.xor_assoc, join256 _ _ (Nat.mod_lt _ (by omega)), Nat.div_add_mod]
  rw [e, st8_xor (256 * (r / 256)), st8_high, Nat.xor_comm]
/-- Bytes as a number, the lowest first. -/
def leN : List UInt8 → Nat
  | [] => 0
  | x :: xs => x.toNat + 256 * leN xs
theorem leN_lt : ∀ xs : List UInt8, leN xs < 256 ^ xs.length
  | [] => by simp [leN]
  | x :: xs => by
    have h := leN_lt xs
    have hx := x.toNat_lt
    rw [leN, List.length_cons, Nat.pow_succ]
    omega
theorem leN_inj : ∀ xs ys : List UInt8, xs.length = ys.length → leN xs = leN ys → xs = ys
  | [], [], _, _ => rfl
  | x :: xs, y :: ys, hl, h => by
    have hx := x.toNat_lt
    have hy := y.toNat_lt
    unfold leN at h
    have h1 : x.toNat = y.toNat := by omega
    have h2 : leN xs = leN ys := by omega
    rw [UInt8.toNat_inj.mp h1, leN_inj xs ys (by simpa using hl) h2]
def st8k : Nat → Nat → Nat
  | 0, r => r
  | k + 1, r => st8k k (st8 r)
theorem st8k_inj : ∀ (k : Nat) {a b : Nat}, a < 4294967296 → b < 4294967296 → st8k k a = st8k k b → a = b
  | 0, _, _, _, _, h => h
  | k + 1, _, _, ha, hb, h => st8_inj ha hb (st8k_inj k (st8_lt ha) (st8_lt hb) h)
theorem regL_le : ∀ (xs : List UInt8) (r : Nat), regL r xs = st8k xs.length (r ^^^ leN xs)
  | [], r => by simp [regL_nil, leN, st8k]
  | x :: xs, r => by
    rw [regL_cons, regL_le xs, List.length_cons, st8k, leN]
    congr 1
    have e : x.toNat + 256 * leN xs = 256 * leN xs ^^^ x.toNat := by rw [join256 _ _ x.toNat_lt]; omega
    rw [e, Nat.xor_comm (256 * leN xs), ← Nat.xor_assoc, st8_xor, st8_high]
    rfl
/-- Up to four bytes beside one another that are others turn the register, whatever comes ahead and behind. -/
theorem regL_burst {r : Nat} (hr : r < 4294967296) (pre xs ys suf : List UInt8) (hl : xs.length = ys.length) (h4 : xs.length ≤ 4) (hne : xs ≠ ys) : regL r (pre ++ xs ++ suf) ≠ regL r (pre ++ ys ++ suf) := by
  intro h
  have hp := regL_lt pre hr
  rw [regL_append, regL_append, regL_append _ _ suf, regL_append] at h
  have h1 := regL_inj suf (regL_lt xs hp) (regL_lt ys hp) h
  rw [regL_le xs, regL_le ys, ← hl] at h1
  have b : ∀ zs : List UInt8, zs.length ≤ 4 → leN zs < 4294967296 := fun zs hz => Nat.lt_of_lt_of_le (leN_lt zs) (show 256 ^ zs.length ≤ 256 ^ 4 from Nat.pow_le_pow_right (by omega) hz)
  have h2 := st8k_inj _ (xor_lt32 hp (b xs h4)) (xor_lt32 hp (b ys (by omega))) h1
  rw [Nat.xor_comm, Nat.xor_comm _ (leN ys)] at h2
  exact hne (leN_inj xs ys hl (xor_right_inj h2))
theorem moreN_burst (s : Nat) (pre xs ys suf : List UInt8) (hl : xs.length = ys.length) (h4 : xs.length ≤ 4) (hne : xs ≠ ys) : moreN s (pre ++ xs ++ suf) ≠ moreN s (pre ++ ys ++ suf) := by
  have h := regL_burst (r := 4294967295 - s) (by omega) pre xs ys suf hl h4 hne
  have h1 := regL_lt (pre ++ xs ++ suf) (r := 4294967295 - s) (by omega)
  have h2 := regL_lt (pre ++ ys ++ suf) (r := 4294967295 - s) (by omega)
  unfold moreN
  omega
/-- The table. -/
def tabL : List Nat := (List.range 256).map st8
theorem tabL_at (j : Nat) (h : j < 256) : tabL[j]? = some (st8 j) := by simp [tabL, h]
theorem known_sum : moreN 0 [49, 50, 51, 52, 53, 54, 55, 56, 57] = 3808858755 := by decide +kernel
end Go.Proofs.Ytbnedlcldfpfdaa
