/- Floats from 0 to 1: products, what is left to one, powers: they stay there and keep the order. -/
import Derived.Test.YtbemmhngadpjcaaBF1
namespace Go.Proofs.Ytbemmhngadpjcaa
set_option linter.unusedVariables false
set_option linter.unusedSimpArgs false
open Ieee

/-- The word of 1. -/
def ONE : Nat := 4607182418800017408
theorem wordf (r : Nat) : double.word false r = r := rfl
theorem dv_one : dv ONE = 2 ^ uE := one_dv
theorem one_lt : ONE < infR := by unfold ONE infR; omega
theorem dv_unit {x : Nat} (h : x ≤ ONE) : dv x ≤ 2 ^ uE := by rw [← dv_one]; exact dv_mono _ _ h
theorem mul_unit (x y : Nat) (hx : x ≤ ONE) (hy : y ≤ ONE) : ∃ r, double.mul x y = some r ∧ r ≤ x ∧ r ≤ y ∧ Exa (dv x * dv y) (2 ^ uE) r := by
  have h1 := one_lt
  have dx := dv_unit hx
  have dy := dv_unit hy
  obtain ⟨m, p, e1, v1, _⟩ := read_fin false x (by omega)
  obtain ⟨n, q, e2, v2, _⟩ := read_fin false y (by omega)
  rw [wordf] at e1 e2
  obtain ⟨a, ha⟩ : ∃ a, a = p + q - 1074 := ⟨_, rfl⟩
  obtain ⟨b, hb⟩ : ∃ b, b = 1074 - (p + q) := ⟨_, rfl⟩
  obtain ⟨k, hk⟩ : ∃ k, k = p + q - a := ⟨_, rfl⟩
  have k1 : a + k = p + q := by omega
  have k2 : b + k = uE := by unfold uE; omega
  obtain ⟨c, hc⟩ : ∃ c, c = 2 ^ k := ⟨_, rfl⟩
  have pc : 0 < c := hc ▸ pow_pos k
  have s1 : m * n * 2 ^ a * c = dv x * dv y := by
    rw [hc, Nat.mul_assoc, ← Nat.pow_add, k1, ← v1, ← v2, Nat.pow_add]
    rw [Nat.mul_assoc, Nat.mul_assoc, ← Nat.mul_assoc n, ← Nat.mul_assoc (2 ^ p), Nat.mul_comm n]
  have s2 : 2 ^ b * c = 2 ^ uE := by rw [hc, ← Nat.pow_add, k2]
  have cancel : ∀ X, dv x * dv y ≤ X * 2 ^ uE → m * n * 2 ^ a ≤ X * 2 ^ b := fun X h => by
    refine Nat.le_of_mul_le_mul_right ?_ pc
    rw [s1, Nat.mul_assoc, s2]
    exact h
  obtain ⟨r, e, hr, hR, hE⟩ := nearest_exa (false ^^ false) (m * n) ((p : Int) - 1074 + ((q : Int) - 1074)) a b ONE (by omega) (by omega) h1 (cancel _ (by rw [dv_one]; exact Nat.mul_le_mul dx dy))
  refine ⟨r, by unfold Format.mul; rw [e1, e2]; exact congrArg some e, hR.2.1 x (cancel _ (Nat.mul_le_mul_left _ dy)), hR.2.1 y (cancel _ (by rw [Nat.mul_comm]; exact Nat.mul_le_mul_left _ dx)), ?_⟩
  have := hE.scale c pc
  rw [s1, s2] at this
  exact this
theorem sub_unit (x : Nat) (hx : x ≤ ONE) : ∃ r, double.sub ONE x = some r ∧ r ≤ ONE ∧ Exa (2 ^ uE - dv x) 1 r := by
  have h1 := one_lt
  have dx := dv_unit hx
  obtain ⟨m, i, e1, v1, _⟩ := read_fin false ONE h1
  obtain ⟨n, j, e2, v2, _⟩ := read_fin false x (by omega)
  rw [wordf] at e1 e2
  rw [dv_one] at v1
  obtain ⟨b, hb⟩ : ∃ b : Nat, b = min i j := ⟨_, rfl⟩
  have hbase : min ((i : Int) - 1074) ((j : Int) - 1074) = (b : Int) - 1074 := by omega
  have hi : ((i : Int) - 1074 - ((b : Int) - 1074)).toNat = i - b := by omega
  have hj : ((j : Int) - 1074 - ((b : Int) - 1074)).toNat = j - b := by omega
  obtain ⟨tot, htot⟩ : ∃ tot : Int, tot = ((m * 2 ^ (i - b) : Nat) : Int) + -((n * 2 ^ (j - b) : Nat) : Int) := ⟨_, rfl⟩
  have key : ((2 ^ uE : Nat) : Int) - ((dv x : Nat) : Int) = tot * ((2 ^ b : Nat) : Int) := by
    have q1 : m * 2 ^ i = m * 2 ^ (i - b) * 2 ^ b := by rw [Nat.mul_assoc, ← Nat.pow_add]; congr 2; omega
    have q2 : n * 2 ^ j = n * 2 ^ (j - b) * 2 ^ b := by rw [Nat.mul_assoc, ← Nat.pow_add]; congr 2; omega
    rw [← v1, ← v2, q1, q2, htot, Int.add_mul]
    simp [Int.neg_mul]
    omega
  have pb := pow_pos b
  have ht0 : 0 ≤ tot := by
    by_cases q : tot < 0
    · have := Int.mul_neg_of_neg_of_pos q (show (0 : Int) < ((2 ^ b : Nat) : Int) by omega)
      omega
    · omega
  have hab : tot.natAbs * 2 ^ b = 2 ^ uE - dv x := by
    have q1 : ((tot.natAbs * 2 ^ b : Nat) : Int) = tot * ((2 ^ b : Nat) : Int) := by
      rw [Int.natCast_mul]
      congr 1
      omega
    omega
  have hneg : (if tot = 0 then false && true else decide (tot < 0)) = false := by
    split
    · rfl
    · exact decide_eq_false (by omega)
  obtain ⟨r, e, hr, hR, hE⟩ := nearest_exa false tot.natAbs ((b : Int) - 1074) b 0 ONE (by omega) (.inr rfl) h1 (by rw [hab, dv_one, Nat.pow_zero]; omega)
  rw [hab, Nat.pow_zero] at hE
  refine ⟨r, ?_, hr, hE⟩
  unfold Format.sub
  rw [e1, e2]
  simp only [Datum.opposite, Datum.sum, hbase, hi, hj, signed_val, Option.map_some, Format.write, Bool.not_false, Bool.false_eq_true, if_false, if_true]
  rw [← htot, hneg]
  exact congrArg some e
def mulF (x y : Nat) : Nat := (double.mul x y).getD 0
def subF (x : Nat) : Nat := (double.sub ONE x).getD 0
theorem mulF_ok {x y : Nat} (hx : x ≤ ONE) (hy : y ≤ ONE) : double.mul x y = some (mulF x y) ∧ mulF x y ≤ x ∧ mulF x y ≤ y ∧ Exa (dv x * dv y) (2 ^ uE) (mulF x y) := by
  obtain ⟨r, e, h⟩ := mul_unit x y hx hy
  have : mulF x y = r := by unfold mulF; rw [e]; rfl
  rw [this]
  exact ⟨e, h⟩
theorem subF_ok {x : Nat} (hx : x ≤ ONE) : double.sub ONE x = some (subF x) ∧ subF x ≤ ONE ∧ Exa (2 ^ uE - dv x) 1 (subF x) := by
  obtain ⟨r, e, h⟩ := sub_unit x hx
  have : subF x = r := by unfold subF; rw [e]; rfl
  rw [this]
  exact ⟨e, h⟩
theorem mulF_mono {x y x' y' : Nat} (hx : x ≤ x') (hx' : x' ≤ ONE) (hy : y ≤ y') (hy' : y' ≤ ONE) : mulF x y ≤ mulF x' y' :=
  Exa.mono (pow_pos uE) (mulF_ok (by omega) (by omega)).2.2.2 (mulF_ok hx' hy').2.2.2 (Nat.mul_le_mul (dv_mono _ _ hx) (dv_mono _ _ hy))
theorem subF_anti {x x' : Nat} (hx : x ≤ x') (hx' : x' ≤ ONE) : subF x' ≤ subF x := by
  have := dv_mono _ _ hx
  exact Exa.mono (by omega) (subF_ok hx').2.2 (subF_ok (by omega)).2.2 (by omega)
/-- pow, from z and b on. -/
def powF (z b n : Nat) : Nat := if h : n = 0 then z else powF (if n % 2 = 1 then mulF z b else z) (mulF b b) (n / 2)
termination_by n
decreasing_by omega
theorem powF_zero (z b : Nat) : powF z b 0 = z := by rw [powF]; rfl
theorem powF_succ (z b n : Nat) (h : 0 < n) : powF z b n = powF (if n % 2 = 1 then mulF z b else z) (mulF b b) (n / 2) := by
  rw [powF, dif_neg (by omega)]
theorem pow_stays (n : Nat) : ∀ z b, z ≤ ONE → b ≤ ONE → powF z b n ≤ z ∧ (0 < n → powF z b n ≤ b) := by
  induction n using Nat.strongRecOn with
  | _ n ih =>
    intro z b hz hb
    rcases Nat.eq_zero_or_pos n with h0 | h0
    · subst h0
      rw [powF_zero]
      exact ⟨Nat.le_refl _, fun h => by omega⟩
    · have hbb := mulF_ok hb hb
      have hzb := mulF_ok hz hb
      rw [powF_succ z b n h0]
      by_cases ho : n % 2 = 1
      · rw [if_pos ho]
        have := (ih (n / 2) (by omega) (mulF z b) (mulF b b) (by omega) (by omega)).1
        omega
      · rw [if_neg ho]
        have := ih (n / 2) (by omega) z (mulF b b) hz (by omega)
        have := this.2 (by omega)
        omega
theorem pow_mono (n : Nat) : ∀ z b z' b', z ≤ z' → z' ≤ ONE → b ≤ b' → b' ≤ ONE → powF z b n ≤ powF z' b' n := by
  induction n using Nat.strongRecOn with
  | _ n ih =>
    intro z b z' b' hz hz' hb hb'
    rcases Nat.eq_zero_or_pos n with h0 | h0
    · subst h0
      rw [powF_zero, powF_zero]
      exact hz
    · have hbb := mulF_ok hb' hb'
      have hzb := mulF_ok hz' hb'
      rw [powF_succ z b n h0, powF_succ z' b' n h0]
      have m1 := mulF_mono hb hb' hb hb'
      have m2 := mulF_mono hz hz' hb hb'
      by_cases ho : n % 2 = 1
      · rw [if_pos ho, if_pos ho]
        exact ih (n / 2) (by omega) _ _ _ _ m2 (by omega) m1 (by omega)
      · rw [if_neg ho, if_neg ho]
        exact ih (n / 2) (by omega) _ _ _ _ hz hz' m1 (by omega)
/-- How two that are finite and not below nought stand to each other. -/
theorem order_fin (x y : Nat) (hx : x < infR) (hy : y < infR) : double.order x y = some (if x < y then .lt else if x = y then .eq else .gt) := by
  obtain ⟨m, i, e1, v1, _⟩ := read_fin false x hx
  obtain ⟨n, j, e2, v2, _⟩ := read_fin false y hy
  rw [wordf] at e1 e2
  obtain ⟨b, hb⟩ : ∃ b : Nat, b = min i j := ⟨_, rfl⟩
  have hbase : min ((i : Int) - 1074) ((j : Int) - 1074) = (b : Int) - 1074 := by omega
  have hi : ((i : Int) - 1074 - ((b : Int) - 1074)).toNat = i - b := by omega
  have hj : ((j : Int) - 1074 - ((b : Int) - 1074)).toNat = j - b := by omega
  unfold Format.order
  rw [e1, e2]
  simp only [Datum.order, hbase, hi, hj, signed_val, Bool.false_eq_true, if_false]
  congr 1
  have pb := pow_pos b
  have q1 : m * 2 ^ (i - b) * 2 ^ b = dv x := by rw [← v1, Nat.mul_assoc, ← Nat.pow_add]; congr 2; omega
  have q2 : n * 2 ^ (j - b) * 2 ^ b = dv y := by rw [← v2, Nat.mul_assoc, ← Nat.pow_add]; congr 2; omega
  obtain ⟨X, hX⟩ : ∃ X, X = m * 2 ^ (i - b) := ⟨_, rfl⟩
  obtain ⟨Y, hY⟩ : ∃ Y, Y = n * 2 ^ (j - b) := ⟨_, rfl⟩
  rw [← hX] at q1 ⊢
  rw [← hY] at q2 ⊢
  have l1 : x < y → X < Y := fun h => by
    have := dv_lt x y h
    rw [← q1, ← q2] at this
    exact Nat.lt_of_mul_lt_mul_right this
  have l2 : y < x → Y < X := fun h => by
    have := dv_lt y x h
    rw [← q1, ← q2] at this
    exact Nat.lt_of_mul_lt_mul_right this
  have l3 : x = y → X = Y := fun h => by
    subst h
    rw [← q2] at q1
    exact Nat.eq_of_mul_eq_mul_right pb q1
  show compareOfLessAndEq (X : Int) (Y : Int) = _
  unfold compareOfLessAndEq
  rcases Nat.lt_trichotomy x y with h | h | h
  · have := l1 h
    rw [if_pos h, if_pos (by omega)]
  · have := l3 h
    rw [if_neg (by omega), if_pos (by omega), if_neg (by omega), if_pos h]
  · have := l2 h
    rw [if_neg (by omega), if_neg (by omega), if_neg (by omega), if_neg (by omega)]
theorem order_lt {x y : Nat} (hy : y < infR) (h : x < y) : double.order x y = some .lt := by rw [order_fin x y (by omega) hy, if_pos h]
theorem order_eq' {x : Nat} (hx : x < infR) : double.order x x = some .eq := by rw [order_fin x x hx hx, if_neg (by omega), if_pos rfl]
theorem order_gt {x y : Nat} (hx : x < infR) (h : y < x) : double.order x y = some .gt := by rw [order_fin x y hx (by omega), if_neg (by omega), if_neg (by omega)]
end Go.Proofs.Ytbemmhngadpjcaa
