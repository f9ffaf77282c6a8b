/- Floats of 64 bits: their values on one scale, and how a number is rounded to the nearest. -/
import Derived.Laws.FloatBits
import Derived.WalkKit
import Derived.Laws.FloatArith
namespace Go.Proofs.Ytbemmhngadpjcaa
set_option linter.unusedVariables false
set_option linter.unusedSimpArgs false
open Ieee

/-- The value of a rung, in units of the least number. -/
def dv (r : Nat) : Nat := if r < 4503599627370496 then r else (4503599627370496 + r % 4503599627370496) * 2 ^ (r / 4503599627370496 - 1)
theorem dv_rep (r : Nat) : ∃ s B : Nat, r = s * 4503599627370496 + B ∧ dv r = B * 2 ^ s ∧ B < 9007199254740992 ∧ (s = 0 ∨ 4503599627370496 ≤ B) := by
  by_cases h : r < 4503599627370496
  · exact ⟨0, r, by omega, by rw [dv, if_pos h]; simp, by omega, .inl rfl⟩
  · refine ⟨r / 4503599627370496 - 1, 4503599627370496 + r % 4503599627370496, by omega, by rw [dv, if_neg h], by omega, .inr (by omega)⟩
theorem dv_of (s B : Nat) (hB : B < 9007199254740992) (h : s = 0 ∨ 4503599627370496 ≤ B) : dv (s * 4503599627370496 + B) = B * 2 ^ s := by
  by_cases hb : B < 4503599627370496
  · have hs : s = 0 := by omega
    subst hs
    rw [dv, if_pos (by omega)]; simp
  · rw [dv, if_neg (by omega), show (s * 4503599627370496 + B) / 4503599627370496 - 1 = s by omega, show 4503599627370496 + (s * 4503599627370496 + B) % 4503599627370496 = B by omega]
theorem pow_split (a b : Nat) (h : a ≤ b) : 2 ^ b = 2 ^ a * 2 ^ (b - a) := by rw [← Nat.pow_add]; congr 1; omega
theorem pow_pos (n : Nat) : 0 < 2 ^ n := Nat.two_pow_pos n
theorem dv_mono (r t : Nat) (h : r ≤ t) : dv r ≤ dv t := by
  obtain ⟨s, B, e1, v1, b1, c1⟩ := dv_rep r
  obtain ⟨u, C, e2, v2, b2, c2⟩ := dv_rep t
  rw [v1, v2]
  rcases Nat.lt_trichotomy s u with hl | he | hg
  · have hC : 4503599627370496 ≤ C := by omega
    rw [pow_split (s + 1) u (by omega), Nat.pow_succ]
    have p1 := pow_pos s
    have p2 := pow_pos (u - (s + 1))
    calc B * 2 ^ s ≤ (2 * C) * 2 ^ s := Nat.mul_le_mul_right _ (by omega)
      _ = C * (2 ^ s * 2) * 1 := by rw [Nat.mul_one, Nat.mul_comm (2 ^ s) 2, ← Nat.mul_assoc, Nat.mul_comm C 2]
      _ ≤ C * (2 ^ s * 2) * 2 ^ (u - (s + 1)) := Nat.mul_le_mul_left _ p2
      _ = C * (2 ^ s * 2 * 2 ^ (u - (s + 1))) := by rw [Nat.mul_assoc]
  · subst he
    exact Nat.mul_le_mul_right _ (by omega)
  · omega
/-- The nearest whole number, between two the even one. -/
theorem cut_le (neg : Bool) (n drop B : Nat) (h : n ≤ B * 2 ^ drop) : Toward.even.cut neg n drop ≤ B := by
  unfold Toward.cut
  simp only [Nat.one_shiftLeft]
  obtain ⟨g, hg⟩ : ∃ g, g = min drop (n.log2 + 2) := ⟨_, rfl⟩
  rw [← hg]
  have pg := pow_pos g
  have h2 : n ≤ B * 2 ^ g ∨ (n < 2 ^ g ∧ 2 * n < 2 ^ g) := by
    by_cases hd : drop ≤ n.log2 + 2
    · left
      rw [hg, Nat.min_eq_left hd]; exact h
    · right
      have hl := Nat.lt_log2_self (n := n)
      rw [hg, Nat.min_eq_right (by omega), Nat.pow_succ]
      omega
  rcases h2 with h2 | ⟨h2, h3⟩
  · have hdm := Nat.div_add_mod n (2 ^ g)
    have hlt : n / 2 ^ g ≤ B := by
      rw [Nat.div_le_iff_le_mul_add_pred pg]
      rw [Nat.mul_comm]; omega
    by_cases hr : n % 2 ^ g = 0
    · rw [hr]
      have e1 : (decide (2 ^ g < 2 * 0) || (2 ^ g == 2 * 0 && n / 2 ^ g % 2 == 1)) = false := by
        have : ¬ 2 ^ g = 0 := by omega
        simp [this]
      rw [e1]
      simpa using hlt
    · have hlt2 : n / 2 ^ g < B := by
        rcases Nat.lt_or_ge (n / 2 ^ g) B with q | q
        · exact q
        · have hm := Nat.mul_le_mul_left (2 ^ g) q
          rw [Nat.mul_comm (2 ^ g) B] at hm
          omega
      have hb : ∀ b : Bool, b.toNat ≤ 1 := fun b => by cases b <;> decide
      exact Nat.le_trans (Nat.add_le_add_left (hb _) _) (by omega)
  · have e0 : n / 2 ^ g = 0 := Nat.div_eq_of_lt h2
    have e1 : n % 2 ^ g = n := Nat.mod_eq_of_lt h2
    rw [e0, e1]
    have e2 : (decide (2 ^ g < 2 * n) || (2 ^ g == 2 * n && 0 % 2 == 1)) = false := by
      simp; omega
    rw [e2]
    simp
theorem le_cut (neg : Bool) (n drop B : Nat) (h : B * 2 ^ drop ≤ n) : B ≤ Toward.even.cut neg n drop := by
  unfold Toward.cut
  simp only [Nat.one_shiftLeft]
  refine Nat.le_trans ?_ (Nat.le_add_right _ _)
  obtain ⟨g, hg⟩ : ∃ g, g = min drop (n.log2 + 2) := ⟨_, rfl⟩
  rw [← hg]
  have hgd : g ≤ drop := by omega
  rw [Nat.le_div_iff_mul_le (pow_pos g)]
  exact Nat.le_trans (Nat.mul_le_mul_left _ (Nat.pow_le_pow_right (by omega) hgd)) h
end Go.Proofs.Ytbemmhngadpjcaa

/- The nearest float: its bounds; reading a float back. -/
namespace Go.Proofs.Ytbemmhngadpjcaa
set_option linter.unusedVariables false
set_option linter.unusedSimpArgs false
open Ieee

/-- The rung of infinity. -/
def infR : Nat := 9218868437227405312
theorem dLeast : double.leastPlace = -1074 := by decide
theorem dBin : double.binade = 4503599627370496 := by decide
theorem dInf : double.infRung = 9218868437227405312 := by decide
theorem dSign : double.signWeight = 9223372036854775808 := by decide
theorem dFrac : (double.fractionBits : Int) = 52 := by decide
/-- A magnitude is rounded to a rung: from both sides. -/
def Rnd (mag a b r : Nat) : Prop := r ≤ infR ∧ (∀ t, mag * 2 ^ a ≤ dv t * 2 ^ b → r ≤ t) ∧ (∀ t, t ≤ infR → dv t * 2 ^ b ≤ mag * 2 ^ a → t ≤ r)
theorem nearest_rnd (neg : Bool) (mag : Nat) (place : Int) (a b : Nat) (hp : place + 1074 = (a : Int) - b) (hz : a = 0 ∨ b = 0) : ∃ r, double.nearest neg mag place = double.word neg r ∧ Rnd mag a b r := by
  by_cases h0 : mag = 0
  · refine ⟨0, by rw [Format.nearest, if_pos h0], Nat.zero_le _, fun t _ => Nat.zero_le _, fun t _ ht => ?_⟩
    subst h0
    rw [Nat.zero_mul] at ht
    have h1 : dv t * 2 ^ b = 0 := by omega
    have h2 : dv t = 0 := by
      rcases Nat.mul_eq_zero.1 h1 with h | h
      · exact h
      · have := pow_pos b; omega
    rcases Nat.eq_zero_or_pos t with h | h
    · omega
    · have := dv_mono 1 t h
      rw [show dv 1 = 1 by decide] at this
      omega
  · have hl1 := Nat.lt_log2_self (n := mag)
    have hl2 := Nat.log2_self_le h0
    obtain ⟨l, hl⟩ : ∃ l, l = mag.log2 := ⟨_, rfl⟩
    rw [← hl] at hl1 hl2
    obtain ⟨sh, hsh⟩ : ∃ sh, sh = (l + a) - (b + 52) := ⟨_, rfl⟩
    obtain ⟨last, hlast⟩ : ∃ last : Int, last = max (place + l - 52) (-1074) := ⟨_, rfl⟩
    have hls : last + 1074 = (sh : Int) := by omega
    obtain ⟨up, hup⟩ : ∃ up, up = (place - last).toNat := ⟨_, rfl⟩
    obtain ⟨dr, hdr⟩ : ∃ dr, dr = (last - place).toNat := ⟨_, rfl⟩
    have hud : up + (b + sh) = a + dr := by omega
    obtain ⟨K, hK⟩ : ∃ K, K = Toward.even.cut neg (mag * 2 ^ up) dr := ⟨_, rfl⟩
    have hn : double.nearest neg mag place = double.word neg (min (sh * 4503599627370496 + K) 9218868437227405312) := by
      rw [Format.nearest, if_neg h0]
      simp only [dFrac, dLeast, dBin, dInf, ← hl, ← hlast, ← hup, ← hdr, Nat.shiftLeft_eq, ← hK]
      rw [show (last - -1074).toNat = sh by omega]
    -- what the kept number is between
    have KU : ∀ B, mag * 2 ^ a ≤ B * 2 ^ (sh + b) → K ≤ B := fun B h => by
      rw [hK]
      refine cut_le neg _ _ B ?_
      have e1 : mag * 2 ^ up * 2 ^ (b + sh) = mag * 2 ^ a * 2 ^ dr := by rw [Nat.mul_assoc, ← Nat.pow_add, hud, Nat.pow_add, Nat.mul_assoc]
      have e2 := Nat.mul_le_mul_right (2 ^ dr) h
      rw [← e1, Nat.mul_assoc B, Nat.mul_comm (2 ^ (sh + b)), ← Nat.mul_assoc B, Nat.add_comm sh b] at e2
      exact Nat.le_of_mul_le_mul_right e2 (pow_pos _)
    have KL : ∀ B, B * 2 ^ (sh + b) ≤ mag * 2 ^ a → B ≤ K := fun B h => by
      rw [hK]
      refine le_cut neg _ _ B ?_
      have e1 : mag * 2 ^ up * 2 ^ (b + sh) = mag * 2 ^ a * 2 ^ dr := by rw [Nat.mul_assoc, ← Nat.pow_add, hud, Nat.pow_add, Nat.mul_assoc]
      have e2 := Nat.mul_le_mul_right (2 ^ dr) h
      rw [← e1, Nat.mul_assoc B, Nat.mul_comm (2 ^ (sh + b)), ← Nat.mul_assoc B, Nat.add_comm sh b] at e2
      exact Nat.le_of_mul_le_mul_right e2 (pow_pos _)
    have M1 : mag * 2 ^ a < 2 ^ (l + 1 + a) := by
      rw [Nat.pow_add]
      exact Nat.mul_lt_mul_of_pos_right hl1 (pow_pos a)
    have M2 : 2 ^ (l + a) ≤ mag * 2 ^ a := by
      rw [Nat.pow_add]
      exact Nat.mul_le_mul_right _ hl2
    refine ⟨_, hn, Nat.min_le_right _ _, fun t ht => ?_, fun t htI ht => ?_⟩
    · refine Nat.le_trans (Nat.min_le_left _ _) ?_
      obtain ⟨s, B, e1, v1, b1, c1⟩ := dv_rep t
      rw [v1, Nat.mul_assoc, ← Nat.pow_add] at ht
      rcases Nat.lt_trichotomy s sh with hlt | heq | hgt
      · exfalso
        have q1 : B * 2 ^ (s + b) < 2 ^ (53 + (s + b)) := by
          rw [Nat.pow_add 2 53]
          exact Nat.mul_lt_mul_of_pos_right (by omega) (pow_pos _)
        have q2 : 2 ^ (53 + (s + b)) ≤ 2 ^ (l + a) := Nat.pow_le_pow_right (by omega) (by omega)
        omega
      · subst heq
        have := KU B ht
        omega
      · have q1 : K ≤ 9007199254740992 := KU _ (by
          have : 2 ^ (l + 1 + a) ≤ 2 ^ (53 + (sh + b)) := Nat.pow_le_pow_right (by omega) (by omega)
          rw [Nat.pow_add 2 53] at this
          rw [show (9007199254740992 : Nat) = 2 ^ 53 from rfl]
          omega)
        omega
    · refine Nat.le_min.2 ⟨?_, htI⟩
      obtain ⟨s, B, e1, v1, b1, c1⟩ := dv_rep t
      rw [v1, Nat.mul_assoc, ← Nat.pow_add] at ht
      rcases Nat.lt_trichotomy s sh with hlt | heq | hgt
      · have q1 : 4503599627370496 ≤ K := KL _ (by
          have : 2 ^ (52 + (sh + b)) ≤ 2 ^ (l + a) := Nat.pow_le_pow_right (by omega) (by omega)
          rw [Nat.pow_add 2 52] at this
          rw [show (4503599627370496 : Nat) = 2 ^ 52 from rfl]
          omega)
        omega
      · subst heq
        have := KL B ht
        omega
      · exfalso
        have q1 : 2 ^ (52 + (s + b)) ≤ B * 2 ^ (s + b) := by
          rw [Nat.pow_add 2 52]
          exact Nat.mul_le_mul_right _ (by omega)
        have q2 : 2 ^ (l + 1 + a) ≤ 2 ^ (52 + (s + b)) := Nat.pow_le_pow_right (by omega) (by omega)
        omega
/-- What a finite word stands for. -/
theorem read_fin (neg : Bool) (r : Nat) (h : r < infR) : ∃ (m : Nat) (p : Nat), double.read (double.word neg r) = .number neg m ((p : Int) - 1074) ∧ m * 2 ^ p = dv r ∧ m < 9007199254740992 ∧ (m = 0 ↔ r = 0) ∧ (4503599627370496 ≤ r → 4503599627370496 ≤ m) := by
  unfold infR at h
  have e1 : double.word neg r / 9223372036854775808 % 2 = if neg then 1 else 0 := by
    unfold Format.word
    rw [dSign]
    cases neg <;> simp <;> omega
  have e2 : double.word neg r % 9223372036854775808 = r := by
    unfold Format.word
    rw [dSign]
    cases neg <;> simp <;> omega
  have e3 : (double.word neg r / 9223372036854775808 % 2 == 1) = neg := by rw [e1]; cases neg <;> rfl
  unfold Format.read
  simp only [dSign, dBin, dInf, dLeast, e2, e3]
  by_cases h1 : r < 4503599627370496
  · exact ⟨r, 0, by rw [if_pos h1]; rfl, by rw [dv, if_pos h1]; simp, by omega, Iff.rfl, fun h => by omega⟩
  · refine ⟨4503599627370496 + r % 4503599627370496, r / 4503599627370496 - 1, by rw [if_neg h1, if_pos h]; congr 1 <;> omega, by rw [dv, if_neg h1], by omega, ⟨fun h => by omega, fun h => by omega⟩, fun _ => by omega⟩
theorem read_inf (neg : Bool) : double.read (double.word neg infR) = .infinity neg := by cases neg <;> decide
end Go.Proofs.Ytbemmhngadpjcaa

/- Sums, differences, products, quotients, roots of floats: what is known of them. -/
namespace Go.Proofs.Ytbemmhngadpjcaa
set_option linter.unusedVariables false
set_option linter.unusedSimpArgs false
open Ieee

/-- The value of a word of this sign and rung. -/
def val (neg : Bool) (r : Nat) : Int := if neg then -(dv r : Int) else (dv r : Int)
/-- What a sum or a difference is rounded to. -/
def Near (T : Int) (neg : Bool) (r : Nat) : Prop := Rnd T.natAbs 0 0 r ∧ (0 < T → neg = false) ∧ (T < 0 → neg = true)
theorem signed_val (neg : Bool) (m up : Nat) : signed neg m up = if neg then -((m * 2 ^ up : Nat) : Int) else ((m * 2 ^ up : Nat) : Int) := by
  unfold signed; rw [Nat.shiftLeft_eq]
theorem Rnd.shift {mag a r : Nat} (h : Rnd mag a 0 r) : Rnd (mag * 2 ^ a) 0 0 r := by
  unfold Rnd at h ⊢
  simpa using h
theorem sum_near (s t : Bool) (m n : Nat) (i j : Nat) : ∃ neg r, ((Datum.number s m ((i : Int) - 1074)).sum (.number t n ((j : Int) - 1074))).map double.write = some (double.word neg r) ∧ Near ((if s then -((m * 2 ^ i : Nat) : Int) else ((m * 2 ^ i : Nat) : Int)) + (if t then -((n * 2 ^ j : Nat) : Int) else ((n * 2 ^ j : Nat) : Int))) neg r := by
  obtain ⟨b, hb⟩ : ∃ b : Nat, b = min i j := ⟨_, rfl⟩
  have hbase : min ((i : Int) - 1074) ((j : Int) - 1074) = (b : Int) - 1074 := by omega
  have hi : ((i : Int) - 1074 - ((b : Int) - 1074)).toNat = i - b := by omega
  have hj : ((j : Int) - 1074 - ((b : Int) - 1074)).toNat = j - b := by omega
  simp only [Datum.sum, hbase, hi, hj, signed_val, Option.map_some, Format.write]
  obtain ⟨tot, htot⟩ : ∃ tot : Int, tot = (if s then -((m * 2 ^ (i - b) : Nat) : Int) else ((m * 2 ^ (i - b) : Nat) : Int)) + (if t then -((n * 2 ^ (j - b) : Nat) : Int) else ((n * 2 ^ (j - b) : Nat) : Int)) := ⟨_, rfl⟩
  rw [← htot]
  have key : (if s then -((m * 2 ^ i : Nat) : Int) else ((m * 2 ^ i : Nat) : Int)) + (if t then -((n * 2 ^ j : Nat) : Int) else ((n * 2 ^ j : Nat) : Int)) = tot * ((2 ^ b : Nat) : Int) := by
    have e1 : m * 2 ^ i = m * 2 ^ (i - b) * 2 ^ b := by rw [Nat.mul_assoc, ← Nat.pow_add]; congr 2; omega
    have e2 : n * 2 ^ j = n * 2 ^ (j - b) * 2 ^ b := by rw [Nat.mul_assoc, ← Nat.pow_add]; congr 2; omega
    rw [e1, e2, htot, Int.add_mul]
    cases s <;> cases t <;> simp [Int.neg_mul]
  rw [key]
  obtain ⟨r, e, hr⟩ := nearest_rnd (if tot = 0 then s && t else decide (tot < 0)) tot.natAbs ((b : Int) - 1074) b 0 (by omega) (.inr rfl)
  refine ⟨_, r, congrArg some e, ?_, ?_, ?_⟩
  · rw [Int.natAbs_mul, Int.natAbs_natCast]
    exact hr.shift
  · intro h
    have hp := pow_pos b
    have : 0 < tot := by
      rcases Int.lt_trichotomy tot 0 with q | q | q
      · have := Int.mul_neg_of_neg_of_pos q (show (0 : Int) < ((2 ^ b : Nat) : Int) by omega)
        omega
      · rw [q] at h; simp at h
      · exact q
    rw [if_neg (by omega)]
    exact decide_eq_false (by omega)
  · intro h
    have hp := pow_pos b
    have : tot < 0 := by
      rcases Int.lt_trichotomy tot 0 with q | q | q
      · exact q
      · rw [q] at h; simp at h
      · have := Int.mul_pos q (show (0 : Int) < ((2 ^ b : Nat) : Int) by omega)
        omega
    rw [if_neg (by omega)]
    exact decide_eq_true this
theorem val_of {neg : Bool} {m p r : Nat} (h : m * 2 ^ p = dv r) : (if neg then -((m * 2 ^ p : Nat) : Int) else ((m * 2 ^ p : Nat) : Int)) = val neg r := by
  unfold val; rw [h]
theorem add_near (s t : Bool) (x y : Nat) (hx : x < infR) (hy : y < infR) : ∃ neg r, double.add (double.word s x) (double.word t y) = some (double.word neg r) ∧ Near (val s x + val t y) neg r := by
  obtain ⟨m, p, e1, v1, _⟩ := read_fin s x hx
  obtain ⟨n, q, e2, v2, _⟩ := read_fin t y hy
  obtain ⟨neg, r, h1, h2⟩ := sum_near s t m n p q
  rw [val_of v1, val_of v2] at h2
  exact ⟨neg, r, by unfold Format.add; rw [e1, e2]; exact h1, h2⟩
theorem sub_near (s t : Bool) (x y : Nat) (hx : x < infR) (hy : y < infR) : ∃ neg r, double.sub (double.word s x) (double.word t y) = some (double.word neg r) ∧ Near (val s x - val t y) neg r := by
  obtain ⟨m, p, e1, v1, _⟩ := read_fin s x hx
  obtain ⟨n, q, e2, v2, _⟩ := read_fin t y hy
  obtain ⟨neg, r, h1, h2⟩ := sum_near s (!t) m n p q
  rw [val_of v1, val_of v2] at h2
  refine ⟨neg, r, by unfold Format.sub; rw [e1, e2]; exact h1, ?_⟩
  have : val s x + val (!t) y = val s x - val t y := by unfold val; cases t <;> simp <;> omega
  rw [← this]; exact h2
/-- One, in units of the least number: its place. -/
def uE : Nat := 1074
/-- Of a whole number its float. -/
theorem int_near (neg : Bool) (n : Nat) : ∃ r, double.nearest neg n 0 = double.word neg r ∧ Rnd (n * 2 ^ uE) 0 0 r := by
  obtain ⟨r, e, hr⟩ := nearest_rnd neg n 0 uE 0 (by unfold uE; omega) (.inr rfl)
  exact ⟨r, e, hr.shift⟩
/-- Not below nought, or a nought: infinity too. -/
def Non (w : Nat) : Prop := ∃ neg r, w = double.word neg r ∧ r ≤ infR ∧ (neg = false ∨ r = 0)
theorem infR_le {r : Nat} (h : r ≤ infR) : r < infR ∨ r = infR := by omega
end Go.Proofs.Ytbemmhngadpjcaa

/- What is not below nought stays so; quotients. -/
namespace Go.Proofs.Ytbemmhngadpjcaa
set_option linter.unusedVariables false
set_option linter.unusedSimpArgs false
open Ieee

theorem near_word (neg : Bool) (m : Nat) (place : Int) : ∃ r, double.nearest neg m place = double.word neg r ∧ r ≤ infR ∧ (m = 0 → r = 0) := by
  by_cases h0 : m = 0
  · exact ⟨0, by rw [Format.nearest, if_pos h0], Nat.zero_le _, fun _ => rfl⟩
  · obtain ⟨a, b, hp, hz⟩ : ∃ a b : Nat, place + 1074 = (a : Int) - b ∧ (a = 0 ∨ b = 0) := ⟨(place + 1074).toNat, (-(place + 1074)).toNat, by omega, by omega⟩
    obtain ⟨r, e, hr⟩ := nearest_rnd neg m place a b hp hz
    exact ⟨r, e, hr.1, fun h => absurd h h0⟩
/-- A product of two of one sign, or with a nought. -/
theorem mul_non (s t : Bool) (x y : Nat) (hx : x < infR) (hy : y < infR) (h : s = t ∨ x = 0 ∨ y = 0) : ∃ w, double.mul (double.word s x) (double.word t y) = some w ∧ Non w := by
  obtain ⟨m, p, e1, v1, _, z1, _⟩ := read_fin s x hx
  obtain ⟨n, q, e2, v2, _, z2, _⟩ := read_fin t y hy
  obtain ⟨r, e, hr, h0⟩ := near_word (s ^^ t) (m * n) ((p : Int) - 1074 + ((q : Int) - 1074))
  refine ⟨_, by unfold Format.mul; rw [e1, e2]; rfl, s ^^ t, r, e, hr, ?_⟩
  rcases h with rfl | h | h
  · left; cases s <;> rfl
  · right; exact h0 (by rw [z1.2 h, Nat.zero_mul])
  · right; exact h0 (by rw [z2.2 h, Nat.mul_zero])
theorem write_inf (neg : Bool) : double.write (.infinity neg) = double.word neg infR := by cases neg <;> decide
theorem add_non (x y : Nat) (hx : Non x) (hy : Non y) : ∃ w, double.add x y = some w ∧ Non w := by
  obtain ⟨s, a, rfl, ha, ca⟩ := hx
  obtain ⟨t, b, rfl, hb, cb⟩ := hy
  rcases infR_le ha with ha' | rfl
  · rcases infR_le hb with hb' | rfl
    · obtain ⟨neg, r, e, hn⟩ := add_near s t a b ha' hb'
      refine ⟨_, e, neg, r, rfl, hn.1.1, ?_⟩
      have hs : 0 ≤ val s a := by
        rcases ca with rfl | rfl
        · simp [val]
        · have : dv 0 = 0 := by decide
          unfold val; rw [this]; cases s <;> simp
      have ht : 0 ≤ val t b := by
        rcases cb with rfl | rfl
        · simp [val]
        · have : dv 0 = 0 := by decide
          unfold val; rw [this]; cases t <;> simp
      rcases Int.lt_trichotomy 0 (val s a + val t b) with q | q | q
      · exact .inl (hn.2.1 q)
      · right
        have := hn.1.2.1 0 (by rw [← q]; simp)
        omega
      · omega
    · have ht : t = false := by
        rcases cb with h | h
        · exact h
        · unfold infR at h; omega
      subst ht
      obtain ⟨m, p, e1, _⟩ := read_fin s a ha'
      refine ⟨_, by unfold Format.add; rw [e1, read_inf]; rfl, false, infR, write_inf false, Nat.le_refl _, .inl rfl⟩
  · have hs : s = false := by
      rcases ca with h | h
      · exact h
      · unfold infR at h; omega
    subst hs
    rcases infR_le hb with hb' | rfl
    · obtain ⟨m, p, e1, _⟩ := read_fin t b hb'
      refine ⟨_, by unfold Format.add; rw [e1, read_inf]; rfl, false, infR, write_inf false, Nat.le_refl _, .inl rfl⟩
    · have ht : t = false := by
        rcases cb with h | h
        · exact h
        · unfold infR at h; omega
      subst ht
      refine ⟨_, by unfold Format.add; rw [read_inf]; rfl, false, infR, write_inf false, Nat.le_refl _, .inl rfl⟩
theorem div_non (x k : Nat) (hx : Non x) (hk : k < infR) (hk0 : 0 < k) : ∃ w, double.div x (double.word false k) = some w ∧ Non w := by
  obtain ⟨s, a, rfl, ha, ca⟩ := hx
  obtain ⟨n, q, e2, v2, _, z2, _⟩ := read_fin false k hk
  have hn0 : n ≠ 0 := fun h => by have := z2.1 h; omega
  rcases infR_le ha with ha' | rfl
  · obtain ⟨m, p, e1, v1, _, z1, _⟩ := read_fin s a ha'
    obtain ⟨more, hmore⟩ : ∃ more, more = double.fractionBits + 2 + n.log2 - m.log2 := ⟨_, rfl⟩
    obtain ⟨r, e, hr, h0⟩ := near_word (s ^^ false) (2 * (m <<< more / n) + (m <<< more % n != 0).toNat) ((p : Int) - 1074 - ((q : Int) - 1074) - more - 1)
    refine ⟨_, by unfold Format.div; rw [e1, e2]; simp only [Datum.quotient, if_neg hn0, ← hmore]; rfl, s ^^ false, r, e, hr, ?_⟩
    rcases ca with rfl | rfl
    · exact .inl rfl
    · right
      refine h0 ?_
      rw [z1.2 rfl]
      simp
  · have hs : s = false := by
      rcases ca with h | h
      · exact h
      · unfold infR at h; omega
    subst hs
    exact ⟨_, by unfold Format.div; rw [e2, read_inf]; rfl, false, infR, write_inf false, Nat.le_refl _, .inl rfl⟩
theorem sqrt_non (x : Nat) (hx : Non x) : ∃ w, double.sqrt x = some w ∧ Non w := by
  obtain ⟨s, a, rfl, ha, ca⟩ := hx
  rcases infR_le ha with ha' | rfl
  · obtain ⟨m, p, e1, v1, _, z1, _⟩ := read_fin s a ha'
    by_cases hm : m = 0
    · obtain ⟨r, e, hr, h0⟩ := near_word s m ((p : Int) - 1074)
      exact ⟨_, by unfold Format.sqrt; rw [e1]; simp only [Datum.root, if_pos hm]; rfl, s, r, e, hr, .inr (h0 hm)⟩
    · have hs : s = false := by
        rcases ca with h | h
        · exact h
        · exact absurd (z1.2 h) hm
      subst hs
      unfold Format.sqrt
      rw [e1]
      simp only [Datum.root, if_neg hm, Option.map_some, Bool.false_eq_true, if_false]
      obtain ⟨r, e, hr, -⟩ := near_word false _ _
      exact ⟨_, rfl, false, r, e, hr, .inl rfl⟩
  · have hs : s = false := by
      rcases ca with h | h
      · exact h
      · unfold infR at h; omega
    subst hs
    exact ⟨_, by unfold Format.sqrt; rw [read_inf]; rfl, false, infR, write_inf false, Nat.le_refl _, .inl rfl⟩
/-- Each is equal to itself. -/
theorem order_self (neg : Bool) (r : Nat) (h : r ≤ infR) : double.order (double.word neg r) (double.word neg r) = some .eq := by
  rcases infR_le h with h | rfl
  · obtain ⟨m, p, e1, _⟩ := read_fin neg r h
    unfold Format.order
    rw [e1]
    simp [Datum.order]
  · unfold Format.order
    rw [read_inf]
    cases neg <;> rfl
end Go.Proofs.Ytbemmhngadpjcaa

/- A quotient by one or more, by two or more; the mean of some numbers, step by step. -/
namespace Go.Proofs.Ytbemmhngadpjcaa
set_option linter.unusedVariables false
set_option linter.unusedSimpArgs false
open Ieee

theorem dv_half (x : Nat) (h : 9007199254740992 ≤ x) : dv x = 2 * dv (x - 4503599627370496) := by
  obtain ⟨s, B, e1, v1, b1, c1⟩ := dv_rep x
  obtain ⟨u, rfl⟩ : ∃ u, s = u + 1 := ⟨s - 1, by omega⟩
  rw [v1, show x - 4503599627370496 = u * 4503599627370496 + B by omega, dv_of u B b1 (.inr (by omega)), Nat.pow_succ, ← Nat.mul_assoc, Nat.mul_comm]
theorem dv_small (x : Nat) (h : x < 9007199254740992) : dv x = x := by
  have := dv_of 0 x h (.inl rfl)
  simpa using this
theorem log2_top (n : Nat) (h1 : 4503599627370496 ≤ n) (h2 : n < 9007199254740992) : n.log2 = 52 := by
  have a := Nat.log2_self_le (n := n) (by omega)
  have b := Nat.lt_log2_self (n := n)
  have c : ¬ 53 ≤ n.log2 := fun h => by
    have := Nat.pow_le_pow_right (n := 2) (by omega) h
    rw [show (2 : Nat) ^ 53 = 9007199254740992 from rfl] at this
    omega
  have d : ¬ n.log2 + 1 ≤ 52 := fun h => by
    have := Nat.pow_le_pow_right (n := 2) (by omega) h
    rw [show (2 : Nat) ^ 52 = 4503599627370496 from rfl] at this
    omega
  omega
theorem log2_low (m : Nat) (h0 : m ≠ 0) (h2 : m < 9007199254740992) : m.log2 ≤ 52 := by
  have a := Nat.log2_self_le h0
  have c : ¬ 53 ≤ m.log2 := fun h => by
    have := Nat.pow_le_pow_right (n := 2) (by omega) h
    rw [show (2 : Nat) ^ 53 = 9007199254740992 from rfl] at this
    omega
  omega
theorem quo_le (D n C : Nat) (hn : 0 < n) (h : D ≤ C * n) : 2 * (D / n) + (D % n != 0).toNat ≤ 2 * C := by
  have hdm := Nat.div_add_mod D n
  by_cases hr : D % n = 0
  · rw [hr] at hdm ⊢
    have : D / n ≤ C := by
      rw [Nat.div_le_iff_le_mul_add_pred hn, Nat.mul_comm]; omega
    simp; omega
  · have hlt : D / n < C := by
      rcases Nat.lt_or_ge (D / n) C with q | q
      · exact q
      · have hm := Nat.mul_le_mul_left n q
        rw [Nat.mul_comm n C] at hm
        omega
    have hb : ∀ b : Bool, b.toNat ≤ 1 := fun b => by cases b <;> decide
    have := hb (D % n != 0)
    omega
theorem div_near (s : Bool) (x k : Nat) (hx : x < infR) (hk : k < infR) (hk1 : 2 ^ uE ≤ dv k) : ∃ r, double.div (double.word s x) (double.word false k) = some (double.word s r) ∧ r ≤ x ∧ (2 ^ (uE + 1) ≤ dv k → 9007199254740992 ≤ x → r + 4503599627370496 ≤ x) := by
  obtain ⟨m, p, e1, v1, m53, z1, _⟩ := read_fin s x hx
  obtain ⟨n, q, e2, v2, n53, z2, n52⟩ := read_fin false k hk
  have hp52 : (2 : Nat) ^ 53 ≤ 2 ^ uE := Nat.pow_le_pow_right (by omega) (by unfold uE; omega)
  have hkQ : 4503599627370496 ≤ k := by
    rcases Nat.lt_or_ge k 4503599627370496 with h | h
    · rw [dv_small k (by omega)] at hk1
      rw [show (2 : Nat) ^ 53 = 9007199254740992 from rfl] at hp52
      omega
    · exact h
  have hnQ := n52 hkQ
  have hn0 : n ≠ 0 := by omega
  have ln := log2_top n hnQ n53
  by_cases hm0 : m = 0
  · obtain ⟨more, hmore⟩ : ∃ more, more = double.fractionBits + 2 + n.log2 - m.log2 := ⟨_, rfl⟩
    obtain ⟨r, e, hr, h0⟩ := near_word s (2 * (m <<< more / n) + (m <<< more % n != 0).toNat) ((p : Int) - 1074 - ((q : Int) - 1074) - more - 1)
    have hr0 : r = 0 := h0 (by rw [hm0]; simp)
    refine ⟨r, by unfold Format.div; rw [e1, e2]; simp only [Datum.quotient, if_neg hn0, ← hmore, Bool.xor_false]; exact congrArg some e, by omega, fun _ h => ?_⟩
    have := z1.1 hm0
    omega
  · have lm := log2_low m hm0 m53
    obtain ⟨more, hmore⟩ : ∃ more, more = double.fractionBits + 2 + n.log2 - m.log2 := ⟨_, rfl⟩
    have hmore2 : more = 106 - m.log2 := by
      rw [hmore, ln]
      show 52 + 2 + 52 - m.log2 = _
      omega
    have hq : 1022 ≤ q := by
      rcases Nat.lt_or_ge q 1022 with h | h
      · exfalso
        have a1 : n * 2 ^ q < 2 ^ 53 * 2 ^ q := Nat.mul_lt_mul_of_pos_right n53 (pow_pos q)
        rw [← Nat.pow_add] at a1
        have a2 : (2 : Nat) ^ (53 + q) ≤ 2 ^ uE := Nat.pow_le_pow_right (by omega) (by unfold uE; omega)
        omega
      · exact h
    obtain ⟨J, hJ⟩ : ∃ J, J + uE = q + more := ⟨q + more - 1074, by unfold uE; omega⟩
    have hJ1 : J + 1074 = q + more := hJ
    have hJ2 : 2 ≤ J := by omega
    obtain ⟨a, b, hab, hz⟩ : ∃ a b : Nat, (p : Int) - 1074 - ((q : Int) - 1074) - more - 1 + 1074 = (a : Int) - b ∧ (a = 0 ∨ b = 0) := ⟨((p : Int) - 1074 - ((q : Int) - 1074) - more - 1 + 1074).toNat, (-((p : Int) - 1074 - ((q : Int) - 1074) - more - 1 + 1074)).toNat, by omega, by omega⟩
    have habJ : a + J + 1 = p + b := by omega
    obtain ⟨r, e, hr⟩ := nearest_rnd s (2 * (m * 2 ^ more / n) + (m * 2 ^ more % n != 0).toNat) ((p : Int) - 1074 - ((q : Int) - 1074) - more - 1) a b hab hz
    have hJn : n * 2 ^ J * 2 ^ uE = n * 2 ^ q * 2 ^ more := by rw [Nat.mul_assoc, ← Nat.pow_add, hJ, Nat.pow_add, Nat.mul_assoc]
    refine ⟨r, by unfold Format.div; rw [e1, e2]; simp only [Datum.quotient, if_neg hn0, ← hmore, Bool.xor_false, Nat.shiftLeft_eq]; exact congrArg some e, ?_, fun hk2 hx2 => ?_⟩
    · refine hr.2.1 x ?_
      have hC : m * 2 ^ more ≤ m * 2 ^ J * n := by
        rw [Nat.mul_assoc]
        refine Nat.mul_le_mul_left m ?_
        refine Nat.le_of_mul_le_mul_right ?_ (pow_pos uE)
        rw [Nat.mul_comm (2 ^ J) n, hJn, v2, Nat.mul_comm]
        exact Nat.mul_le_mul_right _ hk1
      have hq1 := quo_le (m * 2 ^ more) n (m * 2 ^ J) (by omega) hC
      have h1 := Nat.mul_le_mul_right (2 ^ a) hq1
      refine Nat.le_trans h1 ?_
      rw [← v1, Nat.mul_assoc m (2 ^ p), ← Nat.pow_add, ← habJ, Nat.mul_assoc 2, Nat.mul_assoc m, ← Nat.pow_add, Nat.pow_succ, Nat.mul_comm 2, Nat.mul_assoc m, Nat.add_comm J a]
      exact Nat.le_refl _
    · have hle : r ≤ x - 4503599627370496 := by
        refine hr.2.1 (x - 4503599627370496) ?_
        obtain ⟨J', rfl⟩ : ∃ J', J = J' + 1 := ⟨J - 1, by omega⟩
        have hC : m * 2 ^ more ≤ m * 2 ^ J' * n := by
          rw [Nat.mul_assoc]
          refine Nat.mul_le_mul_left m ?_
          refine Nat.le_of_mul_le_mul_right ?_ (pow_pos (uE + 1))
          have e4 : 2 ^ J' * n * 2 ^ (uE + 1) = n * 2 ^ q * 2 ^ more := by
            rw [← hJn, Nat.pow_succ, Nat.pow_succ, Nat.mul_comm (2 ^ J') n, Nat.mul_assoc n, Nat.mul_assoc n, Nat.mul_assoc (2 ^ J'), Nat.mul_comm (2 ^ uE) 2]
          rw [e4, v2, Nat.mul_comm]
          exact Nat.mul_le_mul_right _ hk2
        have hq1 := quo_le (m * 2 ^ more) n (m * 2 ^ J') (by omega) hC
        have h1 := Nat.mul_le_mul_right (2 ^ a) hq1
        refine Nat.le_trans h1 ?_
        have hh := dv_half x hx2
        have e5 : dv x * 2 ^ b = 2 * (m * 2 ^ J') * 2 ^ a * 2 := by
          rw [← v1, Nat.mul_assoc m (2 ^ p), ← Nat.pow_add, ← habJ, Nat.mul_comm 2, Nat.mul_assoc m, Nat.mul_assoc m, Nat.mul_assoc m]
          refine congrArg (m * ·) ?_
          rw [← Nat.pow_succ, ← Nat.pow_add, ← Nat.pow_succ]
          exact congrArg (2 ^ ·) (by omega)
        rw [hh, Nat.mul_assoc 2] at e5
        omega
      omega
end Go.Proofs.Ytbemmhngadpjcaa

/- One step of the mean and of the squares: nothing overflows, and what is added is not below nought. -/
namespace Go.Proofs.Ytbemmhngadpjcaa
set_option linter.unusedVariables false
set_option linter.unusedSimpArgs false
open Ieee

theorem dv_pow (s : Nat) : dv (s * 4503599627370496 + 4503599627370496) = 2 ^ (52 + s) := by
  rw [dv_of s 4503599627370496 (by omega) (.inr (by omega)), Nat.pow_add]
theorem dv_pow' (s e : Nat) (h : 52 + s = e) : dv (s * 4503599627370496 + 4503599627370496) = 2 ^ e := by
  subst h
  exact dv_pow s
/-- The rung of 2^63. -/
def R63 : Nat := 1085 * 4503599627370496 + 4503599627370496
def R64 : Nat := 1086 * 4503599627370496 + 4503599627370496
theorem dv63 : dv R63 = 2 ^ (63 + uE) := dv_pow' 1085 (63 + uE) rfl
theorem dv64 : dv R64 = 2 * dv R63 := by
  have h := dv_half R64 (by unfold R64; omega)
  rw [h]
  congr 2
theorem R63_lt : R63 < infR := by unfold R63 infR; omega
theorem R64_lt : R64 < infR := by unfold R64 infR; omega
theorem val_le (s : Bool) (r : Nat) : (val s r).natAbs = dv r := by unfold val; cases s <;> simp
theorem dv_zero : dv 0 = 0 := by decide
theorem near_zero {neg : Bool} {r : Nat} (h : Near 0 neg r) : r = 0 := by
  have := h.1.2.1 0 (by simp)
  omega
/-- What is rounded stays between two floats that it lay between. -/
theorem near_between {T : Int} {neg s t : Bool} {r x y : Nat} (h : Near T neg r) (hx : x ≤ infR) (hy : y ≤ infR) (h1 : val s x ≤ T) (h2 : T ≤ val t y) : val s x ≤ val neg r ∧ val neg r ≤ val t y := by
  rcases Int.lt_trichotomy T 0 with q | q | q
  · have hn := h.2.2 q
    subst hn
    have e : val true r = -(dv r : Int) := rfl
    refine ⟨?_, ?_⟩
    · -- below: x is below nought
      cases s with
      | false => unfold val at h1; simp at h1 <;> omega
      | true =>
        have hr := h.1.2.1 x (by simp only [Nat.pow_zero, Nat.mul_one]; unfold val at h1; simp at h1 <;> omega)
        have := dv_mono r x hr
        unfold val; simp <;> omega
    · cases t with
      | false => unfold val; simp <;> omega
      | true =>
        have hr := h.1.2.2 y hy (by simp only [Nat.pow_zero, Nat.mul_one]; unfold val at h2; simp at h2 <;> omega)
        have := dv_mono y r hr
        unfold val; simp <;> omega
  · subst q
    have hr := near_zero h
    subst hr
    have e : val neg 0 = 0 := by unfold val; rw [dv_zero]; cases neg <;> rfl
    rw [e]
    exact ⟨h1, h2⟩
  · have hn := h.2.1 q
    subst hn
    refine ⟨?_, ?_⟩
    · cases s with
      | true => unfold val; simp <;> omega
      | false =>
        have hr := h.1.2.2 x hx (by simp only [Nat.pow_zero, Nat.mul_one]; unfold val at h1; simp at h1 <;> omega)
        have := dv_mono x r hr
        unfold val; simp <;> omega
    · cases t with
      | true => unfold val at h2; simp at h2 <;> omega
      | false =>
        have hr := h.1.2.1 y (by simp only [Nat.pow_zero, Nat.mul_one]; unfold val at h2; simp at h2 <;> omega)
        have := dv_mono r y hr
        unfold val; simp <;> omega
theorem near_le {T : Int} {neg : Bool} {r t : Nat} (h : Near T neg r) (ht : T.natAbs ≤ dv t) : r ≤ t := h.1.2.1 t (by simpa using ht)
theorem near_sign {T : Int} {neg : Bool} {r : Nat} (h : Near T neg r) : (0 ≤ T → neg = false ∨ r = 0) ∧ (T ≤ 0 → neg = true ∨ r = 0) := by
  refine ⟨fun hT => ?_, fun hT => ?_⟩
  · rcases Int.lt_or_eq_of_le hT with q | q
    · exact .inl (h.2.1 q)
    · right; subst q; exact near_zero h
  · rcases Int.lt_or_eq_of_le hT with q | q
    · exact .inl (h.2.2 q)
    · right; subst q; exact near_zero h
/-- The step is not longer than the way. -/
theorem step_short (T : Int) (neg : Bool) (rd rs : Nat) (h : Near T neg rd) (h1 : rs ≤ rd) (h2 : (9007199254740992 ≤ rd → rs + 4503599627370496 ≤ rd) ∨ ∃ x, x ≤ infR ∧ dv x = T.natAbs) : dv rs ≤ T.natAbs := by
  rcases Nat.lt_or_ge T.natAbs 9007199254740992 with q | q
  · have e := dv_small T.natAbs q
    have hr := near_le h (t := T.natAbs) (by omega)
    have := dv_mono rs T.natAbs (by omega)
    omega
  · rcases h2 with h2 | ⟨x, hx, hv⟩
    · have hb : 9007199254740992 ≤ rd := by
        refine h.1.2.2 9007199254740992 (by unfold infR; omega) ?_
        have : dv 9007199254740992 = 9007199254740992 := by decide
        rw [this]; simpa using q
      have h3 := h2 hb
      have h4 := dv_mono rs (rd - 4503599627370496) (by omega)
      have h5 := dv_half rd hb
      -- rd is at most twice the way
      have h6 : dv rd ≤ 2 * T.natAbs := by
        obtain ⟨l, hl⟩ : ∃ l, l = T.natAbs.log2 := ⟨_, rfl⟩
        have a1 := Nat.lt_log2_self (n := T.natAbs)
        have a2 := Nat.log2_self_le (n := T.natAbs) (by omega)
        rw [← hl] at a1 a2
        have a3 : 52 ≤ l := by
          rcases Nat.lt_or_ge l 52 with g | g
          · have := Nat.pow_le_pow_right (n := 2) (by omega) (show l + 1 ≤ 52 by omega)
            rw [show (2 : Nat) ^ 52 = 4503599627370496 from rfl] at this
            omega
          · exact g
        obtain ⟨s, hs⟩ : ∃ s, 52 + s = l + 1 := ⟨l + 1 - 52, by omega⟩
        have a4 := dv_pow s
        rw [hs] at a4
        have a5 := near_le h (t := s * 4503599627370496 + 4503599627370496) (by omega)
        have a6 := dv_mono _ _ a5
        rw [Nat.pow_succ] at a4
        omega
      omega
    · have hr := near_le h (t := x) (by omega)
      have := dv_mono rs x (by omega)
      omega
theorem welford (sx sm : Bool) (rx rm k : Nat) (hx : rx ≤ R63) (hm : rm ≤ R63) (hk : k < infR) (hk1 : 2 ^ uE ≤ dv k) (h2 : 2 ^ (uE + 1) ≤ dv k ∨ rm = 0) :
    ∃ (d st e p : Nat) (sm' : Bool) (rm' : Nat), double.sub (double.word sx rx) (double.word sm rm) = some d ∧ double.div d (double.word false k) = some st ∧ double.add (double.word sm rm) st = some (double.word sm' rm') ∧ rm' ≤ R63 ∧ double.sub (double.word sx rx) (double.word sm' rm') = some e ∧ double.mul d e = some p ∧ Non p := by
  have R63l := R63_lt
  have R64l := R64_lt
  have hdx := dv_mono rx R63 hx
  have hdm := dv_mono rm R63 hm
  have h64 := dv64
  have ax := val_le sx rx
  have am := val_le sm rm
  obtain ⟨sd, rd, e1, n1⟩ := sub_near sx sm rx rm (by omega) (by omega)
  obtain ⟨T, hT⟩ : ∃ T, T = val sx rx - val sm rm := ⟨_, rfl⟩
  rw [← hT] at n1
  have hrd : rd ≤ R64 := near_le n1 (by omega)
  obtain ⟨rs, e2, q1, q2⟩ := div_near sd rd k (by omega) hk hk1
  have hshort : dv rs ≤ T.natAbs := by
    refine step_short T sd rd rs n1 q1 ?_
    rcases h2 with h2 | h2
    · exact .inl (fun h => q2 h2 h)
    · refine .inr ⟨rx, by omega, ?_⟩
      subst h2
      have : val sm 0 = 0 := by unfold val; rw [dv_zero]; cases sm <;> rfl
      rw [hT, this]; simp; exact ax.symm
  have as := val_le sd rs
  have sg := near_sign n1
  -- where the step leads
  have bet : (0 ≤ T → val sm rm ≤ val sm rm + val sd rs ∧ val sm rm + val sd rs ≤ val sx rx) ∧ (T ≤ 0 → val sx rx ≤ val sm rm + val sd rs ∧ val sm rm + val sd rs ≤ val sm rm) := by
    refine ⟨fun h => ?_, fun h => ?_⟩
    · have hs : 0 ≤ val sd rs := by
        rcases sg.1 h with g | g
        · subst g; unfold val; simp
        · have : rs = 0 := by omega
          subst this; unfold val; rw [dv_zero]; cases sd <;> simp
      omega
    · have hs : val sd rs ≤ 0 := by
        rcases sg.2 h with g | g
        · subst g; unfold val; simp
        · have : rs = 0 := by omega
          subst this; unfold val; rw [dv_zero]; cases sd <;> simp
      omega
  obtain ⟨sm', rm', e3, n3⟩ := add_near sm sd rm rs (by omega) (by omega)
  have hb : (0 ≤ T → val sm rm ≤ val sm' rm' ∧ val sm' rm' ≤ val sx rx) ∧ (T ≤ 0 → val sx rx ≤ val sm' rm' ∧ val sm' rm' ≤ val sm rm) :=
    ⟨fun h => near_between n3 (by omega) (by omega) (bet.1 h).1 (bet.1 h).2, fun h => near_between n3 (by omega) (by omega) (bet.2 h).1 (bet.2 h).2⟩
  have hrm' : rm' ≤ R63 := by
    refine near_le n3 ?_
    rcases Int.le_total 0 T with h | h
    · have := bet.1 h; omega
    · have := bet.2 h; omega
  have hdm' := dv_mono rm' R63 hrm'
  have am' := val_le sm' rm'
  obtain ⟨se, re, e4, n4⟩ := sub_near sx sm' rx rm' (by omega) (by omega)
  have hre : re ≤ R64 := near_le n4 (by omega)
  have sg4 := near_sign n4
  obtain ⟨p, e5, np⟩ := mul_non sd se rd re (by omega) (by omega) (by
    rcases Int.le_total 0 T with h | h
    · rcases sg.1 h with g | g
      · rcases sg4.1 (by have := hb.1 h; omega) with g4 | g4
        · left; rw [g, g4]
        · exact .inr (.inr g4)
      · exact .inr (.inl g)
    · rcases sg.2 h with g | g
      · rcases sg4.2 (by have := hb.2 h; omega) with g4 | g4
        · left; rw [g, g4]
        · exact .inr (.inr g4)
      · exact .inr (.inl g))
  exact ⟨_, _, _, p, sm', rm', e1, e2, e3, hrm', e4, e5, np⟩
theorem one_dv : dv (1022 * 4503599627370496 + 4503599627370496) = 2 ^ uE := dv_pow' 1022 uE rfl
theorem two_dv : dv (1023 * 4503599627370496 + 4503599627370496) = 2 ^ (uE + 1) := dv_pow' 1023 (uE + 1) rfl
/-- The float of a whole number of 64 bits. -/
theorem float_int (neg : Bool) (n : Nat) (h : n ≤ 9223372036854775808) : ∃ r, double.nearest neg n 0 = double.word neg r ∧ r ≤ R63 ∧ (1 ≤ n → 2 ^ uE ≤ dv r) ∧ (2 ≤ n → 2 ^ (uE + 1) ≤ dv r) := by
  obtain ⟨r, e, hr⟩ := int_near neg n
  refine ⟨r, e, ?_, fun h1 => ?_, fun h1 => ?_⟩
  · refine hr.2.1 R63 ?_
    rw [Nat.pow_zero, Nat.mul_one, Nat.mul_one, dv63, Nat.pow_add]
    exact Nat.mul_le_mul_right _ h
  · rw [← one_dv]
    refine dv_mono _ _ (hr.2.2 _ (by unfold infR; omega) ?_)
    rw [Nat.pow_zero, Nat.mul_one, Nat.mul_one, one_dv]
    exact Nat.le_mul_of_pos_left _ h1
  · rw [← two_dv]
    refine dv_mono _ _ (hr.2.2 _ (by unfold infR; omega) ?_)
    rw [Nat.pow_zero, Nat.mul_one, Nat.mul_one, two_dv, Nat.pow_succ, Nat.mul_comm]
    exact Nat.mul_le_mul_right _ h1
end Go.Proofs.Ytbemmhngadpjcaa

/- Floats of 64 bits: rounding to the nearest, told exactly; so it keeps the order. -/
namespace Go.Proofs.Ytbemmhngadpjcaa
set_option linter.unusedVariables false
set_option linter.unusedSimpArgs false
open Ieee

theorem dv_step (s B : Nat) (hB : B < 9007199254740992) (h : s = 0 ∨ 4503599627370496 ≤ B) : dv (s * 4503599627370496 + B + 1) = (B + 1) * 2 ^ s := by
  by_cases hb : B + 1 < 9007199254740992
  · rw [Nat.add_assoc]
    exact dv_of s (B + 1) hb (by omega)
  · have e : B + 1 = 9007199254740992 := by omega
    have e2 : s * 4503599627370496 + B + 1 = (s + 1) * 4503599627370496 + 4503599627370496 := by omega
    rw [e2, dv_of (s + 1) 4503599627370496 (by omega) (.inr (by omega)), Nat.pow_succ, e, Nat.mul_comm (2 ^ s) 2, ← Nat.mul_assoc]
theorem dv_succ (r : Nat) : dv r < dv (r + 1) := by
  obtain ⟨s, B, e, v, b, c⟩ := dv_rep r
  have h := dv_step s B b c
  rw [← e] at h
  rw [v, h, Nat.add_mul, Nat.one_mul]
  have := pow_pos s
  omega
theorem dv_lt (r t : Nat) (h : r < t) : dv r < dv t := Nat.lt_of_lt_of_le (dv_succ r) (dv_mono _ _ h)
theorem dv_inj (r t : Nat) (h : dv r = dv t) : r = t := by
  rcases Nat.lt_trichotomy r t with q | q | q
  · have := dv_lt r t q; omega
  · exact q
  · have := dv_lt t r q; omega
/-- V / s, in units of the least number, is rounded to the nearest rung r; between two, to the even one. -/
def Exa (V s r : Nat) : Prop := (2 * V ≤ (dv r + dv (r + 1)) * s ∧ (2 * V = (dv r + dv (r + 1)) * s → r % 2 = 0)) ∧ (0 < r → (dv (r - 1) + dv r) * s ≤ 2 * V ∧ ((dv (r - 1) + dv r) * s = 2 * V → r % 2 = 0))
theorem Exa.mono {V V' s r r' : Nat} (hs : 0 < s) (h : Exa V s r) (h' : Exa V' s r') (hV : V ≤ V') : r ≤ r' := by
  rcases Nat.lt_or_ge r' r with q | q
  · exfalso
    obtain ⟨-, h2⟩ := h
    obtain ⟨⟨h3, h4⟩, -⟩ := h'
    obtain ⟨h5, h6⟩ := h2 (by omega)
    have a1 := dv_mono r' (r - 1) (by omega)
    have a2 := dv_mono (r' + 1) r (by omega)
    have a3 := Nat.mul_le_mul_right s (Nat.add_le_add a1 a2)
    have e1 : (dv (r - 1) + dv r) * s = (dv r' + dv (r' + 1)) * s := by omega
    have e2 := Nat.eq_of_mul_eq_mul_right hs e1
    have e3 : r' + 1 = r := dv_inj _ _ (by omega)
    have p1 := h6 (by omega)
    have p2 := h4 (by omega)
    omega
  · exact q
theorem Exa.scale {V s r : Nat} (c : Nat) (hc : 0 < c) (h : Exa V s r) : Exa (V * c) (s * c) r := by
  have m1 : ∀ X, X * (s * c) = X * s * c := fun X => by rw [Nat.mul_assoc]
  have m2 : 2 * (V * c) = 2 * V * c := by rw [Nat.mul_assoc]
  unfold Exa at h ⊢
  rw [m1, m1, m2]
  obtain ⟨⟨h1, h2⟩, h3⟩ := h
  refine ⟨⟨Nat.mul_le_mul_right c h1, fun e => h2 (Nat.eq_of_mul_eq_mul_right hc e)⟩, fun h0 => ?_⟩
  obtain ⟨h4, h5⟩ := h3 h0
  exact ⟨Nat.mul_le_mul_right c h4, fun e => h5 (Nat.eq_of_mul_eq_mul_right hc e)⟩
theorem cut_near (neg : Bool) (n drop K : Nat) (hK : K = Toward.even.cut neg n drop) : (2 * n ≤ (2 * K + 1) * 2 ^ drop ∧ (2 * n = (2 * K + 1) * 2 ^ drop → K % 2 = 0)) ∧ (0 < K → (2 * K - 1) * 2 ^ drop ≤ 2 * n ∧ ((2 * K - 1) * 2 ^ drop = 2 * n → K % 2 = 0)) := by
  unfold Toward.cut at hK
  simp only [Nat.one_shiftLeft] at hK
  obtain ⟨g, hg⟩ : ∃ g, g = min drop (n.log2 + 2) := ⟨_, rfl⟩
  rw [← hg] at hK
  have pg := pow_pos g
  by_cases hd : drop ≤ n.log2 + 2
  · have hgd : g = drop := by omega
    rw [hgd] at hK pg
    obtain ⟨P, hP⟩ : ∃ P, P = 2 ^ drop := ⟨_, rfl⟩
    rw [← hP] at hK pg ⊢
    have hdm := Nat.div_add_mod n P
    have hml := Nat.mod_lt n pg
    obtain ⟨q, hq⟩ : ∃ q, q = n / P := ⟨_, rfl⟩
    obtain ⟨m, hm⟩ : ∃ m, m = n % P := ⟨_, rfl⟩
    rw [← hq, ← hm] at hK hdm
    rw [← hm] at hml
    rw [Nat.mul_comm] at hdm
    obtain ⟨T, hT⟩ : ∃ T, T = q * P := ⟨_, rfl⟩
    rw [← hT] at hdm
    have up : (2 * (q + 1) + 1) * P = 2 * T + 3 * P := by rw [show 2 * (q + 1) + 1 = 2 * q + 3 by omega, Nat.add_mul, Nat.mul_assoc, ← hT]
    have lo : (2 * (q + 1) - 1) * P = 2 * T + P := by rw [show 2 * (q + 1) - 1 = 2 * q + 1 by omega, Nat.add_mul, Nat.mul_assoc, ← hT, Nat.one_mul]
    have up0 : (2 * q + 1) * P = 2 * T + P := by rw [Nat.add_mul, Nat.mul_assoc, ← hT, Nat.one_mul]
    have lo0 : 0 < q → (2 * q - 1) * P + P = 2 * T := fun h => by
      have : (2 * q - 1) * P + 1 * P = 2 * q * P := by rw [← Nat.add_mul]; congr 1; omega
      rw [Nat.one_mul] at this
      rw [this, Nat.mul_assoc, ← hT]
    rcases Nat.lt_trichotomy P (2 * m) with c | c | c
    · have e : K = q + 1 := by
        rw [hK, decide_eq_true c]; simp
      subst e
      rw [up, lo]
      omega
    · rcases Nat.mod_two_eq_zero_or_one q with hq2 | hq2
      · have e : K = q := by
          rw [hK, hq2]
          have : ¬ P < 2 * m := by omega
          simp [this]
        subst e
        rw [up0]
        refine ⟨⟨by omega, fun _ => hq2⟩, fun h => ?_⟩
        have := lo0 h
        exact ⟨by omega, fun _ => hq2⟩
      · have e : K = q + 1 := by
          rw [hK, hq2]
          have : ¬ P < 2 * m := by omega
          simp [this, c]
        subst e
        rw [up, lo]
        exact ⟨⟨by omega, fun h => by omega⟩, fun _ => ⟨by omega, fun _ => by omega⟩⟩
    · have e : K = q := by
        rw [hK]
        have h1 : ¬ P < 2 * m := by omega
        have h2 : ¬ P = 2 * m := by omega
        simp [h1, h2]
      subst e
      rw [up0]
      refine ⟨⟨by omega, fun h => by omega⟩, fun h => ?_⟩
      have := lo0 h
      exact ⟨by omega, fun h => by omega⟩
  · have hl := Nat.lt_log2_self (n := n)
    have hgv : g = n.log2 + 2 := by omega
    have hs2 : 2 ^ g = 4 * 2 ^ n.log2 := by rw [hgv, Nat.pow_add, Nat.mul_comm]
    have hlp : 2 ^ (n.log2 + 1) = 2 * 2 ^ n.log2 := by rw [Nat.pow_succ, Nat.mul_comm]
    have hlt : n < 2 ^ g := by omega
    have hK0 : K = 0 := by
      have e0 : n / 2 ^ g = 0 := Nat.div_eq_of_lt hlt
      have e1 : n % 2 ^ g = n := Nat.mod_eq_of_lt hlt
      rw [hK, e0, e1]
      have h1 : ¬ 2 ^ g < 2 * n := by omega
      have h2 : ¬ 2 ^ g = 2 * n := by omega
      simp [h1, h2]
    subst hK0
    have hle : 2 ^ g ≤ 2 ^ drop := Nat.pow_le_pow_right (by omega) (by omega)
    exact ⟨⟨by omega, fun _ => rfl⟩, fun h => by omega⟩
theorem min_of {r x M : Nat} (h : r = min x 9218868437227405312) (h1 : r ≤ M) (h2 : M < infR) : r = x := by
  unfold infR at h2
  omega
/-- What is kept of a number, as a rung. -/
theorem exa_of (V P K sh b r0 : Nat) (hP : P = 2 ^ (b + sh)) (er2 : r0 = sh * 4503599627370496 + K) (VU : V < 9007199254740992 * P) (VL : 0 < sh → 4503599627370496 * P ≤ V)
    (U1 : 2 * V ≤ (2 * K + 1) * P) (U2 : 2 * V = (2 * K + 1) * P → K % 2 = 0) (L1 : 0 < K → (2 * K - 1) * P ≤ 2 * V) (L2 : 0 < K → (2 * K - 1) * P = 2 * V → K % 2 = 0) : Exa V (2 ^ b) r0 := by
  have hPs : P = 2 ^ sh * 2 ^ b := by rw [hP, Nat.add_comm, Nat.pow_add]
  obtain ⟨S, hS⟩ : ∃ S, S = 2 ^ sh := ⟨_, rfl⟩
  obtain ⟨B, hB⟩ : ∃ B, B = 2 ^ b := ⟨_, rfl⟩
  rw [← hS, ← hB] at hPs
  have pB : 0 < B := hB ▸ pow_pos b
  have pS : 0 < S := hS ▸ pow_pos sh
  rw [← hB]
  have KU : K ≤ 9007199254740992 := by
    rcases Nat.lt_or_ge 9007199254740992 K with q | q
    · exfalso
      have h1 := L1 (by omega)
      have h2 := Nat.mul_le_mul_right P (show 2 * 9007199254740992 + 1 ≤ 2 * K - 1 by omega)
      rw [Nat.add_mul] at h2
      omega
    · exact q
  have KL : 0 < sh → 4503599627370496 ≤ K := fun h => by
    have h3 := VL h
    rcases Nat.lt_or_ge K 4503599627370496 with q | q
    · exfalso
      have h2 := Nat.mul_le_mul_right P (show 2 * K + 1 ≤ 2 * 4503599627370496 - 1 by omega)
      omega
    · exact q
  have hpar : r0 % 2 = K % 2 := by omega
  by_cases hK2 : K < 9007199254740992
  · have d0 : dv r0 = K * S := by
      rw [er2, hS]
      exact dv_of sh K hK2 (by omega)
    have d1 : dv (r0 + 1) = (K + 1) * S := by
      rw [er2, hS]
      exact dv_step sh K hK2 (by omega)
    have u : (dv r0 + dv (r0 + 1)) * B = (2 * K + 1) * P := by
      rw [d0, d1, hPs, ← Nat.add_mul, ← Nat.mul_assoc]
      congr 2
      omega
    refine ⟨⟨by rw [u]; exact U1, fun h => by rw [hpar]; exact U2 (by rw [h, u])⟩, fun hr => ?_⟩
    by_cases hQ : 0 < sh ∧ K = 4503599627370496
    · have hlt := dv_lt (r0 - 1) r0 (by omega)
      have h3 := VL hQ.1
      have h4 : dv r0 * B = 4503599627370496 * P := by rw [d0, hPs, hQ.2, Nat.mul_assoc]
      have h5 := Nat.mul_lt_mul_of_pos_right hlt pB
      have h6 : (dv (r0 - 1) + dv r0) * B < 2 * V := by
        rw [Nat.add_mul]; omega
      exact ⟨by omega, fun h => by omega⟩
    · have hK0 : 0 < K := by
        rcases Nat.eq_zero_or_pos sh with z | z
        · omega
        · have := KL z; omega
      have dm : dv (r0 - 1) = (K - 1) * S := by
        rw [er2, hS, show sh * 4503599627370496 + K - 1 = sh * 4503599627370496 + (K - 1) by omega]
        refine dv_of sh (K - 1) (by omega) ?_
        rcases Nat.eq_zero_or_pos sh with z | z
        · exact .inl z
        · have := KL z; omega
      have lo : (dv (r0 - 1) + dv r0) * B = (2 * K - 1) * P := by
        rw [d0, dm, hPs, ← Nat.add_mul, ← Nat.mul_assoc]
        congr 2
        omega
      rw [lo]
      exact ⟨L1 hK0, fun h => by rw [hpar]; exact L2 hK0 h⟩
  · have hKe : K = 9007199254740992 := by omega
    have e4 : r0 - 1 = sh * 4503599627370496 + 9007199254740991 := by omega
    have dm : dv (r0 - 1) = 9007199254740991 * S := by
      rw [e4, hS]
      exact dv_of sh 9007199254740991 (by omega) (.inr (by omega))
    have d0 : dv r0 = 9007199254740992 * S := by
      have := dv_step sh 9007199254740991 (by omega) (.inr (by omega))
      rw [show sh * 4503599627370496 + 9007199254740991 + 1 = r0 by omega, ← hS] at this
      exact this
    have hlt := dv_succ r0
    have h4 : dv r0 * B = 9007199254740992 * P := by rw [d0, hPs, Nat.mul_assoc]
    have h5 := Nat.mul_lt_mul_of_pos_right hlt pB
    have h6 : 2 * V < (dv r0 + dv (r0 + 1)) * B := by rw [Nat.add_mul]; omega
    have lo : (dv (r0 - 1) + dv r0) * B = (2 * K - 1) * P := by
      rw [d0, dm, hPs, ← Nat.add_mul, ← Nat.mul_assoc, hKe]
    refine ⟨⟨by omega, fun h => by omega⟩, fun _ => ?_⟩
    rw [lo]
    exact ⟨L1 (by omega), fun h => by rw [hpar]; exact L2 (by omega) h⟩
set_option maxHeartbeats 2000000 in
/-- What nearest gives is exact, where nothing overflows. -/
theorem nearest_exa (neg : Bool) (mag : Nat) (place : Int) (a b M : Nat) (hp : place + 1074 = (a : Int) - b) (hz : a = 0 ∨ b = 0) (hM : M < infR) (hV : mag * 2 ^ a ≤ dv M * 2 ^ b) : ∃ r, double.nearest neg mag place = double.word neg r ∧ r ≤ M ∧ Rnd mag a b r ∧ Exa (mag * 2 ^ a) (2 ^ b) r := by
  by_cases h0 : mag = 0
  · obtain ⟨r, e, hr⟩ := nearest_rnd neg mag place a b hp hz
    have hr0 : r = 0 := by
      have := hr.2.1 0 (by rw [h0]; simp)
      omega
    subst hr0
    refine ⟨0, e, Nat.zero_le _, hr, ⟨?_, fun _ => rfl⟩, fun h => by omega⟩
    rw [h0]; simp
  · obtain ⟨r0, e0, hr0⟩ := nearest_rnd neg mag place a b hp hz
    have hl1 := Nat.lt_log2_self (n := mag)
    have hl2 := Nat.log2_self_le h0
    obtain ⟨l, hl⟩ : ∃ l, l = mag.log2 := ⟨_, rfl⟩
    rw [← hl] at hl1 hl2
    obtain ⟨sh, hsh⟩ : ∃ sh, sh = (l + a) - (b + 52) := ⟨_, rfl⟩
    obtain ⟨last, hlast⟩ : ∃ last : Int, last = max (place + l - 52) (-1074) := ⟨_, rfl⟩
    have hls : last + 1074 = (sh : Int) := by omega
    obtain ⟨up, hup⟩ : ∃ up, up = (place - last).toNat := ⟨_, rfl⟩
    obtain ⟨dr, hdr⟩ : ∃ dr, dr = (last - place).toNat := ⟨_, rfl⟩
    have hud : up + (b + sh) = a + dr := by omega
    have hq1 : l + a ≤ sh + b + 52 := by omega
    have hq2 : 0 < sh → l + a = sh + b + 52 := by omega
    obtain ⟨K, hK⟩ : ∃ K, K = Toward.even.cut neg (mag * 2 ^ up) dr := ⟨_, rfl⟩
    have hn : double.nearest neg mag place = double.word neg (min (sh * 4503599627370496 + K) 9218868437227405312) := by
      rw [Format.nearest, if_neg h0]
      simp only [dFrac, dLeast, dBin, dInf, ← hl, ← hlast, ← hup, ← hdr, Nat.shiftLeft_eq, ← hK]
      rw [show (last - -1074).toNat = sh by omega]
    have hr0M := hr0.2.1 M hV
    have hword : ∀ x y : Nat, double.word neg x = double.word neg y → x = y := fun x y h => by
      unfold Format.word at h
      cases neg <;> simp at h <;> omega
    have er : r0 = min (sh * 4503599627370496 + K) 9218868437227405312 := hword _ _ (e0.symm.trans hn)
    have er2 : r0 = sh * 4503599627370496 + K := min_of er hr0M hM
    refine ⟨r0, e0, hr0M, hr0, ?_⟩
    clear hn e0 hr0 hword er hlast hls hup hdr hsh hp hz hV hr0M hM
    have M1 : mag * 2 ^ a < 2 ^ (l + 1 + a) := by
      rw [Nat.pow_add]
      exact Nat.mul_lt_mul_of_pos_right hl1 (pow_pos a)
    have M2 : 2 ^ (l + a) ≤ mag * 2 ^ a := by
      rw [Nat.pow_add]
      exact Nat.mul_le_mul_right _ hl2
    obtain ⟨⟨c1, c2⟩, c3⟩ := cut_near neg (mag * 2 ^ up) dr K hK
    obtain ⟨V, hVd⟩ : ∃ V, V = mag * 2 ^ a := ⟨_, rfl⟩
    obtain ⟨D, hD⟩ : ∃ D, D = 2 ^ dr := ⟨_, rfl⟩
    obtain ⟨P, hP⟩ : ∃ P, P = 2 ^ (b + sh) := ⟨_, rfl⟩
    have pD : 0 < D := hD ▸ pow_pos dr
    have pP : 0 < P := hP ▸ pow_pos _
    have e1 : mag * 2 ^ up * P = V * D := by rw [hP, hVd, hD, Nat.mul_assoc, ← Nat.pow_add, hud, Nat.pow_add, Nat.mul_assoc]
    rw [← hD] at c1 c2 c3
    rw [← hVd] at M1 M2 ⊢
    have conv : ∀ X, X * D * P = X * P * D := fun X => by rw [Nat.mul_assoc, Nat.mul_comm D P, ← Nat.mul_assoc]
    have e2 : 2 * (mag * 2 ^ up) * P = 2 * V * D := by rw [Nat.mul_assoc 2, e1, ← Nat.mul_assoc]
    have U1 : 2 * V ≤ (2 * K + 1) * P := by
      have := Nat.mul_le_mul_right P c1
      rw [e2, conv] at this
      exact Nat.le_of_mul_le_mul_right this pD
    have U2 : 2 * V = (2 * K + 1) * P → K % 2 = 0 := fun h => by
      refine c2 (Nat.eq_of_mul_eq_mul_right pP ?_)
      rw [e2, conv, h]
    have L1 : 0 < K → (2 * K - 1) * P ≤ 2 * V := fun h => by
      have := Nat.mul_le_mul_right P (c3 h).1
      rw [e2, conv] at this
      exact Nat.le_of_mul_le_mul_right this pD
    have L2 : 0 < K → (2 * K - 1) * P = 2 * V → K % 2 = 0 := fun h0 h => by
      refine (c3 h0).2 (Nat.eq_of_mul_eq_mul_right pP ?_)
      rw [e2, conv, h]
    have VU : V < 9007199254740992 * P := by
      have : 2 ^ (l + 1 + a) ≤ 2 ^ (53 + (b + sh)) := Nat.pow_le_pow_right (by omega) (by omega)
      rw [Nat.pow_add 2 53, ← hP, show (2 : Nat) ^ 53 = 9007199254740992 from rfl] at this
      omega
    have VL : 0 < sh → 4503599627370496 * P ≤ V := fun h => by
      have : 2 ^ (52 + (b + sh)) ≤ 2 ^ (l + a) := Nat.pow_le_pow_right (by omega) (by omega)
      rw [Nat.pow_add 2 52, ← hP, show (2 : Nat) ^ 52 = 4503599627370496 from rfl] at this
      omega
    exact exa_of V P K sh b r0 hP er2 VU VL U1 U2 L1 L2
end Go.Proofs.Ytbemmhngadpjcaa

/- Floats from 0 to 1: products, what is left to one, powers: they stay there and keep the order. -/
namespace Go.Proofs.Ytbemmhngadpjcaa
set_option linter.unusedVariables false
set_option linter.unusedSimpArgs false
open Ieee

/-- The word of 1. -/
def ONE : Nat := 4607182418800017408
theorem wordf (r : Nat) : double.word false r = r := rfl
theorem dv_one : dv ONE = 2 ^ uE := one_dv
theorem one_lt : ONE < infR := by unfold ONE infR; omega
theorem dv_unit {x : Nat} (h : x ≤ ONE) : dv x ≤ 2 ^ uE := by rw [← dv_one]; exact dv_mono _ _ h
theorem mul_unit (x y : Nat) (hx : x ≤ ONE) (hy : y ≤ ONE) : ∃ r, double.mul x y = some r ∧ r ≤ x ∧ r ≤ y ∧ Exa (dv x * dv y) (2 ^ uE) r := by
  have h1 := one_lt
  have dx := dv_unit hx
  have dy := dv_unit hy
  obtain ⟨m, p, e1, v1, _⟩ := read_fin false x (by omega)
  obtain ⟨n, q, e2, v2, _⟩ := read_fin false y (by omega)
  rw [wordf] at e1 e2
  obtain ⟨a, ha⟩ : ∃ a, a = p + q - 1074 := ⟨_, rfl⟩
  obtain ⟨b, hb⟩ : ∃ b, b = 1074 - (p + q) := ⟨_, rfl⟩
  obtain ⟨k, hk⟩ : ∃ k, k = p + q - a := ⟨_, rfl⟩
  have k1 : a + k = p + q := by omega
  have k2 : b + k = uE := by unfold uE; omega
  obtain ⟨c, hc⟩ : ∃ c, c = 2 ^ k := ⟨_, rfl⟩
  have pc : 0 < c := hc ▸ pow_pos k
  have s1 : m * n * 2 ^ a * c = dv x * dv y := by
    rw [hc, Nat.mul_assoc, ← Nat.pow_add, k1, ← v1, ← v2, Nat.pow_add]
    rw [Nat.mul_assoc, Nat.mul_assoc, ← Nat.mul_assoc n, ← Nat.mul_assoc (2 ^ p), Nat.mul_comm n]
  have s2 : 2 ^ b * c = 2 ^ uE := by rw [hc, ← Nat.pow_add, k2]
  have cancel : ∀ X, dv x * dv y ≤ X * 2 ^ uE → m * n * 2 ^ a ≤ X * 2 ^ b := fun X h => by
    refine Nat.le_of_mul_le_mul_right ?_ pc
    rw [s1, Nat.mul_assoc, s2]
    exact h
  obtain ⟨r, e, hr, hR, hE⟩ := nearest_exa (false ^^ false) (m * n) ((p : Int) - 1074 + ((q : Int) - 1074)) a b ONE (by omega) (by omega) h1 (cancel _ (by rw [dv_one]; exact Nat.mul_le_mul dx dy))
  refine ⟨r, by unfold Format.mul; rw [e1, e2]; exact congrArg some e, hR.2.1 x (cancel _ (Nat.mul_le_mul_left _ dy)), hR.2.1 y (cancel _ (by rw [Nat.mul_comm]; exact Nat.mul_le_mul_left _ dx)), ?_⟩
  have := hE.scale c pc
  rw [s1, s2] at this
  exact this
theorem sub_unit (x : Nat) (hx : x ≤ ONE) : ∃ r, double.sub ONE x = some r ∧ r ≤ ONE ∧ Exa (2 ^ uE - dv x) 1 r := by
  have h1 := one_lt
  have dx := dv_unit hx
  obtain ⟨m, i, e1, v1, _⟩ := read_fin false ONE h1
  obtain ⟨n, j, e2, v2, _⟩ := read_fin false x (by omega)
  rw [wordf] at e1 e2
  rw [dv_one] at v1
  obtain ⟨b, hb⟩ : ∃ b : Nat, b = min i j := ⟨_, rfl⟩
  have hbase : min ((i : Int) - 1074) ((j : Int) - 1074) = (b : Int) - 1074 := by omega
  have hi : ((i : Int) - 1074 - ((b : Int) - 1074)).toNat = i - b := by omega
  have hj : ((j : Int) - 1074 - ((b : Int) - 1074)).toNat = j - b := by omega
  obtain ⟨tot, htot⟩ : ∃ tot : Int, tot = ((m * 2 ^ (i - b) : Nat) : Int) + -((n * 2 ^ (j - b) : Nat) : Int) := ⟨_, rfl⟩
  have key : ((2 ^ uE : Nat) : Int) - ((dv x : Nat) : Int) = tot * ((2 ^ b : Nat) : Int) := by
    have q1 : m * 2 ^ i = m * 2 ^ (i - b) * 2 ^ b := by rw [Nat.mul_assoc, ← Nat.pow_add]; congr 2; omega
    have q2 : n * 2 ^ j = n * 2 ^ (j - b) * 2 ^ b := by rw [Nat.mul_assoc, ← Nat.pow_add]; congr 2; omega
    rw [← v1, ← v2, q1, q2, htot, Int.add_mul]
    simp [Int.neg_mul]
    omega
  have pb := pow_pos b
  have ht0 : 0 ≤ tot := by
    by_cases q : tot < 0
    · have := Int.mul_neg_of_neg_of_pos q (show (0 : Int) < ((2 ^ b : Nat) : Int) by omega)
      omega
    · omega
  have hab : tot.natAbs * 2 ^ b = 2 ^ uE - dv x := by
    have q1 : ((tot.natAbs * 2 ^ b : Nat) : Int) = tot * ((2 ^ b : Nat) : Int) := by
      rw [Int.natCast_mul]
      congr 1
      omega
    omega
  have hneg : (if tot = 0 then false && true else decide (tot < 0)) = false := by
    split
    · rfl
    · exact decide_eq_false (by omega)
  obtain ⟨r, e, hr, hR, hE⟩ := nearest_exa false tot.natAbs ((b : Int) - 1074) b 0 ONE (by omega) (.inr rfl) h1 (by rw [hab, dv_one, Nat.pow_zero]; omega)
  rw [hab, Nat.pow_zero] at hE
  refine ⟨r, ?_, hr, hE⟩
  unfold Format.sub
  rw [e1, e2]
  simp only [Datum.opposite, Datum.sum, hbase, hi, hj, signed_val, Option.map_some, Format.write, Bool.not_false, Bool.false_eq_true, if_false, if_true]
  rw [← htot, hneg]
  exact congrArg some e
def mulF (x y : Nat) : Nat := (double.mul x y).getD 0
def subF (x : Nat) : Nat := (double.sub ONE x).getD 0
theorem mulF_ok {x y : Nat} (hx : x ≤ ONE) (hy : y ≤ ONE) : double.mul x y = some (mulF x y) ∧ mulF x y ≤ x ∧ mulF x y ≤ y ∧ Exa (dv x * dv y) (2 ^ uE) (mulF x y) := by
  obtain ⟨r, e, h⟩ := mul_unit x y hx hy
  have : mulF x y = r := by unfold mulF; rw [e]; rfl
  rw [this]
  exact ⟨e, h⟩
theorem subF_ok {x : Nat} (hx : x ≤ ONE) : double.sub ONE x = some (subF x) ∧ subF x ≤ ONE ∧ Exa (2 ^ uE - dv x) 1 (subF x) := by
  obtain ⟨r, e, h⟩ := sub_unit x hx
  have : subF x = r := by unfold subF; rw [e]; rfl
  rw [this]
  exact ⟨e, h⟩
theorem mulF_mono {x y x' y' : Nat} (hx : x ≤ x') (hx' : x' ≤ ONE) (hy : y ≤ y') (hy' : y' ≤ ONE) : mulF x y ≤ mulF x' y' :=
  Exa.mono (pow_pos uE) (mulF_ok (by omega) (by omega)).2.2.2 (mulF_ok hx' hy').2.2.2 (Nat.mul_le_mul (dv_mono _ _ hx) (dv_mono _ _ hy))
theorem subF_anti {x x' : Nat} (hx : x ≤ x') (hx' : x' ≤ ONE) : subF x' ≤ subF x := by
  have := dv_mono _ _ hx
  exact Exa.mono (by omega) (subF_ok hx').2.2 (subF_ok (by omega)).2.2 (by omega)
/-- pow, from z and b on. -/
def powF (z b n : Nat) : Nat := if h : n = 0 then z else powF (if n % 2 = 1 then mulF z b else z) (mulF b b) (n / 2)
termination_by n
decreasing_by omega
theorem powF_zero (z b : Nat) : powF z b 0 = z := by rw [powF]; rfl
theorem powF_succ (z b n : Nat) (h : 0 < n) : powF z b n = powF (if n % 2 = 1 then mulF z b else z) (mulF b b) (n / 2) := by
  rw [powF, dif_neg (by omega)]
theorem pow_stays (n : Nat) : ∀ z b, z ≤ ONE → b ≤ ONE → powF z b n ≤ z ∧ (0 < n → powF z b n ≤ b) := by
  induction n using Nat.strongRecOn with
  | _ n ih =>
    intro z b hz hb
    rcases Nat.eq_zero_or_pos n with h0 | h0
    · subst h0
      rw [powF_zero]
      exact ⟨Nat.le_refl _, fun h => by omega⟩
    · have hbb := mulF_ok hb hb
      have hzb := mulF_ok hz hb
      rw [powF_succ z b n h0]
      by_cases ho : n % 2 = 1
      · rw [if_pos ho]
        have := (ih (n / 2) (by omega) (mulF z b) (mulF b b) (by omega) (by omega)).1
        omega
      · rw [if_neg ho]
        have := ih (n / 2) (by omega) z (mulF b b) hz (by omega)
        have := this.2 (by omega)
        omega
theorem pow_mono (n : Nat) : ∀ z b z' b', z ≤ z' → z' ≤ ONE → b ≤ b' → b' ≤ ONE → powF z b n ≤ powF z' b' n := by
  induction n using Nat.strongRecOn with
  | _ n ih =>
    intro z b z' b' hz hz' hb hb'
    rcases Nat.eq_zero_or_pos n with h0 | h0
    · subst h0
      rw [powF_zero, powF_zero]
      exact hz
    · have hbb := mulF_ok hb' hb'
      have hzb := mulF_ok hz' hb'
      rw [powF_succ z b n h0, powF_succ z' b' n h0]
      have m1 := mulF_mono hb hb' hb hb'
      have m2 := mulF_mono hz hz' hb hb'
      by_cases ho : n % 2 = 1
      · rw [if_pos ho, if_pos ho]
        exact ih (n / 2) (by omega) _ _ _ _ m2 (by omega) m1 (by omega)
      · rw [if_neg ho, if_neg ho]
        exact ih (n / 2) (by omega) _ _ _ _ hz hz' m1 (by omega)
/-- How two that are finite and not below nought stand to each other. -/
theorem order_fin (x y : Nat) (hx : x < infR) (hy : y < infR) : double.order x y = some (if x < y then .lt else if x = y then .eq else .gt) := by
  obtain ⟨m, i, e1, v1, _⟩ := read_fin false x hx
  obtain ⟨n, j, e2, v2, _⟩ := read_fin false y hy
  rw [wordf] at e1 e2
  obtain ⟨b, hb⟩ : ∃ b : Nat, b = min i j := ⟨_, rfl⟩
  have hbase : min ((i : Int) - 1074) ((j : Int) - 1074) = (b : Int) - 1074 := by omega
  have hi : ((i : Int) - 1074 - ((b : Int) - 1074)).toNat = i - b := by omega
  have hj : ((j : Int) - 1074 - ((b : Int) - 1074)).toNat = j - b := by omega
  unfold Format.order
  rw [e1, e2]
  simp only [Datum.order, hbase, hi, hj, signed_val, Bool.false_eq_true, if_false]
  congr 1
  have pb := pow_pos b
  have q1 : m * 2 ^ (i - b) * 2 ^ b = dv x := by rw [← v1, Nat.mul_assoc, ← Nat.pow_add]; congr 2; omega
  have q2 : n * 2 ^ (j - b) * 2 ^ b = dv y := by rw [← v2, Nat.mul_assoc, ← Nat.pow_add]; congr 2; omega
  obtain ⟨X, hX⟩ : ∃ X, X = m * 2 ^ (i - b) := ⟨_, rfl⟩
  obtain ⟨Y, hY⟩ : ∃ Y, Y = n * 2 ^ (j - b) := ⟨_, rfl⟩
  rw [← hX] at q1 ⊢
  rw [← hY] at q2 ⊢
  have l1 : x < y → X < Y := fun h => by
    have := dv_lt x y h
    rw [← q1, ← q2] at this
    exact Nat.lt_of_mul_lt_mul_right this
  have l2 : y < x → Y < X := fun h => by
    have := dv_lt y x h
    rw [← q1, ← q2] at this
    exact Nat.lt_of_mul_lt_mul_right this
  have l3 : x = y → X = Y := fun h => by
    subst h
    rw [← q2] at q1
    exact Nat.eq_of_mul_eq_mul_right pb q1
  show compareOfLessAndEq (X : Int) (Y : Int) = _
  unfold compareOfLessAndEq
  rcases Nat.lt_trichotomy x y with h | h | h
  · have := l1 h
    rw [if_pos h, if_pos (by omega)]
  · have := l3 h
    rw [if_neg (by omega), if_pos (by omega), if_neg (by omega), if_pos h]
  · have := l2 h
    rw [if_neg (by omega), if_neg (by omega), if_neg (by omega), if_neg (by omega)]
theorem order_lt {x y : Nat} (hy : y < infR) (h : x < y) : double.order x y = some .lt := by rw [order_fin x y (by omega) hy, if_pos h]
theorem order_eq' {x : Nat} (hx : x < infR) : double.order x x = some .eq := by rw [order_fin x x hx hx, if_neg (by omega), if_pos rfl]
theorem order_gt {x y : Nat} (hx : x < infR) (h : y < x) : double.order x y = some .gt := by rw [order_fin x y hx (by omega), if_neg (by omega), if_neg (by omega)]
end Go.Proofs.Ytbemmhngadpjcaa

/- One divided by whole numbers: the greater the number, the less; the rate of a filter. -/
namespace Go.Proofs.Ytbemmhngadpjcaa
set_option linter.unusedVariables false
set_option linter.unusedSimpArgs false
open Ieee

theorem Exa.mono2 {V V' s s' r r' : Nat} (hs : 0 < s) (hs' : 0 < s') (h : Exa V s r) (h' : Exa V' s' r') (hV : V * s' ≤ V' * s) : r ≤ r' := by
  have a := h.scale s' hs'
  have b := h'.scale s hs
  rw [Nat.mul_comm s' s] at b
  exact Exa.mono (Nat.mul_pos hs hs') a b hV
/-- A threshold that a quotient with a mark of what is left over is held against. -/
theorem quo_thr (D n t : Nat) (hn : 0 < n) : (2 * (D / n) + (D % n != 0).toNat ≤ 2 * t ↔ D ≤ t * n) ∧ (2 * (D / n) + (D % n != 0).toNat = 2 * t ↔ D = t * n) ∧ (2 * t ≤ 2 * (D / n) + (D % n != 0).toNat ↔ t * n ≤ D) := by
  have hdm := Nat.div_add_mod D n
  have hml := Nat.mod_lt D hn
  obtain ⟨q, hq⟩ : ∃ q, q = D / n := ⟨_, rfl⟩
  obtain ⟨m, hm⟩ : ∃ m, m = D % n := ⟨_, rfl⟩
  rw [← hq, ← hm] at hdm ⊢
  rw [← hm] at hml
  have le_of : ∀ x y : Nat, x ≤ y → n * x ≤ n * y := fun x y h => Nat.mul_le_mul_left n h
  rw [Nat.mul_comm t n]
  have b : (m != 0).toNat = if m = 0 then 0 else 1 := by
    by_cases h : m = 0 <;> simp [h]
  rw [b]
  rcases Nat.lt_trichotomy q t with h | h | h
  · have := le_of (q + 1) t h
    rw [Nat.mul_add, Nat.mul_one] at this
    split <;> omega
  · subst h
    split <;> omega
  · have := le_of (t + 1) q h
    rw [Nat.mul_add, Nat.mul_one] at this
    split <;> omega
/-- A sum of two neighbours on the scale is a multiple of a power. -/
theorem pair_form (r : Nat) : ∃ s B, B < 9007199254740992 ∧ dv r + dv (r + 1) = (2 * B + 1) * 2 ^ s ∧ dv r = B * 2 ^ s ∧ (s = 0 ∨ 4503599627370496 ≤ B) := by
  obtain ⟨s, B, e, v, b, c⟩ := dv_rep r
  have h := dv_step s B b c
  rw [← e] at h
  refine ⟨s, B, b, ?_, v, c⟩
  rw [v, h, ← Nat.add_mul]
  congr 1
  omega
/-- The thresholds of a quotient: multiples of what is told. -/
theorem thr_mul (T a : Nat) (x : Nat) (hx : a + 2 ≤ x) (Y : Nat) (hT : T = Y * 2 ^ x) : ∃ t, T = 4 * 2 ^ a * t := by
  refine ⟨Y * 2 ^ (x - (a + 2)), ?_⟩
  rw [hT, pow_split (a + 2) x hx, Nat.pow_add, Nat.mul_comm Y, Nat.mul_assoc, Nat.mul_comm (2 ^ a) (2 ^ 2), Nat.mul_comm Y]
/-- A quotient's nearest, told by the quotient itself. -/
theorem quo_exa (D n a b r : Nat) (hn : 0 < n) (hbig : 9007199254740992 * n ≤ D) (h : Exa ((2 * (D / n) + (D % n != 0).toNat) * 2 ^ a) (2 ^ b) r) : Exa (2 * D * 2 ^ a) (n * 2 ^ b) r := by
  obtain ⟨mg, hmg⟩ : ∃ mg, mg = 2 * (D / n) + (D % n != 0).toNat := ⟨_, rfl⟩
  have thr := fun t => quo_thr D n t hn
  rw [← hmg] at h thr
  have hm54 : 18014398509481984 ≤ mg := by
    have := (thr 9007199254740992).2.2.2 hbig
    omega
  obtain ⟨A, hA⟩ : ∃ A, A = 2 ^ a := ⟨_, rfl⟩
  have pA : 0 < A := hA ▸ pow_pos a
  obtain ⟨⟨h1, h2⟩, h3⟩ := h
  -- a threshold that is a multiple of 4 A
  have conv : ∀ t, (2 * (mg * A) ≤ 4 * A * t ↔ 2 * (2 * D * A) ≤ 4 * A * t * n) ∧ (2 * (mg * A) = 4 * A * t ↔ 2 * (2 * D * A) = 4 * A * t * n) ∧ (4 * A * t ≤ 2 * (mg * A) ↔ 4 * A * t * n ≤ 2 * (2 * D * A)) := fun t => by
    have e1 : 2 * (mg * A) = 2 * A * mg := by rw [Nat.mul_comm mg A, Nat.mul_assoc]
    have e2 : 4 * A * t = 2 * A * (2 * t) := by rw [show 4 = 2 * 2 from rfl, Nat.mul_assoc 2 2 A, Nat.mul_assoc 2, Nat.mul_assoc 2, Nat.mul_assoc 2, Nat.mul_left_comm 2 A t]
    have e3 : 2 * (2 * D * A) = 4 * A * D := by rw [Nat.mul_assoc, ← Nat.mul_assoc, Nat.mul_comm D A, ← Nat.mul_assoc]
    have e4 : 4 * A * t * n = 4 * A * (t * n) := Nat.mul_assoc _ _ _
    rw [e4, e1, e2, e3]
    have p2 : 0 < 2 * A := by omega
    have p4 : 0 < 4 * A := by omega
    obtain ⟨t1, t2, t3⟩ := thr t
    refine ⟨?_, ?_, ?_⟩
    · rw [Nat.mul_le_mul_left_iff p2, Nat.mul_le_mul_left_iff p4]; exact t1
    · rw [Nat.mul_right_inj (by omega : 2 * A ≠ 0), Nat.mul_right_inj (by omega : 4 * A ≠ 0)]; exact t2
    · rw [Nat.mul_le_mul_left_iff p2, Nat.mul_le_mul_left_iff p4]; exact t3
  obtain ⟨s, B, hB, hp, hd, hc⟩ := pair_form r
  have hsb : a + 2 ≤ s + b := by
    rcases Nat.lt_or_ge (s + b) (a + 2) with q | q
    · exfalso
      rw [hp, Nat.mul_assoc, ← Nat.pow_add] at h1
      have q1 : (2 * B + 1) * 2 ^ (s + b) < 18014398509481984 * 2 ^ (s + b) := Nat.mul_lt_mul_of_pos_right (by omega) (pow_pos _)
      have q2 : (2 : Nat) ^ (s + b) ≤ 2 ^ (a + 1) := Nat.pow_le_pow_right (by omega) (by omega)
      rw [Nat.pow_succ, ← hA] at q2
      have q3 : 18014398509481984 * A ≤ mg * A := Nat.mul_le_mul_right A hm54
      rw [← hA] at h1
      omega
    · exact q
  have up : ∃ t, (dv r + dv (r + 1)) * 2 ^ b = 4 * A * t := by
    rw [hA]
    exact thr_mul _ a (s + b) hsb (2 * B + 1) (by rw [hp, Nat.mul_assoc, ← Nat.pow_add])
  obtain ⟨t, ht⟩ := up
  obtain ⟨c1, c2, c3⟩ := conv t
  have re : ∀ X, X * (n * 2 ^ b) = X * 2 ^ b * n := fun X => by rw [Nat.mul_comm n, ← Nat.mul_assoc]
  unfold Exa
  rw [re, re, ← hA]
  rw [← hA] at h1 h2 h3
  refine ⟨⟨?_, fun h => h2 ?_⟩, fun h0 => ?_⟩
  · rw [ht] at h1 ⊢
    exact c1.1 h1
  · rw [ht] at h ⊢
    exact c2.2 h
  · obtain ⟨h4, h5⟩ := h3 h0
    obtain ⟨s', B', hB', hp', hd', hc'⟩ := pair_form (r - 1)
    rw [show r - 1 + 1 = r by omega] at hp'
    rcases Nat.lt_or_ge (s' + b) (a + 2) with q | q
    · -- the lower neighbour lies a binade below
      have q1 : (2 * B' + 1) * 2 ^ (s' + b) < 18014398509481984 * 2 ^ (s' + b) := Nat.mul_lt_mul_of_pos_right (by omega) (pow_pos _)
      have q2 : (2 : Nat) ^ (s' + b) ≤ 2 ^ (a + 1) := Nat.pow_le_pow_right (by omega) (by omega)
      rw [Nat.pow_succ, ← hA] at q2
      have q3 : (dv (r - 1) + dv r) * 2 ^ b < 36028797018963968 * A := by
        rw [hp', Nat.mul_assoc, ← Nat.pow_add]
        omega
      have q4 := Nat.mul_lt_mul_of_pos_right q3 hn
      have q5 : 36028797018963968 * A * n ≤ 2 * (2 * D * A) := by
        have := Nat.mul_le_mul_left (4 * A) hbig
        have e1 : 4 * A * (9007199254740992 * n) = 36028797018963968 * A * n := by
          rw [← Nat.mul_assoc, Nat.mul_right_comm 4 A]
        have e3 : 2 * (2 * D * A) = 4 * A * D := by rw [Nat.mul_assoc, ← Nat.mul_assoc, Nat.mul_comm D A, ← Nat.mul_assoc]
        rw [e3, ← e1]
        exact this
      exact ⟨by omega, fun h => by omega⟩
    · obtain ⟨u, hu⟩ : ∃ t, (dv (r - 1) + dv r) * 2 ^ b = 4 * A * t := by
        rw [hA]
        exact thr_mul _ a (s' + b) q (2 * B' + 1) (by rw [hp', Nat.mul_assoc, ← Nat.pow_add])
      obtain ⟨u1, u2, u3⟩ := conv u
      rw [hu] at h4 h5 ⊢
      exact ⟨u3.1 h4, fun h => h5 (u2.2 h.symm).symm⟩
/-- One divided by a number of one or more. -/
theorem div_one (k : Nat) (hk : k < infR) (hk1 : 2 ^ uE ≤ dv k) : ∃ r, double.div ONE k = some r ∧ r ≤ ONE ∧ Exa (2 ^ uE * 2 ^ uE) (dv k) r := by
  have h1 := one_lt
  obtain ⟨m, p, e1, v1, m53, z1, m52⟩ := read_fin false ONE h1
  obtain ⟨n, q, e2, v2, n53, z2, n52⟩ := read_fin false k hk
  obtain ⟨r, hd, hrx, -⟩ := div_near false ONE k h1 hk hk1
  rw [wordf] at e1 e2 hd
  rw [wordf] at hd
  rw [dv_one] at v1
  have hk0 : k ≠ 0 := fun h => by
    subst h
    rw [dv_zero] at hk1
    have := pow_pos uE
    omega
  have hn0 : n ≠ 0 := fun h => hk0 (z2.1 h)
  have hm0 : m ≠ 0 := fun h => by
    rw [h, Nat.zero_mul] at v1
    have := pow_pos uE
    omega
  obtain ⟨more, hmore⟩ : ∃ more, more = double.fractionBits + 2 + n.log2 - m.log2 := ⟨_, rfl⟩
  have hmm : more + m.log2 = 54 + n.log2 := by
    have a1 := m52 (by unfold ONE; omega)
    have a2 := log2_top m a1 m53
    rw [hmore, a2]
    show 52 + 2 + n.log2 - 52 + 52 = _
    omega
  have hbig : 9007199254740992 * n ≤ m * 2 ^ more := by
    have b1 := Nat.lt_log2_self (n := n)
    have b2 := Nat.log2_self_le hm0
    have b3 : 2 ^ m.log2 * 2 ^ more ≤ m * 2 ^ more := Nat.mul_le_mul_right _ b2
    rw [← Nat.pow_add, Nat.add_comm, hmm, show 54 + n.log2 = 53 + (n.log2 + 1) by omega, Nat.pow_add 2 53] at b3
    have b4 : 9007199254740992 * n ≤ 2 ^ 53 * 2 ^ (n.log2 + 1) := Nat.mul_le_mul_left _ (Nat.le_of_lt b1)
    exact Nat.le_trans b4 b3
  obtain ⟨a, b, hab, hz⟩ : ∃ a b : Nat, (p : Int) - 1074 - ((q : Int) - 1074) - more - 1 + 1074 = (a : Int) - b ∧ (a = 0 ∨ b = 0) := ⟨((p : Int) - 1074 - ((q : Int) - 1074) - more - 1 + 1074).toNat, (-((p : Int) - 1074 - ((q : Int) - 1074) - more - 1 + 1074)).toNat, by omega, by omega⟩
  obtain ⟨mg, hmg⟩ : ∃ mg, mg = 2 * (m * 2 ^ more / n) + (m * 2 ^ more % n != 0).toNat := ⟨_, rfl⟩
  obtain ⟨r', e', hr'⟩ := nearest_rnd false mg ((p : Int) - 1074 - ((q : Int) - 1074) - more - 1) a b hab hz
  have hdiv : double.div ONE k = some (double.nearest false mg ((p : Int) - 1074 - ((q : Int) - 1074) - more - 1)) := by
    unfold Format.div
    rw [e1, e2]
    simp only [Datum.quotient, if_neg hn0, ← hmore, Nat.shiftLeft_eq, ← hmg]
    rfl
  have hrr : r' = r := by
    rw [hdiv, e'] at hd
    exact Option.some.inj hd
  subst hrr
  -- nothing overflows: the quotient is below two
  have hVM : mg * 2 ^ a ≤ dv (ONE + 4503599627370496) * 2 ^ b := by
    rcases Nat.lt_or_ge (dv (ONE + 4503599627370496) * 2 ^ b) (mg * 2 ^ a) with c | c
    · have := hr'.2.2 (ONE + 4503599627370496) (by unfold ONE infR; omega) (by omega)
      omega
    · exact c
  obtain ⟨r2, e3, -, -, hE⟩ := nearest_exa false mg ((p : Int) - 1074 - ((q : Int) - 1074) - more - 1) a b (ONE + 4503599627370496) hab hz (by unfold ONE infR; omega) hVM
  have hrr2 : r2 = r' := by
    rw [e'] at e3
    exact e3.symm
  subst hrr2
  refine ⟨r2, hd, hrx, ?_⟩
  rw [hmg] at hE
  have hQ := quo_exa (m * 2 ^ more) n a b r2 (by omega) hbig hE
  -- 2 D 2^a over n 2^b is one over k
  have hab2 : p + 1074 + b = q + more + 1 + a := by omega
  have key : 2 * (m * 2 ^ more) * 2 ^ a * (2 ^ q * 2 ^ uE) * 1 = 2 ^ uE * 2 ^ uE * 2 ^ b * 2 ^ uE := by
    rw [← v1]
    have : 2 * (m * 2 ^ more) * 2 ^ a * (2 ^ q * (m * 2 ^ p)) = m * m * 2 ^ (1 + more + a + q + p) := by
      rw [Nat.pow_add, Nat.pow_add, Nat.pow_add, Nat.pow_add, Nat.pow_one]
      ac_rfl
    rw [Nat.mul_one, this]
    have h2 : m * 2 ^ p * (m * 2 ^ p) * 2 ^ b * (m * 2 ^ p) = m * m * 2 ^ (p + p + b) * 2 ^ uE := by
      rw [v1, ← v1, Nat.pow_add, Nat.pow_add]
      ac_rfl
    rw [h2, Nat.mul_assoc (m * m), ← Nat.pow_add]
    congr 2
    unfold uE
    omega
  obtain ⟨c, hc⟩ : ∃ c, c = 2 ^ q * 2 ^ uE := ⟨_, rfl⟩
  have pc : 0 < c := by rw [hc]; exact Nat.mul_pos (pow_pos _) (pow_pos _)
  have hS := hQ.scale c pc
  rw [Nat.mul_one] at key
  rw [← hc] at key
  rw [key] at hS
  have e5 : n * 2 ^ b * c = dv k * (2 ^ b * 2 ^ uE) := by
    rw [hc, ← v2]
    have g : ∀ U Bb Qq : Nat, n * Bb * (Qq * U) = n * Qq * (Bb * U) := fun U Bb Qq => by ac_rfl
    exact g _ _ _
  have e6 : 2 ^ uE * 2 ^ uE * 2 ^ b * 2 ^ uE = 2 ^ uE * 2 ^ uE * (2 ^ b * 2 ^ uE) := by
    have g : ∀ U Bb : Nat, U * U * Bb * U = U * U * (Bb * U) := fun U Bb => by ac_rfl
    exact g _ _
  rw [e5, e6] at hS
  obtain ⟨⟨g1, g2⟩, g3⟩ := hS
  have pd : 0 < 2 ^ b * 2 ^ uE := Nat.mul_pos (pow_pos _) (pow_pos _)
  obtain ⟨d, hdd⟩ : ∃ d, d = 2 ^ b * 2 ^ uE := ⟨_, rfl⟩
  rw [← hdd] at g1 g2 g3 pd
  have m1 : ∀ X, X * (dv k * d) = X * dv k * d := fun X => (Nat.mul_assoc _ _ _).symm
  have m2 : 2 * (2 ^ uE * 2 ^ uE * d) = 2 * (2 ^ uE * 2 ^ uE) * d := (Nat.mul_assoc _ _ _).symm
  rw [m1, m2] at g1 g2 g3
  refine ⟨⟨Nat.le_of_mul_le_mul_right g1 pd, fun h => g2 (by rw [h])⟩, fun h0 => ?_⟩
  obtain ⟨g4, g5⟩ := g3 h0
  exact ⟨Nat.le_of_mul_le_mul_right g4 pd, fun h => g5 (by rw [h])⟩
end Go.Proofs.Ytbemmhngadpjcaa

/- The rate of a filter, as a number. -/
namespace Go.Proofs.Ytbemmhngadpjcaa
set_option linter.unusedVariables false
set_option linter.unusedSimpArgs false
open Ieee

/-- A whole number as a float. -/
def flw (k : Nat) : Nat := double.nearest false k 0
theorem flw_exa (k : Nat) (h : k ≤ 9223372036854775808) : flw k ≤ R63 ∧ Exa (k * 2 ^ uE) 1 (flw k) := by
  obtain ⟨r, e, h1, -, h2⟩ := nearest_exa false k 0 uE 0 R63 (by unfold uE; omega) (.inr rfl) R63_lt (by
    rw [dv63, Nat.pow_zero, Nat.mul_one, Nat.pow_add]
    exact Nat.mul_le_mul_right _ h)
  unfold flw
  rw [e]
  exact ⟨h1, h2⟩
theorem flw_one (k : Nat) (h : k ≤ 9223372036854775808) (h1 : 1 ≤ k) : 2 ^ uE ≤ dv (flw k) := by
  obtain ⟨r, e, -, h2, -⟩ := float_int false k h
  unfold flw
  rw [e]
  exact h2 h1
theorem flw_mono (k k' : Nat) (h : k ≤ k') (h' : k' ≤ 9223372036854775808) : flw k ≤ flw k' :=
  Exa.mono (by omega) (flw_exa k (by omega)).2 (flw_exa k' h').2 (Nat.mul_le_mul_right _ h)
def invF (k : Nat) : Nat := (double.div ONE (flw k)).getD 0
theorem invF_ok (k : Nat) (h : k ≤ 9223372036854775808) (h1 : 1 ≤ k) : double.div ONE (flw k) = some (invF k) ∧ invF k ≤ ONE ∧ Exa (2 ^ uE * 2 ^ uE) (dv (flw k)) (invF k) := by
  have R := R63_lt
  obtain ⟨r, e, hr, hE⟩ := div_one (flw k) (by have := (flw_exa k h).1; omega) (flw_one k h h1)
  have : invF k = r := by unfold invF; rw [e]; rfl
  rw [this]
  exact ⟨e, hr, hE⟩
theorem invF_anti (k k' : Nat) (h1 : 1 ≤ k) (h : k ≤ k') (h' : k' ≤ 9223372036854775808) : invF k' ≤ invF k := by
  have p := pow_pos uE
  have a := flw_one k (by omega) h1
  have b := flw_one k' h' (by omega)
  exact Exa.mono2 (by omega) (by omega) (invF_ok k' h' (by omega)).2.2 (invF_ok k (by omega) h1).2.2 (Nat.mul_le_mul_left _ (dv_mono _ _ (flw_mono k k' h h')))
def eF (k : Nat) : Nat := subF (invF k)
theorem eF_ok (k : Nat) (h : k ≤ 9223372036854775808) (h1 : 1 ≤ k) : double.sub ONE (invF k) = some (eF k) ∧ eF k ≤ ONE := by
  have := subF_ok (invF_ok k h h1).2.1
  exact ⟨this.1, this.2.1⟩
theorem eF_mono (k k' : Nat) (h1 : 1 ≤ k) (h : k ≤ k') (h' : k' ≤ 9223372036854775808) : eF k ≤ eF k' :=
  subF_anti (invF_anti k k' h1 h h') (invF_ok k (by omega) h1).2.1
def pF (k n : Nat) : Nat := powF ONE (eF k) n
def gF (k n : Nat) : Nat := subF (pF k n)
/-- The rate of k bits, h hashes, n keys. -/
def rateF (k h n : Nat) : Nat := powF ONE (gF k (h * n)) h
theorem pF_le (k n : Nat) (h : k ≤ 9223372036854775808) (h1 : 1 ≤ k) : pF k n ≤ ONE := (pow_stays n ONE (eF k) (Nat.le_refl _) (eF_ok k h h1).2).1
theorem gF_ok (k n : Nat) (h : k ≤ 9223372036854775808) (h1 : 1 ≤ k) : double.sub ONE (pF k n) = some (gF k n) ∧ gF k n ≤ ONE := by
  have := subF_ok (pF_le k n h h1)
  exact ⟨this.1, this.2.1⟩
theorem rateF_le (k h n : Nat) (hk : k ≤ 9223372036854775808) (h1 : 1 ≤ k) : rateF k h n ≤ ONE := (pow_stays h ONE (gF k (h * n)) (Nat.le_refl _) (gF_ok k (h * n) hk h1).2).1
theorem rateF_anti (k k' h n : Nat) (h1 : 1 ≤ k) (hk : k ≤ k') (h' : k' ≤ 9223372036854775808) : rateF k' h n ≤ rateF k h n := by
  have e := eF_mono k k' h1 hk h'
  have p := pow_mono (h * n) ONE (eF k) ONE (eF k') (Nat.le_refl _) (Nat.le_refl _) e (eF_ok k' h' (by omega)).2
  have g : gF k' (h * n) ≤ gF k (h * n) := subF_anti p (pF_le k' (h * n) h' (by omega))
  exact pow_mono h ONE _ ONE _ (Nat.le_refl _) (Nat.le_refl _) g (gF_ok k (h * n) (by omega) h1).2
end Go.Proofs.Ytbemmhngadpjcaa
