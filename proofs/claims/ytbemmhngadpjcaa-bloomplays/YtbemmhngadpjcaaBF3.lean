/- One divided by whole numbers: the greater the number, the less; the rate of a filter. -/
import Derived.Test.YtbemmhngadpjcaaBF2
namespace Go.Proofs.Ytbemmhngadpjcaa
set_option linter.unusedVariables false
set_option linter.unusedSimpArgs false
open Ieee

theorem Exa.mono2 {V V' s s' r r' : Nat} (hs : 0 < s) (hs' : 0 < s') (h : Exa V s r) (h' : Exa V' s' r') (hV : V * s' ≤ V' * s) : r ≤ r' := by
  have a := h.scale s' hs'
  have b := h'.scale s hs
  rw [Nat.mul_comm s' s] at b
  exact Exa.mono (Nat.mul_pos hs hs') a b hV
/-- A threshold that a quotient with a mark of what is left over is held against. -/
theorem quo_thr (D n t : Nat) (hn : 0 < n) : (2 * (D / n) + (D % n != 0).toNat ≤ 2 * t ↔ D ≤ t * n) ∧ (2 * (D / n) + (D % n != 0).toNat = 2 * t ↔ D = t * n) ∧ (2 * t ≤ 2 * (D / n) + (D % n != 0).toNat ↔ t * n ≤ D) := by
  have hdm := Nat.div_add_mod D n
  have hml := Nat.mod_lt D hn
  obtain ⟨q, hq⟩ : ∃ q, q = D / n := ⟨_, rfl⟩
  obtain ⟨m, hm⟩ : ∃ m, m = D % n := ⟨_, rfl⟩
  rw [← hq, ← hm] at hdm ⊢
  rw [← hm] at hml
  have le_of : ∀ x y : Nat, x ≤ y → n * x ≤ n * y := fun x y h => Nat.mul_le_mul_left n h
  rw [Nat.mul_comm t n]
  have b : (m != 0).toNat = if m = 0 then 0 else 1 := by
    by_cases h : m = 0 <;> simp [h]
  rw [b]
  rcases Nat.lt_trichotomy q t with h | h | h
  · have := le_of (q + 1) t h
    rw [Nat.mul_add, Nat.mul_one] at this
    split <;> omega
  · subst h
    split <;> omega
  · have := le_of (t + 1) q h
    rw [Nat.mul_add, Nat.mul_one] at this
    split <;> omega
/-- A sum of two neighbours on the scale is a multiple of a power. -/
theorem pair_form (r : Nat) : ∃ s B, B < 9007199254740992 ∧ dv r + dv (r + 1) = (2 * B + 1) * 2 ^ s ∧ dv r = B * 2 ^ s ∧ (s = 0 ∨ 4503599627370496 ≤ B) := by
  obtain ⟨s, B, e, v, b, c⟩ := dv_rep r
  have h := dv_step s B b c
  rw [← e] at h
  refine ⟨s, B, b, ?_, v, c⟩
  rw [v, h, ← Nat.add_mul]
  congr 1
  omega
/-- The thresholds of a quotient: multiples of what is told. -/
theorem thr_mul (T a : Nat) (x : Nat) (hx : a + 2 ≤ x) (Y : Nat) (hT : T = Y * 2 ^ x) : ∃ t, T = 4 * 2 ^ a * t := by
  refine ⟨Y * 2 ^ (x - (a + 2)), ?_⟩
  rw [hT, pow_split (a + 2) x hx, Nat.pow_add, Nat.mul_comm Y, Nat.mul_assoc, Nat.mul_comm (2 ^ a) (2 ^ 2), Nat.mul_comm Y]
/-- A quotient's nearest, told by the quotient itself. -/
theorem quo_exa (D n a b r : Nat) (hn : 0 < n) (hbig : 9007199254740992 * n ≤ D) (h : Exa ((2 * (D / n) + (D % n != 0).toNat) * 2 ^ a) (2 ^ b) r) : Exa (2 * D * 2 ^ a) (n * 2 ^ b) r := by
  obtain ⟨mg, hmg⟩ : ∃ mg, mg = 2 * (D / n) + (D % n != 0).toNat := ⟨_, rfl⟩
  have thr := fun t => quo_thr D n t hn
  rw [← hmg] at h thr
  have hm54 : 18014398509481984 ≤ mg := by
    have := (thr 9007199254740992).2.2.2 hbig
    omega
  obtain ⟨A, hA⟩ : ∃ A, A = 2 ^ a := ⟨_, rfl⟩
  have pA : 0 < A := hA ▸ pow_pos a
  obtain ⟨⟨h1, h2⟩, h3⟩ := h
  -- a threshold that is a multiple of 4 A
  have conv : ∀ t, (2 * (mg * A) ≤ 4 * A * t ↔ 2 * (2 * D * A) ≤ 4 * A * t * n) ∧ (2 * (mg * A) = 4 * A * t ↔ 2 * (2 * D * A) = 4 * A * t * n) ∧ (4 * A * t ≤ 2 * (mg * A) ↔ 4 * A * t * n ≤ 2 * (2 * D * A)) := fun t => by
    have e1 : 2 * (mg * A) = 2 * A * mg := by rw [Nat.mul_comm mg A, Nat.mul_assoc]
    have e2 : 4 * A * t = 2 * A * (2 * t) := by rw [show 4 = 2 * 2 from rfl, Nat.mul_assoc 2 2 A, Nat.mul_assoc 2, Nat.mul_assoc 2, Nat.mul_assoc 2, Nat.mul_left_comm 2 A t]
    have e3 : 2 * (2 * D * A) = 4 * A * D := by rw [Nat.mul_assoc, ← Nat.mul_assoc, Nat.mul_comm D A, ← Nat.mul_assoc]
    have e4 : 4 * A * t * n = 4 * A * (t * n) := Nat.mul_assoc _ _ _
    rw [e4, e1, e2, e3]
    have p2 : 0 < 2 * A := by omega
    have p4 : 0 < 4 * A := by omega
    obtain ⟨t1, t2, t3⟩ := thr t
    refine ⟨?_, ?_, ?_⟩
    · rw [Nat.mul_le_mul_left_iff p2, Nat.mul_le_mul_left_iff p4]; exact t1
    · rw [Nat.mul_right_inj (by omega : 2 * A ≠ 0), Nat.mul_right_inj (by omega : 4 * A ≠ 0)]; exact t2
    · rw [Nat.mul_le_mul_left_iff p2, Nat.mul_le_mul_left_iff p4]; exact t3
  obtain ⟨s, B, hB, hp, hd, hc⟩ := pair_form r
  have hsb : a + 2 ≤ s + b := by
    rcases Nat.lt_or_ge (s + b) (a + 2) with q | q
    · exfalso
      rw [hp, Nat.mul_assoc, ← Nat.pow_add] at h1
      have q1 : (2 * B + 1) * 2 ^ (s + b) < 18014398509481984 * 2 ^ (s + b) := Nat.mul_lt_mul_of_pos_right (by omega) (pow_pos _)
      have q2 : (2 : Nat) ^ (s + b) ≤ 2 ^ (a + 1) := Nat.pow_le_pow_right (by omega) (by omega)
      rw [Nat.pow_succ, ← hA] at q2
      have q3 : 18014398509481984 * A ≤ mg * A := Nat.mul_le_mul_right A hm54
      rw [← hA] at h1
      omega
    · exact q
  have up : ∃ t, (dv r + dv (r + 1)) * 2 ^ b = 4 * A * t := by
    rw [hA]
    exact thr_mul _ a (s + b) hsb (2 * B + 1) (by rw [hp, Nat.mul_assoc, ← Nat.pow_add])
  obtain ⟨t, ht⟩ := up
  obtain ⟨c1, c2, c3⟩ := conv t
  have re : ∀ X, X * (n * 2 ^ b) = X * 2 ^ b * n := fun X => by rw [Nat.mul_comm n, ← Nat.mul_assoc]
  unfold Exa
  rw [re, re, ← hA]
  rw [← hA] at h1 h2 h3
  refine ⟨⟨?_, fun h => h2 ?_⟩, fun h0 => ?_⟩
  · rw [ht] at h1 ⊢
    exact c1.1 h1
  · rw [ht] at h ⊢
    exact c2.2 h
  · obtain ⟨h4, h5⟩ := h3 h0
    obtain ⟨s', B', hB', hp', hd', hc'⟩ := pair_form (r - 1)
    rw [show r - 1 + 1 = r by omega] at hp'
    rcases Nat.lt_or_ge (s' + b) (a + 2) with q | q
    · -- the lower neighbour lies a binade below
      have q1 : (2 * B' + 1) * 2 ^ (s' + b) < 18014398509481984 * 2 ^ (s' + b) := Nat.mul_lt_mul_of_pos_right (by omega) (pow_pos _)
      have q2 : (2 : Nat) ^ (s' + b) ≤ 2 ^ (a + 1) := Nat.pow_le_pow_right (by omega) (by omega)
      rw [Nat.pow_succ, ← hA] at q2
      have q3 : (dv (r - 1) + dv r) * 2 ^ b < 36028797018963968 * A := by
        rw [hp', Nat.mul_assoc, ← Nat.pow_add]
        omega
      have q4 := Nat.mul_lt_mul_of_pos_right q3 hn
      have q5 : 36028797018963968 * A * n ≤ 2 * (2 * D * A) := by
        have := Nat.mul_le_mul_left (4 * A) hbig
        have e1 : 4 * A * (9007199254740992 * n) = 36028797018963968 * A * n := by
          rw [← Nat.mul_assoc, Nat.mul_right_comm 4 A]
        have e3 : 2 * (2 * D * A) = 4 * A * D := by rw [Nat.mul_assoc, ← Nat.mul_assoc, Nat.mul_comm D A, ← Nat.mul_assoc]
        rw [e3, ← e1]
        exact this
      exact ⟨by omega, fun h => by omega⟩
    · obtain ⟨u, hu⟩ : ∃ t, (dv (r - 1) + dv r) * 2 ^ b = 4 * A * t := by
        rw [hA]
        exact thr_mul _ a (s' + b) q (2 * B' + 1) (by rw [hp', Nat.mul_assoc, ← Nat.pow_add])
      obtain ⟨u1, u2, u3⟩ := conv u
      rw [hu] at h4 h5 ⊢
      exact ⟨u3.1 h4, fun h => h5 (u2.2 h.symm).symm⟩
/-- One divided by a number of one or more. -/
theorem div_one (k : Nat) (hk : k < infR) (hk1 : 2 ^ uE ≤ dv k) : ∃ r, double.div ONE k = some r ∧ r ≤ ONE ∧ Exa (2 ^ uE * 2 ^ uE) (dv k) r := by
  have h1 := one_lt
  obtain ⟨m, p, e1, v1, m53, z1, m52⟩ := read_fin false ONE h1
  obtain ⟨n, q, e2, v2, n53, z2, n52⟩ := read_fin false k hk
  obtain ⟨r, hd, hrx, -⟩ := div_near false ONE k h1 hk hk1
  rw [wordf] at e1 e2 hd
  rw [wordf] at hd
  rw [dv_one] at v1
  have hk0 : k ≠ 0 := fun h => by
    subst h
    rw [dv_zero] at hk1
    have := pow_pos uE
    omega
  have hn0 : n ≠ 0 := fun h => hk0 (z2.1 h)
  have hm0 : m ≠ 0 := fun h => by
    rw [h, Nat.zero_mul] at v1
    have := pow_pos uE
    omega
  obtain ⟨more, hmore⟩ : ∃ more, more = double.fractionBits + 2 + n.log2 - m.log2 := ⟨_, rfl⟩
  have hmm : more + m.log2 = 54 + n.log2 := by
    have a1 := m52 (by unfold ONE; omega)
    have a2 := log2_top m a1 m53
    rw [hmore, a2]
    show 52 + 2 + n.log2 - 52 + 52 = _
    omega
  have hbig : 9007199254740992 * n ≤ m * 2 ^ more := by
    have b1 := Nat.lt_log2_self (n := n)
    have b2 := Nat.log2_self_le hm0
    have b3 : 2 ^ m.log2 * 2 ^ more ≤ m * 2 ^ more := Nat.mul_le_mul_right _ b2
    rw [← Nat.pow_add, Nat.add_comm, hmm, show 54 + n.log2 = 53 + (n.log2 + 1) by omega, Nat.pow_add 2 53] at b3
    have b4 : 9007199254740992 * n ≤ 2 ^ 53 * 2 ^ (n.log2 + 1) := Nat.mul_le_mul_left _ (Nat.le_of_lt b1)
    exact Nat.le_trans b4 b3
  obtain ⟨a, b, hab, hz⟩ : ∃ a b : Nat, (p : Int) - 1074 - ((q : Int) - 1074) - more - 1 + 1074 = (a : Int) - b ∧ (a = 0 ∨ b = 0) := ⟨((p : Int) - 1074 - ((q : Int) - 1074) - more - 1 + 1074).toNat, (-((p : Int) - 1074 - ((q : Int) - 1074) - more - 1 + 1074)).toNat, by omega, by omega⟩
  obtain ⟨mg, hmg⟩ : ∃ mg, mg = 2 * (m * 2 ^ more / n) + (m * 2 ^ more % n != 0).toNat := ⟨_, rfl⟩
  obtain ⟨r', e', hr'⟩ := nearest_rnd false mg ((p : Int) - 1074 - ((q : Int) - 1074) - more - 1) a b hab hz
  have hdiv : double.div ONE k = some (double.nearest false mg ((p : Int) - 1074 - ((q : Int) - 1074) - more - 1)) := by
    unfold Format.div
    rw [e1, e2]
    simp only [Datum.quotient, if_neg hn0, ← hmore, Nat.shiftLeft_eq, ← hmg]
    rfl
  have hrr : r' = r := by
    rw [hdiv, e'] at hd
    exact Option.some.inj hd
  subst hrr
  -- nothing overflows: the quotient is below two
  have hVM : mg * 2 ^ a ≤ dv (ONE + 4503599627370496) * 2 ^ b := by
    rcases Nat.lt_or_ge (dv (ONE + 4503599627370496) * 2 ^ b) (mg * 2 ^ a) with c | c
    · have := hr'.2.2 (ONE + 4503599627370496) (by unfold ONE infR; omega) (by omega)
      omega
    · exact c
  obtain ⟨r2, e3, -, -, hE⟩ := nearest_exa false mg ((p : Int) - 1074 - ((q : Int) - 1074) - more - 1) a b (ONE + 4503599627370496) hab hz (by unfold ONE infR; omega) hVM
  have hrr2 : r2 = r' := by
    rw [e'] at e3
    exact e3.symm
  subst hrr2
  refine ⟨r2, hd, hrx, ?_⟩
  rw [hmg] at hE
  have hQ := quo_exa (m * 2 ^ more) n a b r2 (by omega) hbig hE
  -- 2 D 2^a over n 2^b is one over k
  have hab2 : p + 1074 + b = q + more + 1 + a := by omega
  have key : 2 * (m * 2 ^ more) * 2 ^ a * (2 ^ q * 2 ^ uE) * 1 = 2 ^ uE * 2 ^ uE * 2 ^ b * 2 ^ uE := by
    rw [← v1]
    have : 2 * (m * 2 ^ more) * 2 ^ a * (2 ^ q * (m * 2 ^ p)) = m * m * 2 ^ (1 + more + a + q + p) := by
      rw [Nat.pow_add, Nat.pow_add, Nat.pow_add, Nat.pow_add, Nat.pow_one]
      ac_rfl
    rw [Nat.mul_one, this]
    have h2 : m * 2 ^ p * (m * 2 ^ p) * 2 ^ b * (m * 2 ^ p) = m * m * 2 ^ (p + p + b) * 2 ^ uE := by
      rw [v1, ← v1, Nat.pow_add, Nat.pow_add]
      ac_rfl
    rw [h2, Nat.mul_assoc (m * m), ← Nat.pow_add]
    congr 2
    unfold uE
    omega
  obtain ⟨c, hc⟩ : ∃ c, c = 2 ^ q * 2 ^ uE := ⟨_, rfl⟩
  have pc : 0 < c := by rw [hc]; exact Nat.mul_pos (pow_pos _) (pow_pos _)
  have hS := hQ.scale c pc
  rw [Nat.mul_one] at key
  rw [← hc] at key
  rw [key] at hS
  have e5 : n * 2 ^ b * c = dv k * (2 ^ b * 2 ^ uE) := by
    rw [hc, ← v2]
    have g : ∀ U Bb Qq : Nat, n * Bb * (Qq * U) = n * Qq * (Bb * U) := fun U Bb Qq => by ac_rfl
    exact g _ _ _
  have e6 : 2 ^ uE * 2 ^ uE * 2 ^ b * 2 ^ uE = 2 ^ uE * 2 ^ uE * (2 ^ b * 2 ^ uE) := by
    have g : ∀ U Bb : Nat, U * U * Bb * U = U * U * (Bb * U) := fun U Bb => by ac_rfl
    exact g _ _
  rw [e5, e6] at hS
  obtain ⟨⟨g1, g2⟩, g3⟩ := hS
  have pd : 0 < 2 ^ b * 2 ^ uE := Nat.mul_pos (pow_pos _) (pow_pos _)
  obtain ⟨d, hdd⟩ : ∃ d, d = 2 ^ b * 2 ^ uE := ⟨_, rfl⟩
  rw [← hdd] at g1 g2 g3 pd
  have m1 : ∀ X, X * (dv k * d) = X * dv k * d := fun X => (Nat.mul_assoc _ _ _).symm
  have m2 : 2 * (2 ^ uE * 2 ^ uE * d) = 2 * (2 ^ uE * 2 ^ uE) * d := (Nat.mul_assoc _ _ _).symm
  rw [m1, m2] at g1 g2 g3
  refine ⟨⟨Nat.le_of_mul_le_mul_right g1 pd, fun h => g2 (by rw [h])⟩, fun h0 => ?_⟩
  obtain ⟨g4, g5⟩ := g3 h0
  exact ⟨Nat.le_of_mul_le_mul_right g4 pd, fun h => g5 (by rw [h])⟩
end Go.Proofs.Ytbemmhngadpjcaa
