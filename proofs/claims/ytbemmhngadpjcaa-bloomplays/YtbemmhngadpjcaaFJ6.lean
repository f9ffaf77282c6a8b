/- A quotient of whole numbers: how full a filter is. -/
import Derived.Test.YtbemmhngadpjcaaFLm
namespace Go.Proofs.Ytbemmhngadpjcaa
set_option linter.unusedVariables false
set_option linter.unusedSimpArgs false
open Ieee

/-- A quotient by a number of one or more. -/
theorem div_gen (x k : Nat) (hx0 : x ≠ 0) (hx : x + 1 < infR) (hk : k < infR) (hk1 : 2 ^ uE ≤ dv k) : ∃ r, double.div x k = some r ∧ r ≤ x ∧ Exa (dv x * 2 ^ uE) (dv k) r := by
  have h1 : x < infR := by omega
  obtain ⟨m, p, e1, v1, m53, z1, m52⟩ := read_fin false x h1
  obtain ⟨n, q, e2, v2, n53, z2, n52⟩ := read_fin false k hk
  obtain ⟨r, hd, hrx, -⟩ := div_near false x k h1 hk hk1
  rw [wordf] at e1 e2 hd
  rw [wordf] at hd
  have hk0 : k ≠ 0 := fun h => by
    subst h
    rw [dv_zero] at hk1
    have := pow_pos uE
    omega
  have hn0 : n ≠ 0 := fun h => hk0 (z2.1 h)
  have hm0 : m ≠ 0 := fun h => hx0 (z1.1 h)
  obtain ⟨more, hmore⟩ : ∃ more, more = double.fractionBits + 2 + n.log2 - m.log2 := ⟨_, rfl⟩
  have hmm : more + m.log2 = 54 + n.log2 := by
    have a2 := log2_low m hm0 m53
    rw [hmore]
    show 52 + 2 + n.log2 - m.log2 + m.log2 = _
    omega
  have hbig : 9007199254740992 * n ≤ m * 2 ^ more := by
    have b1 := Nat.lt_log2_self (n := n)
    have b2 := Nat.log2_self_le hm0
    have b3 : 2 ^ m.log2 * 2 ^ more ≤ m * 2 ^ more := Nat.mul_le_mul_right _ b2
    rw [← Nat.pow_add, Nat.add_comm, hmm, show 54 + n.log2 = 53 + (n.log2 + 1) by omega, Nat.pow_add 2 53] at b3
    have b4 : 9007199254740992 * n ≤ 2 ^ 53 * 2 ^ (n.log2 + 1) := Nat.mul_le_mul_left _ (Nat.le_of_lt b1)
    exact Nat.le_trans b4 b3
  obtain ⟨a, b, hab, hz⟩ : ∃ a b : Nat, (p : Int) - 1074 - ((q : Int) - 1074) - more - 1 + 1074 = (a : Int) - b ∧ (a = 0 ∨ b = 0) := ⟨((p : Int) - 1074 - ((q : Int) - 1074) - more - 1 + 1074).toNat, (-((p : Int) - 1074 - ((q : Int) - 1074) - more - 1 + 1074)).toNat, by omega, by omega⟩
  obtain ⟨mg, hmg⟩ : ∃ mg, mg = 2 * (m * 2 ^ more / n) + (m * 2 ^ more % n != 0).toNat := ⟨_, rfl⟩
  obtain ⟨r', e', hr'⟩ := nearest_rnd false mg ((p : Int) - 1074 - ((q : Int) - 1074) - more - 1) a b hab hz
  have hdiv : double.div x k = some (double.nearest false mg ((p : Int) - 1074 - ((q : Int) - 1074) - more - 1)) := by
    unfold Format.div
    rw [e1, e2]
    simp only [Datum.quotient, if_neg hn0, ← hmore, Nat.shiftLeft_eq, ← hmg]
    rfl
  have hrr : r' = r := by
    rw [hdiv, e'] at hd
    exact Option.some.inj hd
  subst hrr
  -- nothing overflows: the quotient is below two
  have hVM : mg * 2 ^ a ≤ dv (x + 1) * 2 ^ b := by
    rcases Nat.lt_or_ge (dv (x + 1) * 2 ^ b) (mg * 2 ^ a) with c | c
    · have := hr'.2.2 (x + 1) (by omega) (by omega)
      omega
    · exact c
  obtain ⟨r2, e3, -, -, hE⟩ := nearest_exa false mg ((p : Int) - 1074 - ((q : Int) - 1074) - more - 1) a b (x + 1) hab hz hx hVM
  have hrr2 : r2 = r' := by
    rw [e'] at e3
    exact e3.symm
  subst hrr2
  refine ⟨r2, hd, hrx, ?_⟩
  rw [hmg] at hE
  have hQ := quo_exa (m * 2 ^ more) n a b r2 (by omega) hbig hE
  -- 2 D 2^a over n 2^b is one over k
  have hab2 : p + 1074 + b = q + more + 1 + a := by omega
  have key : 2 * (m * 2 ^ more) * 2 ^ a * (2 ^ q * 2 ^ uE) * 1 = dv x * 2 ^ uE * 2 ^ b * 2 ^ uE := by
    rw [← v1, Nat.mul_one]
    have g1 : ∀ U : Nat, 2 * (m * 2 ^ more) * 2 ^ a * (2 ^ q * U) = m * 2 ^ (1 + more + a + q) * U := fun U => by
      rw [Nat.pow_add, Nat.pow_add, Nat.pow_add, Nat.pow_one]
      ac_rfl
    have g2 : ∀ U : Nat, m * 2 ^ p * U * 2 ^ b * U = m * (2 ^ (p + b) * U) * U := fun U => by
      rw [Nat.pow_add]
      ac_rfl
    rw [g1, g2, ← Nat.pow_add]
    congr 3
    unfold uE
    omega
  obtain ⟨c, hc⟩ : ∃ c, c = 2 ^ q * 2 ^ uE := ⟨_, rfl⟩
  have pc : 0 < c := by rw [hc]; exact Nat.mul_pos (pow_pos _) (pow_pos _)
  have hS := hQ.scale c pc
  rw [Nat.mul_one] at key
  rw [← hc] at key
  rw [key] at hS
  have e5 : n * 2 ^ b * c = dv k * (2 ^ b * 2 ^ uE) := by
    rw [hc, ← v2]
    have g : ∀ U Bb Qq : Nat, n * Bb * (Qq * U) = n * Qq * (Bb * U) := fun U Bb Qq => by ac_rfl
    exact g _ _ _
  have e6 : dv x * 2 ^ uE * 2 ^ b * 2 ^ uE = dv x * 2 ^ uE * (2 ^ b * 2 ^ uE) := by
    have g : ∀ A U Bb : Nat, A * U * Bb * U = A * U * (Bb * U) := fun A U Bb => by ac_rfl
    exact g _ _ _
  rw [e5, e6] at hS
  obtain ⟨⟨g1, g2⟩, g3⟩ := hS
  have pd : 0 < 2 ^ b * 2 ^ uE := Nat.mul_pos (pow_pos _) (pow_pos _)
  obtain ⟨d, hdd⟩ : ∃ d, d = 2 ^ b * 2 ^ uE := ⟨_, rfl⟩
  rw [← hdd] at g1 g2 g3 pd
  have m1 : ∀ X, X * (dv k * d) = X * dv k * d := fun X => (Nat.mul_assoc _ _ _).symm
  have m2 : 2 * (dv x * 2 ^ uE * d) = 2 * (dv x * 2 ^ uE) * d := (Nat.mul_assoc _ _ _).symm
  rw [m1, m2] at g1 g2 g3
  refine ⟨⟨Nat.le_of_mul_le_mul_right g1 pd, fun h => g2 (by rw [h])⟩, fun h0 => ?_⟩
  obtain ⟨g4, g5⟩ := g3 h0
  exact ⟨Nat.le_of_mul_le_mul_right g4 pd, fun h => g5 (by rw [h])⟩
theorem exa_self (r : Nat) : Exa (dv r) 1 r := by
  have h := dv_succ r
  refine ⟨⟨by omega, fun e => by omega⟩, fun h0 => ?_⟩
  have h2 := dv_lt (r - 1) r (by omega)
  exact ⟨by omega, fun e => by omega⟩
/-- So many bits of so many. -/
def fillF (o k : Nat) : Nat := (double.div (flw o) (flw k)).getD 0
theorem flw_pos (o : Nat) (h : 1 ≤ o) (hb : o ≤ 9223372036854775808) : flw o ≠ 0 := fun e => by
  have := flw_one o hb h
  rw [e, dv_zero] at this
  have := pow_pos uE
  omega
theorem fill_ok (o k : Nat) (hk : 1 ≤ k) (hkb : k ≤ 9223372036854775808) (ho : o ≤ k) : double.div (flw o) (flw k) = some (fillF o k) ∧ fillF o k ≤ ONE := by
  have R := R63_lt
  have hk1 := flw_one k hkb hk
  have hkR := (flw_exa k hkb).1
  rcases Nat.eq_zero_or_pos o with z | z
  · subst z
    obtain ⟨r, e, hr, -⟩ := div_near false 0 (flw k) (by unfold infR; omega) (by omega) hk1
    have hf : flw 0 = 0 := by decide
    rw [wordf] at e
    rw [wordf] at e
    have hr0 : r = 0 := by omega
    subst hr0
    have : fillF 0 k = 0 := by unfold fillF; rw [hf, e]; rfl
    rw [this, hf]
    exact ⟨e, Nat.zero_le _⟩
  · have hoR := (flw_exa o (by omega)).1
    have R2 : R63 + 1 < infR := by unfold R63 infR; omega
    obtain ⟨r, e, -, hE⟩ := div_gen (flw o) (flw k) (flw_pos o z (by omega)) (by omega) (by omega) hk1
    have : fillF o k = r := by unfold fillF; rw [e]; rfl
    rw [this]
    refine ⟨e, ?_⟩
    have h1 := exa_self ONE
    rw [dv_one] at h1
    have p := pow_pos uE
    refine Exa.mono2 (by omega) (by omega) hE h1 ?_
    rw [Nat.mul_one, Nat.mul_comm (2 ^ uE)]
    exact Nat.mul_le_mul_right _ (dv_mono _ _ (flw_mono o k ho hkb))
theorem fill_ge (o k : Nat) (hk : 1 ≤ k) (hkb : k ≤ 1048576) (ho : 1 ≤ o) (hob : o ≤ 9223372036854775808) : fillF 1 1048576 ≤ fillF o k := by
  have R := R63_lt
  have R2 : R63 + 1 < infR := by unfold R63 infR; omega
  have p := pow_pos uE
  have hE : ∀ o k, 1 ≤ o → o ≤ 9223372036854775808 → 1 ≤ k → k ≤ 9223372036854775808 → Exa (dv (flw o) * 2 ^ uE) (dv (flw k)) (fillF o k) := fun o k h1 h2 h3 h4 => by
    have hoR := (flw_exa o h2).1
    have hkR := (flw_exa k h4).1
    obtain ⟨r, e, -, hE⟩ := div_gen (flw o) (flw k) (flw_pos o h1 h2) (by omega) (by omega) (flw_one k h4 h3)
    have : fillF o k = r := by unfold fillF; rw [e]; rfl
    rw [this]
    exact hE
  have s1 := flw_one 1048576 (by omega) (by omega)
  have s2 := flw_one k (by omega) hk
  exact Exa.mono2 (by omega) (by omega) (hE 1 1048576 (by omega) (by omega) (by omega) (by omega)) (hE o k ho hob hk (by omega)) (Nat.mul_le_mul (Nat.mul_le_mul_right _ (dv_mono _ _ (flw_mono 1 o ho hob))) (dv_mono _ _ (flw_mono k 1048576 hkb (by omega))))
end Go.Proofs.Ytbemmhngadpjcaa
