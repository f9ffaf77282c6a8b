/- What is not below nought stays so; quotients. -/
import Derived.Test.YtbemmhngadpjcaaFL3
namespace Go.Proofs.Ytbemmhngadpjcaa
set_option linter.unusedVariables false
set_option linter.unusedSimpArgs false
open Ieee

theorem near_word (neg : Bool) (m : Nat) (place : Int) : ∃ r, double.nearest neg m place = double.word neg r ∧ r ≤ infR ∧ (m = 0 → r = 0) := by
  by_cases h0 : m = 0
  · exact ⟨0, by rw [Format.nearest, if_pos h0], Nat.zero_le _, fun _ => rfl⟩
  · obtain ⟨a, b, hp, hz⟩ : ∃ a b : Nat, place + 1074 = (a : Int) - b ∧ (a = 0 ∨ b = 0) := ⟨(place + 1074).toNat, (-(place + 1074)).toNat, by omega, by omega⟩
    obtain ⟨r, e, hr⟩ := nearest_rnd neg m place a b hp hz
    exact ⟨r, e, hr.1, fun h => absurd h h0⟩
/-- A product of two of one sign, or with a nought. -/
theorem mul_non (s t : Bool) (x y : Nat) (hx : x < infR) (hy : y < infR) (h : s = t ∨ x = 0 ∨ y = 0) : ∃ w, double.mul (double.word s x) (double.word t y) = some w ∧ Non w := by
  obtain ⟨m, p, e1, v1, _, z1, _⟩ := read_fin s x hx
  obtain ⟨n, q, e2, v2, _, z2, _⟩ := read_fin t y hy
  obtain ⟨r, e, hr, h0⟩ := near_word (s ^^ t) (m * n) ((p : Int) - 1074 + ((q : Int) - 1074))
  refine ⟨_, by unfold Format.mul; rw [e1, e2]; rfl, s ^^ t, r, e, hr, ?_⟩
  rcases h with rfl | h | h
  · left; cases s <;> rfl
  · right; exact h0 (by rw [z1.2 h, Nat.zero_mul])
  · right; exact h0 (by rw [z2.2 h, Nat.mul_zero])
theorem write_inf (neg : Bool) : double.write (.infinity neg) = double.word neg infR := by cases neg <;> decide
theorem add_non (x y : Nat) (hx : Non x) (hy : Non y) : ∃ w, double.add x y = some w ∧ Non w := by
  obtain ⟨s, a, rfl, ha, ca⟩ := hx
  obtain ⟨t, b, rfl, hb, cb⟩ := hy
  rcases infR_le ha with ha' | rfl
  · rcases infR_le hb with hb' | rfl
    · obtain ⟨neg, r, e, hn⟩ := add_near s t a b ha' hb'
      refine ⟨_, e, neg, r, rfl, hn.1.1, ?_⟩
      have hs : 0 ≤ val s a := by
        rcases ca with rfl | rfl
        · simp [val]
        · have : dv 0 = 0 := by decide
          unfold val; rw [this]; cases s <;> simp
      have ht : 0 ≤ val t b := by
        rcases cb with rfl | rfl
        · simp [val]
        · have : dv 0 = 0 := by decide
          unfold val; rw [this]; cases t <;> simp
      rcases Int.lt_trichotomy 0 (val s a + val t b) with q | q | q
      · exact .inl (hn.2.1 q)
      · right
        have := hn.1.2.1 0 (by rw [← q]; simp)
        omega
      · omega
    · have ht : t = false := by
        rcases cb with h | h
        · exact h
        · unfold infR at h; omega
      subst ht
      obtain ⟨m, p, e1, _⟩ := read_fin s a ha'
      refine ⟨_, by unfold Format.add; rw [e1, read_inf]; rfl, false, infR, write_inf false, Nat.le_refl _, .inl rfl⟩
  · have hs : s = false := by
      rcases ca with h | h
      · exact h
      · unfold infR at h; omega
    subst hs
    rcases infR_le hb with hb' | rfl
    · obtain ⟨m, p, e1, _⟩ := read_fin t b hb'
      refine ⟨_, by unfold Format.add; rw [e1, read_inf]; rfl, false, infR, write_inf false, Nat.le_refl _, .inl rfl⟩
    · have ht : t = false := by
        rcases cb with h | h
        · exact h
        · unfold infR at h; omega
      subst ht
      refine ⟨_, by unfold Format.add; rw [read_inf]; rfl, false, infR, write_inf false, Nat.le_refl _, .inl rfl⟩
theorem div_non (x k : Nat) (hx : Non x) (hk : k < infR) (hk0 : 0 < k) : ∃ w, double.div x (double.word false k) = some w ∧ Non w := by
  obtain ⟨s, a, rfl, ha, ca⟩ := hx
  obtain ⟨n, q, e2, v2, _, z2, _⟩ := read_fin false k hk
  have hn0 : n ≠ 0 := fun h => by have := z2.1 h; omega
  rcases infR_le ha with ha' | rfl
  · obtain ⟨m, p, e1, v1, _, z1, _⟩ := read_fin s a ha'
    obtain ⟨more, hmore⟩ : ∃ more, more = double.fractionBits + 2 + n.log2 - m.log2 := ⟨_, rfl⟩
    obtain ⟨r, e, hr, h0⟩ := near_word (s ^^ false) (2 * (m <<< more / n) + (m <<< more % n != 0).toNat) ((p : Int) - 1074 - ((q : Int) - 1074) - more - 1)
    refine ⟨_, by unfold Format.div; rw [e1, e2]; simp only [Datum.quotient, if_neg hn0, ← hmore]; rfl, s ^^ false, r, e, hr, ?_⟩
    rcases ca with rfl | rfl
    · exact .inl rfl
    · right
      refine h0 ?_
      rw [z1.2 rfl]
      simp
  · have hs : s = false := by
      rcases ca with h | h
      · exact h
      · unfold infR at h; omega
    subst hs
    exact ⟨_, by unfold Format.div; rw [e2, read_inf]; rfl, false, infR, write_inf false, Nat.le_refl _, .inl rfl⟩
theorem sqrt_non (x : Nat) (hx : Non x) : ∃ w, double.sqrt x = some w ∧ Non w := by
  obtain ⟨s, a, rfl, ha, ca⟩ := hx
  rcases infR_le ha with ha' | rfl
  · obtain ⟨m, p, e1, v1, _, z1, _⟩ := read_fin s a ha'
    by_cases hm : m = 0
    · obtain ⟨r, e, hr, h0⟩ := near_word s m ((p : Int) - 1074)
      exact ⟨_, by unfold Format.sqrt; rw [e1]; simp only [Datum.root, if_pos hm]; rfl, s, r, e, hr, .inr (h0 hm)⟩
    · have hs : s = false := by
        rcases ca with h | h
        · exact h
        · exact absurd (z1.2 h) hm
      subst hs
      unfold Format.sqrt
      rw [e1]
      simp only [Datum.root, if_neg hm, Option.map_some, Bool.false_eq_true, if_false]
      obtain ⟨r, e, hr, -⟩ := near_word false _ _
      exact ⟨_, rfl, false, r, e, hr, .inl rfl⟩
  · have hs : s = false := by
      rcases ca with h | h
      · exact h
      · unfold infR at h; omega
    subst hs
    exact ⟨_, by unfold Format.sqrt; rw [read_inf]; rfl, false, infR, write_inf false, Nat.le_refl _, .inl rfl⟩
/-- Each is equal to itself. -/
theorem order_self (neg : Bool) (r : Nat) (h : r ≤ infR) : double.order (double.word neg r) (double.word neg r) = some .eq := by
  rcases infR_le h with h | rfl
  · obtain ⟨m, p, e1, _⟩ := read_fin neg r h
    unfold Format.order
    rw [e1]
    simp [Datum.order]
  · unfold Format.order
    rw [read_inf]
    cases neg <;> rfl
end Go.Proofs.Ytbemmhngadpjcaa
