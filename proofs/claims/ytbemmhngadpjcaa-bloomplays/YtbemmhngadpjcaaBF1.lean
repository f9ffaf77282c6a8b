/- Floats of 64 bits: rounding to the nearest, told exactly; so it keeps the order. -/
import Derived.Test.YtbemmhngadpjcaaFL6
namespace Go.Proofs.Ytbemmhngadpjcaa
set_option linter.unusedVariables false
set_option linter.unusedSimpArgs false
open Ieee

theorem dv_step (s B : Nat) (hB : B < 9007199254740992) (h : s = 0 ∨ 4503599627370496 ≤ B) : dv (s * 4503599627370496 + B + 1) = (B + 1) * 2 ^ s := by
  by_cases hb : B + 1 < 9007199254740992
  · rw [Nat.add_assoc]
    exact dv_of s (B + 1) hb (by omega)
  · have e : B + 1 = 9007199254740992 := by omega
    have e2 : s * 4503599627370496 + B + 1 = (s + 1) * 4503599627370496 + 4503599627370496 := by omega
    rw [e2, dv_of (s + 1) 4503599627370496 (by omega) (.inr (by omega)), Nat.pow_succ, e, Nat.mul_comm (2 ^ s) 2, ← Nat.mul_assoc]
theorem dv_succ (r : Nat) : dv r < dv (r + 1) := by
  obtain ⟨s, B, e, v, b, c⟩ := dv_rep r
  have h := dv_step s B b c
  rw [← e] at h
  rw [v, h, Nat.add_mul, Nat.one_mul]
  have := pow_pos s
  omega
theorem dv_lt (r t : Nat) (h : r < t) : dv r < dv t := Nat.lt_of_lt_of_le (dv_succ r) (dv_mono _ _ h)
theorem dv_inj (r t : Nat) (h : dv r = dv t) : r = t := by
  rcases Nat.lt_trichotomy r t with q | q | q
  · have := dv_lt r t q; omega
  · exact q
  · have := dv_lt t r q; omega
/-- V / s, in units of the least number, is rounded to the nearest rung r; between two, to the even one. -/
def Exa (V s r : Nat) : Prop := (2 * V ≤ (dv r + dv (r + 1)) * s ∧ (2 * V = (dv r + dv (r + 1)) * s → r % 2 = 0)) ∧ (0 < r → (dv (r - 1) + dv r) * s ≤ 2 * V ∧ ((dv (r - 1) + dv r) * s = 2 * V → r % 2 = 0))
theorem Exa.mono {V V' s r r' : Nat} (hs : 0 < s) (h : Exa V s r) (h' : Exa V' s r') (hV : V ≤ V') : r ≤ r' := by
  rcases Nat.lt_or_ge r' r with q | q
  · exfalso
    obtain ⟨-, h2⟩ := h
    obtain ⟨⟨h3, h4⟩, -⟩ := h'
    obtain ⟨h5, h6⟩ := h2 (by omega)
    have a1 := dv_mono r' (r - 1) (by omega)
    have a2 := dv_mono (r' + 1) r (by omega)
    have a3 := Nat.mul_le_mul_right s (Nat.add_le_add a1 a2)
    have e1 : (dv (r - 1) + dv r) * s = (dv r' + dv (r' + 1)) * s := by omega
    have e2 := Nat.eq_of_mul_eq_mul_right hs e1
    have e3 : r' + 1 = r := dv_inj _ _ (by omega)
    have p1 := h6 (by omega)
    have p2 := h4 (by omega)
    omega
  · exact q
theorem Exa.scale {V s r : Nat} (c : Nat) (hc : 0 < c) (h : Exa V s r) : Exa (V * c) (s * c) r := by
  have m1 : ∀ X, X * (s * c) = X * s * c := fun X => by rw [Nat.mul_assoc]
  have m2 : 2 * (V * c) = 2 * V * c := by rw [Nat.mul_assoc]
  unfold Exa at h ⊢
  rw [m1, m1, m2]
  obtain ⟨⟨h1, h2⟩, h3⟩ := h
  refine ⟨⟨Nat.mul_le_mul_right c h1, fun e => h2 (Nat.eq_of_mul_eq_mul_right hc e)⟩, fun h0 => ?_⟩
  obtain ⟨h4, h5⟩ := h3 h0
  exact ⟨Nat.mul_le_mul_right c h4, fun e => h5 (Nat.eq_of_mul_eq_mul_right hc e)⟩
theorem cut_near (neg : Bool) (n drop K : Nat) (hK : K = Toward.even.cut neg n drop) : (2 * n ≤ (2 * K + 1) * 2 ^ drop ∧ (2 * n = (2 * K + 1) * 2 ^ drop → K % 2 = 0)) ∧ (0 < K → (2 * K - 1) * 2 ^ drop ≤ 2 * n ∧ ((2 * K - 1) * 2 ^ drop = 2 * n → K % 2 = 0)) := by
  unfold Toward.cut at hK
  simp only [Nat.one_shiftLeft] at hK
  obtain ⟨g, hg⟩ : ∃ g, g = min drop (n.log2 + 2) := ⟨_, rfl⟩
  rw [← hg] at hK
  have pg := pow_pos g
  by_cases hd : drop ≤ n.log2 + 2
  · have hgd : g = drop := by omega
    rw [hgd] at hK pg
    obtain ⟨P, hP⟩ : ∃ P, P = 2 ^ drop := ⟨_, rfl⟩
    rw [← hP] at hK pg ⊢
    have hdm := Nat.div_add_mod n P
    have hml := Nat.mod_lt n pg
    obtain ⟨q, hq⟩ : ∃ q, q = n / P := ⟨_, rfl⟩
    obtain ⟨m, hm⟩ : ∃ m, m = n % P := ⟨_, rfl⟩
    rw [← hq, ← hm] at hK hdm
    rw [← hm] at hml
    rw [Nat.mul_comm] at hdm
    obtain ⟨T, hT⟩ : ∃ T, T = q * P := ⟨_, rfl⟩
    rw [← hT] at hdm
    have up : (2 * (q + 1) + 1) * P = 2 * T + 3 * P := by rw [show 2 * (q + 1) + 1 = 2 * q + 3 by omega, Nat.add_mul, Nat.mul_assoc, ← hT]
    have lo : (2 * (q + 1) - 1) * P = 2 * T + P := by rw [show 2 * (q + 1) - 1 = 2 * q + 1 by omega, Nat.add_mul, Nat.mul_assoc, ← hT, Nat.one_mul]
    have up0 : (2 * q + 1) * P = 2 * T + P := by rw [Nat.add_mul, Nat.mul_assoc, ← hT, Nat.one_mul]
    have lo0 : 0 < q → (2 * q - 1) * P + P = 2 * T := fun h => by
      have : (2 * q - 1) * P + 1 * P = 2 * q * P := by rw [← Nat.add_mul]; congr 1; omega
      rw [Nat.one_mul] at this
      rw [this, Nat.mul_assoc, ← hT]
    rcases Nat.lt_trichotomy P (2 * m) with c | c | c
    · have e : K = q + 1 := by
        rw [hK, decide_eq_true c]; simp
      subst e
      rw [up, lo]
      omega
    · rcases Nat.mod_two_eq_zero_or_one q with hq2 | hq2
      · have e : K = q := by
          rw [hK, hq2]
          have : ¬ P < 2 * m := by omega
          simp [this]
        subst e
        rw [up0]
        refine ⟨⟨by omega, fun _ => hq2⟩, fun h => ?_⟩
        have := lo0 h
        exact ⟨by omega, fun _ => hq2⟩
      · have e : K = q + 1 := by
          rw [hK, hq2]
          have : ¬ P < 2 * m := by omega
          simp [this, c]
        subst e
        rw [up, lo]
        exact ⟨⟨by omega, fun h => by omega⟩, fun _ => ⟨by omega, fun _ => by omega⟩⟩
    · have e : K = q := by
        rw [hK]
        have h1 : ¬ P < 2 * m := by omega
        have h2 : ¬ P = 2 * m := by omega
        simp [h1, h2]
      subst e
      rw [up0]
      refine ⟨⟨by omega, fun h => by omega⟩, fun h => ?_⟩
      have := lo0 h
      exact ⟨by omega, fun h => by omega⟩
  · have hl := Nat.lt_log2_self (n := n)
    have hgv : g = n.log2 + 2 := by omega
    have hs2 : 2 ^ g = 4 * 2 ^ n.log2 := by rw [hgv, Nat.pow_add, Nat.mul_comm]
    have hlp : 2 ^ (n.log2 + 1) = 2 * 2 ^ n.log2 := by rw [Nat.pow_succ, Nat.mul_comm]
    have hlt : n < 2 ^ g := by omega
    have hK0 : K = 0 := by
      have e0 : n / 2 ^ g = 0 := Nat.div_eq_of_lt hlt
      have e1 : n % 2 ^ g = n := Nat.mod_eq_of_lt hlt
      rw [hK, e0, e1]
      have h1 : ¬ 2 ^ g < 2 * n := by omega
      have h2 : ¬ 2 ^ g = 2 * n := by omega
      simp [h1, h2]
    subst hK0
    have hle : 2 ^ g ≤ 2 ^ drop := Nat.pow_le_pow_right (by omega) (by omega)
    exact ⟨⟨by omega, fun _ => rfl⟩, fun h => by omega⟩
theorem min_of {r x M : Nat} (h : r = min x 9218868437227405312) (h1 : r ≤ M) (h2 : M < infR) : r = x := by
  unfold infR at h2
  omega
/-- What is kept of a number, as a rung. -/
theorem exa_of (V P K sh b r0 : Nat) (hP : P = 2 ^ (b + sh)) (er2 : r0 = sh * 4503599627370496 + K) (VU : V < 9007199254740992 * P) (VL : 0 < sh → 4503599627370496 * P ≤ V)
    (U1 : 2 * V ≤ (2 * K + 1) * P) (U2 : 2 * V = (2 * K + 1) * P → K % 2 = 0) (L1 : 0 < K → (2 * K - 1) * P ≤ 2 * V) (L2 : 0 < K → (2 * K - 1) * P = 2 * V → K % 2 = 0) : Exa V (2 ^ b) r0 := by
  have hPs : P = 2 ^ sh * 2 ^ b := by rw [hP, Nat.add_comm, Nat.pow_add]
  obtain ⟨S, hS⟩ : ∃ S, S = 2 ^ sh := ⟨_, rfl⟩
  obtain ⟨B, hB⟩ : ∃ B, B = 2 ^ b := ⟨_, rfl⟩
  rw [← hS, ← hB] at hPs
  have pB : 0 < B := hB ▸ pow_pos b
  have pS : 0 < S := hS ▸ pow_pos sh
  rw [← hB]
  have KU : K ≤ 9007199254740992 := by
    rcases Nat.lt_or_ge 9007199254740992 K with q | q
    · exfalso
      have h1 := L1 (by omega)
      have h2 := Nat.mul_le_mul_right P (show 2 * 9007199254740992 + 1 ≤ 2 * K - 1 by omega)
      rw [Nat.add_mul] at h2
      omega
    · exact q
  have KL : 0 < sh → 4503599627370496 ≤ K := fun h => by
    have h3 := VL h
    rcases Nat.lt_or_ge K 4503599627370496 with q | q
    · exfalso
      have h2 := Nat.mul_le_mul_right P (show 2 * K + 1 ≤ 2 * 4503599627370496 - 1 by omega)
      omega
    · exact q
  have hpar : r0 % 2 = K % 2 := by omega
  by_cases hK2 : K < 9007199254740992
  · have d0 : dv r0 = K * S := by
      rw [er2, hS]
      exact dv_of sh K hK2 (by omega)
    have d1 : dv (r0 + 1) = (K + 1) * S := by
      rw [er2, hS]
      exact dv_step sh K hK2 (by omega)
    have u : (dv r0 + dv (r0 + 1)) * B = (2 * K + 1) * P := by
      rw [d0, d1, hPs, ← Nat.add_mul, ← Nat.mul_assoc]
      congr 2
      omega
    refine ⟨⟨by rw [u]; exact U1, fun h => by rw [hpar]; exact U2 (by rw [h, u])⟩, fun hr => ?_⟩
    by_cases hQ : 0 < sh ∧ K = 4503599627370496
    · have hlt := dv_lt (r0 - 1) r0 (by omega)
      have h3 := VL hQ.1
      have h4 : dv r0 * B = 4503599627370496 * P := by rw [d0, hPs, hQ.2, Nat.mul_assoc]
      have h5 := Nat.mul_lt_mul_of_pos_right hlt pB
      have h6 : (dv (r0 - 1) + dv r0) * B < 2 * V := by
        rw [Nat.add_mul]; omega
      exact ⟨by omega, fun h => by omega⟩
    · have hK0 : 0 < K := by
        rcases Nat.eq_zero_or_pos sh with z | z
        · omega
        · have := KL z; omega
      have dm : dv (r0 - 1) = (K - 1) * S := by
        rw [er2, hS, show sh * 4503599627370496 + K - 1 = sh * 4503599627370496 + (K - 1) by omega]
        refine dv_of sh (K - 1) (by omega) ?_
        rcases Nat.eq_zero_or_pos sh with z | z
        · exact .inl z
        · have := KL z; omega
      have lo : (dv (r0 - 1) + dv r0) * B = (2 * K - 1) * P := by
        rw [d0, dm, hPs, ← Nat.add_mul, ← Nat.mul_assoc]
        congr 2
        omega
      rw [lo]
      exact ⟨L1 hK0, fun h => by rw [hpar]; exact L2 hK0 h⟩
  · have hKe : K = 9007199254740992 := by omega
    have e4 : r0 - 1 = sh * 4503599627370496 + 9007199254740991 := by omega
    have dm : dv (r0 - 1) = 9007199254740991 * S := by
      rw [e4, hS]
      exact dv_of sh 9007199254740991 (by omega) (.inr (by omega))
    have d0 : dv r0 = 9007199254740992 * S := by
      have := dv_step sh 9007199254740991 (by omega) (.inr (by omega))
      rw [show sh * 4503599627370496 + 9007199254740991 + 1 = r0 by omega, ← hS] at this
      exact this
    have hlt := dv_succ r0
    have h4 : dv r0 * B = 9007199254740992 * P := by rw [d0, hPs, Nat.mul_assoc]
    have h5 := Nat.mul_lt_mul_of_pos_right hlt pB
    have h6 : 2 * V < (dv r0 + dv (r0 + 1)) * B := by rw [Nat.add_mul]; omega
    have lo : (dv (r0 - 1) + dv r0) * B = (2 * K - 1) * P := by
      rw [d0, dm, hPs, ← Nat.add_mul, ← Nat.mul_assoc, hKe]
    refine ⟨⟨by omega, fun h => by omega⟩, fun _ => ?_⟩
    rw [lo]
    exact ⟨L1 (by omega), fun h => by rw [hpar]; exact L2 (by omega) h⟩
set_option maxHeartbeats 2000000 in
/-- What nearest gives is exact, where nothing overflows. -/
theorem nearest_exa (neg : Bool) (mag : Nat) (place : Int) (a b M : Nat) (hp : place + 1074 = (a : Int) - b) (hz : a = 0 ∨ b = 0) (hM : M < infR) (hV : mag * 2 ^ a ≤ dv M * 2 ^ b) : ∃ r, double.nearest neg mag place = double.word neg r ∧ r ≤ M ∧ Rnd mag a b r ∧ Exa (mag * 2 ^ a) (2 ^ b) r := by
  by_cases h0 : mag = 0
  · obtain ⟨r, e, hr⟩ := nearest_rnd neg mag place a b hp hz
    have hr0 : r = 0 := by
      have := hr.2.1 0 (by rw [h0]; simp)
      omega
    subst hr0
    refine ⟨0, e, Nat.zero_le _, hr, ⟨?_, fun _ => rfl⟩, fun h => by omega⟩
    rw [h0]; simp
  · obtain ⟨r0, e0, hr0⟩ := nearest_rnd neg mag place a b hp hz
    have hl1 := Nat.lt_log2_self (n := mag)
    have hl2 := Nat.log2_self_le h0
    obtain ⟨l, hl⟩ : ∃ l, l = mag.log2 := ⟨_, rfl⟩
    rw [← hl] at hl1 hl2
    obtain ⟨sh, hsh⟩ : ∃ sh, sh = (l + a) - (b + 52) := ⟨_, rfl⟩
    obtain ⟨last, hlast⟩ : ∃ last : Int, last = max (place + l - 52) (-1074) := ⟨_, rfl⟩
    have hls : last + 1074 = (sh : Int) := by omega
    obtain ⟨up, hup⟩ : ∃ up, up = (place - last).toNat := ⟨_, rfl⟩
    obtain ⟨dr, hdr⟩ : ∃ dr, dr = (last - place).toNat := ⟨_, rfl⟩
    have hud : up + (b + sh) = a + dr := by omega
    have hq1 : l + a ≤ sh + b + 52 := by omega
    have hq2 : 0 < sh → l + a = sh + b + 52 := by omega
    obtain ⟨K, hK⟩ : ∃ K, K = Toward.even.cut neg (mag * 2 ^ up) dr := ⟨_, rfl⟩
    have hn : double.nearest neg mag place = double.word neg (min (sh * 4503599627370496 + K) 9218868437227405312) := by
      rw [Format.nearest, if_neg h0]
      simp only [dFrac, dLeast, dBin, dInf, ← hl, ← hlast, ← hup, ← hdr, Nat.shiftLeft_eq, ← hK]
      rw [show (last - -1074).toNat = sh by omega]
    have hr0M := hr0.2.1 M hV
    have hword : ∀ x y : Nat, double.word neg x = double.word neg y → x = y := fun x y h => by
      unfold Format.word at h
      cases neg <;> simp at h <;> omega
    have er : r0 = min (sh * 4503599627370496 + K) 9218868437227405312 := hword _ _ (e0.symm.trans hn)
    have er2 : r0 = sh * 4503599627370496 + K := min_of er hr0M hM
    refine ⟨r0, e0, hr0M, hr0, ?_⟩
    clear hn e0 hr0 hword er hlast hls hup hdr hsh hp hz hV hr0M hM
    have M1 : mag * 2 ^ a < 2 ^ (l + 1 + a) := by
      rw [Nat.pow_add]
      exact Nat.mul_lt_mul_of_pos_right hl1 (pow_pos a)
    have M2 : 2 ^ (l + a) ≤ mag * 2 ^ a := by
      rw [Nat.pow_add]
      exact Nat.mul_le_mul_right _ hl2
    obtain ⟨⟨c1, c2⟩, c3⟩ := cut_near neg (mag * 2 ^ up) dr K hK
    obtain ⟨V, hVd⟩ : ∃ V, V = mag * 2 ^ a := ⟨_, rfl⟩
    obtain ⟨D, hD⟩ : ∃ D, D = 2 ^ dr := ⟨_, rfl⟩
    obtain ⟨P, hP⟩ : ∃ P, P = 2 ^ (b + sh) := ⟨_, rfl⟩
    have pD : 0 < D := hD ▸ pow_pos dr
    have pP : 0 < P := hP ▸ pow_pos _
    have e1 : mag * 2 ^ up * P = V * D := by rw [hP, hVd, hD, Nat.mul_assoc, ← Nat.pow_add, hud, Nat.pow_add, Nat.mul_assoc]
    rw [← hD] at c1 c2 c3
    rw [← hVd] at M1 M2 ⊢
    have conv : ∀ X, X * D * P = X * P * D := fun X => by rw [Nat.mul_assoc, Nat.mul_comm D P, ← Nat.mul_assoc]
    have e2 : 2 * (mag * 2 ^ up) * P = 2 * V * D := by rw [Nat.mul_assoc 2, e1, ← Nat.mul_assoc]
    have U1 : 2 * V ≤ (2 * K + 1) * P := by
      have := Nat.mul_le_mul_right P c1
      rw [e2, conv] at this
      exact Nat.le_of_mul_le_mul_right this pD
    have U2 : 2 * V = (2 * K + 1) * P → K % 2 = 0 := fun h => by
      refine c2 (Nat.eq_of_mul_eq_mul_right pP ?_)
      rw [e2, conv, h]
    have L1 : 0 < K → (2 * K - 1) * P ≤ 2 * V := fun h => by
      have := Nat.mul_le_mul_right P (c3 h).1
      rw [e2, conv] at this
      exact Nat.le_of_mul_le_mul_right this pD
    have L2 : 0 < K → (2 * K - 1) * P = 2 * V → K % 2 = 0 := fun h0 h => by
      refine (c3 h0).2 (Nat.eq_of_mul_eq_mul_right pP ?_)
      rw [e2, conv, h]
    have VU : V < 9007199254740992 * P := by
      have : 2 ^ (l + 1 + a) ≤ 2 ^ (53 + (b + sh)) := Nat.pow_le_pow_right (by omega) (by omega)
      rw [Nat.pow_add 2 53, ← hP, show (2 : Nat) ^ 53 = 9007199254740992 from rfl] at this
      omega
    have VL : 0 < sh → 4503599627370496 * P ≤ V := fun h => by
      have : 2 ^ (52 + (b + sh)) ≤ 2 ^ (l + a) := Nat.pow_le_pow_right (by omega) (by omega)
      rw [Nat.pow_add 2 52, ← hP, show (2 : Nat) ^ 52 = 4503599627370496 from rfl] at this
      omega
    exact exa_of V P K sh b r0 hP er2 VU VL U1 U2 L1 L2
end Go.Proofs.Ytbemmhngadpjcaa
