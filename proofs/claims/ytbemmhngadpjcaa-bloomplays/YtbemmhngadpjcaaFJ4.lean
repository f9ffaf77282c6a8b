/- How many bits of a word are set: the way by halves, bytes and sums. -/
import Derived.Test.YtbemmhngadpjcaaFJ3
namespace Go.Proofs.Ytbemmhngadpjcaa
set_option linter.unusedVariables false
set_option linter.unusedSimpArgs false
open Go.RowKit

/-- How many of the first n bits are set. -/
def popB : Nat → Nat → Nat
  | 0, _ => 0
  | n + 1, x => x % 2 + popB n (x / 2)
theorem popB_add (m : Nat) : ∀ n x, popB (m + n) x = popB m x + popB n (x / 2 ^ m) := by
  induction m with
  | zero => intro n x; rw [Nat.zero_add, popB, Nat.pow_zero, Nat.div_one, Nat.zero_add]
  | succ m ih =>
    intro n x
    rw [Nat.add_right_comm, popB, ih, popB, Nat.div_div_eq_div_mul, Nat.pow_succ, Nat.mul_comm 2, Nat.add_assoc]
theorem popB_le : ∀ n x, popB n x ≤ n
  | 0, _ => Nat.le_refl _
  | n + 1, x => by rw [popB]; have := popB_le n (x / 2); omega
theorem popB_mod : ∀ n x, popB n x = popB n (x % 2 ^ n)
  | 0, _ => rfl
  | n + 1, x => by
    rw [popB, popB, popB_mod n (x / 2), popB_mod n (x % 2 ^ (n + 1) / 2)]
    have e1 : x % 2 ^ (n + 1) % 2 = x % 2 := by
      rw [Nat.pow_succ, Nat.mul_comm]
      exact Nat.mod_mul_right_mod x 2 (2 ^ n)
    have e2 : x % 2 ^ (n + 1) / 2 = x / 2 % 2 ^ n := by
      rw [Nat.pow_succ, Nat.mul_comm]
      exact Nat.mod_mul_right_div_self x 2 (2 ^ n)
    rw [e1, e2, Nat.mod_mod]
/-- A byte over and over. -/
def rep (m : Nat) : Nat → Nat
  | 0 => 0
  | n + 1 => m + 256 * rep m n
theorem and_split (b y m M : Nat) (hb : b < 256) (hm : m < 256) : (b + 256 * y) &&& (m + 256 * M) = (b &&& m) + 256 * (y &&& M) := by
  have h1 := @Nat.and_mod_two_pow (b + 256 * y) (m + 256 * M) 8
  have h2 := @Nat.and_div_two_pow (b + 256 * y) (m + 256 * M) 8
  have e1 : (b + 256 * y) % 2 ^ 8 = b := by show (b + 256 * y) % 256 = b; omega
  have e2 : (m + 256 * M) % 2 ^ 8 = m := by show (m + 256 * M) % 256 = m; omega
  have e3 : (b + 256 * y) / 2 ^ 8 = y := by show (b + 256 * y) / 256 = y; omega
  have e4 : (m + 256 * M) / 2 ^ 8 = M := by show (m + 256 * M) / 256 = M; omega
  rw [e1, e2] at h1
  rw [e3, e4] at h2
  have h3 := Nat.div_add_mod ((b + 256 * y) &&& (m + 256 * M)) (2 ^ 8)
  rw [h1, h2] at h3
  rw [← h3]
  show 256 * _ + _ = _
  omega
def f1 (b : Nat) : Nat := ((b / 2) &&& 85) + (b &&& 85)
def f2 (b : Nat) : Nat := ((b / 4) &&& 51) + (b &&& 51)
def f3 (b : Nat) : Nat := (b / 16 + b) &&& 15
/-- Byte by byte. -/
def byB (f : Nat → Nat) : Nat → Nat → Nat
  | 0, _ => 0
  | n + 1, x => f (x % 256) + 256 * byB f n (x / 256)
theorem d1 : ∀ b < 256, ∀ c < 2, ((b / 2 + 128 * c) &&& 85) = ((b / 2) &&& 85) := by decide +kernel
theorem d2 : ∀ b < 256, ∀ c < 4, ((b / 4 + 64 * c) &&& 51) = ((b / 4) &&& 51) := by decide +kernel
theorem d3 : ∀ b < 256, ∀ c < 5, ((b / 16 + b + 16 * c) &&& 15) = ((b / 16 + b) &&& 15) := by decide +kernel
theorem f1_lt : ∀ b < 256, f1 b < 256 := by decide +kernel
theorem f2_lt : ∀ b < 256, f2 (f1 b) < 256 ∧ f2 (f1 b) % 16 ≤ 4 ∧ f2 (f1 b) / 16 ≤ 4 := by decide +kernel
theorem f3_pop : ∀ b < 256, f3 (f2 (f1 b)) = popB 8 b := by decide +kernel
theorem step1 : ∀ n x, (((x / 2) &&& rep 85 n) + (x &&& rep 85 n)) = byB f1 n x
  | 0, x => by simp [rep, byB]
  | n + 1, x => by
    obtain ⟨b, hb⟩ : ∃ b, b = x % 256 := ⟨_, rfl⟩
    obtain ⟨y, hy⟩ : ∃ y, y = x / 256 := ⟨_, rfl⟩
    have hx : x = b + 256 * y := by omega
    have hx2 : x / 2 = (b / 2 + 128 * (y % 2)) + 256 * (y / 2) := by omega
    rw [byB, ← hb, ← hy, ← step1 n y, hx2, rep, and_split _ _ _ _ (by omega) (by omega), d1 b (by omega) _ (by omega)]
    conv => lhs; rw [hx]
    rw [and_split b y _ _ (by omega) (by omega)]
    unfold f1
    omega
theorem step2 : ∀ n x, (((x / 4) &&& rep 51 n) + (x &&& rep 51 n)) = byB f2 n x
  | 0, x => by simp [rep, byB]
  | n + 1, x => by
    obtain ⟨b, hb⟩ : ∃ b, b = x % 256 := ⟨_, rfl⟩
    obtain ⟨y, hy⟩ : ∃ y, y = x / 256 := ⟨_, rfl⟩
    have hx : x = b + 256 * y := by omega
    have hx2 : x / 4 = (b / 4 + 64 * (y % 4)) + 256 * (y / 4) := by omega
    rw [byB, ← hb, ← hy, ← step2 n y, hx2, rep, and_split _ _ _ _ (by omega) (by omega), d2 b (by omega) _ (by omega)]
    conv => lhs; rw [hx]
    rw [and_split b y _ _ (by omega) (by omega)]
    unfold f2
    omega
theorem by12 : ∀ n x, byB f2 n (byB f1 n x) = byB (fun b => f2 (f1 b)) n x
  | 0, x => rfl
  | n + 1, x => by
    have h := f1_lt (x % 256) (by omega)
    rw [byB, byB, byB, show (f1 (x % 256) + 256 * byB f1 n (x / 256)) % 256 = f1 (x % 256) by omega, show (f1 (x % 256) + 256 * byB f1 n (x / 256)) / 256 = byB f1 n (x / 256) by omega, by12 n]
theorem step3 : ∀ n x, (byB (fun b => f2 (f1 b)) n x / 16 + byB (fun b => f2 (f1 b)) n x) &&& rep 15 n = byB (popB 8) n x
  | 0, x => by simp [rep, byB]
  | n + 1, x => by
    have h := f2_lt (x % 256) (by omega)
    have hp := f3_pop (x % 256) (by omega)
    obtain ⟨b, hb⟩ : ∃ b, b = f2 (f1 (x % 256)) := ⟨_, rfl⟩
    obtain ⟨y, hy⟩ : ∃ y, y = byB (fun b => f2 (f1 b)) n (x / 256) := ⟨_, rfl⟩
    have hyl : y % 16 ≤ 4 := by
      rw [hy]
      cases n with
      | zero => simp [byB]
      | succ n =>
        have h' := f2_lt (x / 256 % 256) (by omega)
        rw [byB]
        omega
    rw [← hb] at h hp
    have e : byB (fun b => f2 (f1 b)) (n + 1) x = b + 256 * y := by rw [byB, hb, hy]
    have e2 : (b + 256 * y) / 16 + (b + 256 * y) = (b / 16 + b + 16 * (y % 16)) + 256 * (y / 16 + y) := by omega
    rw [e, e2, rep, and_split _ _ _ _ (by omega) (by omega), d3 b (by omega) _ (by omega), byB, ← step3 n (x / 256), ← hy, ← hp]
    rfl
theorem pop_bytes (x : Nat) : popB 64 x = popB 8 (x % 256) + popB 8 (x / 256 % 256) + popB 8 (x / 65536 % 256) + popB 8 (x / 16777216 % 256) + popB 8 (x / 4294967296 % 256) + popB 8 (x / 1099511627776 % 256) + popB 8 (x / 281474976710656 % 256) + popB 8 (x / 72057594037927936 % 256) := by
  have h : ∀ n y, popB (8 + n) y = popB 8 (y % 256) + popB n (y / 256) := fun n y => by rw [popB_add, popB_mod 8 y]
  rw [show (64 : Nat) = 8 + (8 + (8 + (8 + (8 + (8 + (8 + (8 + 0))))))) from rfl, h, h, h, h, h, h, h, h]
  have hz : ∀ y, popB 0 y = 0 := fun _ => rfl
  simp only [hz, Nat.add_zero, Nat.div_div_eq_div_mul, Nat.reduceMul, Nat.add_assoc]
theorem sums (p0 p1 p2 p3 p4 p5 p6 p7 v : Nat) (hv : v = p0 + 256 * (p1 + 256 * (p2 + 256 * (p3 + 256 * (p4 + 256 * (p5 + 256 * (p6 + 256 * (p7 + 256 * 0)))))))) (h0 : p0 ≤ 8) (h1 : p1 ≤ 8) (h2 : p2 ≤ 8) (h3 : p3 ≤ 8) (h4 : p4 ≤ 8) (h5 : p5 ≤ 8) (h6 : p6 ≤ 8) (h7 : p7 ≤ 8) :
    ∃ v4 v5 v6, v4 = v + v / 256 ∧ v5 = v4 + v4 / 65536 ∧ v6 = v5 + v5 / 4294967296 ∧ v6 < 18446744073709551616 ∧ v6 % 128 = p0 + p1 + p2 + p3 + p4 + p5 + p6 + p7 := by
  obtain ⟨v4, e4⟩ : ∃ v4, v4 = v + v / 256 := ⟨_, rfl⟩
  obtain ⟨v5, e5⟩ : ∃ v5, v5 = v4 + v4 / 65536 := ⟨_, rfl⟩
  obtain ⟨v6, e6⟩ : ∃ v6, v6 = v5 + v5 / 4294967296 := ⟨_, rfl⟩
  have a1 : v / 256 = p1 + 256 * (p2 + 256 * (p3 + 256 * (p4 + 256 * (p5 + 256 * (p6 + 256 * (p7)))))) := by omega
  have a4 : v4 = (p0 + p1) + 256 * ((p1 + p2) + 256 * ((p2 + p3) + 256 * ((p3 + p4) + 256 * ((p4 + p5) + 256 * ((p5 + p6) + 256 * ((p6 + p7) + 256 * (p7))))))) := by omega
  have a2 : v4 / 65536 = (p2 + p3) + 256 * ((p3 + p4) + 256 * ((p4 + p5) + 256 * ((p5 + p6) + 256 * ((p6 + p7) + 256 * (p7))))) := by clear a1 e4 hv; omega
  have a5 : v5 = ((p0 + p1) + (p2 + p3)) + 256 * (((p1 + p2) + (p3 + p4)) + 256 * (((p2 + p3) + (p4 + p5)) + 256 * (((p3 + p4) + (p5 + p6)) + 256 * (((p4 + p5) + (p6 + p7)) + 256 * (((p5 + p6) + p7) + 256 * ((p6 + p7) + 256 * (p7))))))) := by clear a1 e4 hv; omega
  have a3 : v5 / 4294967296 = ((p4 + p5) + (p6 + p7)) + 256 * (((p5 + p6) + p7) + 256 * ((p6 + p7) + 256 * (p7))) := by clear a1 e4 hv a4 a2 e5; omega
  have a6 : v6 = (((p0 + p1) + (p2 + p3)) + ((p4 + p5) + (p6 + p7))) + 256 * ((((p1 + p2) + (p3 + p4)) + ((p5 + p6) + p7)) + 256 * ((((p2 + p3) + (p4 + p5)) + (p6 + p7)) + 256 * ((((p3 + p4) + (p5 + p6)) + p7) + 256 * (((p4 + p5) + (p6 + p7)) + 256 * (((p5 + p6) + p7) + 256 * ((p6 + p7) + 256 * (p7))))))) := by clear a1 e4 hv a4 a2 e5; omega
  refine ⟨v4, v5, v6, e4, e5, e6, ?_, ?_⟩
  · clear a1 e4 hv a4 a2 e5 a5 a3 e6; omega
  · clear a1 e4 hv a4 a2 e5 a5 a3 e6; omega
end Go.Proofs.Ytbemmhngadpjcaa
