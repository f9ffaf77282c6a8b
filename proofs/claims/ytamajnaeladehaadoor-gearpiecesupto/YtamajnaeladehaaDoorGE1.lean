/- The number of a byte; whether a way of cutting may be: both ways. -/
import Derived.Test.YtamajnaeladehaaDoorGE0
namespace Go.Proofs.YtamajnaeladehaaDoor
set_option linter.unusedVariables false
set_option linter.unusedSimpArgs false
open Go.RowKit

def z1 (b : Int) : Int := IntKind.u64.wrap ((b + 1) * 11400714819323198485)
def z2 (z : Int) : Int := IntKind.u64.wrap (bits .xor .u64 z (z / 1073741824) * 13787848793156543929)
def z3 (z : Int) : Int := IntKind.u64.wrap (bits .xor .u64 z (z / 134217728) * 10723151780598845931)
def z4 (z : Int) : Int := bits .xor .u64 z (z / 2147483648)
/-- The number that stands for a byte. -/
def wordI (b : Int) : Int := z4 (z3 (z2 (z1 b)))
set_option maxRecDepth 20000 in
set_option maxHeartbeats 1000000 in
theorem word_any (b : Nat) (hb : b < 256) (w : World) : Calls Tryd.prog 44 #[.int .u8 (b : Int)] w fun e w' => e = .returned (.int .u64 (wordI b)) ∧ w' = w := by
  go_enter Tryd.func44, Tryd.ntmps44
  go_wp2
  go_ret
  exact ⟨rfl, rfl⟩
set_option maxRecDepth 20000 in
set_option maxHeartbeats 1000000 in
theorem rword_any (b : Nat) (hb : b < 256) (w : World) : Calls Tryd.prog 47 #[.int .u8 (b : Int)] w fun e w' => e = .returned (.int .u64 (wordI b)) ∧ w' = w := by
  go_enter Tryd.func47, Tryd.ntmps47
  go_wp2
  go_ret
  exact ⟨rfl, rfl⟩
def o1 (b : Int) : Int := IntKind.u64.wrap (bits .and .u64 (b / 2) 6148914691236517205 + bits .and .u64 b 6148914691236517205)
def o2 (b : Int) : Int := IntKind.u64.wrap (bits .and .u64 (b / 4) 3689348814741910323 + bits .and .u64 b 3689348814741910323)
def o3 (b : Int) : Int := bits .and .u64 (IntKind.u64.wrap (b / 16 + b)) 1085102592571150095
def o4 (b : Int) : Int := IntKind.u64.wrap (b + b / 256)
def o5 (b : Int) : Int := IntKind.u64.wrap (b + b / 65536)
def o6 (b : Int) : Int := IntKind.u64.wrap (b + b / 4294967296)
def o7 (b : Int) : Int := bits .and .i64 (wrap64 b) 127
/-- How many bits are one. -/
def onesI (b : Int) : Int := o7 (o6 (o5 (o4 (o3 (o2 (o1 b))))))
set_option maxRecDepth 20000 in
set_option maxHeartbeats 1000000 in
theorem ones64_any (b : Nat) (hb : b < 18446744073709551616) (w : World) : Calls Tryd.prog 46 #[.int .u64 (b : Int)] w fun e w' => e = .returned (.int .i64 (onesI b)) ∧ w' = w := by
  go_enter Tryd.func46, Tryd.ntmps46
  go_wp2
  go_ret
  exact ⟨rfl, rfl⟩
set_option maxRecDepth 20000 in
set_option maxHeartbeats 1000000 in
theorem ones_any (b : Nat) (hb : b < 18446744073709551616) (w : World) : Calls Tryd.prog 40 #[.int .u64 (b : Int)] w fun e w' => e = .returned (.int .i64 (onesI b)) ∧ w' = w := by
  have H := hide (ones64_any b hb w)
  go_enter Tryd.func40, Tryd.ntmps40
  go_wp2_with fail
  refine H.out.mono ?_
  rintro e w' ⟨rfl, rfl⟩
  go_wp2
  go_ret
  exact ⟨rfl, rfl⟩
/-- Which power of two a mean is; 0: none of these. -/
def pwN (me : Nat) : Nat := if me = 4 then 2 else if me = 8 then 3 else if me = 16 then 4 else if me = 32 then 5 else if me = 64 then 6 else if me = 128 then 7 else if me = 256 then 8 else if me = 512 then 9 else if me = 1024 then 10 else if me = 2048 then 11 else if me = 4096 then 12 else 0
theorem ones_pw0 : ∀ a : Nat, a < 65 → ∀ b : Nat, b < 64 → (onesI ((64 * a + b : Nat) : Int) = 1 ↔ (pwN (64 * a + b) ≠ 0 ∨ 64 * a + b = 1 ∨ 64 * a + b = 2)) := of_decide_eq_true (by kernel_rfl)
theorem ones_pw (n : Nat) (h : n < 4097) : onesI (n : Int) = 1 ↔ (pwN n ≠ 0 ∨ n = 1 ∨ n = 2) := by
  have := ones_pw0 (n / 64) (by omega) (n % 64) (by omega)
  rw [Nat.div_add_mod] at this
  exact this
/-- Of a mean as it came. -/
def pw (me : Int) : Nat := pwN me.toNat
theorem pw_range (me : Int) (h : pw me ≠ 0) : 4 ≤ me ∧ me ≤ 4096 ∧ 2 ≤ pw me ∧ pw me ≤ 12 ∧ me = 2 ^ pw me := by
  obtain ⟨n, hn⟩ : ∃ n, n = me.toNat := ⟨_, rfl⟩
  have hp : pw me = pwN n := by rw [hn]; rfl
  rw [hp] at h ⊢
  have : n = 4 ∨ n = 8 ∨ n = 16 ∨ n = 32 ∨ n = 64 ∨ n = 128 ∨ n = 256 ∨ n = 512 ∨ n = 1024 ∨ n = 2048 ∨ n = 4096 := by
    unfold pwN at h
    by_cases h1 : n = 4; · exact .inl h1
    by_cases h2 : n = 8; · omega
    by_cases h3 : n = 16; · omega
    by_cases h4 : n = 32; · omega
    by_cases h5 : n = 64; · omega
    by_cases h6 : n = 128; · omega
    by_cases h7 : n = 256; · omega
    by_cases h8 : n = 512; · omega
    by_cases h9 : n = 1024; · omega
    by_cases h10 : n = 2048; · omega
    by_cases h11 : n = 4096; · omega
    simp [h1, h2, h3, h4, h5, h6, h7, h8, h9, h10, h11] at h
  rcases this with e | e | e | e | e | e | e | e | e | e | e <;> subst e <;> refine ⟨by omega, by omega, by decide, by decide, ?_⟩ <;> simp [pwN] <;> omega
/-- A way of cutting. -/
def cutV (mn me mx : Int) : Value := .agg #[.int .i64 mn, .int .i64 me, .int .i64 mx]
/-- May it be? -/
def mayB (mn me mx : Int) : Bool := decide (pw me ≠ 0) && decide (1 ≤ mn) && decide (mn ≤ me) && decide (me ≤ mx) && decide (mx ≤ 8000)
def chk (mn me mx : Int) : Int := if mayB mn me mx then 0 else 50
def I64 (n : Int) : Prop := -9223372036854775808 ≤ n ∧ n ≤ 9223372036854775807
theorem chk_of {mn me mx : Int} (h1 : pw me ≠ 0) (h2 : 1 ≤ mn) (h3 : mn ≤ me) (h4 : me ≤ mx) (h5 : mx ≤ 8000) : chk mn me mx = 0 := by simp [chk, mayB, h1, h2, h3, h4, h5]
theorem chk_not {mn me mx : Int} (h : pw me = 0 ∨ ¬ 1 ≤ mn ∨ ¬ mn ≤ me ∨ ¬ me ≤ mx ∨ ¬ mx ≤ 8000) : chk mn me mx = 50 := by
  have : mayB mn me mx = false := by
    simp only [mayB]
    rcases h with h | h | h | h | h
    · simp [h]
    · rw [decide_eq_false h]; simp
    · rw [decide_eq_false h]; simp
    · rw [decide_eq_false h]; simp
    · rw [decide_eq_false h]; simp
  simp [chk, this]
end Go.Proofs.YtamajnaeladehaaDoor
