/- The floats 0 to 31 and the nought with a sign: what they are to ==, to int(..), to the hash; signed. -/
import Derived.Test.YtnknjcnbbljagaaTHa
import Derived.Test.YtnknjcnbbljagaaTI5
import Derived.Test.YtnknjcnbbljagaaTQG
import Derived.Test.YtnknjcnbbljagaaTRm
import Derived.Laws.FloatArith
namespace Go.Proofs.Ytnknjcnbbljagaa
set_option linter.unusedVariables false
set_option linter.unusedSimpArgs false
namespace GG
set_option maxRecDepth 100000
open Go.RowKit

def valG (a : Nat) : Nat := ((List.range 32).find? (fun n => flB n == a)).getD 0
def tagG (a : Nat) : Int := if a = 9223372036854775808 then 1 else 0
def eqG (a b : Nat) : Bool := valG a == valG b
theorem val_fl : ∀ n, n < 32 → valG (flB n) = n := by decide +kernel
theorem val_z : valG 9223372036854775808 = 0 := by decide +kernel
theorem tag_fl : ∀ n, n < 32 → tagG (flB n) = 0 := by decide +kernel
theorem eq_fl : ∀ n, n < 32 → ∀ m, m < 32 → eqK (flB n) (flB m) = (n == m) := by decide +kernel
theorem eq_zf : ∀ n, n < 32 → eqK 9223372036854775808 (flB n) = (0 == n) := by decide +kernel
theorem eq_fz : ∀ n, n < 32 → eqK (flB n) 9223372036854775808 = (n == 0) := by decide +kernel
theorem eq_zz : eqK 9223372036854775808 9223372036854775808 = true := by decide +kernel
theorem val_lt {a : Nat} (h : Dm a) : valG a < 32 := by
  rcases h with rfl | ⟨n, hn, rfl⟩
  · rw [val_z]; decide
  · rw [val_fl n hn]; exact hn
theorem eq_on (a b : Nat) (ha : Dm a) (hb : Dm b) : eqK a b = eqG a b := by
  unfold eqG
  rcases ha with rfl | ⟨n, hn, rfl⟩ <;> rcases hb with rfl | ⟨m, hm, rfl⟩
  · rw [eq_zz]; simp
  · rw [eq_zf m hm, val_z, val_fl m hm]
  · rw [eq_fz n hn, val_z, val_fl n hn]
  · rw [eq_fl n hn m hm, val_fl n hn, val_fl m hm]
/-- The float that stands for a key. -/
def sgB (n : Nat) (tag : Int) : Nat := if n = 0 ∧ tag ≠ 0 then 9223372036854775808 else flB n
theorem sg_dm {n : Nat} (hn : n < 32) (tag : Int) : Dm (sgB n tag) := by
  unfold sgB
  split
  · exact .inl rfl
  · exact .inr ⟨n, hn, rfl⟩
theorem sg_back {a : Nat} (h : Dm a) : sgB (valG a) (tagG a) = a := by
  rcases h with rfl | ⟨n, hn, rfl⟩
  · rw [val_z]; rfl
  · rw [val_fl n hn, tag_fl n hn]; unfold sgB; rw [if_neg (by simp)]
theorem sg_val {n : Nat} (hn : n < 32) (tag : Int) : valG (sgB n tag) = n := by
  unfold sgB
  split
  · rename_i h; rw [val_z, h.1]
  · exact val_fl n hn
theorem sg_tag {n : Nat} (hn : n < 32) {tag : Int} (ht : tag = 0 ∨ (tag = 1 ∧ n = 0)) : tagG (sgB n tag) = tag := by
  rcases ht with rfl | ⟨rfl, rfl⟩
  · unfold sgB; rw [if_neg (by simp), tag_fl n hn]
  · rfl
theorem near_fl : ∀ n : Nat, n < 32 → floatOfInt FloatKind.f64 (n : Int) = flB n := by decide +kernel
theorem conv_if (n : Nat) (hn : n < 32) (w : World) : (convert 3 51 (.int .i64 (n : Int))).run Try.prog w = .ok (.float .f64 (flB n)) w := by
  have e := near_fl n hn
  have hu := Try.underlying3
  have hv := Try.underlying51
  simp [go_sem, hu, hv, e]
theorem int_fl : ∀ n : Nat, n < 32 → floatToIntVal .f64 (flB n) .i64 = some (n : Int) := by decide +kernel
theorem int_z : floatToIntVal .f64 9223372036854775808 .i64 = some 0 := by decide +kernel
theorem conv_fi (k : Nat) (hk : Dm k) (w : World) : (convert 51 3 (.float .f64 k)).run Try.prog w = .ok (.int .i64 (valG k : Int)) w := by
  refine run_convert_float_int w 51 3 .f64 .i64 k _ (by rw [Try.underlying51]; rfl) Try.underlying3 ?_
  rcases hk with rfl | ⟨n, hn, rfl⟩
  · rw [val_z]; exact int_z
  · rw [val_fl n hn]; exact int_fl n hn
/-- The hash. -/
def hsG (k : Nat) : Nat := hsh 1 (-1) (valG k : Int)
theorem hash_is : HsAt 42 hsG := by
  refine ⟨fun w k hk => ?_, fun k _ => hsh_lt _ _ _, enters_of Try.func42 (by kernel_rfl) rfl⟩
  have hc := conv_fi k hk w
  have HH := hide (hash_any w (valG k : Int) 1 (-1))
  clear hk
  go_enter Try.func42, Try.ntmps42
  go_wp2_with (go_at_call 10; refine HH.out.mono ?_; rintro e w' ⟨rfl, hw⟩; rw [hw]; clear hw)
  go_ret
  exact ⟨rfl, rfl⟩
theorem bits_run (k : Nat) (w : World) : (callFunc 24 #[.float .f64 k]).run Try.prog w = .ok (.value (.int .u64 (k : Int))) w := by
  rw [run_callFunc_extern Try.func24 (by kernel_rfl) (by kernel_rfl) (by kernel_rfl) (e := Extern.MathFloatBits.float64bits) (by kernel_rfl)]
  have hs : (Extern.MathFloatBits.float64bits #[.float .f64 k]).run Try.prog w = .ok (.int .u64 (k : Int)) w := by
    have e : Extern.MathFloatBits.float64bits #[.float .f64 k] = pure (.int .u64 (k : Int)) := rfl
    rw [e]
    exact Sem.run_pure ..
  rw [hs]
  rfl
theorem from_run (k : Nat) (w : World) : (callFunc 25 #[.int .u64 (k : Int)]).run Try.prog w = .ok (.value (.float .f64 k)) w := by
  rw [run_callFunc_extern Try.func25 (by kernel_rfl) (by kernel_rfl) (by kernel_rfl) (e := Extern.MathFloatBits.float64frombits) (by kernel_rfl)]
  have hs : (Extern.MathFloatBits.float64frombits #[.int .u64 (k : Int)]).run Try.prog w = .ok (.float .f64 k) w := by
    have e : Extern.MathFloatBits.float64frombits #[.int .u64 (k : Int)] = pure (.float .f64 ((k : Int).toNat)) := rfl
    rw [e]
    exact Sem.run_pure ..
  rw [hs]
  rfl
theorem copysign_any (w : World) : Calls Try.prog 83 #[.float .f64 0, .float .f64 13830554455654793216] w fun e w' => e = .returned (.float .f64 9223372036854775808) ∧ w' = w := by
  have h1 := bits_run 0 w
  have h2 := bits_run 13830554455654793216 w
  have h3 : (callFunc 25 #[.int .u64 9223372036854775808]).run Try.prog w = .ok (.value (.float .f64 9223372036854775808)) w := from_run 9223372036854775808 w
  have b1 : bits .andNot .u64 0 9223372036854775808 = 0 := by decide +kernel
  have b2 : bits .and .u64 13830554455654793216 9223372036854775808 = 9223372036854775808 := by decide +kernel
  have b3 : bits .or .u64 0 9223372036854775808 = 9223372036854775808 := by decide +kernel
  go_enter Try.func83, Try.ntmps83
  go_wp2
  go_ret
  exact ⟨rfl, rfl⟩
theorem signed_any (w : World) (n : Nat) (tag : Int) (hn : n < 32) : Calls Try.prog 43 #[.int .i64 (n : Int), .int .i64 tag] w fun e w' => e = .returned (.float .f64 (sgB n tag)) ∧ w' = w := by
  by_cases h0 : n = 0
  · subst h0
    by_cases ht : tag = 0
    · subst ht
      have hc := conv_if 0 (by decide) w
      go_enter Try.func43, Try.ntmps43
      go_wp2
      go_ret
      exact ⟨rfl, rfl⟩
    · have htb : (tag != 0) = true := by simpa using ht
      have HS : Hid (sgB 0 tag = 9223372036854775808) := hide (by unfold sgB; rw [if_pos ⟨rfl, ht⟩])
      have HC := hide (copysign_any w)
      go_enter Try.func43, Try.ntmps43
      go_wp2_with (go_at_call 83; refine HC.out.mono ?_; rintro e w' ⟨rfl, hw⟩; rw [hw]; clear hw)
      go_ret
      exact ⟨by rw [HS.out]; rfl, rfl⟩
  · have hc := conv_if n hn w
    have hni : ¬ (n : Int) = 0 := by omega
    have HS : Hid (sgB n tag = flB n) := hide (by unfold sgB; rw [if_neg (fun h => h0 h.1)])
    go_enter Try.func43, Try.ntmps43
    go_wp2
    go_ret
    exact ⟨by rw [HS.out]; rfl, rfl⟩
end GG
end Go.Proofs.Ytnknjcnbbljagaa
