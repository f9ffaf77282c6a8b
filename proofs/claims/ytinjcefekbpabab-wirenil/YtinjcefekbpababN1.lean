/- Adding to a nil Enc: nothing happens. -/
import Derived.Test.YtinjcefekbpababW
import Derived.Test.YtinjcefekbpababP3
namespace Go.Proofs.Ytinjcefekbpabab
set_option linter.unusedVariables false
set_option linter.unusedSimpArgs false
open Go.RowKit

theorem eraw_nil (v : Value) (w : World) : Calls Try.prog 34 #[.pointer none, v] w fun e w' => e = .returned (.tuple #[]) ∧ w' = w := by
  go_enter Try.func34, Try.ntmps34
  go_wp2
  go_returns
  exact ⟨rfl, rfl⟩
theorem elen_nil (w : World) : Calls Try.prog 16 #[.pointer none] w fun e w' => e = .returned (.int .i64 0) ∧ w' = w := by
  go_enter Try.func16, Try.ntmps16
  go_wp2
  go_ret
  exact ⟨rfl, rfl⟩
theorem ebytes_nil (w : World) : Calls Try.prog 17 #[.pointer none] w fun e w' => e = .returned (.slice none 0 0) ∧ w' = w := by
  go_enter Try.func17, Try.ntmps17
  go_wp2
  go_ret
  exact ⟨rfl, rfl⟩

/-- Cells that are bytes. -/
def AllU8 (arr : Array Value) (n : Nat) : Prop := arr.size = n ∧ ∀ j, j < n → ∃ q, arr[j]? = some (.int .u8 q)
theorem AllU8.set {arr : Array Value} {n : Nat} (h : AllU8 arr n) (k : Nat) (q : Int) : AllU8 (arr.setIfInBounds k (.int .u8 q)) n := by
  refine ⟨by simpa using h.1, fun j hj => ?_⟩
  by_cases e : k = j
  · subst e; exact ⟨q, by rw [Array.getElem?_setIfInBounds_self_of_lt (by rw [h.1]; exact hj)]⟩
  · rw [Array.getElem?_setIfInBounds_ne e]; exact h.2 j hj
theorem pow10_bound (y k : Nat) (h : y * 128 ^ k ≤ 18446744073709551615) (hy : 128 ≤ y) : k ≤ 8 := by
  rcases Nat.lt_or_ge k 9 with h1 | h1
  · omega
  · have h2 : (128 : Nat) ^ 9 ≤ 128 ^ k := Nat.pow_le_pow_right (by decide) h1
    have h3 : 128 * 128 ^ 9 ≤ y * 128 ^ k := Nat.mul_le_mul hy h2
    have h4 : (128 : Nat) * 128 ^ 9 = 1180591620717411303424 := by decide
    omega
theorem pow10_step (y k : Nat) (h : y * 128 ^ k ≤ 18446744073709551615) : y / 128 * 128 ^ (k + 1) ≤ 18446744073709551615 := by
  have h1 : y / 128 * 128 ≤ y := Nat.div_mul_le_self y 128
  have h2 : y / 128 * 128 * 128 ^ k ≤ y * 128 ^ k := Nat.mul_le_mul_right _ h1
  rw [Nat.pow_succ, Nat.mul_comm (128 ^ k), ← Nat.mul_assoc]
  omega

theorem slice10 (a : Addr) (k : Nat) (hk : k ≤ 9) (w : World) : (Instr.sliceAt 111 (.pointer (some a)) none (some (.int .i64 ((k : Int) + 1))) none).run Try.prog w = .ok (.slice (some a) (k + 1) 10) w := by
  rcases (show k = 0 ∨ k = 1 ∨ k = 2 ∨ k = 3 ∨ k = 4 ∨ k = 5 ∨ k = 6 ∨ k = 7 ∨ k = 8 ∨ k = 9 by omega) with rfl | rfl | rfl | rfl | rfl | rfl | rfl | rfl | rfl | rfl
  all_goals kernel_rfl

set_option maxRecDepth 20000 in
set_option maxHeartbeats 800000 in
theorem evar_nil (v : Nat) (hv : v ≤ 18446744073709551615) (w : World) : Calls Try.prog 32 #[.pointer none, .int .u64 v] w fun e w' => e = .returned (.tuple #[]) ∧ Below w.heap.size w w' := by
  go_enter Try.func32, Try.ntmps32
  go_wp2
  go_loopw [1, 5] (fun x n wr => ∃ (y k : Nat) (arr : Array Value), x = .int .u64 y ∧ n = .int .i64 k ∧ k ≤ 9 ∧ y * 128 ^ k ≤ 18446744073709551615 ∧ AllU8 arr 10 ∧ wr = w.alloc (.cells arr 111)) (fun x _ _ => (intOf x).toNat)
  case atStart =>
    refine ⟨v, 0, _, rfl, rfl, by omega, by omega, ⟨rfl, fun j hj => ?_⟩, rfl⟩
    match j, hj with
    | 0, _ | 1, _ | 2, _ | 3, _ | 4, _ | 5, _ | 6, _ | 7, _ | 8, _ | 9, _ => exact ⟨0, rfl⟩
  case round =>
    obtain ⟨y, k, arr, rfl, rfl, hk, hb, hall, rfl⟩ := hrel
    have HB := hide hb
    clear hb
    obtain ⟨q, hq⟩ := hall.2 k (by omega)
    have HA := hide hall
    have hsz : arr.size = 10 := hall.1
    clear hall
    by_cases hlt : 128 ≤ y
    · have hk8 := pow10_bound y k HB.out hlt
      have hyi : (128 : Int) ≤ (y : Int) := by omega
      go_wp2
      go_roundw
      case rel => exact ⟨y / 128, k + 1, _, by go_num, by go_num, by omega, pow10_step y k HB.out, HA.out.set k _, rfl⟩
      case measure => simp [intOf]; omega
    · have hyi : (y : Int) < 128 := by omega
      have hk10 : (k : Int) < 10 := by omega
      have hsl := fun a => slice10 a k hk
      go_wp2_with (go_at_call 34; refine (eraw_nil _ _).mono ?_; rintro e w' ⟨rfl, rfl⟩)
      go_returns
      exact ⟨rfl, (Below.refl _ _).alloc (Nat.le_refl _) _⟩

set_option maxRecDepth 20000 in
set_option maxHeartbeats 800000 in
theorem put_nil_int8 (v : Int) (hv : (Lit.int .i8 v).wf = true) (w : World) : Calls Try.prog 36 #[.pointer none, .int .i8 v] w fun e w' => e = .returned (.tuple #[]) ∧ Below w.heap.size w w' := by
  go_enter Try.func36, Try.ntmps36
  go_wp2_with fail
  refine (width_int8 _).mono ?_
  rintro e w' ⟨rfl, rfl⟩
  have hsz0 : True := trivial
  go_wp2_with fail
  go_loopw [12] (fun i wr => ∃ (k : Nat) (arr : Array Value), i = .int .i64 k ∧ k ≤ 1 ∧ AllU8 arr 8 ∧ wr = w.alloc (.cells arr 113)) (fun i _ => 1 - (intOf i).toNat)
  case atStart =>
    refine ⟨0, _, rfl, by omega, ⟨rfl, fun j hj => ?_⟩, rfl⟩
    match j, hj with
    | 0, _ | 1, _ | 2, _ | 3, _ | 4, _ | 5, _ | 6, _ | 7, _ => exact ⟨0, rfl⟩
  case round =>
    obtain ⟨k, arr, rfl, hk, hall, rfl⟩ := hrel
    have HA := hide hall
    have hsz : arr.size = 8 := hall.1
    by_cases hlt : k < 1
    · obtain ⟨x, hx⟩ := hall.2 k (by omega)
      have hk8 : (k : Int) < 8 := by omega
      clear hall
      go_wp2
      go_roundw
      case rel => exact ⟨k + 1, _, by go_num, by omega, HA.out.set k _, rfl⟩
      case measure => simp [intOf]; omega
    · clear hall
      obtain rfl : k = 1 := by omega
      go_wp2_with (go_at_call 34; refine (eraw_nil _ _).mono ?_; rintro e w' ⟨rfl, rfl⟩)
      go_returns
      exact ⟨rfl, (Below.refl _ _).alloc (Nat.le_refl _) _⟩

set_option maxRecDepth 20000 in
set_option maxHeartbeats 800000 in
theorem put_nil_uint8 (v : Int) (hv : (Lit.int .u8 v).wf = true) (w : World) : Calls Try.prog 37 #[.pointer none, .int .u8 v] w fun e w' => e = .returned (.tuple #[]) ∧ Below w.heap.size w w' := by
  go_enter Try.func37, Try.ntmps37
  go_wp2_with fail
  refine (width_uint8 _).mono ?_
  rintro e w' ⟨rfl, rfl⟩
  have hsz0 : True := trivial
  go_wp2_with fail
  go_loopw [12] (fun i wr => ∃ (k : Nat) (arr : Array Value), i = .int .i64 k ∧ k ≤ 1 ∧ AllU8 arr 8 ∧ wr = w.alloc (.cells arr 113)) (fun i _ => 1 - (intOf i).toNat)
  case atStart =>
    refine ⟨0, _, rfl, by omega, ⟨rfl, fun j hj => ?_⟩, rfl⟩
    match j, hj with
    | 0, _ | 1, _ | 2, _ | 3, _ | 4, _ | 5, _ | 6, _ | 7, _ => exact ⟨0, rfl⟩
  case round =>
    obtain ⟨k, arr, rfl, hk, hall, rfl⟩ := hrel
    have HA := hide hall
    have hsz : arr.size = 8 := hall.1
    by_cases hlt : k < 1
    · obtain ⟨x, hx⟩ := hall.2 k (by omega)
      have hk8 : (k : Int) < 8 := by omega
      clear hall
      go_wp2
      go_roundw
      case rel => exact ⟨k + 1, _, by go_num, by omega, HA.out.set k _, rfl⟩
      case measure => simp [intOf]; omega
    · clear hall
      obtain rfl : k = 1 := by omega
      go_wp2_with (go_at_call 34; refine (eraw_nil _ _).mono ?_; rintro e w' ⟨rfl, rfl⟩)
      go_returns
      exact ⟨rfl, (Below.refl _ _).alloc (Nat.le_refl _) _⟩

set_option maxRecDepth 20000 in
set_option maxHeartbeats 800000 in
theorem put_nil_int16 (v : Int) (hv : (Lit.int .i16 v).wf = true) (w : World) : Calls Try.prog 38 #[.pointer none, .int .i16 v] w fun e w' => e = .returned (.tuple #[]) ∧ Below w.heap.size w w' := by
  go_enter Try.func38, Try.ntmps38
  go_wp2_with fail
  refine (width_int16 _).mono ?_
  rintro e w' ⟨rfl, rfl⟩
  have hsz0 : True := trivial
  go_wp2_with fail
  go_loopw [12] (fun i wr => ∃ (k : Nat) (arr : Array Value), i = .int .i64 k ∧ k ≤ 2 ∧ AllU8 arr 8 ∧ wr = w.alloc (.cells arr 113)) (fun i _ => 2 - (intOf i).toNat)
  case atStart =>
    refine ⟨0, _, rfl, by omega, ⟨rfl, fun j hj => ?_⟩, rfl⟩
    match j, hj with
    | 0, _ | 1, _ | 2, _ | 3, _ | 4, _ | 5, _ | 6, _ | 7, _ => exact ⟨0, rfl⟩
  case round =>
    obtain ⟨k, arr, rfl, hk, hall, rfl⟩ := hrel
    have HA := hide hall
    have hsz : arr.size = 8 := hall.1
    by_cases hlt : k < 2
    · obtain ⟨x, hx⟩ := hall.2 k (by omega)
      have hk8 : (k : Int) < 8 := by omega
      clear hall
      go_wp2
      go_roundw
      case rel => exact ⟨k + 1, _, by go_num, by omega, HA.out.set k _, rfl⟩
      case measure => simp [intOf]; omega
    · clear hall
      obtain rfl : k = 2 := by omega
      go_wp2_with (go_at_call 34; refine (eraw_nil _ _).mono ?_; rintro e w' ⟨rfl, rfl⟩)
      go_returns
      exact ⟨rfl, (Below.refl _ _).alloc (Nat.le_refl _) _⟩

set_option maxRecDepth 20000 in
set_option maxHeartbeats 800000 in
theorem put_nil_uint16 (v : Int) (hv : (Lit.int .u16 v).wf = true) (w : World) : Calls Try.prog 39 #[.pointer none, .int .u16 v] w fun e w' => e = .returned (.tuple #[]) ∧ Below w.heap.size w w' := by
  go_enter Try.func39, Try.ntmps39
  go_wp2_with fail
  refine (width_uint16 _).mono ?_
  rintro e w' ⟨rfl, rfl⟩
  have hsz0 : True := trivial
  go_wp2_with fail
  go_loopw [12] (fun i wr => ∃ (k : Nat) (arr : Array Value), i = .int .i64 k ∧ k ≤ 2 ∧ AllU8 arr 8 ∧ wr = w.alloc (.cells arr 113)) (fun i _ => 2 - (intOf i).toNat)
  case atStart =>
    refine ⟨0, _, rfl, by omega, ⟨rfl, fun j hj => ?_⟩, rfl⟩
    match j, hj with
    | 0, _ | 1, _ | 2, _ | 3, _ | 4, _ | 5, _ | 6, _ | 7, _ => exact ⟨0, rfl⟩
  case round =>
    obtain ⟨k, arr, rfl, hk, hall, rfl⟩ := hrel
    have HA := hide hall
    have hsz : arr.size = 8 := hall.1
    by_cases hlt : k < 2
    · obtain ⟨x, hx⟩ := hall.2 k (by omega)
      have hk8 : (k : Int) < 8 := by omega
      clear hall
      go_wp2
      go_roundw
      case rel => exact ⟨k + 1, _, by go_num, by omega, HA.out.set k _, rfl⟩
      case measure => simp [intOf]; omega
    · clear hall
      obtain rfl : k = 2 := by omega
      go_wp2_with (go_at_call 34; refine (eraw_nil _ _).mono ?_; rintro e w' ⟨rfl, rfl⟩)
      go_returns
      exact ⟨rfl, (Below.refl _ _).alloc (Nat.le_refl _) _⟩

set_option maxRecDepth 20000 in
set_option maxHeartbeats 800000 in
theorem put_nil_int32 (v : Int) (hv : (Lit.int .i32 v).wf = true) (w : World) : Calls Try.prog 40 #[.pointer none, .int .i32 v] w fun e w' => e = .returned (.tuple #[]) ∧ Below w.heap.size w w' := by
  go_enter Try.func40, Try.ntmps40
  go_wp2_with fail
  refine (width_int32 _).mono ?_
  rintro e w' ⟨rfl, rfl⟩
  have hsz0 : True := trivial
  go_wp2_with fail
  go_loopw [12] (fun i wr => ∃ (k : Nat) (arr : Array Value), i = .int .i64 k ∧ k ≤ 4 ∧ AllU8 arr 8 ∧ wr = w.alloc (.cells arr 113)) (fun i _ => 4 - (intOf i).toNat)
  case atStart =>
    refine ⟨0, _, rfl, by omega, ⟨rfl, fun j hj => ?_⟩, rfl⟩
    match j, hj with
    | 0, _ | 1, _ | 2, _ | 3, _ | 4, _ | 5, _ | 6, _ | 7, _ => exact ⟨0, rfl⟩
  case round =>
    obtain ⟨k, arr, rfl, hk, hall, rfl⟩ := hrel
    have HA := hide hall
    have hsz : arr.size = 8 := hall.1
    by_cases hlt : k < 4
    · obtain ⟨x, hx⟩ := hall.2 k (by omega)
      have hk8 : (k : Int) < 8 := by omega
      clear hall
      go_wp2
      go_roundw
      case rel => exact ⟨k + 1, _, by go_num, by omega, HA.out.set k _, rfl⟩
      case measure => simp [intOf]; omega
    · clear hall
      obtain rfl : k = 4 := by omega
      go_wp2_with (go_at_call 34; refine (eraw_nil _ _).mono ?_; rintro e w' ⟨rfl, rfl⟩)
      go_returns
      exact ⟨rfl, (Below.refl _ _).alloc (Nat.le_refl _) _⟩

set_option maxRecDepth 20000 in
set_option maxHeartbeats 800000 in
theorem put_nil_uint32 (v : Int) (hv : (Lit.int .u32 v).wf = true) (w : World) : Calls Try.prog 41 #[.pointer none, .int .u32 v] w fun e w' => e = .returned (.tuple #[]) ∧ Below w.heap.size w w' := by
  go_enter Try.func41, Try.ntmps41
  go_wp2_with fail
  refine (width_uint32 _).mono ?_
  rintro e w' ⟨rfl, rfl⟩
  have hsz0 : True := trivial
  go_wp2_with fail
  go_loopw [12] (fun i wr => ∃ (k : Nat) (arr : Array Value), i = .int .i64 k ∧ k ≤ 4 ∧ AllU8 arr 8 ∧ wr = w.alloc (.cells arr 113)) (fun i _ => 4 - (intOf i).toNat)
  case atStart =>
    refine ⟨0, _, rfl, by omega, ⟨rfl, fun j hj => ?_⟩, rfl⟩
    match j, hj with
    | 0, _ | 1, _ | 2, _ | 3, _ | 4, _ | 5, _ | 6, _ | 7, _ => exact ⟨0, rfl⟩
  case round =>
    obtain ⟨k, arr, rfl, hk, hall, rfl⟩ := hrel
    have HA := hide hall
    have hsz : arr.size = 8 := hall.1
    by_cases hlt : k < 4
    · obtain ⟨x, hx⟩ := hall.2 k (by omega)
      have hk8 : (k : Int) < 8 := by omega
      clear hall
      go_wp2
      go_roundw
      case rel => exact ⟨k + 1, _, by go_num, by omega, HA.out.set k _, rfl⟩
      case measure => simp [intOf]; omega
    · clear hall
      obtain rfl : k = 4 := by omega
      go_wp2_with (go_at_call 34; refine (eraw_nil _ _).mono ?_; rintro e w' ⟨rfl, rfl⟩)
      go_returns
      exact ⟨rfl, (Below.refl _ _).alloc (Nat.le_refl _) _⟩

set_option maxRecDepth 20000 in
set_option maxHeartbeats 800000 in
theorem put_nil_int64 (v : Int) (hv : (Lit.int .i64 v).wf = true) (w : World) : Calls Try.prog 42 #[.pointer none, .int .i64 v] w fun e w' => e = .returned (.tuple #[]) ∧ Below w.heap.size w w' := by
  go_enter Try.func42, Try.ntmps42
  go_wp2_with fail
  refine (width_int64 _).mono ?_
  rintro e w' ⟨rfl, rfl⟩
  have hsz0 : True := trivial
  go_wp2_with fail
  go_loopw [12] (fun i wr => ∃ (k : Nat) (arr : Array Value), i = .int .i64 k ∧ k ≤ 8 ∧ AllU8 arr 8 ∧ wr = w.alloc (.cells arr 113)) (fun i _ => 8 - (intOf i).toNat)
  case atStart =>
    refine ⟨0, _, rfl, by omega, ⟨rfl, fun j hj => ?_⟩, rfl⟩
    match j, hj with
    | 0, _ | 1, _ | 2, _ | 3, _ | 4, _ | 5, _ | 6, _ | 7, _ => exact ⟨0, rfl⟩
  case round =>
    obtain ⟨k, arr, rfl, hk, hall, rfl⟩ := hrel
    have HA := hide hall
    have hsz : arr.size = 8 := hall.1
    by_cases hlt : k < 8
    · obtain ⟨x, hx⟩ := hall.2 k (by omega)
      have hk8 : (k : Int) < 8 := by omega
      clear hall
      go_wp2
      go_roundw
      case rel => exact ⟨k + 1, _, by go_num, by omega, HA.out.set k _, rfl⟩
      case measure => simp [intOf]; omega
    · clear hall
      obtain rfl : k = 8 := by omega
      go_wp2_with (go_at_call 34; refine (eraw_nil _ _).mono ?_; rintro e w' ⟨rfl, rfl⟩)
      go_returns
      exact ⟨rfl, (Below.refl _ _).alloc (Nat.le_refl _) _⟩

set_option maxRecDepth 20000 in
set_option maxHeartbeats 800000 in
theorem put_nil_uint64 (v : Int) (hv : (Lit.int .u64 v).wf = true) (w : World) : Calls Try.prog 43 #[.pointer none, .int .u64 v] w fun e w' => e = .returned (.tuple #[]) ∧ Below w.heap.size w w' := by
  go_enter Try.func43, Try.ntmps43
  go_wp2_with fail
  refine (width_uint64 _).mono ?_
  rintro e w' ⟨rfl, rfl⟩
  have hsz0 : True := trivial
  go_wp2_with fail
  go_loopw [11] (fun i wr => ∃ (k : Nat) (arr : Array Value), i = .int .i64 k ∧ k ≤ 8 ∧ AllU8 arr 8 ∧ wr = w.alloc (.cells arr 113)) (fun i _ => 8 - (intOf i).toNat)
  case atStart =>
    refine ⟨0, _, rfl, by omega, ⟨rfl, fun j hj => ?_⟩, rfl⟩
    match j, hj with
    | 0, _ | 1, _ | 2, _ | 3, _ | 4, _ | 5, _ | 6, _ | 7, _ => exact ⟨0, rfl⟩
  case round =>
    obtain ⟨k, arr, rfl, hk, hall, rfl⟩ := hrel
    have HA := hide hall
    have hsz : arr.size = 8 := hall.1
    by_cases hlt : k < 8
    · obtain ⟨x, hx⟩ := hall.2 k (by omega)
      have hk8 : (k : Int) < 8 := by omega
      clear hall
      go_wp2
      go_roundw
      case rel => exact ⟨k + 1, _, by go_num, by omega, HA.out.set k _, rfl⟩
      case measure => simp [intOf]; omega
    · clear hall
      obtain rfl : k = 8 := by omega
      go_wp2_with (go_at_call 34; refine (eraw_nil _ _).mono ?_; rintro e w' ⟨rfl, rfl⟩)
      go_returns
      exact ⟨rfl, (Below.refl _ _).alloc (Nat.le_refl _) _⟩
end Go.Proofs.Ytinjcefekbpabab
