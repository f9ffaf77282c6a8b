/- The number that rolls, added up anew: the document's way. -/
import Derived.Test.YtamajnaeladehaaDoorGF4
namespace Go.Proofs.YtamajnaeladehaaDoor
set_option linter.unusedVariables false
set_option linter.unusedSimpArgs false
open Go.RowKit

/-- All of it, unbounded. -/
def vL : List UInt8 → Nat
  | [] => 0
  | b :: r => wN b * 2 ^ r.length + vL r
theorem vL_append : ∀ (a b : List UInt8), vL (a ++ b) = vL a * 2 ^ b.length + vL b
  | [], b => by simp [vL]
  | x :: a, b => by
    rw [List.cons_append, vL, vL, vL_append a b, List.length_append, Nat.pow_add, Nat.add_mul, Nat.mul_assoc, Nat.add_assoc]
theorem mod_step (M a c d e : Nat) : (a % M * c + d) % M = (a * c + d) % M := by
  rw [Nat.add_mod, Nat.mod_mul_mod, ← Nat.add_mod]
theorem foldl_roll : ∀ (xs : List UInt8) (h : Nat), h < 18446744073709551616 → xs.foldl roll h = (h * 2 ^ xs.length + vL xs) % 18446744073709551616
  | [], h, hh => by
    rw [List.foldl_nil, vL, List.length_nil, Nat.pow_zero, Nat.mul_one, Nat.add_zero, Nat.mod_eq_of_lt hh]
  | b :: r, h, hh => by
    rw [List.foldl_cons, foldl_roll r _ (roll_lt h b), roll, mod_step _ _ _ _ 0, vL, List.length_cons, Nat.pow_succ]
    congr 1
    generalize 2 ^ r.length = q
    rw [Nat.add_mul, ← Nat.add_assoc, Nat.mul_comm q 2, ← Nat.mul_assoc, Nat.mul_comm h 2]
theorem rollL_vL (xs : List UInt8) : rollL xs = vL xs % 18446744073709551616 := by
  rw [rollL, foldl_roll xs 0 (by omega), Nat.zero_mul, Nat.zero_add]
theorem pow_zero_mod (j : Nat) (h : 2 ^ j % 18446744073709551616 = 0) : 64 ≤ j := by
  rcases Nat.lt_or_ge j 64 with hl | hl
  · have h1 : 2 ^ j < 2 ^ 64 := Nat.pow_lt_pow_right (by omega) hl
    have h2 := Nat.two_pow_pos j
    rw [Nat.mod_eq_of_lt h1] at h
    omega
  · exact hl
theorem rollL_last (xs : List UInt8) (j : Nat) (hj : j ≤ xs.length) (h : 64 ≤ j) : vL (xs.drop (xs.length - j)) % 18446744073709551616 = rollL xs := by
  rw [rollL_vL]
  conv => rhs; rw [← List.take_append_drop (xs.length - j) xs]
  rw [vL_append, List.length_drop, show xs.length - (xs.length - j) = 64 + (j - 64) by omega, Nat.pow_add, ← Nat.mul_assoc, Nat.mul_right_comm, Nat.add_comm]
  rw [show (2 : Nat) ^ 64 = 18446744073709551616 from rfl, Nat.add_mul_mod_self_right]
theorem weight_next (q j : Nat) (h : q = 2 ^ j % 18446744073709551616) : IntKind.u64.wrap ((q : Int) * 2) = ((2 ^ (j + 1) % 18446744073709551616 : Nat) : Int) := by
  rw [IntKind.wrap_u64, Nat.pow_succ]
  generalize 2 ^ j = p at h ⊢
  omega
theorem sum_next (xs : List UInt8) (j m h q : Nat) (x : UInt8) (hm : m = xs.length - 1 - j) (hj : j < xs.length) (hx : xs[m]? = some x) (hq : q = 2 ^ j % 18446744073709551616) (hh : h = vL (xs.drop (xs.length - j)) % 18446744073709551616) :
    IntKind.u64.wrap ((h : Int) + IntKind.u64.wrap ((q : Int) * (wN x : Int))) = ((vL (xs.drop (xs.length - (j + 1))) % 18446744073709551616 : Nat) : Int) := by
  have hml : m < xs.length := by omega
  rw [List.getElem?_eq_getElem hml] at hx
  have e1 : xs.drop (xs.length - (j + 1)) = x :: xs.drop (xs.length - j) := by
    rw [show xs.length - (j + 1) = m by omega, List.drop_eq_getElem_cons hml, Option.some.inj hx, show m + 1 = xs.length - j by omega]
  have e2 : (xs.drop (xs.length - j)).length = j := by rw [List.length_drop]; omega
  rw [e1, vL, e2]
  generalize vL (xs.drop (xs.length - j)) = u at hh ⊢
  have e3 : (q : Int) * (wN x : Int) = ((q * wN x : Nat) : Int) := by simp
  have e4 : (wN x * 2 ^ j + u) % 18446744073709551616 = (q * wN x + u) % 18446744073709551616 := by
    rw [hq, Nat.mul_comm (wN x), mod_step _ _ _ _ 0]
  rw [e3, e4, IntKind.wrap_u64, IntKind.wrap_u64]
  generalize q * wN x = t
  omega
set_option maxRecDepth 20000 in
set_option maxHeartbeats 1000000 in
theorem rolled_any (w : World) (v : Value) (xs : List UInt8) (hv : RdA w v xs) : Calls Tryd.prog 41 #[v] w fun e w' => e = .returned (.int .u64 (rollL xs : Int)) ∧ w' = w := by
  have HR := hide hv
  obtain ⟨ao, c, rfl, hxl⟩ := hv.slice
  clear hv
  go_enter Tryd.func41, Tryd.ntmps41
  go_wp2
  go_loopw [3, 4, 5] (fun hv wv i wr => ∃ j : Nat, j ≤ xs.length ∧ i = .int .i64 ((xs.length : Int) - 1 - j) ∧ wv = .int .u64 ((2 ^ j % 18446744073709551616 : Nat) : Int) ∧ hv = .int .u64 ((vL (xs.drop (xs.length - j)) % 18446744073709551616 : Nat) : Int) ∧ wr = w) (fun _ _ i _ => (intOf i + 1).toNat)
  case atStart =>
    refine ⟨0, by omega, ?_, rfl, ?_, rfl⟩
    · go_num
    · rw [Nat.sub_zero, List.drop_of_length_le (Nat.le_refl _)]; rfl
  case round =>
    obtain ⟨j, hj, rfl, rfl, rfl, rfl⟩ := hrel
    obtain ⟨q, hq⟩ : ∃ q, q = 2 ^ j % 18446744073709551616 := ⟨_, rfl⟩
    obtain ⟨h, hh⟩ : ∃ h, h = vL (xs.drop (xs.length - j)) % 18446744073709551616 := ⟨_, rfl⟩
    have hql : q < 18446744073709551616 := by rw [hq]; exact Nat.mod_lt _ (by omega)
    have hhl : h < 18446744073709551616 := by rw [hh]; exact Nat.mod_lt _ (by omega)
    rw [← hq, ← hh]
    have HQ := hide hq
    have HH := hide hh
    clear hq hh
    by_cases hlt : j < xs.length
    · obtain ⟨m, hm⟩ : ∃ m : Nat, m = xs.length - 1 - j := ⟨_, rfl⟩
      have hmi : (xs.length : Int) - 1 - j = (m : Int) := by omega
      have hml : m < xs.length := by omega
      rw [hmi]
      have HM := hide hm
      have HMI := hide hmi
      clear hm hmi
      by_cases hz : q = 0
      · have hzi : ¬ ((q : Int) ≠ 0) := by omega
        have hzb : ((q : Int) == 0) = true := by simp; omega
        have HF : Hid (rollL xs = h) := hide (by rw [HH.out]; exact (rollL_last xs j hj (pow_zero_mod j (by rw [← HQ.out]; exact hz))).symm)
        clear hz
        go_wp2
        go_ret
        exact ⟨by rw [HF.out]; rfl, rfl⟩
      · have hzb : ((q : Int) == 0) = false := by simp; omega
        obtain ⟨bz, bo, cc, he, hcell⟩ := HR.out.at m hml
        cases he
        obtain ⟨x, hx⟩ : ∃ x, x = xs[m] := ⟨_, rfl⟩
        rw [← hx] at hcell
        have HX := hide hx
        have HW : Hid (Calls Tryd.prog 47 #[.int .u8 (x.toNat : Int)] wr fun e w' => e = .returned (.int .u64 (wN x : Int)) ∧ w' = wr) := hide (by rw [← wN_eq]; exact rword_any x.toNat x.toNat_lt wr)
        clear hx
        go_wp2_with fail
        refine HW.out.mono ?_
        rintro e w' ⟨rfl, rfl⟩
        go_wp2
        refine ⟨⟨j + 1, by omega, ?_, ?_, ?_, by trivial⟩, ?_⟩
        · have := HM.out
          congr 1
          omega
        · rw [weight_next q j HQ.out]
        · rw [sum_next xs j m h q x HM.out hlt (by rw [HX.out, List.getElem?_eq_getElem hml]) HQ.out HH.out]
        · simp [intOf]
    · obtain rfl : j = xs.length := by omega
      have hmi : (xs.length : Int) - 1 - xs.length = -1 := by omega
      rw [hmi]
      have HF : Hid (rollL xs = h) := hide (by rw [HH.out, rollL_vL, Nat.sub_self, List.drop_zero])
      go_wp2
      go_ret
      exact ⟨by rw [HF.out]; rfl, rfl⟩
end Go.Proofs.YtamajnaeladehaaDoor
