/- The bits of a filter's words, one by one: what each way does to them. -/
import Derived.Test.YtbemmhngadpjcaaFPm
import Derived.Test.YtbemmhngadpjcaaFJ8
namespace Go.Proofs.Ytbemmhngadpjcaa
set_option linter.unusedVariables false
set_option linter.unusedSimpArgs false
open Go.RowKit

/-- The bits of the words, the lowest first. -/
def bitsL (ws : List Nat) : List Bool := (List.range (64 * ws.length)).map (hsB ws)
theorem bitsL_len (ws : List Nat) : (bitsL ws).length = 64 * ws.length := by simp [bitsL]
theorem bitsL_get (ws : List Nat) (i : Nat) (h : i < (bitsL ws).length) : (bitsL ws)[i] = hsB ws i := by simp [bitsL]
theorem bitsL_stB (ws : List Nat) (p : Nat) (hp : p < 64 * ws.length) : bitsL (stB ws p) = (bitsL ws).set p true := by
  refine List.ext_getElem (by rw [List.length_set, bitsL_len, bitsL_len, stB_len]) fun i h1 h2 => ?_
  rw [bitsL_get, hsB_stB ws p i hp, List.getElem_set]
  by_cases e : p = i
  · rw [if_pos e]
    simp [e]
  · rw [if_neg e, bitsL_get]
    simp [e]
theorem bitsL_zero (n : Nat) : bitsL (List.replicate n 0) = List.replicate (64 * n) false := by
  refine List.ext_getElem (by rw [bitsL_len, List.length_replicate, List.length_replicate]) fun i h1 h2 => ?_
  rw [bitsL_get, hsB_zero, List.getElem_replicate]
theorem bitsL_or (us vs : List Nat) (h : us.length = vs.length) : bitsL (List.zipWith (fun x y => x ||| y) us vs) = List.zipWith (fun a b => a || b) (bitsL us) (bitsL vs) := by
  refine List.ext_getElem (by simp [bitsL_len]) fun i h1 h2 => ?_
  rw [bitsL_get, List.getElem_zipWith, bitsL_get, bitsL_get]
  exact hsB_or us vs h i
theorem bitsL_and (us vs : List Nat) (h : us.length = vs.length) : bitsL (List.zipWith (fun x y => x &&& y) us vs) = List.zipWith (fun a b => a && b) (bitsL us) (bitsL vs) := by
  refine List.ext_getElem (by simp [bitsL_len]) fun i h1 h2 => ?_
  rw [bitsL_get, List.getElem_zipWith, bitsL_get, bitsL_get]
  exact hsB_and us vs h i
theorem hsB_cons_lt (x : Nat) (r : List Nat) (p : Nat) (h : p < 64) : hsB (x :: r) p = x.testBit p := by
  rw [hsB_test, Nat.div_eq_of_lt h, Nat.mod_eq_of_lt h]
  rfl
theorem hsB_cons_ge (x : Nat) (r : List Nat) (p : Nat) : hsB (x :: r) (64 + p) = hsB r p := by
  rw [hsB_test, hsB_test, show (64 + p) / 64 = p / 64 + 1 by omega, show (64 + p) % 64 = p % 64 by omega, List.getElem?_cons_succ]
theorem bitsL_cons (x : Nat) (r : List Nat) : bitsL (x :: r) = (List.range 64).map (fun i => x.testBit i) ++ bitsL r := by
  refine List.ext_getElem (by rw [List.length_append, bitsL_len, bitsL_len, List.length_map, List.length_range, List.length_cons]; omega) fun i h1 h2 => ?_
  rw [bitsL_get, List.getElem_append]
  by_cases h : i < 64
  · rw [dif_pos (by rw [List.length_map, List.length_range]; exact h), hsB_cons_lt x r i h, List.getElem_map, List.getElem_range]
  · rw [dif_neg (by rw [List.length_map, List.length_range]; exact h), bitsL_get]
    rw [List.length_map, List.length_range]
    have := hsB_cons_ge x r (i - 64)
    rw [show 64 + (i - 64) = i by omega] at this
    exact this
theorem cnt_test (x : Nat) : ∀ n, cntT ((List.range n).map (fun i => x.testBit i)) = popB n x
  | 0 => rfl
  | n + 1 => by
    rw [List.range_succ, List.map_append, cntT_append, cnt_test x n, popB_add, List.map_cons, List.map_nil, cntT, cntT, popB, popB, Nat.add_zero, Nat.add_zero]
    congr 1
    rw [Nat.testBit_eq_decide_div_mod_eq]
    have : x / 2 ^ n % 2 < 2 := Nat.mod_lt _ (by omega)
    by_cases e : x / 2 ^ n % 2 = 1
    · rw [e]; rfl
    · rw [show x / 2 ^ n % 2 = 0 by omega]; rfl
theorem cnt_bits : ∀ ws : List Nat, cntT (bitsL ws) = popS ws
  | [] => rfl
  | x :: r => by rw [bitsL_cons, cntT_append, cnt_test, cnt_bits r, popS]
/-! Bytes. -/
theorem pow8_succ (y j : Nat) : y % 2 ^ (j + 1) = y % 2 ^ j + (y.testBit j).toNat * 2 ^ j := by
  rw [Nat.mod_pow_succ, Nat.testBit_eq_decide_div_mod_eq, Nat.mul_comm]
  congr 2
  have : y / 2 ^ j % 2 < 2 := Nat.mod_lt _ (by omega)
  by_cases e : y / 2 ^ j % 2 = 1
  · rw [e]; rfl
  · rw [show y / 2 ^ j % 2 = 0 by omega]; rfl
/-- The number whose lowest bits are the k-th byte. -/
def yK (ws : List Nat) (k : Nat) : Nat := (ws[k / 8]?.getD 0) / 2 ^ (8 * (k % 8))
theorem yK_bit (ws : List Nat) (k j : Nat) (hj : j < 8) : (yK ws k).testBit j = hsB ws (8 * k + j) := by
  rw [hsB_test, yK, Nat.testBit_div_two_pow, show (8 * k + j) / 64 = k / 8 by omega, show (8 * k + j) % 64 = j + 8 * (k % 8) by omega]
theorem fixB_get : ∀ (n v i : Nat) (h : i < (fixB n v).length), (fixB n v)[i] = UInt8.ofNat (v / 256 ^ i)
  | 0, v, i, h => by rw [fixB_len] at h; omega
  | n + 1, v, 0, h => by
    rw [Nat.pow_zero, Nat.div_one]
    rfl
  | n + 1, v, i + 1, h => by
    have := fixB_get n (v / 256) i (by rw [fixB_len] at h ⊢; omega)
    rw [Nat.pow_succ, Nat.mul_comm, ← Nat.div_div_eq_div_mul]
    exact this
theorem flat_get : ∀ (ws : List Nat) (k : Nat) (h : k < (ws.flatMap (fixB 8)).length), (ws.flatMap (fixB 8))[k] = UInt8.ofNat (yK ws k)
  | [], k, h => by simp at h
  | x :: r, k, h => by
    have e : ∀ (l : List UInt8) (_ : l = fixB 8 x ++ r.flatMap (fixB 8)) (hk : k < l.length), l[k] = UInt8.ofNat (yK (x :: r) k) := by
      intro l hl hk
      subst hl
      rw [List.getElem_append]
      by_cases h8 : k < 8
      · rw [dif_pos (by rw [fixB_len]; exact h8), fixB_get, yK, Nat.div_eq_of_lt h8, Nat.mod_eq_of_lt h8, Nat.pow_mul]
        rfl
      · rw [dif_neg (by rw [fixB_len]; exact h8), flat_get r]
        rw [fixB_len, yK, yK, show k / 8 = (k - 8) / 8 + 1 by omega, List.getElem?_cons_succ, show (k - 8) % 8 = k % 8 by omega]
    exact e _ (List.flatMap_cons ..) h
theorem flat_take (ws : List Nat) (k : Nat) (h : k < 8 * ws.length) : (ws.flatMap (fixB 8)).take (k + 1) = (ws.flatMap (fixB 8)).take k ++ [UInt8.ofNat (yK ws k % 256)] := by
  rw [List.take_succ_eq_append_getElem (by rw [flat8_len]; exact h), flat_get]
  congr 2
  apply UInt8.toNat_inj.1
  rw [UInt8.toNat_ofNat', UInt8.toNat_ofNat']
  omega
theorem take_bytes (h k : Nat) (ws : List Nat) : (bytesF h ws).take (3 + k) = fixB 1 h ++ (fixB 2 ws.length ++ (ws.flatMap (fixB 8)).take k) := by
  unfold bytesF
  rw [List.take_append, List.take_append, fixB_len, fixB_len, List.take_of_length_le (by rw [fixB_len]; omega), List.take_of_length_le (by rw [fixB_len]; omega)]
  congr 3
  omega
theorem bytes_take (h k : Nat) (ws : List Nat) (hk : k < 8 * ws.length) : (bytesF h ws).take (3 + (k + 1)) = (bytesF h ws).take (3 + k) ++ [UInt8.ofNat (yK ws k % 256)] := by
  rw [take_bytes, take_bytes, flat_take ws k hk, List.append_assoc, List.append_assoc]
end Go.Proofs.Ytbemmhngadpjcaa
