/- The sum's table: how it is filled. -/
import Derived.Test.YtbnedlcldfpfdaaFR1
import Derived.Test.YtbnedlcldfpfdaaGE0
namespace Go.Proofs.Ytbnedlcldfpfdaa
set_option linter.unusedVariables false
set_option linter.unusedSimpArgs false
open Go.RowKit

def u32i (n : Int) : Value := .int .u32 n
def stepI (r : Int) : Int := if bits .and .u32 r 1 = 1 then bits .xor .u32 (r / 2) 2197175160 else r / 2
set_option maxRecDepth 20000 in
set_option maxHeartbeats 1000000 in
theorem step_any (r : Int) (w : World) : Calls Try.prog 42 #[.int .u32 r] w fun e w' => e = .returned (.int .u32 (stepI r)) ∧ w' = w := by
  by_cases h : bits .and .u32 r 1 = 1
  · have HS : Hid (stepI r = bits .xor .u32 (r / 2) 2197175160) := hide (by unfold stepI; rw [if_pos h])
    go_enter Try.func42, Try.ntmps42
    go_wp2
    go_ret
    exact ⟨by rw [HS.out]; rfl, rfl⟩
  · have HS : Hid (stepI r = r / 2) := hide (by unfold stepI; rw [if_neg h])
    go_enter Try.func42, Try.ntmps42
    go_wp2
    go_ret
    exact ⟨by rw [HS.out]; rfl, rfl⟩
def oneI : Nat → Int
  | 0 => 2197175160
  | k + 1 => stepI (oneI k)
def innI (t : List Int) (bit : Nat) (one : Int) : Nat → List Int
  | 0 => t
  | j + 1 => (innI t bit one j).set (bit * (2 * j + 1)) (bits .xor .u32 ((innI t bit one j)[bit * (2 * j)]?.getD 0) one)
def tabI : Nat → List Int
  | 0 => List.replicate 256 0
  | k + 1 => innI (tabI k) (128 / 2 ^ k) (oneI k) (2 ^ k)
theorem innI_len (t : List Int) (bit : Nat) (one : Int) : ∀ j, (innI t bit one j).length = t.length
  | 0 => rfl
  | j + 1 => by rw [innI, List.length_set, innI_len t bit one j]
theorem tabI_len : ∀ k, (tabI k).length = 256
  | 0 => List.length_replicate
  | k + 1 => by rw [tabI, innI_len, tabI_len k]
theorem tabI_eq : tabI 8 = tabL.map Int.ofNat := of_decide_eq_true (by kernel_rfl)
def zT : Array Value := (List.replicate 256 (u32i 0)).toArray
theorem zero_tab (W : World) : (zeroValue 64).run Try.prog W = .ok (.agg zT) W := by kernel_rfl
theorem infoTab : (Try.prog.info? 64).map (·.size) = some 256 := by kernel_rfl
theorem u32i_one (xs : List Int) : ((xs.map u32i).toArray).all (·.oneCell') = true := by simp [u32i, Value.oneCell']
theorem Blk.tabAt {w : World} {b : Nat} {xs : List Int} {t : TypeId} (h : Blk w b (xs.map u32i).toArray t) (i : Nat) (hi : i < xs.length) : w.cell? ⟨b, i, none⟩ = some (.int .u32 (xs[i]?.getD 0)) := by
  rw [h.cell]
  simp [List.getElem?_eq_getElem hi, u32i, hi]
theorem Blk.tabSet {w : World} {b : Nat} {xs : List Int} {t : TypeId} (h : Blk w b (xs.map u32i).toArray t) (i : Nat) (x : Int) : Blk (w.setCell ⟨b, i, none⟩ (.int .u32 x)) b ((xs.set i x).map u32i).toArray t := by
  have := h.set i (.int .u32 x)
  rw [List.setIfInBounds_toArray, show (Value.int .u32 x) = u32i x from rfl, ← List.map_set] at this
  exact this
/-- Where the inner loop ends. -/
theorem bit_lt (bit m j : Nat) (h : bit * m = 128) : bit * (2 * j + 1) < 256 ↔ j < m := by
  have hb : 0 < bit := Nat.pos_of_ne_zero (fun e => by rw [e] at h; omega)
  constructor
  · intro h1
    refine Nat.lt_of_not_le fun h2 => ?_
    have h3 : bit * (2 * m + 1) ≤ bit * (2 * j + 1) := Nat.mul_le_mul_left _ (by omega)
    rw [Nat.mul_add, Nat.mul_left_comm, h] at h3
    omega
  · intro h1
    have h3 : bit * (2 * j + 1) < bit * (2 * m) := Nat.mul_lt_mul_of_pos_left (by omega) hb
    rw [Nat.mul_left_comm, h] at h3
    omega
theorem bit_pow : ∀ k : Nat, k < 8 → 128 / 2 ^ k * 2 ^ k = 128 ∧ 128 / 2 ^ k / 2 = 128 / 2 ^ (k + 1) ∧ 0 < 128 / 2 ^ k ∧ 128 / 2 ^ k ≤ 128 := by decide
end Go.Proofs.Ytbnedlcldfpfdaa
