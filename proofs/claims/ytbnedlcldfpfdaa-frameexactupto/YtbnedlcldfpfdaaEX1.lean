/- The document's sums. -/
import Derived.Test.YtbnedlcldfpfdaaFR14
namespace Go.Proofs.Ytbnedlcldfpfdaa
set_option linter.unusedVariables false
set_option linter.unusedSimpArgs false
open Go.RowKit

def stN : Nat → Nat → Nat
  | 0, r => r
  | k + 1, r => stepN (stN k r)
theorem stN_lt : ∀ (k : Nat) {r : Nat}, r < 4294967296 → stN k r < 4294967296
  | 0, _, h => h
  | k + 1, _, h => step_lt (stN_lt k h)
theorem stN_8 (r : Nat) : stN 8 r = st8 r := rfl
theorem and1 (r : Nat) (h : r < 4294967296) : bits .and .u32 (r : Int) 1 = ((r % 2 : Nat) : Int) := by
  rw [show (1 : Int) = ((1 : Nat) : Int) from rfl, u32_and_nat r 1 h (by decide), show (1 : Nat) = 2 ^ 1 - 1 from rfl, Nat.and_two_pow_sub_one_eq_mod]
def NumC (w : World) (n : Nat) (e : Ending) (w' : World) : Prop := e = .returned (.int .u32 (n : Int)) ∧ w' = w
set_option maxRecDepth 20000 in
set_option maxHeartbeats 1600000 in
theorem rturned_any (w : World) (r : Nat) (hr : r < 4294967296) (x : UInt8) : Calls Try.prog 36 #[.int .u32 (r : Int), .int .u8 (x.toNat : Int)] w (NumC w (crcB r x)) := by
  have hx := x.toNat_lt
  have q0 := u32_xor_nat r x.toNat hr (by omega)
  have HC : Hid (crcB r x = stN 8 (r ^^^ x.toNat)) := hide rfl
  have hl := xor_lt32 hr (u8_lt32 x)
  obtain ⟨y, hy⟩ : ∃ y, y = x.toNat := ⟨_, rfl⟩
  rw [← hy] at q0 HC hl hx ⊢
  obtain ⟨q, hq⟩ : ∃ q, q = r ^^^ y := ⟨_, rfl⟩
  rw [← hq] at q0 HC hl
  clear hq hy
  go_enter Try.func36, Try.ntmps36
  go_wp2
  go_loopw [0, 5, 6] (fun rg i _ wr => ∃ k : Nat, rg = .int .u32 ((stN k q : Nat) : Int) ∧ i = .int .i64 k ∧ k ≤ 8 ∧ wr = w) (fun _ i _ _ => 8 - (intOf i).toNat)
  case atStart => exact ⟨0, rfl, rfl, by omega, rfl⟩
  case round =>
    obtain ⟨k, rfl, rfl, hk, rfl⟩ := hrel
    have hsl := stN_lt k hl
    have HS : Hid (stN (k + 1) q = stepN (stN k q)) := hide rfl
    by_cases hlt : k < 8
    · obtain ⟨s, hs⟩ : ∃ s, s = stN k q := ⟨_, rfl⟩
      rw [← hs] at hsl HS ⊢
      clear hs
      have hki : (k : Int) < 8 := by omega
      have q1 := and1 s hsl
      have q2 : (s : Int) / 2 = ((s / 2 : Nat) : Int) := by omega
      by_cases hm : s % 2 = 1
      · rw [hm] at q1
        have q3 := u32_xor_nat (s / 2) 2197175160 (by omega) (by decide)
        have HS2 : Hid (stN (k + 1) q = s / 2 ^^^ 2197175160) := hide (by rw [HS.out]; unfold stepN; rw [if_pos hm])
        obtain ⟨d, hd⟩ : ∃ d, d = s / 2 := ⟨_, rfl⟩
        rw [← hd] at q2 q3 HS2
        obtain ⟨z, hz⟩ : ∃ z, z = d ^^^ 2197175160 := ⟨_, rfl⟩
        rw [← hz] at q3 HS2
        have q4 : bits .xor .u32 (d : Int) 2197175160 = (z : Int) := q3
        clear hd hz hm q3
        go_wp2
        refine ⟨⟨k + 1, by rw [HS2.out], by go_num, by omega, by trivial⟩, by simp [intOf]; omega⟩
      · have hm0 : s % 2 = 0 := by omega
        rw [hm0] at q1
        have HS2 : Hid (stN (k + 1) q = s / 2) := hide (by rw [HS.out]; unfold stepN; rw [if_neg hm])
        obtain ⟨d, hd⟩ : ∃ d, d = s / 2 := ⟨_, rfl⟩
        rw [← hd] at q2 HS2
        clear hd hm hm0
        go_wp2
        refine ⟨⟨k + 1, by rw [HS2.out], by go_num, by omega, by trivial⟩, by simp [intOf]; omega⟩
    · obtain rfl : k = 8 := by omega
      rw [← HC.out]
      go_wp2
      go_ret
      exact ⟨rfl, rfl⟩
set_option maxRecDepth 20000 in
set_option maxHeartbeats 1600000 in
theorem rmore_any (w : World) (s : Nat) (hs : s < 4294967296) (v : Value) (xs : List UInt8) (hv : RdA w v xs) : Calls Try.prog 24 #[.int .u32 (s : Int), v] w (NumC w (moreN s xs)) := by
  have HV := hide hv
  obtain ⟨ao, c, rfl, hl63⟩ := hv.slice
  have hn0 := not_nat s hs
  obtain ⟨r0, hr0⟩ : ∃ r0, r0 = 4294967295 - s := ⟨_, rfl⟩
  rw [← hr0] at hn0
  have HR0 := hide hr0
  clear hv hr0
  go_enter Try.func24, Try.ntmps24
  go_wp2
  go_loopw [5, 6] (fun reg i wr => ∃ k : Nat, reg = .int .u32 ((regL r0 (xs.take k) : Nat) : Int) ∧ i = .int .i64 k ∧ k ≤ xs.length ∧ wr = w) (fun _ i _ => xs.length - (intOf i).toNat)
  case atStart => exact ⟨0, by simp [regL], rfl, by omega, rfl⟩
  case round =>
    obtain ⟨k, rfl, rfl, hk, rfl⟩ := hrel
    have hrl := regL_lt (xs.take k) (r := r0) (by rw [HR0.out]; omega)
    by_cases hlt : k < xs.length
    · have hki : (k : Int) < xs.length := by omega
      obtain ⟨bz, bo, cc, he, hcell⟩ := HV.out.at k hlt
      cases he
      have HS := hide (regL_snoc r0 xs k hlt)
      obtain ⟨x, hx⟩ : ∃ x, x = xs[k] := ⟨_, rfl⟩
      obtain ⟨r, hr⟩ : ∃ r, r = regL r0 (xs.take k) := ⟨_, rfl⟩
      rw [← hx, ← hr] at HS
      rw [← hx] at hcell
      rw [← hr] at hrl ⊢
      clear hr hx
      go_wp2_with fail
      refine (rturned_any wr r hrl x).mono ?_
      rintro e w' ⟨rfl, rfl⟩
      go_wp2
      refine ⟨⟨k + 1, by rw [HS.out], by go_num, by omega, by trivial⟩, by simp [intOf]; omega⟩
    · obtain rfl : k = xs.length := by omega
      have hki : ¬ (xs.length : Int) < xs.length := by omega
      rw [List.take_length] at hrl ⊢
      have hn1 := not_nat _ hrl
      have HM : Hid (moreN s xs = 4294967295 - regL r0 xs) := hide (by unfold moreN; rw [HR0.out])
      obtain ⟨r, hr⟩ : ∃ r, r = regL r0 xs := ⟨_, rfl⟩
      rw [← hr] at hn1 HM ⊢
      obtain ⟨z, hz⟩ : ∃ z, z = 4294967295 - r := ⟨_, rfl⟩
      rw [← hz] at hn1 HM
      clear hr hz
      go_wp2
      go_ret
      exact ⟨by rw [HM.out]; rfl, rfl⟩
set_option maxRecDepth 20000 in
set_option maxHeartbeats 1600000 in
theorem rcrc_any (w : World) (v : Value) (xs : List UInt8) (hv : RdA w v xs) : Calls Try.prog 23 #[v] w (NumC w (moreN 0 xs)) := by
  have H := hide (rmore_any w 0 (by omega) v xs hv)
  clear hv
  go_enter Try.func23, Try.ntmps23
  go_wp2_with fail
  refine H.out.mono ?_
  rintro e w' ⟨rfl, rfl⟩
  go_wp2
  go_ret
  exact ⟨rfl, rfl⟩
end Go.Proofs.Ytbnedlcldfpfdaa
