/- Signs and digits: strings.IndexByte at the sixteen digits; value, digitsAlone, digit. -/
import Derived.Test.YtjmjnecobaoofaaKD0
import Derived.Test.YtjmjnecobaoofaaKP1
namespace Go.Proofs.Ytjmjnecobaoofaa
set_option linter.unusedVariables false
set_option linter.unusedSimpArgs false
open Go.RowKit

set_option maxRecDepth 20000 in
set_option maxHeartbeats 1000000 in
theorem slIndex_any (s : ByteArray) (c : Int) (w : World) : Calls Try.prog 56 #[.string s, .int .u8 c] w fun e w' => e = .returned (.int .i64 (Lib.indexByte s.data.toList c.toNat.toUInt8)) ∧ w' = w := by
  go_enter Try.func56, Try.ntmps56
  go_wp2
  rw [run_callFunc_extern Try.func60 (by kernel_rfl) (by kernel_rfl) (by kernel_rfl) (e := Extern.BytealgIndexByte.indexByte) (by kernel_rfl), Lib.run_indexByteString]
  simp only [Result.andThen]
  rw [Oper.upon_value]
  go_wp2
  go_ret
  exact ⟨rfl, rfl⟩
set_option maxRecDepth 20000 in
set_option maxHeartbeats 1000000 in
theorem sIndex_any (s : ByteArray) (c : Int) (w : World) : Calls Try.prog 48 #[.string s, .int .u8 c] w fun e w' => e = .returned (.int .i64 (Lib.indexByte s.data.toList c.toNat.toUInt8)) ∧ w' = w := by
  go_enter Try.func48, Try.ntmps48
  go_wp2_with fail
  refine (slIndex_any s c w).mono ?_
  rintro e w' ⟨rfl, rfl⟩
  go_wp2
  go_ret
  exact ⟨rfl, rfl⟩
theorem byte_back (c : UInt8) : ((c.toNat : Int).toNat).toUInt8 = c := by
  rw [Int.toNat_natCast]; exact UInt8.ofNat_toNat
theorem sIndex_hex (c : UInt8) (w : World) : Calls Try.prog 48 #[.string ⟨#[48, 49, 50, 51, 52, 53, 54, 55, 56, 57, 97, 98, 99, 100, 101, 102]⟩, .int .u8 (c.toNat : Int)] w fun e w' => e = .returned (.int .i64 (sgn c)) ∧ w' = w := by
  have := sIndex_any ⟨#[48, 49, 50, 51, 52, 53, 54, 55, 56, 57, 97, 98, 99, 100, 101, 102]⟩ (c.toNat : Int) w
  rw [byte_back] at this
  exact this
set_option maxRecDepth 20000 in
set_option maxHeartbeats 1000000 in
theorem value_any (c : UInt8) (hc : 0 ≤ sgn c) (w : World) : Calls Try.prog 28 #[.int .u8 (c.toNat : Int)] w fun e w' => e = .returned (.int .u8 (((sgn c).toNat : Nat) : Int)) ∧ w' = w := by
  have hr := sgn_range c
  obtain ⟨n, hn⟩ : ∃ n : Nat, sgn c = (n : Int) := ⟨(sgn c).toNat, by omega⟩
  have HC := hide (sIndex_hex c w)
  rw [hn] at HC hr hc ⊢
  clear hn
  go_enter Try.func28, Try.ntmps28
  go_wp2_with fail
  refine HC.out.mono ?_
  rintro e w' ⟨rfl, rfl⟩
  go_wp2
  go_ret
  exact ⟨rfl, rfl⟩
set_option maxRecDepth 20000 in
set_option maxHeartbeats 1000000 in
theorem digits_any (s : List UInt8) (hs : s.length ≤ 9223372036854775807) (w : World) : Calls Try.prog 27 #[.string ⟨s.toArray⟩] w fun e w' => e = .returned (.bool (allDig s)) ∧ w' = w := by
  go_enter Try.func27, Try.ntmps27
  go_wp2
  go_loopw [6] (fun i wr => ∃ k : Nat, i = .int .i64 k ∧ k ≤ s.length ∧ allDig (s.take k) = true ∧ wr = w) (fun i _ => s.length - (intOf i).toNat)
  case atStart => exact ⟨0, rfl, by omega, rfl, rfl⟩
  case round =>
    obtain ⟨k, rfl, hk, hd, rfl⟩ := hrel
    by_cases hlt : k < s.length
    · have hat : s[k]? = some s[k] := List.getElem?_eq_getElem hlt
      obtain ⟨c, hc⟩ : ∃ c, c = s[k] := ⟨_, rfl⟩
      rw [← hc] at hat
      have HX := hide (fun (v : Int) (hv : v = (c.toNat : Int)) => hv ▸ sIndex_hex c wr)
      have HC := hide hc
      have hnx : allDig (s.take (k + 1)) = (allDig (s.take k) && decide (0 ≤ sgn c)) := by
        unfold allDig
        rw [List.take_succ_eq_append_getElem hlt, List.all_append, ← hc]; simp
      have hal : allDig s = true → 0 ≤ sgn c := by
        intro h
        have := List.all_eq_true.1 h s[k] (List.getElem_mem _)
        rw [hc]
        exact of_decide_eq_true this
      by_cases hg : 0 ≤ sgn c
      · have hg2 : ¬ sgn c < 0 := by omega
        have HD : Hid (allDig (s.take (k + 1)) = true) := hide (by rw [hnx, hd]; simpa using hg)
        clear hnx hal hd
        clear hc
        go_wp2_with fail
        refine (HX.out _ (by rw [HC.out]; rfl)).mono ?_
        rintro e w' ⟨rfl, rfl⟩
        go_wp2
        exact ⟨⟨k + 1, by go_num, by omega, HD.out, by trivial⟩, by simp [intOf]; omega⟩
      · have hg2 : sgn c < 0 := by omega
        have HD : Hid (allDig s = false) := by
          cases h : allDig s with
          | false => exact rfl
          | true => exact absurd (hal h) hg
        clear hnx hal hd
        clear hc
        go_wp2_with fail
        refine (HX.out _ (by rw [HC.out]; rfl)).mono ?_
        rintro e w' ⟨rfl, rfl⟩
        go_wp2
        go_ret
        exact ⟨by rw [HD.out]; rfl, rfl⟩
    · have hn2 : ¬ (k : Int) < s.length := by omega
      have HD : Hid (allDig s = true) := by rw [List.take_of_length_le (by omega)] at hd; exact hd
      clear hd
      go_wp2
      go_ret
      exact ⟨by rw [HD.out]; rfl, rfl⟩
theorem dig_at (n : Nat) (h : n < 16) : ((⟨#[48, 49, 50, 51, 52, 53, 54, 55, 56, 57, 97, 98, 99, 100, 101, 102]⟩ : ByteArray)[n]'h) = dig n := by
  unfold dig
  rw [List.getD_eq_getElem?_getD, List.getElem?_eq_getElem (show n < hexD.length from h)]; rfl
set_option maxRecDepth 20000 in
set_option maxHeartbeats 1000000 in
theorem digit_any (k : List UInt8) (hk : k.length = 32) (i : Nat) (hi : i < 64) (w : World) : Calls Try.prog 26 #[keyV k, .int .i64 (i : Int)] w fun e w' => e = .returned (.int .u8 ((digitAt k i).toNat : Int)) ∧ Below w.heap.size w w' := by
  unfold keyV
  obtain ⟨b, hb⟩ : ∃ b, k[i / 2]? = some b := ⟨_, List.getElem?_eq_getElem (by omega)⟩
  have hb2 : Option.map u8c k[i / 2]? = some (.int .u8 (b.toNat : Int)) := by rw [hb]; rfl
  have HB := hide hb
  have HX := hide (Below.refl w.heap.size w)
  clear hb
  obtain ⟨n, hn⟩ : ∃ n, n = (if i % 2 = 0 then b.toNat / 16 else b.toNat % 16) := ⟨_, rfl⟩
  have hb256 := b.toNat_lt
  have hn16 : n < 16 := by rw [hn]; split <;> omega
  have hat : digitAt k i = dig n := by
    unfold digitAt
    rw [List.getD_eq_getElem?_getD, HB.out, hn]; rfl
  rw [hat]
  have hbit : ∀ m : Nat, m < 256 → bits .and .u8 (m : Int) 15 = ((m % 16 : Nat) : Int) := of_decide_eq_true (by kernel_rfl)
  have HAT := hide hat
  clear hat
  by_cases he : i % 2 = 0
  · have he2 : (i : Int) % 2 = 0 := by omega
    rw [if_pos he] at hn
    have hq : (b.toNat : Int) / 16 = (n : Int) := by omega
    have hand := hbit n (by omega)
    rw [Nat.mod_eq_of_lt hn16] at hand
    clear hbit hn
    go_enter Try.func26, Try.ntmps26
    go_wp2
    go_ret
    exact ⟨congrArg (fun c : UInt8 => Ending.returned (Value.int .u8 (c.toNat : Int))) (dig_at n hn16), HX.out.alloc (Nat.le_refl _) _⟩
  · have he2 : ¬ (i : Int) % 2 = 0 := by omega
    rw [if_neg he] at hn
    have hand := hbit b.toNat (by omega)
    rw [← hn] at hand
    clear hbit hn
    go_enter Try.func26, Try.ntmps26
    go_wp2
    go_ret
    exact ⟨congrArg (fun c : UInt8 => Ending.returned (Value.int .u8 (c.toNat : Int))) (dig_at n hn16), HX.out.alloc (Nat.le_refl _) _⟩
end Go.Proofs.Ytjmjnecobaoofaa
