/- Take of whole numbers from a Dec. -/
import Derived.Test.YtbemmhngadpjcaaWD1
namespace Go.Proofs.Ytbemmhngadpjcaa
set_option linter.unusedVariables false
set_option linter.unusedSimpArgs false
open Go.RowKit

set_option maxHeartbeats 4000000 in
theorem width_uint8 (w : World) : Calls Try.prog 64 #[] w fun e w' => e = .returned (.int .i64 1) ∧ w' = w := by
  go_enter Try.func64, Try.ntmps64
  go_wp2
  go_rounds 9
  go_ret
  exact ⟨rfl, rfl⟩

set_option maxHeartbeats 4000000 in
theorem width_uint16 (w : World) : Calls Try.prog 65 #[] w fun e w' => e = .returned (.int .i64 2) ∧ w' = w := by
  go_enter Try.func65, Try.ntmps65
  go_wp2
  go_rounds 17
  go_ret
  exact ⟨rfl, rfl⟩

set_option maxHeartbeats 4000000 in
theorem width_uint64 (w : World) : Calls Try.prog 67 #[] w fun e w' => e = .returned (.int .i64 8) ∧ w' = w := by
  go_enter Try.func67, Try.ntmps67
  go_wp2
  go_rounds 65
  go_ret
  exact ⟨rfl, rfl⟩


def FixC (kind : IntKind) (w : World) (z : Nat) (sv : Value) (bs : List UInt8) (r : Option (List UInt8) × S) (e : Ending) (w' : World) : Prop :=
  e = .returned (.int kind (kind.wrap (leNat (r.1.getD [])))) ∧ DecSt w' z sv bs r.2 ∧ w.grownBy w' (some z)

set_option maxRecDepth 20000 in
set_option maxHeartbeats 1600000 in
theorem take_uint8 (w : World) (z : Nat) (sv : Value) (bs : List UInt8) (s : S) (h : DecSt w z sv bs s) :
    Calls Try.prog 44 #[.pointer (some ⟨z, 0, none⟩)] w (FixC .u8 w z sv bs (mNext bs s (mPlace s) 1)) := by
  have HA := hide (fun w h => at_st w z sv bs s h)
  have HN := hide (fun w h => next_st w z sv bs s (mPlace s) 1 h)
  have hxl := mNext_few bs s (mPlace s) 1
  generalize mNext bs s (mPlace s) 1 = r at HN hxl ⊢
  generalize mPlace s = q at HA HN
  obtain ⟨r1, r2⟩ := r
  go_enter Try.func44, Try.ntmps44
  go_wp2_with fail
  refine (HA.out _ h).mono ?_
  rintro e w' ⟨rfl, rfl⟩
  go_wp2_with fail
  refine (width_uint8 _).mono ?_
  rintro e w' ⟨rfl, rfl⟩
  go_wp2_with fail
  refine (HN.out _ h).mono ?_
  rintro e w1 ⟨⟨v, rfl, hv, hrd⟩, hd, hg⟩
  clear hv HA HN
  obtain ⟨xs, hxs⟩ : ∃ xs, r1.getD [] = xs := ⟨_, rfl⟩
  simp only [hxs] at hxl hrd
  have HXS := hide hxs
  clear hxs
  obtain ⟨ao, c, rfl, hc, hm, hcel⟩ := hrd
  have HC := hide hcel
  clear hcel
  go_wp2
  go_loop [5, 18] (fun v i => ∃ k : Nat, k ≤ xs.length ∧ i = .int .i64 k ∧ v = .int .u64 (leNat (xs.take k) : Nat)) (fun _ i => xs.length - (intOf i).toNat)
  case atStart => exact ⟨0, Nat.zero_le _, rfl, by simp [leNat]⟩
  case round =>
    obtain ⟨k, hk, rfl, rfl⟩ := hrel
    by_cases hlt : k < xs.length
    · obtain ⟨b, o, rfl, hcell⟩ : ∃ b o, ao = some ⟨b, o, none⟩ ∧ ∀ i (h : i < xs.length), w1.cell? ⟨b, o + i, none⟩ = some (u8c xs[i]) := by
        rcases HC.out with ⟨_, h⟩ | h
        · omega
        · exact h
      have hck := hcell k hlt
      have HS := hide (le_step xs k hlt (by omega))
      clear hcell HC
      unfold u8c at hck
      obtain ⟨y, hy⟩ : ∃ y, y = xs[k].toNat := ⟨_, rfl⟩
      have hyb : y < 256 := by rw [hy]; exact xs[k].toNat_lt
      rw [← hy] at hck HS
      clear hy
      obtain ⟨x, hx⟩ : ∃ x, x = leNat (xs.take k) := ⟨_, rfl⟩
      rw [← hx] at HS ⊢
      clear hx
      go_wp2
      go_round
      case rel => exact ⟨k + 1, by omega, by go_num, by rw [HS.out]⟩
      case measure => simp [intOf]; omega
    · go_wp2
      go_ret
      unfold FixC
      simp only [HXS.out]
      refine ⟨congrArg (fun q : Nat => Ending.returned (.int .u8 (IntKind.u8.wrap q))) (by rw [List.take_of_length_le (by omega)]), hd, hg⟩

set_option maxRecDepth 20000 in
set_option maxHeartbeats 1600000 in
theorem take_uint16 (w : World) (z : Nat) (sv : Value) (bs : List UInt8) (s : S) (h : DecSt w z sv bs s) :
    Calls Try.prog 45 #[.pointer (some ⟨z, 0, none⟩)] w (FixC .u16 w z sv bs (mNext bs s (mPlace s) 2)) := by
  have HA := hide (fun w h => at_st w z sv bs s h)
  have HN := hide (fun w h => next_st w z sv bs s (mPlace s) 2 h)
  have hxl := mNext_few bs s (mPlace s) 2
  generalize mNext bs s (mPlace s) 2 = r at HN hxl ⊢
  generalize mPlace s = q at HA HN
  obtain ⟨r1, r2⟩ := r
  go_enter Try.func45, Try.ntmps45
  go_wp2_with fail
  refine (HA.out _ h).mono ?_
  rintro e w' ⟨rfl, rfl⟩
  go_wp2_with fail
  refine (width_uint16 _).mono ?_
  rintro e w' ⟨rfl, rfl⟩
  go_wp2_with fail
  refine (HN.out _ h).mono ?_
  rintro e w1 ⟨⟨v, rfl, hv, hrd⟩, hd, hg⟩
  clear hv HA HN
  obtain ⟨xs, hxs⟩ : ∃ xs, r1.getD [] = xs := ⟨_, rfl⟩
  simp only [hxs] at hxl hrd
  have HXS := hide hxs
  clear hxs
  obtain ⟨ao, c, rfl, hc, hm, hcel⟩ := hrd
  have HC := hide hcel
  clear hcel
  go_wp2
  go_loop [5, 18] (fun v i => ∃ k : Nat, k ≤ xs.length ∧ i = .int .i64 k ∧ v = .int .u64 (leNat (xs.take k) : Nat)) (fun _ i => xs.length - (intOf i).toNat)
  case atStart => exact ⟨0, Nat.zero_le _, rfl, by simp [leNat]⟩
  case round =>
    obtain ⟨k, hk, rfl, rfl⟩ := hrel
    by_cases hlt : k < xs.length
    · obtain ⟨b, o, rfl, hcell⟩ : ∃ b o, ao = some ⟨b, o, none⟩ ∧ ∀ i (h : i < xs.length), w1.cell? ⟨b, o + i, none⟩ = some (u8c xs[i]) := by
        rcases HC.out with ⟨_, h⟩ | h
        · omega
        · exact h
      have hck := hcell k hlt
      have HS := hide (le_step xs k hlt (by omega))
      clear hcell HC
      unfold u8c at hck
      obtain ⟨y, hy⟩ : ∃ y, y = xs[k].toNat := ⟨_, rfl⟩
      have hyb : y < 256 := by rw [hy]; exact xs[k].toNat_lt
      rw [← hy] at hck HS
      clear hy
      obtain ⟨x, hx⟩ : ∃ x, x = leNat (xs.take k) := ⟨_, rfl⟩
      rw [← hx] at HS ⊢
      clear hx
      go_wp2
      go_round
      case rel => exact ⟨k + 1, by omega, by go_num, by rw [HS.out]⟩
      case measure => simp [intOf]; omega
    · go_wp2
      go_ret
      unfold FixC
      simp only [HXS.out]
      refine ⟨congrArg (fun q : Nat => Ending.returned (.int .u16 (IntKind.u16.wrap q))) (by rw [List.take_of_length_le (by omega)]), hd, hg⟩

set_option maxRecDepth 20000 in
set_option maxHeartbeats 1600000 in
theorem take_uint64 (w : World) (z : Nat) (sv : Value) (bs : List UInt8) (s : S) (h : DecSt w z sv bs s) :
    Calls Try.prog 47 #[.pointer (some ⟨z, 0, none⟩)] w (FixC .u64 w z sv bs (mNext bs s (mPlace s) 8)) := by
  have HA := hide (fun w h => at_st w z sv bs s h)
  have HN := hide (fun w h => next_st w z sv bs s (mPlace s) 8 h)
  have hxl := mNext_few bs s (mPlace s) 8
  generalize mNext bs s (mPlace s) 8 = r at HN hxl ⊢
  generalize mPlace s = q at HA HN
  obtain ⟨r1, r2⟩ := r
  go_enter Try.func47, Try.ntmps47
  go_wp2_with fail
  refine (HA.out _ h).mono ?_
  rintro e w' ⟨rfl, rfl⟩
  go_wp2_with fail
  refine (width_uint64 _).mono ?_
  rintro e w' ⟨rfl, rfl⟩
  go_wp2_with fail
  refine (HN.out _ h).mono ?_
  rintro e w1 ⟨⟨v, rfl, hv, hrd⟩, hd, hg⟩
  clear hv HA HN
  obtain ⟨xs, hxs⟩ : ∃ xs, r1.getD [] = xs := ⟨_, rfl⟩
  simp only [hxs] at hxl hrd
  have HXS := hide hxs
  clear hxs
  obtain ⟨ao, c, rfl, hc, hm, hcel⟩ := hrd
  have HC := hide hcel
  clear hcel
  go_wp2
  go_loop [5, 18] (fun v i => ∃ k : Nat, k ≤ xs.length ∧ i = .int .i64 k ∧ v = .int .u64 (leNat (xs.take k) : Nat)) (fun _ i => xs.length - (intOf i).toNat)
  case atStart => exact ⟨0, Nat.zero_le _, rfl, by simp [leNat]⟩
  case round =>
    obtain ⟨k, hk, rfl, rfl⟩ := hrel
    by_cases hlt : k < xs.length
    · obtain ⟨b, o, rfl, hcell⟩ : ∃ b o, ao = some ⟨b, o, none⟩ ∧ ∀ i (h : i < xs.length), w1.cell? ⟨b, o + i, none⟩ = some (u8c xs[i]) := by
        rcases HC.out with ⟨_, h⟩ | h
        · omega
        · exact h
      have hck := hcell k hlt
      have HS := hide (le_step xs k hlt (by omega))
      clear hcell HC
      unfold u8c at hck
      obtain ⟨y, hy⟩ : ∃ y, y = xs[k].toNat := ⟨_, rfl⟩
      have hyb : y < 256 := by rw [hy]; exact xs[k].toNat_lt
      rw [← hy] at hck HS
      clear hy
      obtain ⟨x, hx⟩ : ∃ x, x = leNat (xs.take k) := ⟨_, rfl⟩
      rw [← hx] at HS ⊢
      clear hx
      go_wp2
      go_round
      case rel => exact ⟨k + 1, by omega, by go_num, by rw [HS.out]⟩
      case measure => simp [intOf]; omega
    · go_wp2
      go_ret
      unfold FixC
      simp only [HXS.out]
      refine ⟨congrArg (fun q : Int => Ending.returned (.int .u64 q)) ?_, hd, hg⟩
      rw [List.take_of_length_le (by omega), IntKind.wrap_u64]
      have := leNat_lt xs 8 hxl
      omega

end Go.Proofs.Ytbemmhngadpjcaa
