/- End, and the calls on a nil Dec. -/
import Derived.Test.YtinjcefekbpabaaD7
import Derived.Test.YtinjcefekbpabaaD8
namespace Go.Proofs.Ytinjcefekbpabaa
set_option linter.unusedVariables false
set_option linter.unusedSimpArgs false
open Go.RowKit

/-- What End answers. -/
def endV (bs : List UInt8) (s : S) : Value :=
  if s.code ≠ 0 then .iface 90 (.agg #[.int .i64 s.fat, .int .i64 s.code])
  else if s.p < bs.length then .iface 90 (.agg #[.int .i64 s.p, .int .i64 13]) else .nilIface

theorem end_nil (w : World) : Calls Try.prog 22 #[.pointer none] w fun e w' => e = .returned (.iface 90 (.agg #[.int .i64 0, .int .i64 1])) ∧ w' = w := by
  go_enter Try.func22, Try.ntmps22
  go_wp2
  go_ret
  exact ⟨rfl, rfl⟩
set_option maxHeartbeats 800000 in
theorem end_st (w : World) (z : Nat) (sv : Value) (bs : List UInt8) (s : S) (h : DecSt w z sv bs s) : Calls Try.prog 22 #[.pointer (some ⟨z, 0, none⟩)] w fun e w' => e = .returned (endV bs s) ∧ ∃ m, w' = w.drewN m := by
  obtain ⟨v, hv⟩ : ∃ v, endV bs s = v := ⟨_, rfl⟩
  rw [hv]
  unfold endV at hv
  have HV := hide hv
  clear hv
  have HO := hide (fun w h => over_st w z sv bs s h)
  have HL := hide (fun w h => left_st w z sv bs s h)
  have c1 := h.2.2.c1
  have c2 := h.2.2.c2
  have c3 := h.2.2.c3
  by_cases hc : s.code = 0
  · have hd : decide (s.code ≠ 0) = false := by simp [hc]
    by_cases hp : s.p < bs.length
    · have hl : mLeft bs s = bs.length - s.p := by rw [mLeft, if_neg (by omega)]
      have hpos : (0 : Int) < (mLeft bs s : Int) := by rw [hl]; omega
      have hV : v = .iface 90 (.agg #[.int .i64 s.p, .int .i64 13]) := by rw [← HV.out, if_neg (by omega), if_pos hp]
      subst hV
      clear hc hl
      generalize mLeft bs s = l at HL hpos
      go_enter Try.func22, Try.ntmps22
      go_wp2_with fail
      refine (HO.out _ h).mono ?_
      rintro e w' ⟨rfl, rfl⟩
      rw [hd]
      go_wp2_with fail
      refine (HL.out _ h).mono ?_
      rintro e w' ⟨rfl, m, rfl⟩
      go_wp2
      go_ret
      exact ⟨rfl, m, rfl⟩
    · have hl : mLeft bs s = 0 := by rw [mLeft, if_neg (by omega)]; omega
      have hV : v = .nilIface := by rw [← HV.out, if_neg (by omega), if_neg hp]
      subst hV
      clear hc
      rw [hl] at HL
      go_enter Try.func22, Try.ntmps22
      go_wp2_with fail
      refine (HO.out _ h).mono ?_
      rintro e w' ⟨rfl, rfl⟩
      rw [hd]
      go_wp2_with fail
      refine (HL.out _ h).mono ?_
      rintro e w' ⟨rfl, m, rfl⟩
      go_wp2
      go_ret
      exact ⟨rfl, m, rfl⟩
  · have hd : decide (s.code ≠ 0) = true := by simp [hc]
    have hV : v = .iface 90 (.agg #[.int .i64 s.fat, .int .i64 s.code]) := by rw [← HV.out, if_pos hc]
    subst hV
    clear hc
    go_enter Try.func22, Try.ntmps22
    go_wp2_with fail
    refine (HO.out _ h).mono ?_
    rintro e w' ⟨rfl, rfl⟩
    rw [hd]
    go_wp2
    go_ret
    exact ⟨rfl, 0, rfl⟩

theorem take_nil_int8 (w : World) : Calls Try.prog 48 #[.pointer none] w fun e w' => e = .returned (.int .i8 0) ∧ w' = w := by
  go_enter Try.func48, Try.ntmps48
  go_wp2_with (first | (go_at_call 24; refine (at_nil _).mono ?_; rintro e w' ⟨rfl, rfl⟩) | (go_at_call 67; refine (width_int8 _).mono ?_; rintro e w' ⟨rfl, rfl⟩) | (go_at_call 64; refine (next_nil _ _ _).mono ?_; rintro e w' ⟨rfl, rfl⟩))
  go_rounds 1
  go_ret
  exact ⟨rfl, rfl⟩
end Go.Proofs.Ytinjcefekbpabaa
