/- Does a piece end here: the document's way; its first piece. -/
import Derived.Test.YtamajnaeladehaaDoorGF5
namespace Go.Proofs.YtamajnaeladehaaDoor
set_option linter.unusedVariables false
set_option linter.unusedSimpArgs false
open Go.RowKit

theorem bound_next (k : Nat) (h : k < 63) : IntKind.u64.wrap (((2 ^ k : Nat) : Int) * 2) = ((2 ^ (k + 1) : Nat) : Int) := by
  have h1 : 2 ^ (k + 1) < 2 ^ 64 := Nat.pow_lt_pow_right (by omega) (by omega)
  rw [IntKind.wrap_u64]
  rw [Nat.pow_succ] at h1 ⊢
  generalize 2 ^ k = p at h1 ⊢
  omega
/-- What the walk leaves behind the choice of places. -/
def EndC (w : World) (mn me mx : Int) (xs : List UInt8) (e : Ending) (w' : World) : Prop := e = .returned (.bool (endB mn me mx (rollL xs) xs.length)) ∧ Below w.heap.size w w'
set_option maxRecDepth 20000 in
set_option maxHeartbeats 1000000 in
theorem ended_any (w : World) (mn me mx : Int) (hm : mayB mn me mx = true) (v : Value) (xs : List UInt8) (hv : RdA w v xs) : Calls Tryd.prog 30 #[cutV mn me mx, v] w (EndC w mn me mx xs) := by
  have HR := hide hv
  obtain ⟨ao, c, rfl, hxl⟩ := hv.slice
  have HB0 := hide ((Below.refl w.heap.size w).alloc (Nat.le_refl _) (.cells #[.int .i64 mn, .int .i64 me, .int .i64 mx] 23))
  have HL0 := hide (Blk.made w #[.int .i64 mn, .int .i64 me, .int .i64 mx] 23)
  unfold cutV
  obtain ⟨h1, h2, h3, h4, h5⟩ := may_mx hm
  obtain ⟨-, -, p1, p2, -⟩ := pw_range me h5
  have HPw := hide (fun w => power_any me w)
  have HEB : Hid (endB mn me mx (rollL xs) xs.length = if mx ≤ (xs.length : Int) then true else if (xs.length : Int) < mn then false else if (xs.length : Int) < me then decide (rollL xs < 2 ^ (63 - pw me)) else decide (rollL xs < 2 ^ (65 - pw me))) := hide (by unfold endB; with_reducible rfl)
  obtain ⟨n, hn⟩ : ∃ n, n = xs.length := ⟨_, rfl⟩
  rw [← hn] at hxl HEB ⊢
  obtain ⟨p, hp⟩ : ∃ p, p = pw me := ⟨_, rfl⟩
  rw [← hp] at HPw HEB p1 p2
  have HN := hide hn
  clear hn hp hv hm h5
  by_cases q1 : mx ≤ (n : Int)
  · have HF : Hid (endB mn me mx (rollL xs) n = true) := hide (by rw [HEB.out, if_pos q1])
    go_enter Tryd.func30, Tryd.ntmps30
    go_wp2
    go_ret
    exact ⟨by rw [← HN.out, HF.out]; rfl, HB0.out⟩
  by_cases q2 : (n : Int) < mn
  · have HF : Hid (endB mn me mx (rollL xs) n = false) := hide (by rw [HEB.out, if_neg q1, if_pos q2])
    go_enter Tryd.func30, Tryd.ntmps30
    go_wp2
    go_ret
    exact ⟨by rw [← HN.out, HF.out]; rfl, HB0.out⟩
  by_cases q3 : me ≤ (n : Int)
  · have HF : Hid (endB mn me mx (rollL xs) n = decide (rollL xs < 2 ^ (65 - p))) := hide (by rw [HEB.out, if_neg q1, if_neg q2, if_neg (by omega)])
    obtain ⟨pl, hpl⟩ : ∃ pl, pl = 65 - p := ⟨_, rfl⟩
    have hpi : (65 : Int) - p = (pl : Int) := by omega
    have hpw : IntKind.i64.wrap (pl : Int) = pl := by simp [IntKind.wrap, IntKind.bits, IntKind.signed]; omega
    have hp63 : (63 : Int) - p = ((pl - 2 : Nat) : Int) := by omega
    have hpl2 : pl ≤ 63 := by omega
    rw [← hpl] at HF
    clear hpl
    go_enter Tryd.func30, Tryd.ntmps30
    go_wp2_with fail
    refine (HPw.out _).mono ?_
    rintro e w1 ⟨rfl, rfl⟩
    go_wp2
    go_loopw [7, 9] (fun bv i wr => ∃ k : Nat, i = .int .i64 k ∧ k ≤ pl ∧ bv = .int .u64 ((2 ^ k : Nat) : Int) ∧ wr = w.alloc (.cells #[.int .i64 mn, .int .i64 me, .int .i64 mx] 23)) (fun _ i _ => pl - (intOf i).toNat)
    case atStart => exact ⟨0, rfl, by omega, rfl, rfl⟩
    case round =>
      obtain ⟨k, rfl, hk, rfl, rfl⟩ := hrel
      by_cases hlt : k < pl
      · have hki : (k : Int) < pl := by omega
        have HBn := hide (bound_next k (by omega))
        obtain ⟨b, hb⟩ : ∃ b, b = 2 ^ k := ⟨_, rfl⟩
        rw [← hb] at HBn ⊢
        clear hb
        go_wp2
        exact ⟨⟨k + 1, by go_num, by omega, by rw [HBn.out], by trivial⟩, by simp [intOf]; omega⟩
      · have hki : ¬ (k : Int) < pl := by omega
        obtain rfl : k = pl := by omega
        have HRo := hide (rolled_any _ _ xs (HR.out.below HB0.out))
        rw [← HN.out] at HRo
        obtain ⟨b, hb⟩ : ∃ b, b = 2 ^ k := ⟨_, rfl⟩
        obtain ⟨r, hr⟩ : ∃ r, r = rollL xs := ⟨_, rfl⟩
        rw [← hb, ← hr] at HF
        rw [← hr] at HRo
        rw [← hb]
        have HRr := hide hr
        clear hb hr
        go_wp2_with fail
        refine HRo.out.mono ?_
        rintro e w2 ⟨rfl, rfl⟩
        go_wp2
        go_ret
        refine ⟨?_, HB0.out⟩
        rw [← HN.out, ← HRr.out, HF.out]
        rfl
  · have HF : Hid (endB mn me mx (rollL xs) n = decide (rollL xs < 2 ^ (63 - p))) := hide (by rw [HEB.out, if_neg q1, if_neg q2, if_pos (by omega)])
    obtain ⟨pl, hpl⟩ : ∃ pl, pl = 63 - p := ⟨_, rfl⟩
    have hpi : (63 : Int) - p = (pl : Int) := by omega
    have hpw : IntKind.i64.wrap (pl : Int) = pl := by simp [IntKind.wrap, IntKind.bits, IntKind.signed]; omega
    have hpl2 : pl ≤ 63 := by omega
    rw [← hpl] at HF
    clear hpl
    go_enter Tryd.func30, Tryd.ntmps30
    go_wp2_with fail
    refine (HPw.out _).mono ?_
    rintro e w1 ⟨rfl, rfl⟩
    go_wp2
    go_loopw [7, 9] (fun bv i wr => ∃ k : Nat, i = .int .i64 k ∧ k ≤ pl ∧ bv = .int .u64 ((2 ^ k : Nat) : Int) ∧ wr = w.alloc (.cells #[.int .i64 mn, .int .i64 me, .int .i64 mx] 23)) (fun _ i _ => pl - (intOf i).toNat)
    case atStart => exact ⟨0, rfl, by omega, rfl, rfl⟩
    case round =>
      obtain ⟨k, rfl, hk, rfl, rfl⟩ := hrel
      by_cases hlt : k < pl
      · have hki : (k : Int) < pl := by omega
        have HBn := hide (bound_next k (by omega))
        obtain ⟨b, hb⟩ : ∃ b, b = 2 ^ k := ⟨_, rfl⟩
        rw [← hb] at HBn ⊢
        clear hb
        go_wp2
        exact ⟨⟨k + 1, by go_num, by omega, by rw [HBn.out], by trivial⟩, by simp [intOf]; omega⟩
      · have hki : ¬ (k : Int) < pl := by omega
        obtain rfl : k = pl := by omega
        have HRo := hide (rolled_any _ _ xs (HR.out.below HB0.out))
        rw [← HN.out] at HRo
        obtain ⟨b, hb⟩ : ∃ b, b = 2 ^ k := ⟨_, rfl⟩
        obtain ⟨r, hr⟩ : ∃ r, r = rollL xs := ⟨_, rfl⟩
        rw [← hb, ← hr] at HF
        rw [← hr] at HRo
        rw [← hb]
        have HRr := hide hr
        clear hb hr
        go_wp2_with fail
        refine HRo.out.mono ?_
        rintro e w2 ⟨rfl, rfl⟩
        go_wp2
        go_ret
        refine ⟨?_, HB0.out⟩
        rw [← HN.out, ← HRr.out, HF.out]
        rfl
end Go.Proofs.YtamajnaeladehaaDoor
