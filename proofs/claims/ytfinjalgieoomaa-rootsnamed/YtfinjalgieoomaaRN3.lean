/- Names of roots: the document's side; RootsNamed. -/
import Derived.Test.YtfinjalgieoomaaRN2
namespace Go.Proofs.Ytfinjalgieoomaa
set_option linter.unusedVariables false
set_option linter.unusedSimpArgs false
open Go.RowKit
set_option maxRecDepth 20000 in
set_option maxHeartbeats 1000000 in
theorem named_any (s : List UInt8) (w : World) : Calls Try.prog 14 #[.string ⟨s.toArray⟩] w fun e w' => e = .returned (.bool (nameR s)) ∧ w' = w := by
  by_cases h1 : s.length < 1
  · have HF := hide (nameR_out (.inl h1))
    have b1 : (s.length : Int) < 1 := by omega
    go_enter Try.func14, Try.ntmps14
    go_wp2
    go_ret
    exact ⟨by rw [HF.out]; rfl, rfl⟩
  have b1 : ¬ (s.length : Int) < 1 := by omega
  by_cases h2 : 32 < s.length
  · have HF := hide (nameR_out (.inr h2))
    have b2 : (32 : Int) < (s.length : Int) := by omega
    go_enter Try.func14, Try.ntmps14
    go_wp2
    go_ret
    exact ⟨by rw [HF.out]; rfl, rfl⟩
  have b2 : ¬ (32 : Int) < (s.length : Int) := by omega
  have HN := hide (nameR_in (s := s) (by omega) (by omega))
  go_enter Try.func14, Try.ntmps14
  go_wp2
  go_loopw [3] (fun i wr => ∃ k : Nat, i = .int .i64 k ∧ k ≤ s.length ∧ allOk (s.take k) = true ∧ wr = w) (fun i _ => s.length - (intOf i).toNat)
  case atStart => exact ⟨0, rfl, by omega, rfl, rfl⟩
  case round =>
    obtain ⟨k, rfl, hk, hd, rfl⟩ := hrel
    by_cases hlt : k < s.length
    · have hat : s[k]? = some s[k] := List.getElem?_eq_getElem hlt
      obtain ⟨c, hc⟩ : ∃ c, c = s[k] := ⟨_, rfl⟩
      rw [← hc] at hat
      have HC := hide hc
      clear hc
      go_upto_region 7 with fail
      generalize hq : UInt8.toNat _ = q
      have HQ : Hid (c.toNat = q) := hide (by rw [HC.out]; exact hq)
      clear hq
      have HY : Hid (okB q = true → allOk (s.take (k + 1)) = true) := hide (fun h => by rw [allOk_next hlt HC.out, hd, HQ.out, h]; rfl)
      have HZ : Hid (okB q = false → allOk s = false) := hide (fun h => allOk_not hlt HC.out (by rw [HQ.out]; exact h))
      clear hat hd HC HQ
      by_cases h : 97 ≤ q ∧ q ≤ 122
      · have HD := hide (HY.out (by unfold okB; simp; omega))
        obtain ⟨h1, h2⟩ := h
        have b97 : (97 : Int) ≤ (q : Int) := by omega
        have b122 : (q : Int) ≤ 122 := by omega
        have b48 : (48 : Int) ≤ (q : Int) := by omega
        have b57 : ¬ (q : Int) ≤ 57 := by omega
        clear HY HZ
        go_wp2
        exact ⟨⟨k + 1, by go_num, by omega, HD.out, by trivial⟩, by simp [intOf]; omega⟩
      rename _ => hA
      by_cases h : 48 ≤ q ∧ q ≤ 57
      · have HD := hide (HY.out (by unfold okB; simp; omega))
        obtain ⟨h1, h2⟩ := h
        have b97 : ¬ (97 : Int) ≤ (q : Int) := by omega
        have b48 : (48 : Int) ≤ (q : Int) := by omega
        have b57 : (q : Int) ≤ 57 := by omega
        clear HY HZ
        go_wp2
        exact ⟨⟨k + 1, by go_num, by omega, HD.out, by trivial⟩, by simp [intOf]; omega⟩
      rename _ => hB
      by_cases h : q = 45
      · subst h
        have HD := hide (HY.out (by decide))
        clear HY HZ
        go_wp2
        exact ⟨⟨k + 1, by go_num, by omega, HD.out, by trivial⟩, by simp [intOf]; omega⟩
      rename _ => h45
      by_cases h : q = 95
      · subst h
        have HD := hide (HY.out (by decide))
        clear HY HZ
        go_wp2
        exact ⟨⟨k + 1, by go_num, by omega, HD.out, by trivial⟩, by simp [intOf]; omega⟩
      rename _ => h95
      by_cases h : q = 46
      · subst h
        have HD := hide (HY.out (by decide))
        clear HY HZ
        go_wp2
        exact ⟨⟨k + 1, by go_num, by omega, HD.out, by trivial⟩, by simp [intOf]; omega⟩
      rename _ => h46
      by_cases h : q = 47
      · subst h
        have HD := hide (HY.out (by decide))
        clear HY HZ
        go_wp2
        exact ⟨⟨k + 1, by go_num, by omega, HD.out, by trivial⟩, by simp [intOf]; omega⟩
      rename _ => h47
      by_cases h : q < 45
      · have HD := hide (HZ.out (by unfold okB; simp; omega))
        have b97 : ¬ (97 : Int) ≤ (q : Int) := by omega
        have b48 : ¬ (48 : Int) ≤ (q : Int) := by omega
        have n45 : ((q : Int) != 45) = true := by simp; omega
        have n95 : ((q : Int) != 95) = true := by simp; omega
        have n46 : ((q : Int) != 46) = true := by simp; omega
        have n47 : ((q : Int) != 47) = true := by simp; omega
        clear HY HZ
        go_wp2
        go_ret
        exact ⟨by rw [HN.out, HD.out]; rfl, rfl⟩
      rename _ => hq45
      by_cases h : q < 97
      · have HD := hide (HZ.out (by unfold okB; simp; omega))
        have b97 : ¬ (97 : Int) ≤ (q : Int) := by omega
        have b48 : (48 : Int) ≤ (q : Int) := by omega
        have b57 : ¬ (q : Int) ≤ 57 := by omega
        have n45 : ((q : Int) != 45) = true := by simp; omega
        have n95 : ((q : Int) != 95) = true := by simp; omega
        have n46 : ((q : Int) != 46) = true := by simp; omega
        have n47 : ((q : Int) != 47) = true := by simp; omega
        clear HY HZ
        go_wp2
        go_ret
        exact ⟨by rw [HN.out, HD.out]; rfl, rfl⟩
      rename _ => hq97
      have HD := hide (HZ.out (by unfold okB; simp; omega))
      have b97 : (97 : Int) ≤ (q : Int) := by omega
      have b122 : ¬ (q : Int) ≤ 122 := by omega
      have b48 : (48 : Int) ≤ (q : Int) := by omega
      have b57 : ¬ (q : Int) ≤ 57 := by omega
      have n45 : ((q : Int) != 45) = true := by simp; omega
      have n95 : ((q : Int) != 95) = true := by simp; omega
      have n46 : ((q : Int) != 46) = true := by simp; omega
      have n47 : ((q : Int) != 47) = true := by simp; omega
      clear HY HZ
      go_wp2
      go_ret
      exact ⟨by rw [HN.out, HD.out]; rfl, rfl⟩
    · obtain rfl : k = s.length := by omega
      rw [List.take_length] at hd
      have HD := hide hd
      clear hd
      go_wp2
      go_ret
      exact ⟨by rw [HN.out, HD.out]; rfl, rfl⟩
set_option maxRecDepth 20000 in
theorem rootsNamed_any (l : List UInt8) (w : World) : Calls Try.prog 4 #[.string ⟨l.toArray⟩] w fun e w' => e = .returned (.bool true) ∧ w' = w := by
  have H1 := hide (isName_any l w)
  have H2 := hide (named_any l)
  have hq : ((nameR l == nameR l) = true) := by simp
  go_enter Try.func4, Try.ntmps4
  go_wp2_with fail
  refine H1.out.mono ?_
  rintro e w1 ⟨rfl, hw1⟩
  subst hw1
  go_wp2_with fail
  refine (H2.out _).mono ?_
  rintro e w2 ⟨rfl, hw2⟩
  subst hw2
  go_wp2
  go_ret
  exact ⟨rfl, rfl⟩
end Go.Proofs.Ytfinjalgieoomaa
