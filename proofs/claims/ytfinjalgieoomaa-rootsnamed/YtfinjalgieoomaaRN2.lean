/- Names of roots, whole: both sides. -/
import Derived.Test.YtfinjalgieoomaaRN1
namespace Go.Proofs.Ytfinjalgieoomaa
set_option linter.unusedVariables false
set_option linter.unusedSimpArgs false
open Go.RowKit

def allOk (l : List UInt8) : Bool := l.all fun b => okB b.toNat
def nameR (l : List UInt8) : Bool := decide (1 ≤ l.length) && decide (l.length ≤ 32) && allOk l
theorem allOk_next {s : List UInt8} {k : Nat} {c : UInt8} (hlt : k < s.length) (hc : c = s[k]) : allOk (s.take (k + 1)) = (allOk (s.take k) && okB c.toNat) := by
  unfold allOk
  rw [List.take_succ_eq_append_getElem hlt, List.all_append, ← hc]; simp
theorem allOk_not {s : List UInt8} {k : Nat} {c : UInt8} (hlt : k < s.length) (hc : c = s[k]) (h : okB c.toNat = false) : allOk s = false := by
  cases g : allOk s with
  | false => rfl
  | true =>
    have := List.all_eq_true.1 g s[k] (List.getElem_mem _)
    rw [← hc, h] at this
    exact this.symm
theorem nameR_out {s : List UInt8} (h : s.length < 1 ∨ 32 < s.length) : nameR s = false := by
  unfold nameR
  rcases h with h | h
  · rw [decide_eq_false (show ¬ 1 ≤ s.length by omega)]; rfl
  · rw [decide_eq_false (show ¬ s.length ≤ 32 by omega)]; simp
theorem nameR_in {s : List UInt8} (h1 : 1 ≤ s.length) (h2 : s.length ≤ 32) : nameR s = allOk s := by
  unfold nameR
  rw [decide_eq_true h1, decide_eq_true h2]; rfl
set_option maxRecDepth 20000 in
set_option maxHeartbeats 1000000 in
theorem isName_any (s : List UInt8) (w : World) : Calls Try.prog 13 #[.string ⟨s.toArray⟩] w fun e w' => e = .returned (.bool (nameR s)) ∧ w' = w := by
  by_cases h1 : s.length < 1
  · have HF := hide (nameR_out (.inl h1))
    have b1 : (s.length : Int) < 1 := by omega
    go_enter Try.func13, Try.ntmps13
    go_wp2
    go_ret
    exact ⟨by rw [HF.out]; rfl, rfl⟩
  have b1 : ¬ (s.length : Int) < 1 := by omega
  by_cases h2 : 32 < s.length
  · have HF := hide (nameR_out (.inr h2))
    have b2 : (32 : Int) < (s.length : Int) := by omega
    go_enter Try.func13, Try.ntmps13
    go_wp2
    go_ret
    exact ⟨by rw [HF.out]; rfl, rfl⟩
  have b2 : ¬ (32 : Int) < (s.length : Int) := by omega
  have HN := hide (nameR_in (s := s) (by omega) (by omega))
  go_enter Try.func13, Try.ntmps13
  go_wp2
  go_loopw [14] (fun i wr => ∃ k : Nat, i = .int .i64 k ∧ k ≤ s.length ∧ allOk (s.take k) = true ∧ wr = w) (fun i _ => s.length - (intOf i).toNat)
  case atStart => exact ⟨0, rfl, by omega, rfl, rfl⟩
  case round =>
    obtain ⟨k, rfl, hk, hd, rfl⟩ := hrel
    by_cases hlt : k < s.length
    · have hat : s[k]? = some s[k] := List.getElem?_eq_getElem hlt
      obtain ⟨c, hc⟩ : ∃ c, c = s[k] := ⟨_, rfl⟩
      rw [← hc] at hat
      have HX := hide (fun (v : Int) (hv : v = (c.toNat : Int)) => hv ▸ inName_any c.toNat wr)
      have HC := hide hc
      have hnx := allOk_next hlt hc
      have hal := allOk_not hlt hc
      cases hg : okB c.toNat with
      | true =>
        have HD : Hid (allOk (s.take (k + 1)) = true) := hide (by rw [hnx, hd, hg]; rfl)
        rw [hg] at HX
        clear hnx hal hd hg
        clear hc
        go_wp2_with fail
        refine (HX.out _ (by rw [HC.out]; rfl)).mono ?_
        rintro e w' ⟨rfl, rfl⟩
        go_wp2
        exact ⟨⟨k + 1, by go_num, by omega, HD.out, by trivial⟩, by simp [intOf]; omega⟩
      | false =>
        have HD : Hid (allOk s = false) := hide (hal hg)
        rw [hg] at HX
        clear hnx hal hd hg
        clear hc
        go_wp2_with fail
        refine (HX.out _ (by rw [HC.out]; rfl)).mono ?_
        rintro e w' ⟨rfl, rfl⟩
        go_wp2
        go_ret
        exact ⟨by rw [HN.out, HD.out]; rfl, rfl⟩
    · obtain rfl : k = s.length := by omega
      rw [List.take_length] at hd
      have HD := hide hd
      clear hd
      go_wp2
      go_ret
      exact ⟨by rw [HN.out, HD.out]; rfl, rfl⟩
end Go.Proofs.Ytfinjalgieoomaa
