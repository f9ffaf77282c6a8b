/- sameBytes and all. -/
import Derived.Test.YtbohbkjkcpncfaaST2
namespace Go.Proofs.Ytbohbkjkcpncfaa
set_option linter.unusedVariables false
set_option linter.unusedSimpArgs false
open Go.RowKit

theorem below_drewN (base : Nat) (w : World) (n : Nat) : Below base w (w.drewN n) := ⟨rfl, rfl, rfl, Nat.le_refl _, fun _ _ => rfl⟩
theorem Rd.slice {w : World} {v : Value} {xs : List UInt8} (h : Rd w v xs) : ∃ ao c, v = .slice ao xs.length c ∧ xs.length ≤ maxLen := by
  obtain ⟨ao, c, rfl, h1, h2, _⟩ := h
  exact ⟨ao, c, rfl, Nat.le_trans h1 h2⟩
theorem Rd.at {w : World} {ao : Option Addr} {n c : Nat} {xs : List UInt8} (h : Rd w (.slice ao n c) xs) (k : Nat) (hk : k < xs.length) : ∃ b o, ao = some ⟨b, o, none⟩ ∧ w.cell? ⟨b, o + k, none⟩ = some (.int .u8 (xs[k].toNat : Int)) := by
  rcases h.form with ⟨_, rfl⟩ | ⟨b, o, c', e, hcell⟩
  · simp at hk
  · cases e
    exact ⟨b, o, rfl, hcell k hk⟩
theorem Rd.at' {w : World} {ao : Option Addr} {n c : Nat} {xs : List UInt8} (h : Rd w (.slice ao n c) xs) (k : Nat) (hk : k < xs.length) : ∃ b o, ao = some ⟨b, o, none⟩ ∧ w.cell? ⟨b, o + k, none⟩ = some (.int .u8 ((xs.getD k 0).toNat : Int)) := by
  obtain ⟨b, o, h1, h2⟩ := h.at k hk
  refine ⟨b, o, h1, ?_⟩
  rw [h2, List.getD_eq_getElem?_getD, List.getElem?_eq_getElem hk]; rfl
set_option maxRecDepth 20000 in
set_option maxHeartbeats 1600000 in
theorem same_any (w : World) (va vb : Value) (xs : List UInt8) (ha : Rd w va xs) (hb : Rd w vb xs) : Calls Try.prog 6 #[va, vb] w fun e w' => e = .returned (.bool true) ∧ Below w.heap.size w w' := by
  obtain ⟨aa, ca, rfl, hl⟩ := ha.slice
  obtain ⟨ab, cb, rfl, _⟩ := hb.slice
  have HA := hide (fun k h w' (hb : Below w.heap.size w w') => (ha.below hb).at' k h)
  have HB := hide (fun k h w' (hb1 : Below w.heap.size w w') => (hb.below hb1).at' k h)
  obtain ⟨n, hn⟩ : ∃ n, n = xs.length := ⟨_, rfl⟩
  rw [← hn] at hl ⊢
  have HN := hide hn
  clear ha hb hn
  unfold maxLen at hl
  go_enter Try.func6, Try.ntmps6
  go_wp2
  go_loopw [5] (fun i wr => ∃ k : Nat, i = .int .i64 k ∧ k ≤ n ∧ Below w.heap.size w wr) (fun i _ => n - (intOf i).toNat)
  case atStart => exact ⟨0, rfl, by omega, Below.refl _ _⟩
  case round =>
    obtain ⟨k, rfl, hk, hbel⟩ := hrel
    by_cases hlt : k < n
    · have hn := HN.out
      obtain ⟨b1, o1, rfl, h1⟩ := HA.out k (by omega) wr hbel
      obtain ⟨b2, o2, rfl, h2⟩ := HB.out k (by omega) wr hbel
      clear hn
      generalize ((xs.getD k 0).toNat : Int) = q at h1 h2
      go_wp2
      go_quiet (fail)
      go_wp2
      exact ⟨⟨k + 1, by go_num, by omega, hbel.trans (below_drewN _ _ _)⟩, by simp [intOf]; omega⟩
    · go_wp2
      go_ret
      exact ⟨rfl, hbel⟩
set_option maxRecDepth 20000 in
set_option maxHeartbeats 1600000 in
theorem all_any (w : World) (va : Value) (n : Nat) (y : UInt8) (q : Int) (hq : q = y.toNat) (ha : Rd w va (List.replicate n y)) : Calls Try.prog 7 #[va, .int .u8 q] w fun e w' => e = .returned (.bool true) ∧ Below w.heap.size w w' := by
  obtain ⟨aa, ca, rfl, hl⟩ := ha.slice
  have HA : Hid (∀ k, k < n → ∃ b o, aa = some ⟨b, o, none⟩ ∧ w.cell? ⟨b, o + k, none⟩ = some (.int .u8 q)) := by
    intro k hk
    obtain ⟨b, o, h1, h2⟩ := ha.at k (by simpa using hk)
    rw [List.getElem_replicate, ← hq] at h2
    exact ⟨b, o, h1, h2⟩
  rw [List.length_replicate] at hl ⊢
  clear ha hq
  unfold maxLen at hl
  go_enter Try.func7, Try.ntmps7
  go_wp2
  go_loopw [5] (fun i wr => ∃ k : Nat, i = .int .i64 k ∧ k ≤ n ∧ wr = w) (fun i _ => n - (intOf i).toNat)
  case atStart => exact ⟨0, rfl, by omega, rfl⟩
  case round =>
    obtain ⟨k, rfl, hk, rfl⟩ := hrel
    by_cases hlt : k < n
    · obtain ⟨b1, o1, rfl, h1⟩ := HA.out k hlt
      go_wp2
      exact ⟨⟨k + 1, by go_num, by omega, by trivial⟩, by simp [intOf]; omega⟩
    · go_wp2
      go_ret
      exact ⟨rfl, Below.refl _ _⟩
end Go.Proofs.Ytbohbkjkcpncfaa
