/- Which place a one stands at: the program's own way, by a table. -/
import Derived.Test.YtamajnaeladehaaDoorGE2
namespace Go.Proofs.YtamajnaeladehaaDoor
set_option linter.unusedVariables false
set_option linter.unusedSimpArgs false
open Go.RowKit

def deB : List Nat := [0, 1, 56, 2, 57, 49, 28, 3, 61, 58, 42, 50, 38, 29, 17, 4, 62, 47, 59, 36, 45, 43, 51, 22, 53, 39, 33, 30, 24, 18, 12, 5, 63, 55, 48, 27, 60, 41, 37, 16, 46, 35, 44, 21, 52, 32, 23, 11, 54, 26, 40, 15, 34, 20, 31, 10, 25, 14, 19, 9, 13, 8, 7, 6]
/-- The table is laid. -/
structure Tabs (w : World) : Prop where
  size : 1 < w.heap.size
  tab : ∀ t, t < 64 → w.cell? ⟨1, t, none⟩ = some (.int .u8 ((deB[t]?.getD 0 : Nat) : Int))
theorem Tabs.below {B : Nat} {w w' : World} (h : Tabs w) (hb : Below B w w') (hB : 1 < B) : Tabs w' :=
  ⟨Nat.lt_of_lt_of_le h.size hb.size, fun t ht => by
    rw [← h.tab t ht]
    unfold World.cell?
    rw [hb.block 1 hB]⟩
def tzIx (k : Nat) : Nat := 2 ^ k * 285870213051353865 % 18446744073709551616 / 288230376151711744
theorem tz_facts : ∀ k : Nat, k < 13 → 2 ≤ k → (bits .and .u64 ((2 ^ k : Nat) : Int) (IntKind.u64.wrap (-((2 ^ k : Nat) : Int))) = ((2 ^ k : Nat) : Int) ∧ IntKind.u64.wrap (((2 ^ k : Nat) : Int) * 285870213051353865) / 288230376151711744 = ((tzIx k : Nat) : Int) ∧ tzIx k < 64 ∧ deB[tzIx k]?.getD 0 = k) := of_decide_eq_true (by kernel_rfl)
set_option maxRecDepth 20000 in
set_option maxHeartbeats 1000000 in
theorem tz64_any (k : Nat) (hk : k < 13) (hk2 : 2 ≤ k) (w : World) (hT : Tabs w) : Calls Tryd.prog 49 #[.int .u64 ((2 ^ k : Nat) : Int)] w fun e w' => e = .returned (.int .i64 (k : Int)) ∧ w' = w := by
  obtain ⟨f1, f2, f3, f4⟩ := tz_facts k hk hk2
  obtain ⟨n, hn⟩ : ∃ n : Nat, n = 2 ^ k := ⟨_, rfl⟩
  have hn4 : n ≤ 8192 := by rw [hn]; exact pow_le13 k (by omega)
  have hn0 : 0 < n := by rw [hn]; exact Nat.two_pow_pos k
  have hc := hT.tab _ f3
  rw [f4] at hc
  obtain ⟨j, hj⟩ : ∃ j, j = tzIx k := ⟨_, rfl⟩
  rw [← hn] at f1 f2 ⊢
  rw [← hj] at f2 f3 hc
  have hn1 : ¬ (n : Int) = 0 := by omega
  clear f4 hj hn hT
  go_enter Tryd.func49, Tryd.ntmps49
  go_wp2
  go_ret
  exact ⟨rfl, rfl⟩
set_option maxRecDepth 20000 in
set_option maxHeartbeats 1000000 in
theorem tz_any (k : Nat) (hk : k < 13) (hk2 : 2 ≤ k) (w : World) (hT : Tabs w) : Calls Tryd.prog 42 #[.int .u64 ((2 ^ k : Nat) : Int)] w fun e w' => e = .returned (.int .i64 (k : Int)) ∧ w' = w := by
  have H := hide (tz64_any k hk hk2 w hT)
  obtain ⟨n, hn⟩ : ∃ n : Nat, n = 2 ^ k := ⟨_, rfl⟩
  rw [← hn] at H ⊢
  clear hn hT
  go_enter Tryd.func42, Tryd.ntmps42
  go_wp2_with fail
  refine H.out.mono ?_
  rintro e w' ⟨rfl, rfl⟩
  go_wp2
  go_ret
  exact ⟨rfl, rfl⟩
end Go.Proofs.YtamajnaeladehaaDoor
