/- Block and Start, the document's; Start, the program's. -/
import Derived.Test.YtjmjnecobaoofaaDoorSK3
import Derived.Test.YtjmjnecobaoofaaDoorSK4
namespace Go.Proofs.YtjmjnecobaoofaaDoor
set_option linter.unusedVariables false
set_option linter.unusedSimpArgs false
open Go.RowKit

theorem start_any (w : World) : Calls Tryd.prog 42 #[] w fun e w' => e = .returned begin8.val ∧ Below w.heap.size w w' := by
  go_enter Tryd.func42, Tryd.ntmps42
  go_wp2
  refine bodyPost_ret (results_cell rfl _ _ _ rfl _ (loadBlkT (Blk.made w _ _) 56 _ Tryd.underlying56 rfl 8 infoS8 rfl)) rfl ?_
  exact ⟨rfl, (Below.refl _ _).alloc (Nat.le_refl _) _⟩
set_option maxRecDepth 40000 in
theorem three_any (w : World) (x n1 n2 n3 : Nat) (hx : x < 4294967296) (h1 : n1 ≤ 32) (h2 : n2 ≤ 32) (h3 : n3 ≤ 32) : Calls Tryd.prog 40 #[.int .u64 x, .int .i64 n1, .int .i64 n2, .int .i64 n3] w fun e w' => e = .returned (.int .u64 (rr n1 x ^^^ rr n2 x ^^^ rr n3 x : Nat)) ∧ ∃ m, w' = w.drewN m := by
  have HA := hide (fun w => turned_any w x n1 hx h1)
  have HB := hide (fun w => turned_any w x n2 hx h2)
  have HC := hide (fun w => turned_any w x n3 hx h3)
  have z1 := xor64_nat _ _ (rr_lt n1 x h1 hx) (rr_lt n2 x h2 hx)
  have z2 := xor64_nat _ _ (xor_lt (rr_lt n1 x h1 hx) (rr_lt n2 x h2 hx)) (rr_lt n3 x h3 hx)
  generalize rr n1 x ^^^ rr n2 x ^^^ rr n3 x = y2 at z2 ⊢
  generalize rr n1 x ^^^ rr n2 x = y1 at z1 z2
  generalize rr n1 x = r1 at HA z1
  generalize rr n2 x = r2 at HB z1
  generalize rr n3 x = r3 at HC z2
  go_enter Tryd.func40, Tryd.ntmps40
  go_wp2_with fail
  refine (HA.out _).mono ?_
  rintro e w1 ⟨rfl, m1, rfl⟩
  go_wp2_with fail
  refine (HB.out _).mono ?_
  rintro e w2 ⟨rfl, m2, rfl⟩
  go_wp2_with fail
  refine (HC.out _).mono ?_
  rintro e w3 ⟨rfl, m3, rfl⟩
  go_wp2
  go_ret
  exact ⟨rfl, _, rfl⟩
set_option maxRecDepth 40000 in
set_option maxHeartbeats 4000000 in
theorem rstart_any (w : World) (hT : Tabs w) : Calls Tryd.prog 31 #[] w fun e w' => e = .returned begin8.val ∧ Below w.heap.size w w' := by
  have b0 : w.cell? ⟨0, 0, none⟩ = some (.int .u64 0x6a09e667) := hT.beg 0 (by decide)
  have b1 : w.cell? ⟨0, 1, none⟩ = some (.int .u64 0xbb67ae85) := hT.beg 1 (by decide)
  have b2 : w.cell? ⟨0, 2, none⟩ = some (.int .u64 0x3c6ef372) := hT.beg 2 (by decide)
  have b3 : w.cell? ⟨0, 3, none⟩ = some (.int .u64 0xa54ff53a) := hT.beg 3 (by decide)
  have b4 : w.cell? ⟨0, 4, none⟩ = some (.int .u64 0x510e527f) := hT.beg 4 (by decide)
  have b5 : w.cell? ⟨0, 5, none⟩ = some (.int .u64 0x9b05688c) := hT.beg 5 (by decide)
  have b6 : w.cell? ⟨0, 6, none⟩ = some (.int .u64 0x1f83d9ab) := hT.beg 6 (by decide)
  have b7 : w.cell? ⟨0, 7, none⟩ = some (.int .u64 0x5be0cd19) := hT.beg 7 (by decide)
  have hsz : 0 < w.heap.size := by have := hT.sz; omega
  have hn1 : ¬ 0 = w.heap.size := by omega
  have hn2 : ¬ w.heap.size = 0 := by omega
  have hn3 : ¬ 0 = w.heap.size + 1 := by omega
  have hn4 : ¬ w.heap.size = 0 := by omega
  have hlt2 : 0 < w.heap.size + 1 := by omega
  clear hT
  go_enter Tryd.func31, Tryd.ntmps31
  go_wp2
  go_rounds 9
  refine bodyPost_ret (results_cell rfl _ _ _ rfl _ (loadBlkT ((Blk.made w _ _).alloc _) 56 _ Tryd.underlying56 rfl 8 infoS8 rfl)) rfl ?_
  exact ⟨rfl, ((Below.refl _ _).alloc (Nat.le_refl _) _).alloc (by simp) _⟩
end Go.Proofs.YtjmjnecobaoofaaDoor
