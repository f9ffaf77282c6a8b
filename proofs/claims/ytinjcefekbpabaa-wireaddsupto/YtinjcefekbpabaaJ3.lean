/- laid of numbers; laid as a whole. -/
import Derived.Test.YtinjcefekbpabaaJ2
namespace Go.Proofs.Ytinjcefekbpabaa
set_option linter.unusedVariables false
set_option linter.unusedSimpArgs false
open Go.RowKit

set_option maxRecDepth 20000 in
set_option maxHeartbeats 800000 in
theorem laid_5 (w : World) (cs : Array Value) (bv : Value) (a : AddR) (hk : a.kind = 5) (ha : AddIs w cs bv a) (hlen : a.S.length + a.B.length ≤ 140737488354000) :
    Calls Try.prog 12 #[.agg cs] w (LaidC w (fixB 1 a.N)) := by
  have hA := ha.below ((Below.refl _ _).alloc (Nat.le_refl _) (.cells cs 37))
  have HW := hide (fun W => lwidth_5 W)
  have HC := hide (rfixedb (w.alloc (.cells cs 37)).drew a.N 1 ha.hN (by decide))
  have HS0 : Hid ((w.alloc (.cells cs 37)).drew.cell? ⟨w.heap.size, 1, none⟩ = some (.int .u64 a.N) ∧ (w.alloc (.cells cs 37)).drew.cell? ⟨w.heap.size, 0, none⟩ = some (.int .i64 a.kind)) := hide ⟨((Blk.made w cs _).cell 1).trans ha.c1, ((Blk.made w cs _).cell 0).trans ha.c0⟩
  rw [hk] at HS0
  have g0 := ha.c0
  rw [hk] at g0
  have g1 := ha.c1
  have g2 := ha.c2
  have g3 := ha.c3
  have hN := ha.hN
  clear ha hA
  go_enter Try.func12, Try.ntmps12
  go_wp2_with fail
  have hnl : w.heap.size < (w.alloc (.cells cs 37)).drew.heap.size := Nat.lt_of_lt_of_eq (Nat.lt_succ_self _) (World.size_alloc w _).symm
  go_region_held3 (fun W => W.cell? ⟨w.heap.size, 1, none⟩ = some (.int .u64 a.N) ∧ W.cell? ⟨w.heap.size, 0, none⟩ = some (.int .i64 5)) (first | exact HS0.out | exact ⟨(hb.cell (p := ⟨w.heap.size, 1, none⟩) hnl).trans HS0.out.1, (hb.cell (p := ⟨w.heap.size, 0, none⟩) hnl).trans HS0.out.2⟩) (first | (refine (HW.out _).mono ?_; rintro e w0 ⟨rfl, rfl⟩) | (refine (HC.out).mono ?_; rintro e w1 ⟨u, rfl, hown, hb⟩))
  have HO := hide hown
  have HB := hide hb
  clear hown hb
  go_wp2
  go_ret
  exact ⟨_, rfl, laid_end (o := .cells cs 37) HO.out ⟨HB.out.os, HB.out.tape, HB.out.output, HB.out.size, HB.out.block⟩⟩

set_option maxRecDepth 20000 in
set_option maxHeartbeats 800000 in
theorem laid_6 (w : World) (cs : Array Value) (bv : Value) (a : AddR) (hk : a.kind = 6) (ha : AddIs w cs bv a) (hlen : a.S.length + a.B.length ≤ 140737488354000) :
    Calls Try.prog 12 #[.agg cs] w (LaidC w (fixB 1 a.N)) := by
  have hA := ha.below ((Below.refl _ _).alloc (Nat.le_refl _) (.cells cs 37))
  have HW := hide (fun W => lwidth_6 W)
  have HC := hide (rfixedb (w.alloc (.cells cs 37)).drew a.N 1 ha.hN (by decide))
  have HS0 : Hid ((w.alloc (.cells cs 37)).drew.cell? ⟨w.heap.size, 1, none⟩ = some (.int .u64 a.N) ∧ (w.alloc (.cells cs 37)).drew.cell? ⟨w.heap.size, 0, none⟩ = some (.int .i64 a.kind)) := hide ⟨((Blk.made w cs _).cell 1).trans ha.c1, ((Blk.made w cs _).cell 0).trans ha.c0⟩
  rw [hk] at HS0
  have g0 := ha.c0
  rw [hk] at g0
  have g1 := ha.c1
  have g2 := ha.c2
  have g3 := ha.c3
  have hN := ha.hN
  clear ha hA
  go_enter Try.func12, Try.ntmps12
  go_wp2_with fail
  have hnl : w.heap.size < (w.alloc (.cells cs 37)).drew.heap.size := Nat.lt_of_lt_of_eq (Nat.lt_succ_self _) (World.size_alloc w _).symm
  go_region_held3 (fun W => W.cell? ⟨w.heap.size, 1, none⟩ = some (.int .u64 a.N) ∧ W.cell? ⟨w.heap.size, 0, none⟩ = some (.int .i64 6)) (first | exact HS0.out | exact ⟨(hb.cell (p := ⟨w.heap.size, 1, none⟩) hnl).trans HS0.out.1, (hb.cell (p := ⟨w.heap.size, 0, none⟩) hnl).trans HS0.out.2⟩) (first | (refine (HW.out _).mono ?_; rintro e w0 ⟨rfl, rfl⟩) | (refine (HC.out).mono ?_; rintro e w1 ⟨u, rfl, hown, hb⟩))
  have HO := hide hown
  have HB := hide hb
  clear hown hb
  go_wp2
  go_ret
  exact ⟨_, rfl, laid_end (o := .cells cs 37) HO.out ⟨HB.out.os, HB.out.tape, HB.out.output, HB.out.size, HB.out.block⟩⟩

set_option maxRecDepth 20000 in
set_option maxHeartbeats 800000 in
theorem laid_7 (w : World) (cs : Array Value) (bv : Value) (a : AddR) (hk : a.kind = 7) (ha : AddIs w cs bv a) (hlen : a.S.length + a.B.length ≤ 140737488354000) :
    Calls Try.prog 12 #[.agg cs] w (LaidC w (fixB 2 a.N)) := by
  have hA := ha.below ((Below.refl _ _).alloc (Nat.le_refl _) (.cells cs 37))
  have HW := hide (fun W => lwidth_7 W)
  have HC := hide (rfixedb (w.alloc (.cells cs 37)).drew a.N 2 ha.hN (by decide))
  have HS0 : Hid ((w.alloc (.cells cs 37)).drew.cell? ⟨w.heap.size, 1, none⟩ = some (.int .u64 a.N) ∧ (w.alloc (.cells cs 37)).drew.cell? ⟨w.heap.size, 0, none⟩ = some (.int .i64 a.kind)) := hide ⟨((Blk.made w cs _).cell 1).trans ha.c1, ((Blk.made w cs _).cell 0).trans ha.c0⟩
  rw [hk] at HS0
  have g0 := ha.c0
  rw [hk] at g0
  have g1 := ha.c1
  have g2 := ha.c2
  have g3 := ha.c3
  have hN := ha.hN
  clear ha hA
  go_enter Try.func12, Try.ntmps12
  go_wp2_with fail
  have hnl : w.heap.size < (w.alloc (.cells cs 37)).drew.heap.size := Nat.lt_of_lt_of_eq (Nat.lt_succ_self _) (World.size_alloc w _).symm
  go_region_held3 (fun W => W.cell? ⟨w.heap.size, 1, none⟩ = some (.int .u64 a.N) ∧ W.cell? ⟨w.heap.size, 0, none⟩ = some (.int .i64 7)) (first | exact HS0.out | exact ⟨(hb.cell (p := ⟨w.heap.size, 1, none⟩) hnl).trans HS0.out.1, (hb.cell (p := ⟨w.heap.size, 0, none⟩) hnl).trans HS0.out.2⟩) (first | (refine (HW.out _).mono ?_; rintro e w0 ⟨rfl, rfl⟩) | (refine (HC.out).mono ?_; rintro e w1 ⟨u, rfl, hown, hb⟩))
  have HO := hide hown
  have HB := hide hb
  clear hown hb
  go_wp2
  go_ret
  exact ⟨_, rfl, laid_end (o := .cells cs 37) HO.out ⟨HB.out.os, HB.out.tape, HB.out.output, HB.out.size, HB.out.block⟩⟩

set_option maxRecDepth 20000 in
set_option maxHeartbeats 800000 in
theorem laid_8 (w : World) (cs : Array Value) (bv : Value) (a : AddR) (hk : a.kind = 8) (ha : AddIs w cs bv a) (hlen : a.S.length + a.B.length ≤ 140737488354000) :
    Calls Try.prog 12 #[.agg cs] w (LaidC w (fixB 2 a.N)) := by
  have hA := ha.below ((Below.refl _ _).alloc (Nat.le_refl _) (.cells cs 37))
  have HW := hide (fun W => lwidth_8 W)
  have HC := hide (rfixedb (w.alloc (.cells cs 37)).drew a.N 2 ha.hN (by decide))
  have HS0 : Hid ((w.alloc (.cells cs 37)).drew.cell? ⟨w.heap.size, 1, none⟩ = some (.int .u64 a.N) ∧ (w.alloc (.cells cs 37)).drew.cell? ⟨w.heap.size, 0, none⟩ = some (.int .i64 a.kind)) := hide ⟨((Blk.made w cs _).cell 1).trans ha.c1, ((Blk.made w cs _).cell 0).trans ha.c0⟩
  rw [hk] at HS0
  have g0 := ha.c0
  rw [hk] at g0
  have g1 := ha.c1
  have g2 := ha.c2
  have g3 := ha.c3
  have hN := ha.hN
  clear ha hA
  go_enter Try.func12, Try.ntmps12
  go_wp2_with fail
  have hnl : w.heap.size < (w.alloc (.cells cs 37)).drew.heap.size := Nat.lt_of_lt_of_eq (Nat.lt_succ_self _) (World.size_alloc w _).symm
  go_region_held3 (fun W => W.cell? ⟨w.heap.size, 1, none⟩ = some (.int .u64 a.N) ∧ W.cell? ⟨w.heap.size, 0, none⟩ = some (.int .i64 8)) (first | exact HS0.out | exact ⟨(hb.cell (p := ⟨w.heap.size, 1, none⟩) hnl).trans HS0.out.1, (hb.cell (p := ⟨w.heap.size, 0, none⟩) hnl).trans HS0.out.2⟩) (first | (refine (HW.out _).mono ?_; rintro e w0 ⟨rfl, rfl⟩) | (refine (HC.out).mono ?_; rintro e w1 ⟨u, rfl, hown, hb⟩))
  have HO := hide hown
  have HB := hide hb
  clear hown hb
  go_wp2
  go_ret
  exact ⟨_, rfl, laid_end (o := .cells cs 37) HO.out ⟨HB.out.os, HB.out.tape, HB.out.output, HB.out.size, HB.out.block⟩⟩

set_option maxRecDepth 20000 in
set_option maxHeartbeats 800000 in
theorem laid_9 (w : World) (cs : Array Value) (bv : Value) (a : AddR) (hk : a.kind = 9) (ha : AddIs w cs bv a) (hlen : a.S.length + a.B.length ≤ 140737488354000) :
    Calls Try.prog 12 #[.agg cs] w (LaidC w (fixB 4 a.N)) := by
  have hA := ha.below ((Below.refl _ _).alloc (Nat.le_refl _) (.cells cs 37))
  have HW := hide (fun W => lwidth_9 W)
  have HC := hide (rfixedb (w.alloc (.cells cs 37)).drew a.N 4 ha.hN (by decide))
  have HS0 : Hid ((w.alloc (.cells cs 37)).drew.cell? ⟨w.heap.size, 1, none⟩ = some (.int .u64 a.N) ∧ (w.alloc (.cells cs 37)).drew.cell? ⟨w.heap.size, 0, none⟩ = some (.int .i64 a.kind)) := hide ⟨((Blk.made w cs _).cell 1).trans ha.c1, ((Blk.made w cs _).cell 0).trans ha.c0⟩
  rw [hk] at HS0
  have g0 := ha.c0
  rw [hk] at g0
  have g1 := ha.c1
  have g2 := ha.c2
  have g3 := ha.c3
  have hN := ha.hN
  clear ha hA
  go_enter Try.func12, Try.ntmps12
  go_wp2_with fail
  have hnl : w.heap.size < (w.alloc (.cells cs 37)).drew.heap.size := Nat.lt_of_lt_of_eq (Nat.lt_succ_self _) (World.size_alloc w _).symm
  go_region_held3 (fun W => W.cell? ⟨w.heap.size, 1, none⟩ = some (.int .u64 a.N) ∧ W.cell? ⟨w.heap.size, 0, none⟩ = some (.int .i64 9)) (first | exact HS0.out | exact ⟨(hb.cell (p := ⟨w.heap.size, 1, none⟩) hnl).trans HS0.out.1, (hb.cell (p := ⟨w.heap.size, 0, none⟩) hnl).trans HS0.out.2⟩) (first | (refine (HW.out _).mono ?_; rintro e w0 ⟨rfl, rfl⟩) | (refine (HC.out).mono ?_; rintro e w1 ⟨u, rfl, hown, hb⟩))
  have HO := hide hown
  have HB := hide hb
  clear hown hb
  go_wp2
  go_ret
  exact ⟨_, rfl, laid_end (o := .cells cs 37) HO.out ⟨HB.out.os, HB.out.tape, HB.out.output, HB.out.size, HB.out.block⟩⟩

set_option maxRecDepth 20000 in
set_option maxHeartbeats 800000 in
theorem laid_10 (w : World) (cs : Array Value) (bv : Value) (a : AddR) (hk : a.kind = 10) (ha : AddIs w cs bv a) (hlen : a.S.length + a.B.length ≤ 140737488354000) :
    Calls Try.prog 12 #[.agg cs] w (LaidC w (fixB 4 a.N)) := by
  have hA := ha.below ((Below.refl _ _).alloc (Nat.le_refl _) (.cells cs 37))
  have HW := hide (fun W => lwidth_10 W)
  have HC := hide (rfixedb (w.alloc (.cells cs 37)).drew a.N 4 ha.hN (by decide))
  have HS0 : Hid ((w.alloc (.cells cs 37)).drew.cell? ⟨w.heap.size, 1, none⟩ = some (.int .u64 a.N) ∧ (w.alloc (.cells cs 37)).drew.cell? ⟨w.heap.size, 0, none⟩ = some (.int .i64 a.kind)) := hide ⟨((Blk.made w cs _).cell 1).trans ha.c1, ((Blk.made w cs _).cell 0).trans ha.c0⟩
  rw [hk] at HS0
  have g0 := ha.c0
  rw [hk] at g0
  have g1 := ha.c1
  have g2 := ha.c2
  have g3 := ha.c3
  have hN := ha.hN
  clear ha hA
  go_enter Try.func12, Try.ntmps12
  go_wp2_with fail
  have hnl : w.heap.size < (w.alloc (.cells cs 37)).drew.heap.size := Nat.lt_of_lt_of_eq (Nat.lt_succ_self _) (World.size_alloc w _).symm
  go_region_held3 (fun W => W.cell? ⟨w.heap.size, 1, none⟩ = some (.int .u64 a.N) ∧ W.cell? ⟨w.heap.size, 0, none⟩ = some (.int .i64 10)) (first | exact HS0.out | exact ⟨(hb.cell (p := ⟨w.heap.size, 1, none⟩) hnl).trans HS0.out.1, (hb.cell (p := ⟨w.heap.size, 0, none⟩) hnl).trans HS0.out.2⟩) (first | (refine (HW.out _).mono ?_; rintro e w0 ⟨rfl, rfl⟩) | (refine (HC.out).mono ?_; rintro e w1 ⟨u, rfl, hown, hb⟩))
  have HO := hide hown
  have HB := hide hb
  clear hown hb
  go_wp2
  go_ret
  exact ⟨_, rfl, laid_end (o := .cells cs 37) HO.out ⟨HB.out.os, HB.out.tape, HB.out.output, HB.out.size, HB.out.block⟩⟩

set_option maxRecDepth 20000 in
set_option maxHeartbeats 800000 in
theorem laid_11 (w : World) (cs : Array Value) (bv : Value) (a : AddR) (hk : a.kind = 11) (ha : AddIs w cs bv a) (hlen : a.S.length + a.B.length ≤ 140737488354000) :
    Calls Try.prog 12 #[.agg cs] w (LaidC w (fixB 8 a.N)) := by
  have hA := ha.below ((Below.refl _ _).alloc (Nat.le_refl _) (.cells cs 37))
  have HW := hide (fun W => lwidth_11 W)
  have HC := hide (rfixedb (w.alloc (.cells cs 37)).drew a.N 8 ha.hN (by decide))
  have HS0 : Hid ((w.alloc (.cells cs 37)).drew.cell? ⟨w.heap.size, 1, none⟩ = some (.int .u64 a.N) ∧ (w.alloc (.cells cs 37)).drew.cell? ⟨w.heap.size, 0, none⟩ = some (.int .i64 a.kind)) := hide ⟨((Blk.made w cs _).cell 1).trans ha.c1, ((Blk.made w cs _).cell 0).trans ha.c0⟩
  rw [hk] at HS0
  have g0 := ha.c0
  rw [hk] at g0
  have g1 := ha.c1
  have g2 := ha.c2
  have g3 := ha.c3
  have hN := ha.hN
  clear ha hA
  go_enter Try.func12, Try.ntmps12
  go_wp2_with fail
  have hnl : w.heap.size < (w.alloc (.cells cs 37)).drew.heap.size := Nat.lt_of_lt_of_eq (Nat.lt_succ_self _) (World.size_alloc w _).symm
  go_region_held3 (fun W => W.cell? ⟨w.heap.size, 1, none⟩ = some (.int .u64 a.N) ∧ W.cell? ⟨w.heap.size, 0, none⟩ = some (.int .i64 11)) (first | exact HS0.out | exact ⟨(hb.cell (p := ⟨w.heap.size, 1, none⟩) hnl).trans HS0.out.1, (hb.cell (p := ⟨w.heap.size, 0, none⟩) hnl).trans HS0.out.2⟩) (first | (refine (HW.out _).mono ?_; rintro e w0 ⟨rfl, rfl⟩) | (refine (HC.out).mono ?_; rintro e w1 ⟨u, rfl, hown, hb⟩))
  have HO := hide hown
  have HB := hide hb
  clear hown hb
  go_wp2
  go_ret
  exact ⟨_, rfl, laid_end (o := .cells cs 37) HO.out ⟨HB.out.os, HB.out.tape, HB.out.output, HB.out.size, HB.out.block⟩⟩

set_option maxRecDepth 20000 in
set_option maxHeartbeats 800000 in
theorem laid_12 (w : World) (cs : Array Value) (bv : Value) (a : AddR) (hk : a.kind = 12) (ha : AddIs w cs bv a) (hlen : a.S.length + a.B.length ≤ 140737488354000) :
    Calls Try.prog 12 #[.agg cs] w (LaidC w (fixB 8 a.N)) := by
  have hA := ha.below ((Below.refl _ _).alloc (Nat.le_refl _) (.cells cs 37))
  have HW := hide (fun W => lwidth_12 W)
  have HC := hide (rfixedb (w.alloc (.cells cs 37)).drew a.N 8 ha.hN (by decide))
  have HS0 : Hid ((w.alloc (.cells cs 37)).drew.cell? ⟨w.heap.size, 1, none⟩ = some (.int .u64 a.N) ∧ (w.alloc (.cells cs 37)).drew.cell? ⟨w.heap.size, 0, none⟩ = some (.int .i64 a.kind)) := hide ⟨((Blk.made w cs _).cell 1).trans ha.c1, ((Blk.made w cs _).cell 0).trans ha.c0⟩
  rw [hk] at HS0
  have g0 := ha.c0
  rw [hk] at g0
  have g1 := ha.c1
  have g2 := ha.c2
  have g3 := ha.c3
  have hN := ha.hN
  clear ha hA
  go_enter Try.func12, Try.ntmps12
  go_wp2_with fail
  have hnl : w.heap.size < (w.alloc (.cells cs 37)).drew.heap.size := Nat.lt_of_lt_of_eq (Nat.lt_succ_self _) (World.size_alloc w _).symm
  go_region_held3 (fun W => W.cell? ⟨w.heap.size, 1, none⟩ = some (.int .u64 a.N) ∧ W.cell? ⟨w.heap.size, 0, none⟩ = some (.int .i64 12)) (first | exact HS0.out | exact ⟨(hb.cell (p := ⟨w.heap.size, 1, none⟩) hnl).trans HS0.out.1, (hb.cell (p := ⟨w.heap.size, 0, none⟩) hnl).trans HS0.out.2⟩) (first | (refine (HW.out _).mono ?_; rintro e w0 ⟨rfl, rfl⟩) | (refine (HC.out).mono ?_; rintro e w1 ⟨u, rfl, hown, hb⟩))
  have HO := hide hown
  have HB := hide hb
  clear hown hb
  go_wp2
  go_ret
  exact ⟨_, rfl, laid_end (o := .cells cs 37) HO.out ⟨HB.out.os, HB.out.tape, HB.out.output, HB.out.size, HB.out.block⟩⟩

set_option maxRecDepth 20000 in
theorem lwidth_0 (w : World) (kd : Int) (n5 : (kd == 5) = false) (n6 : (kd == 6) = false) (n7 : (kd == 7) = false) (n8 : (kd == 8) = false) (n9 : (kd == 9) = false) (n10 : (kd == 10) = false) (n11 : (kd == 11) = false) (n12 : (kd == 12) = false) : Calls Try.prog 41 #[.int .i64 kd] w fun e w' => e = .returned (.int .i64 0) ∧ w' = w := by
  go_enter Try.func41, Try.ntmps41
  go_wp2
  go_ret
  exact ⟨rfl, rfl⟩

set_option maxRecDepth 20000 in
set_option maxHeartbeats 800000 in
theorem laid_0 (w : World) (cs : Array Value) (bv : Value) (a : AddR) (n1 : (a.kind == 1) = false) (n2 : (a.kind == 2) = false) (n3 : (a.kind == 3) = false) (n4 : (a.kind == 4) = false) (n5 : (a.kind == 5) = false) (n6 : (a.kind == 6) = false) (n7 : (a.kind == 7) = false) (n8 : (a.kind == 8) = false) (n9 : (a.kind == 9) = false) (n10 : (a.kind == 10) = false) (n11 : (a.kind == 11) = false) (n12 : (a.kind == 12) = false) (n13 : (a.kind == 13) = false) (ha : AddIs w cs bv a) (hlen : a.S.length + a.B.length ≤ 140737488354000) :
    Calls Try.prog 12 #[.agg cs] w (LaidC w []) := by
  have hA := ha.below ((Below.refl _ _).alloc (Nat.le_refl _) (.cells cs 37))
  have HW := hide (fun W => lwidth_0 W a.kind n5 n6 n7 n8 n9 n10 n11 n12)
  have HC := hide (rfixedb (w.alloc (.cells cs 37)).drew a.N 0 ha.hN (by decide))
  have HS0 : Hid ((w.alloc (.cells cs 37)).drew.cell? ⟨w.heap.size, 1, none⟩ = some (.int .u64 a.N) ∧ (w.alloc (.cells cs 37)).drew.cell? ⟨w.heap.size, 0, none⟩ = some (.int .i64 a.kind)) := hide ⟨((Blk.made w cs _).cell 1).trans ha.c1, ((Blk.made w cs _).cell 0).trans ha.c0⟩
  have g0 := ha.c0
  have g1 := ha.c1
  have g2 := ha.c2
  have g3 := ha.c3
  have hN := ha.hN
  clear ha hA
  generalize a.kind = kd at *
  go_enter Try.func12, Try.ntmps12
  go_wp2_with fail
  have hnl : w.heap.size < (w.alloc (.cells cs 37)).drew.heap.size := Nat.lt_of_lt_of_eq (Nat.lt_succ_self _) (World.size_alloc w _).symm
  go_region_held3 (fun W => W.cell? ⟨w.heap.size, 1, none⟩ = some (.int .u64 a.N) ∧ W.cell? ⟨w.heap.size, 0, none⟩ = some (.int .i64 kd)) (first | exact HS0.out | exact ⟨(hb.cell (p := ⟨w.heap.size, 1, none⟩) hnl).trans HS0.out.1, (hb.cell (p := ⟨w.heap.size, 0, none⟩) hnl).trans HS0.out.2⟩) (first | (refine (HW.out _).mono ?_; rintro e w0 ⟨rfl, rfl⟩) | (refine (HC.out).mono ?_; rintro e w1 ⟨u, rfl, hown, hb⟩))
  have HO := hide hown
  have HB := hide hb
  clear hown hb
  go_wp2
  go_ret
  exact ⟨_, rfl, laid_end (o := .cells cs 37) HO.out ⟨HB.out.os, HB.out.tape, HB.out.output, HB.out.size, HB.out.block⟩⟩

theorem laid_st (w : World) (cs : Array Value) (bv : Value) (a : AddR) (ha : AddIs w cs bv a) (hlen : a.S.length + a.B.length ≤ 140737488354000) :
    Calls Try.prog 12 #[.agg cs] w (LaidC w (addB a)) := by
  by_cases k1 : a.kind = 1
  · have e : addB a = varB a.N := by unfold addB; simp [k1]
    rw [e]
    exact laid_1 w cs bv a k1 ha hlen
  by_cases k2 : a.kind = 2
  · have e : addB a = varB a.S.length ++ a.S := by unfold addB; simp [k2]
    rw [e]
    exact laid_2 w cs bv a k2 ha hlen
  by_cases k3 : a.kind = 3
  · have e : addB a = a.B := by unfold addB; simp [k3]
    rw [e]
    exact laid_3 w cs bv a k3 ha hlen
  by_cases k4 : a.kind = 4
  · have e : addB a = a.K := by unfold addB; simp [k4]
    rw [e]
    exact laid_4 w cs bv a k4 ha hlen
  by_cases k5 : a.kind = 5
  · have e : addB a = fixB 1 a.N := by unfold addB; simp [k5]
    rw [e]
    exact laid_5 w cs bv a k5 ha hlen
  by_cases k6 : a.kind = 6
  · have e : addB a = fixB 1 a.N := by unfold addB; simp [k6]
    rw [e]
    exact laid_6 w cs bv a k6 ha hlen
  by_cases k7 : a.kind = 7
  · have e : addB a = fixB 2 a.N := by unfold addB; simp [k7]
    rw [e]
    exact laid_7 w cs bv a k7 ha hlen
  by_cases k8 : a.kind = 8
  · have e : addB a = fixB 2 a.N := by unfold addB; simp [k8]
    rw [e]
    exact laid_8 w cs bv a k8 ha hlen
  by_cases k9 : a.kind = 9
  · have e : addB a = fixB 4 a.N := by unfold addB; simp [k9]
    rw [e]
    exact laid_9 w cs bv a k9 ha hlen
  by_cases k10 : a.kind = 10
  · have e : addB a = fixB 4 a.N := by unfold addB; simp [k10]
    rw [e]
    exact laid_10 w cs bv a k10 ha hlen
  by_cases k11 : a.kind = 11
  · have e : addB a = fixB 8 a.N := by unfold addB; simp [k11]
    rw [e]
    exact laid_11 w cs bv a k11 ha hlen
  by_cases k12 : a.kind = 12
  · have e : addB a = fixB 8 a.N := by unfold addB; simp [k12]
    rw [e]
    exact laid_12 w cs bv a k12 ha hlen
  by_cases k13 : a.kind = 13
  · have e : addB a = varB a.B.length ++ a.B := by unfold addB; simp [k13]
    rw [e]
    exact laid_13 w cs bv a k13 ha hlen
  have e : addB a = [] := by unfold addB; simp [k1, k2, k3, k4, k5, k6, k7, k8, k9, k10, k11, k12, k13]
  rw [e]
  exact laid_0 w cs bv a (beq_eq_false_iff_ne.2 k1) (beq_eq_false_iff_ne.2 k2) (beq_eq_false_iff_ne.2 k3) (beq_eq_false_iff_ne.2 k4) (beq_eq_false_iff_ne.2 k5) (beq_eq_false_iff_ne.2 k6) (beq_eq_false_iff_ne.2 k7) (beq_eq_false_iff_ne.2 k8) (beq_eq_false_iff_ne.2 k9) (beq_eq_false_iff_ne.2 k10) (beq_eq_false_iff_ne.2 k11) (beq_eq_false_iff_ne.2 k12) (beq_eq_false_iff_ne.2 k13) ha hlen
end Go.Proofs.Ytinjcefekbpabaa
