/- take, from a nil Dec. -/
import Derived.Test.YtinjcefekbpababT3
namespace Go.Proofs.Ytinjcefekbpabab
set_option linter.unusedVariables false
set_option linter.unusedSimpArgs false
open Go.RowKit

theorem take_nil_uint8 (w : World) : Calls Try.prog 48 #[.pointer none] w fun e w' => e = .returned (.int .u8 0) ∧ w' = w := by
  go_enter Try.func48, Try.ntmps48
  go_wp2_with (first | (go_at_call 20; refine (at_nil _).mono ?_; rintro e w' ⟨rfl, rfl⟩) | (go_at_call 65; refine (width_uint8 _).mono ?_; rintro e w' ⟨rfl, rfl⟩) | (go_at_call 27; refine (next_nil _ _ _).mono ?_; rintro e w' ⟨rfl, rfl⟩))
  go_rounds 1
  go_ret
  exact ⟨rfl, rfl⟩
theorem take_nil_int16 (w : World) : Calls Try.prog 49 #[.pointer none] w fun e w' => e = .returned (.int .i16 0) ∧ w' = w := by
  go_enter Try.func49, Try.ntmps49
  go_wp2_with (first | (go_at_call 20; refine (at_nil _).mono ?_; rintro e w' ⟨rfl, rfl⟩) | (go_at_call 66; refine (width_int16 _).mono ?_; rintro e w' ⟨rfl, rfl⟩) | (go_at_call 27; refine (next_nil _ _ _).mono ?_; rintro e w' ⟨rfl, rfl⟩))
  go_rounds 1
  go_ret
  exact ⟨rfl, rfl⟩
theorem take_nil_uint16 (w : World) : Calls Try.prog 50 #[.pointer none] w fun e w' => e = .returned (.int .u16 0) ∧ w' = w := by
  go_enter Try.func50, Try.ntmps50
  go_wp2_with (first | (go_at_call 20; refine (at_nil _).mono ?_; rintro e w' ⟨rfl, rfl⟩) | (go_at_call 67; refine (width_uint16 _).mono ?_; rintro e w' ⟨rfl, rfl⟩) | (go_at_call 27; refine (next_nil _ _ _).mono ?_; rintro e w' ⟨rfl, rfl⟩))
  go_rounds 1
  go_ret
  exact ⟨rfl, rfl⟩
theorem take_nil_int32 (w : World) : Calls Try.prog 51 #[.pointer none] w fun e w' => e = .returned (.int .i32 0) ∧ w' = w := by
  go_enter Try.func51, Try.ntmps51
  go_wp2_with (first | (go_at_call 20; refine (at_nil _).mono ?_; rintro e w' ⟨rfl, rfl⟩) | (go_at_call 68; refine (width_int32 _).mono ?_; rintro e w' ⟨rfl, rfl⟩) | (go_at_call 27; refine (next_nil _ _ _).mono ?_; rintro e w' ⟨rfl, rfl⟩))
  go_rounds 1
  go_ret
  exact ⟨rfl, rfl⟩
theorem take_nil_uint32 (w : World) : Calls Try.prog 52 #[.pointer none] w fun e w' => e = .returned (.int .u32 0) ∧ w' = w := by
  go_enter Try.func52, Try.ntmps52
  go_wp2_with (first | (go_at_call 20; refine (at_nil _).mono ?_; rintro e w' ⟨rfl, rfl⟩) | (go_at_call 69; refine (width_uint32 _).mono ?_; rintro e w' ⟨rfl, rfl⟩) | (go_at_call 27; refine (next_nil _ _ _).mono ?_; rintro e w' ⟨rfl, rfl⟩))
  go_rounds 1
  go_ret
  exact ⟨rfl, rfl⟩
theorem take_nil_int64 (w : World) : Calls Try.prog 53 #[.pointer none] w fun e w' => e = .returned (.int .i64 0) ∧ w' = w := by
  go_enter Try.func53, Try.ntmps53
  go_wp2_with (first | (go_at_call 20; refine (at_nil _).mono ?_; rintro e w' ⟨rfl, rfl⟩) | (go_at_call 70; refine (width_int64 _).mono ?_; rintro e w' ⟨rfl, rfl⟩) | (go_at_call 27; refine (next_nil _ _ _).mono ?_; rintro e w' ⟨rfl, rfl⟩))
  go_rounds 1
  go_ret
  exact ⟨rfl, rfl⟩
theorem take_nil_uint64 (w : World) : Calls Try.prog 54 #[.pointer none] w fun e w' => e = .returned (.int .u64 0) ∧ w' = w := by
  go_enter Try.func54, Try.ntmps54
  go_wp2_with (first | (go_at_call 20; refine (at_nil _).mono ?_; rintro e w' ⟨rfl, rfl⟩) | (go_at_call 71; refine (width_uint64 _).mono ?_; rintro e w' ⟨rfl, rfl⟩) | (go_at_call 27; refine (next_nil _ _ _).mono ?_; rintro e w' ⟨rfl, rfl⟩))
  go_rounds 1
  go_ret
  exact ⟨rfl, rfl⟩
theorem each_nil (w : World) (n : Int) (h1 : -9223372036854775808 ≤ n) (h2 : n ≤ 9223372036854775807) : Calls Try.prog 55 #[.pointer none, .int .i64 n, .func (.func 56) #[] #[]] w fun e w' => e = .returned (.slice none 0 0) ∧ w' = w := by
  have hnn := one_notnil
  go_enter Try.func55, Try.ntmps55
  go_wp2_with (first | (go_at_call 25; refine (bound_any _ _ h1 h2).mono ?_; rintro e w' ⟨rfl, rfl⟩) | (go_at_call 24; refine (var_nil _ _).mono ?_; rintro e w' ⟨rfl, rfl⟩))
  go_rounds 1
  go_wp2_with (go_at_call 26; refine (over_nil _).mono ?_; rintro e w' ⟨rfl, rfl⟩)
  go_ret
  exact ⟨rfl, rfl⟩
set_option maxRecDepth 20000 in
set_option maxHeartbeats 1600000 in
theorem key_nil (w : World) : Calls Try.prog 46 #[.pointer none] w fun e w' => e = .returned (.agg (keyCells none)) ∧ Below w.heap.size w w' := by
  have hone : (keyCells none).all (·.oneCell') = true := by kernel_rfl
  have HK := hide (Blk.made w #[.int .u8 0, .int .u8 0, .int .u8 0, .int .u8 0, .int .u8 0, .int .u8 0, .int .u8 0, .int .u8 0, .int .u8 0, .int .u8 0, .int .u8 0, .int .u8 0, .int .u8 0, .int .u8 0, .int .u8 0, .int .u8 0, .int .u8 0, .int .u8 0, .int .u8 0, .int .u8 0, .int .u8 0, .int .u8 0, .int .u8 0, .int .u8 0, .int .u8 0, .int .u8 0, .int .u8 0, .int .u8 0, .int .u8 0, .int .u8 0, .int .u8 0, .int .u8 0] 52)
  go_enter Try.func46, Try.ntmps46
  go_wp2_with (first | ((with_reducible refine wpList_store_blk ?_ 52 (.tmp 2) (.tmp 14) ?_ w.heap.size 32 _ (keyCells none) 52 ?_ ?_ ?_ ?_ HK.out infoKey hone ?_); rfl; rfl; rfl; rfl; rfl; rfl; intro w2 hk2 hg2) | (go_at_call 20; refine (at_nil _).mono ?_; rintro e w' ⟨rfl, rfl⟩) | (go_at_call 27; refine (next_nil _ _ _).mono ?_; rintro e w' ⟨rfl, rfl⟩))
  refine bodyPost_ret (results_cell rfl _ _ _ rfl _ (loadBlk hk2 rfl)) rfl ?_
  exact ⟨rfl, ((Below.refl _ _).alloc (Nat.le_refl _) _).trans (below_grownBy hg2 (Nat.le_refl _) (by simp))⟩

def TakeN (w : World) (B : List UInt8) (e : Ending) (w' : World) : Prop := e = .returned (.agg #[.int .u64 0, .string ⟨B.toArray⟩]) ∧ Below w.heap.size w w'
theorem boxes_below (w : World) (kind most n : Int) : Below w.heap.size w (boxes w kind most n) := ((Below.refl _ _).alloc (Nat.le_refl _) _).alloc (by simp) _
theorem boxes_size (w : World) (kind most n : Int) : (boxes w kind most n).heap.size = w.heap.size + 2 := by simp [boxes]
theorem boxes_resN {w w1 : World} (kind most n : Int) (hg : Below (boxes w kind most n).heap.size (boxes w kind most n) w1) :
    Blk w1 (w.heap.size + 1) #[.int .u64 0, .string ⟨#[]⟩] 58 := by
  have h : Blk (boxes w kind most n) (w.heap.size + 1) #[.int .u64 0, .string ⟨#[]⟩] 58 := by
    have := Blk.made (w.alloc (.cells #[.int .i64 kind, .int .u64 most, .int .i64 n] 61)) #[.int .u64 0, .string ⟨#[]⟩] 58
    rw [World.size_alloc] at this
    exact this
  exact h.below hg h.lt
theorem takeN_end {w w1 : World} (x v : Value) (hb : Below w.heap.size w w1) (hk : Blk w1 (w.heap.size + 1) #[.int .u64 0, .string ⟨#[]⟩] 58) :
    (loadVar 58 ⟨w.heap.size + 1, 0, none⟩).run Try.prog ((w1.setCell ⟨w.heap.size + 1, 0, none⟩ x).setCell ⟨w.heap.size + 1, 1, none⟩ v) = .ok (.agg #[x, v]) ((w1.setCell ⟨w.heap.size + 1, 0, none⟩ x).setCell ⟨w.heap.size + 1, 1, none⟩ v) ∧
    Below w.heap.size w ((w1.setCell ⟨w.heap.size + 1, 0, none⟩ x).setCell ⟨w.heap.size + 1, 1, none⟩ v) :=
  ⟨loadGot (Blk.set (Blk.set hk 0 x) 1 v), (hb.setCell (by simp) _).setCell (by simp) _⟩

set_option maxRecDepth 20000 in
set_option maxHeartbeats 1600000 in
theorem taken_1 (w : World) (most : Nat) (n : Int) :
    Calls Try.prog 18 #[.pointer none, .agg #[.int .i64 1, .int .u64 most, .int .i64 n]] w (TakeN w []) := by
  have HC := hide (var_nil (boxes w 1 most n) most)
  go_enter Try.func18, Try.ntmps18
  go_wp2_with fail
  refine (HC.out).mono ?_
  rintro e w1 ⟨rfl, hw⟩
  have hb : Below (boxes w 1 most n).heap.size (boxes w 1 most n) w1 := by rw [hw]; exact Below.refl _ _
  clear hw
  have hk := boxes_resN 1 most n hb
  have c0 := hk.cell 0
  have c1 := hk.cell 1
  have f0 := hk.frozen 0
  have f1 := hk.frozen 1
  have hb2 := (boxes_below w 1 most n).trans (hb.mono (by rw [boxes_size]; omega))
  go_wp2
  have he := takeN_end (.int .u64 0) (.string ⟨#[]⟩) hb2 hk
  refine bodyPost_ret (results_cell rfl _ _ _ rfl _ he.1) rfl ?_
  exact ⟨rfl, he.2⟩

set_option maxRecDepth 20000 in
set_option maxHeartbeats 1600000 in
theorem taken_2 (w : World) (most : Nat) (n : Int) (h1 : -9223372036854775808 ≤ n) (h2 : n ≤ 9223372036854775807) :
    Calls Try.prog 18 #[.pointer none, .agg #[.int .i64 2, .int .u64 most, .int .i64 n]] w (TakeN w []) := by
  have HC := hide (text_nil (boxes w 2 most n) n h1 h2)
  go_enter Try.func18, Try.ntmps18
  go_wp2_with fail
  refine (HC.out).mono ?_
  rintro e w1 ⟨rfl, hw⟩
  have hb : Below (boxes w 2 most n).heap.size (boxes w 2 most n) w1 := by rw [hw]; exact Below.refl _ _
  clear hw
  have hk := boxes_resN 2 most n hb
  have c0 := hk.cell 0
  have c1 := hk.cell 1
  have f0 := hk.frozen 0
  have f1 := hk.frozen 1
  have hb2 := (boxes_below w 2 most n).trans (hb.mono (by rw [boxes_size]; omega))
  go_wp2
  have he := takeN_end (.int .u64 0) (.string ⟨#[]⟩) hb2 hk
  refine bodyPost_ret (results_cell rfl _ _ _ rfl _ he.1) rfl ?_
  exact ⟨rfl, he.2⟩

set_option maxRecDepth 20000 in
set_option maxHeartbeats 1600000 in
theorem taken_5 (w : World) (most : Nat) (n : Int) :
    Calls Try.prog 18 #[.pointer none, .agg #[.int .i64 5, .int .u64 most, .int .i64 n]] w (TakeN w []) := by
  have HC := hide (take_nil_int8 (boxes w 5 most n))
  go_enter Try.func18, Try.ntmps18
  go_wp2_with fail
  refine (HC.out).mono ?_
  rintro e w1 ⟨rfl, hw⟩
  have hb : Below (boxes w 5 most n).heap.size (boxes w 5 most n) w1 := by rw [hw]; exact Below.refl _ _
  clear hw
  have hk := boxes_resN 5 most n hb
  have c0 := hk.cell 0
  have c1 := hk.cell 1
  have f0 := hk.frozen 0
  have f1 := hk.frozen 1
  have hb2 := (boxes_below w 5 most n).trans (hb.mono (by rw [boxes_size]; omega))
  go_wp2
  have he := takeN_end (.int .u64 0) (.string ⟨#[]⟩) hb2 hk
  refine bodyPost_ret (results_cell rfl _ _ _ rfl _ he.1) rfl ?_
  exact ⟨rfl, he.2⟩

set_option maxRecDepth 20000 in
set_option maxHeartbeats 1600000 in
theorem taken_6 (w : World) (most : Nat) (n : Int) :
    Calls Try.prog 18 #[.pointer none, .agg #[.int .i64 6, .int .u64 most, .int .i64 n]] w (TakeN w []) := by
  have HC := hide (take_nil_uint8 (boxes w 6 most n))
  go_enter Try.func18, Try.ntmps18
  go_wp2_with fail
  refine (HC.out).mono ?_
  rintro e w1 ⟨rfl, hw⟩
  have hb : Below (boxes w 6 most n).heap.size (boxes w 6 most n) w1 := by rw [hw]; exact Below.refl _ _
  clear hw
  have hk := boxes_resN 6 most n hb
  have c0 := hk.cell 0
  have c1 := hk.cell 1
  have f0 := hk.frozen 0
  have f1 := hk.frozen 1
  have hb2 := (boxes_below w 6 most n).trans (hb.mono (by rw [boxes_size]; omega))
  go_wp2
  have he := takeN_end (.int .u64 0) (.string ⟨#[]⟩) hb2 hk
  refine bodyPost_ret (results_cell rfl _ _ _ rfl _ he.1) rfl ?_
  exact ⟨rfl, he.2⟩

set_option maxRecDepth 20000 in
set_option maxHeartbeats 1600000 in
theorem taken_7 (w : World) (most : Nat) (n : Int) :
    Calls Try.prog 18 #[.pointer none, .agg #[.int .i64 7, .int .u64 most, .int .i64 n]] w (TakeN w []) := by
  have HC := hide (take_nil_int16 (boxes w 7 most n))
  go_enter Try.func18, Try.ntmps18
  go_wp2_with fail
  refine (HC.out).mono ?_
  rintro e w1 ⟨rfl, hw⟩
  have hb : Below (boxes w 7 most n).heap.size (boxes w 7 most n) w1 := by rw [hw]; exact Below.refl _ _
  clear hw
  have hk := boxes_resN 7 most n hb
  have c0 := hk.cell 0
  have c1 := hk.cell 1
  have f0 := hk.frozen 0
  have f1 := hk.frozen 1
  have hb2 := (boxes_below w 7 most n).trans (hb.mono (by rw [boxes_size]; omega))
  go_wp2
  have he := takeN_end (.int .u64 0) (.string ⟨#[]⟩) hb2 hk
  refine bodyPost_ret (results_cell rfl _ _ _ rfl _ he.1) rfl ?_
  exact ⟨rfl, he.2⟩

set_option maxRecDepth 20000 in
set_option maxHeartbeats 1600000 in
theorem taken_8 (w : World) (most : Nat) (n : Int) :
    Calls Try.prog 18 #[.pointer none, .agg #[.int .i64 8, .int .u64 most, .int .i64 n]] w (TakeN w []) := by
  have HC := hide (take_nil_uint16 (boxes w 8 most n))
  go_enter Try.func18, Try.ntmps18
  go_wp2_with fail
  refine (HC.out).mono ?_
  rintro e w1 ⟨rfl, hw⟩
  have hb : Below (boxes w 8 most n).heap.size (boxes w 8 most n) w1 := by rw [hw]; exact Below.refl _ _
  clear hw
  have hk := boxes_resN 8 most n hb
  have c0 := hk.cell 0
  have c1 := hk.cell 1
  have f0 := hk.frozen 0
  have f1 := hk.frozen 1
  have hb2 := (boxes_below w 8 most n).trans (hb.mono (by rw [boxes_size]; omega))
  go_wp2
  have he := takeN_end (.int .u64 0) (.string ⟨#[]⟩) hb2 hk
  refine bodyPost_ret (results_cell rfl _ _ _ rfl _ he.1) rfl ?_
  exact ⟨rfl, he.2⟩

set_option maxRecDepth 20000 in
set_option maxHeartbeats 1600000 in
theorem taken_9 (w : World) (most : Nat) (n : Int) :
    Calls Try.prog 18 #[.pointer none, .agg #[.int .i64 9, .int .u64 most, .int .i64 n]] w (TakeN w []) := by
  have HC := hide (take_nil_int32 (boxes w 9 most n))
  go_enter Try.func18, Try.ntmps18
  go_wp2_with fail
  refine (HC.out).mono ?_
  rintro e w1 ⟨rfl, hw⟩
  have hb : Below (boxes w 9 most n).heap.size (boxes w 9 most n) w1 := by rw [hw]; exact Below.refl _ _
  clear hw
  have hk := boxes_resN 9 most n hb
  have c0 := hk.cell 0
  have c1 := hk.cell 1
  have f0 := hk.frozen 0
  have f1 := hk.frozen 1
  have hb2 := (boxes_below w 9 most n).trans (hb.mono (by rw [boxes_size]; omega))
  go_wp2
  have he := takeN_end (.int .u64 0) (.string ⟨#[]⟩) hb2 hk
  refine bodyPost_ret (results_cell rfl _ _ _ rfl _ he.1) rfl ?_
  exact ⟨rfl, he.2⟩

set_option maxRecDepth 20000 in
set_option maxHeartbeats 1600000 in
theorem taken_10 (w : World) (most : Nat) (n : Int) :
    Calls Try.prog 18 #[.pointer none, .agg #[.int .i64 10, .int .u64 most, .int .i64 n]] w (TakeN w []) := by
  have HC := hide (take_nil_uint32 (boxes w 10 most n))
  go_enter Try.func18, Try.ntmps18
  go_wp2_with fail
  refine (HC.out).mono ?_
  rintro e w1 ⟨rfl, hw⟩
  have hb : Below (boxes w 10 most n).heap.size (boxes w 10 most n) w1 := by rw [hw]; exact Below.refl _ _
  clear hw
  have hk := boxes_resN 10 most n hb
  have c0 := hk.cell 0
  have c1 := hk.cell 1
  have f0 := hk.frozen 0
  have f1 := hk.frozen 1
  have hb2 := (boxes_below w 10 most n).trans (hb.mono (by rw [boxes_size]; omega))
  go_wp2
  have he := takeN_end (.int .u64 0) (.string ⟨#[]⟩) hb2 hk
  refine bodyPost_ret (results_cell rfl _ _ _ rfl _ he.1) rfl ?_
  exact ⟨rfl, he.2⟩

set_option maxRecDepth 20000 in
set_option maxHeartbeats 1600000 in
theorem taken_11 (w : World) (most : Nat) (n : Int) :
    Calls Try.prog 18 #[.pointer none, .agg #[.int .i64 11, .int .u64 most, .int .i64 n]] w (TakeN w []) := by
  have HC := hide (take_nil_int64 (boxes w 11 most n))
  go_enter Try.func18, Try.ntmps18
  go_wp2_with fail
  refine (HC.out).mono ?_
  rintro e w1 ⟨rfl, hw⟩
  have hb : Below (boxes w 11 most n).heap.size (boxes w 11 most n) w1 := by rw [hw]; exact Below.refl _ _
  clear hw
  have hk := boxes_resN 11 most n hb
  have c0 := hk.cell 0
  have c1 := hk.cell 1
  have f0 := hk.frozen 0
  have f1 := hk.frozen 1
  have hb2 := (boxes_below w 11 most n).trans (hb.mono (by rw [boxes_size]; omega))
  go_wp2
  have he := takeN_end (.int .u64 0) (.string ⟨#[]⟩) hb2 hk
  refine bodyPost_ret (results_cell rfl _ _ _ rfl _ he.1) rfl ?_
  exact ⟨rfl, he.2⟩

set_option maxRecDepth 20000 in
set_option maxHeartbeats 1600000 in
theorem taken_12 (w : World) (most : Nat) (n : Int) :
    Calls Try.prog 18 #[.pointer none, .agg #[.int .i64 12, .int .u64 most, .int .i64 n]] w (TakeN w []) := by
  have HC := hide (take_nil_uint64 (boxes w 12 most n))
  go_enter Try.func18, Try.ntmps18
  go_wp2_with fail
  refine (HC.out).mono ?_
  rintro e w1 ⟨rfl, hw⟩
  have hb : Below (boxes w 12 most n).heap.size (boxes w 12 most n) w1 := by rw [hw]; exact Below.refl _ _
  clear hw
  have hk := boxes_resN 12 most n hb
  have c0 := hk.cell 0
  have c1 := hk.cell 1
  have f0 := hk.frozen 0
  have f1 := hk.frozen 1
  have hb2 := (boxes_below w 12 most n).trans (hb.mono (by rw [boxes_size]; omega))
  go_wp2
  have he := takeN_end (.int .u64 0) (.string ⟨#[]⟩) hb2 hk
  refine bodyPost_ret (results_cell rfl _ _ _ rfl _ he.1) rfl ?_
  exact ⟨rfl, he.2⟩

set_option maxRecDepth 20000 in
set_option maxHeartbeats 1600000 in
theorem taken_3 (w : World) (most : Nat) (n : Int) (h1 : -9223372036854775808 ≤ n) (h2 : n ≤ 9223372036854775807) :
    Calls Try.prog 18 #[.pointer none, .agg #[.int .i64 3, .int .u64 most, .int .i64 n]] w (TakeN w []) := by
  have HC := hide (raw_nil (boxes w 3 most n) n h1 h2)
  go_enter Try.func18, Try.ntmps18
  go_wp2_with fail
  refine (HC.out).mono ?_
  rintro e w0 ⟨rfl, hw⟩
  have hb0 : Below (boxes w 3 most n).heap.size (boxes w 3 most n) w0 ∧ w0.heap.size = (boxes w 3 most n).heap.size := by rw [hw]; exact ⟨Below.refl _ _, rfl⟩
  clear hw
  have HS := hide (spoilt_any w0 w0.heap.size (.slice none 0 0) [] (World.ownsRow_nil _ _ _ _) (Nat.le_refl _) (by simp))
  have HB0 := hide hb0
  clear hb0
  go_wp2_with fail
  refine (HS.out).mono ?_
  rintro e w1 ⟨rfl, hb1⟩
  have hb : Below (boxes w 3 most n).heap.size (boxes w 3 most n) w1 := HB0.out.1.trans (by rw [← HB0.out.2]; exact hb1)
  clear hb1
  have hk := boxes_resN 3 most n hb
  have c0 := hk.cell 0
  have c1 := hk.cell 1
  have f0 := hk.frozen 0
  have f1 := hk.frozen 1
  have hb2 := (boxes_below w 3 most n).trans (hb.mono (by rw [boxes_size]; omega))
  go_wp2
  have he := takeN_end (.int .u64 0) (.string ⟨#[]⟩) hb2 hk
  refine bodyPost_ret (results_cell rfl _ _ _ rfl _ he.1) rfl ?_
  exact ⟨rfl, he.2⟩

set_option maxRecDepth 20000 in
set_option maxHeartbeats 1600000 in
theorem taken_13 (w : World) (most : Nat) (n : Int) (h1 : -9223372036854775808 ≤ n) (h2 : n ≤ 9223372036854775807) :
    Calls Try.prog 18 #[.pointer none, .agg #[.int .i64 13, .int .u64 most, .int .i64 n]] w (TakeN w []) := by
  have HC := hide (each_nil (boxes w 13 most n) n h1 h2)
  go_enter Try.func18, Try.ntmps18
  go_wp2_with fail
  refine (HC.out).mono ?_
  rintro e w0 ⟨rfl, hw⟩
  have hb0 : Below (boxes w 13 most n).heap.size (boxes w 13 most n) w0 ∧ w0.heap.size = (boxes w 13 most n).heap.size := by rw [hw]; exact ⟨Below.refl _ _, rfl⟩
  clear hw
  have HS := hide (spoilt_any w0 w0.heap.size (.slice none 0 0) [] (World.ownsRow_nil _ _ _ _) (Nat.le_refl _) (by simp))
  have HB0 := hide hb0
  clear hb0
  go_wp2_with fail
  refine (HS.out).mono ?_
  rintro e w1 ⟨rfl, hb1⟩
  have hb : Below (boxes w 13 most n).heap.size (boxes w 13 most n) w1 := HB0.out.1.trans (by rw [← HB0.out.2]; exact hb1)
  clear hb1
  have hk := boxes_resN 13 most n hb
  have c0 := hk.cell 0
  have c1 := hk.cell 1
  have f0 := hk.frozen 0
  have f1 := hk.frozen 1
  have hb2 := (boxes_below w 13 most n).trans (hb.mono (by rw [boxes_size]; omega))
  go_wp2
  have he := takeN_end (.int .u64 0) (.string ⟨#[]⟩) hb2 hk
  refine bodyPost_ret (results_cell rfl _ _ _ rfl _ he.1) rfl ?_
  exact ⟨rfl, he.2⟩

set_option maxRecDepth 20000 in
set_option maxHeartbeats 1600000 in
theorem taken_4 (w : World) (most : Nat) (n : Int) :
    Calls Try.prog 18 #[.pointer none, .agg #[.int .i64 4, .int .u64 most, .int .i64 n]] w (TakeN w (List.replicate 32 0)) := by
  have HC := hide (key_nil (boxes w 4 most n))
  go_enter Try.func18, Try.ntmps18
  go_wp2_with fail
  refine (HC.out).mono ?_
  rintro e w1 ⟨rfl, hb⟩
  rw [keyCells_eq]
  have HO := hide (all_oneCell_toArray (u8c_one (keyBytes none)))
  have HL2 := hide (show ((keyBytes none).map u8c).toArray.size = 32 by rfl)
  have hk := boxes_resN 4 most n hb
  have hsz1 : w.heap.size + 1 < w1.heap.size := hk.lt
  have hb2 := (boxes_below w 4 most n).trans (hb.mono (by rw [boxes_size]; omega))
  obtain ⟨kb, hkb⟩ : ∃ kb, kb = keyBytes none := ⟨_, rfl⟩
  rw [← hkb] at HO HL2 ⊢
  have HL3 := hide (show kb.length = 32 by rw [hkb]; rfl)
  have HKB := hide (show kb = List.replicate 32 0 by rw [hkb]; rfl)
  clear hkb HC
  obtain ⟨cs, hcs⟩ : ∃ cs, cs = (kb.map u8c).toArray := ⟨_, rfl⟩
  rw [← hcs] at HO HL2 ⊢
  have HCS := hide hcs
  clear hcs
  have HKM := hide (Blk.made w1 #[.int .u8 0, .int .u8 0, .int .u8 0, .int .u8 0, .int .u8 0, .int .u8 0, .int .u8 0, .int .u8 0, .int .u8 0, .int .u8 0, .int .u8 0, .int .u8 0, .int .u8 0, .int .u8 0, .int .u8 0, .int .u8 0, .int .u8 0, .int .u8 0, .int .u8 0, .int .u8 0, .int .u8 0, .int .u8 0, .int .u8 0, .int .u8 0, .int .u8 0, .int .u8 0, .int .u8 0, .int .u8 0, .int .u8 0, .int .u8 0, .int .u8 0, .int .u8 0] 52)
  go_wp2_with ((with_reducible refine wpList_store_blk ?_ 52 (.tmp 5) (.tmp 33) ?_ w1.heap.size 32 _ cs 52 HL2.out ?_ ?_ ?_ HKM.out infoKey HO.out ?_); rfl; rfl; rfl; rfl; rfl; intro w2 hk2 hg2; rw [HCS.out] at hk2; have hcv := conv_rd w2 _ _ (Rd_blk hk2 (by rw [HL3.out]; decide) 32 HL3.out); have hkr := (hk.alloc (.cells #[.int .u8 0, .int .u8 0, .int .u8 0, .int .u8 0, .int .u8 0, .int .u8 0, .int .u8 0, .int .u8 0, .int .u8 0, .int .u8 0, .int .u8 0, .int .u8 0, .int .u8 0, .int .u8 0, .int .u8 0, .int .u8 0, .int .u8 0, .int .u8 0, .int .u8 0, .int .u8 0, .int .u8 0, .int .u8 0, .int .u8 0, .int .u8 0, .int .u8 0, .int .u8 0, .int .u8 0, .int .u8 0, .int .u8 0, .int .u8 0, .int .u8 0, .int .u8 0] 52)).grown hg2 (fun e => by have := Option.some.inj e; omega); have c0 := hkr.cell 0; have c1 := hkr.cell 1; have f0 := hkr.frozen 0; have f1 := hkr.frozen 1; clear hk2)
  have hb3 : Below w.heap.size w w2 := (hb2.alloc (by omega) _).trans (below_grownBy hg2 (by omega) (by simp; omega))
  have he := takeN_end (.int .u64 0) (.string ⟨kb.toArray⟩) hb3 hkr
  refine bodyPost_ret (results_cell rfl _ _ _ rfl _ he.1) rfl ?_
  exact ⟨by rw [HKB.out], he.2⟩

set_option maxRecDepth 20000 in
set_option maxHeartbeats 1600000 in
theorem taken_0 (w : World) (kind : Int) (most : Nat) (n : Int) (n1 : (kind == 1) = false) (n2 : (kind == 2) = false) (n3 : (kind == 3) = false) (n4 : (kind == 4) = false) (n5 : (kind == 5) = false) (n6 : (kind == 6) = false) (n7 : (kind == 7) = false) (n8 : (kind == 8) = false) (n9 : (kind == 9) = false) (n10 : (kind == 10) = false) (n11 : (kind == 11) = false) (n12 : (kind == 12) = false) (n13 : (kind == 13) = false) :
    Calls Try.prog 18 #[.pointer none, .agg #[.int .i64 kind, .int .u64 most, .int .i64 n]] w (TakeN w []) := by
  go_enter Try.func18, Try.ntmps18
  go_wp2
  refine bodyPost_ret (v := .agg #[.int .u64 0, .string ⟨#[]⟩]) (by simp [results, Try.results18, go_sem]) rfl ⟨rfl, boxes_below w kind most n⟩

theorem take_nil (w : World) (kind : Int) (most : Nat) (n : Int) (h1 : -9223372036854775808 ≤ n) (h2 : n ≤ 9223372036854775807) :
    Calls Try.prog 18 #[.pointer none, .agg #[.int .i64 kind, .int .u64 most, .int .i64 n]] w (TakeN w (if kind = 4 then List.replicate 32 0 else [])) := by
  by_cases k1 : kind = 1
  · subst k1
    exact taken_1 w most n
  by_cases k2 : kind = 2
  · subst k2
    exact taken_2 w most n h1 h2
  by_cases k3 : kind = 3
  · subst k3
    exact taken_3 w most n h1 h2
  by_cases k4 : kind = 4
  · subst k4
    exact taken_4 w most n
  by_cases k5 : kind = 5
  · subst k5
    exact taken_5 w most n
  by_cases k6 : kind = 6
  · subst k6
    exact taken_6 w most n
  by_cases k7 : kind = 7
  · subst k7
    exact taken_7 w most n
  by_cases k8 : kind = 8
  · subst k8
    exact taken_8 w most n
  by_cases k9 : kind = 9
  · subst k9
    exact taken_9 w most n
  by_cases k10 : kind = 10
  · subst k10
    exact taken_10 w most n
  by_cases k11 : kind = 11
  · subst k11
    exact taken_11 w most n
  by_cases k12 : kind = 12
  · subst k12
    exact taken_12 w most n
  by_cases k13 : kind = 13
  · subst k13
    exact taken_13 w most n h1 h2
  rw [if_neg k4]
  exact taken_0 w kind most n (beq_eq_false_iff_ne.2 k1) (beq_eq_false_iff_ne.2 k2) (beq_eq_false_iff_ne.2 k3) (beq_eq_false_iff_ne.2 k4) (beq_eq_false_iff_ne.2 k5) (beq_eq_false_iff_ne.2 k6) (beq_eq_false_iff_ne.2 k7) (beq_eq_false_iff_ne.2 k8) (beq_eq_false_iff_ne.2 k9) (beq_eq_false_iff_ne.2 k10) (beq_eq_false_iff_ne.2 k11) (beq_eq_false_iff_ne.2 k12) (beq_eq_false_iff_ne.2 k13)
end Go.Proofs.Ytinjcefekbpabab
