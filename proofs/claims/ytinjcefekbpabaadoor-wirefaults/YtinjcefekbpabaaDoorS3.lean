/- The texts of an Errno and of a Fault; what they wrap. -/
import Derived.Test.YtinjcefekbpabaaDoorS2
import Derived.LaidEql
import Derived.Stop.Asserts
import Derived.RowKitTokens
namespace Go.Proofs.YtinjcefekbpabaaDoor
set_option linter.unusedVariables false
set_option linter.unusedSimpArgs false
open Go.RowKit Go.Sort

theorem itoa_len (n : Int) (h0 : -9223372036854775808 ≤ n) (h1 : n ≤ 9223372036854775807) : (str (Lib.itoa n)).size ≤ 20 := by
  rw [str_size]
  unfold Lib.itoa
  split
  · have := digits_len n.natAbs (by omega)
    simp only [List.length_cons]; omega
  · have := digits_len n.toNat (by omega)
    omega
def sErr : ByteArray := ⟨#[101, 114, 114, 111, 114, 32]⟩
def sAt : ByteArray := ⟨#[97, 116, 32]⟩
def sCol : ByteArray := ⟨#[58, 32]⟩
def sMid : ByteArray := ⟨#[58, 32, 101, 114, 114, 111, 114, 32]⟩
theorem fault_text (s t : ByteArray) : sAt ++ s ++ sCol ++ (sErr ++ t) = sAt ++ s ++ sMid ++ t := by
  have : sCol ++ sErr = sMid := rfl
  rw [← ByteArray.append_assoc, ByteArray.append_assoc (a := sAt ++ s), this]

set_option maxRecDepth 20000 in
theorem errno_st (n : Int) (h0 : -9223372036854775808 ≤ n) (h1 : n ≤ 9223372036854775807) (w : World) (h : Tab w) : Calls Tryd.prog 10 #[.int .i64 n] w (StrC w (sErr ++ str (Lib.itoa n))) := by
  have hx := itoa_st n h0 h1 w h
  have hl := itoa_len n h0 h1
  generalize str (Lib.itoa n) = t at hx hl ⊢
  have hz : ¬ 9223372036854775807 < 6 + t.size := by omega
  clear hl h
  go_enter Tryd.func10, Tryd.ntmps10
  go_wp2_with (go_at_call 9; refine hx.mono ?_; rintro e w1 ⟨rfl, hb⟩)
  go_ret
  exact ⟨rfl, hb⟩

set_option maxRecDepth 20000 in
set_option maxHeartbeats 1000000 in
theorem fault_st (n c : Int) (h0 : -9223372036854775808 ≤ n) (h1 : n ≤ 9223372036854775807) (k0 : -9223372036854775808 ≤ c) (k1 : c ≤ 9223372036854775807) (w : World) (h : Tab w) :
    Calls Tryd.prog 4 #[.agg #[.int .i64 n, .int .i64 c]] w (StrC w (sAt ++ str (Lib.itoa n) ++ sMid ++ str (Lib.itoa c))) := by
  rw [← fault_text]
  obtain ⟨w0, hw0⟩ : ∃ w0, w0 = w.alloc (.cells #[.int .i64 n, .int .i64 c] 24) := ⟨_, rfl⟩
  have hb0 : Below w.heap.size w w0 := by rw [hw0]; exact (Below.refl _ _).alloc (Nat.le_refl _) _
  have ht : Tab w0 := h.below hb0
  have cA : ∀ d os, Calls Tryd.prog 9 #[.int .i64 n] (grow (redrawn w0 d) os) fun e w'' => e = .returned (.string (str (Lib.itoa n))) ∧ ∃ p : Regrown, w'' = grow (redrawn w0 p.d) p.os := fun d os => Calls.regrown_of (itoa_st n h0 h1 _ (ht.below (below_regrown w0 d os)))
  have cB : ∀ d os, Calls Tryd.prog 10 #[.int .i64 c] (grow (redrawn w0 d) os) fun e w'' => e = .returned (.string (sErr ++ str (Lib.itoa c))) ∧ ∃ p : Regrown, w'' = grow (redrawn w0 p.d) p.os := fun d os => Calls.regrown_of (errno_st c k0 k1 _ (ht.below (below_regrown w0 d os)))
  have q0 : w0.cell? ⟨w.heap.size, 0, none⟩ = some (.int .i64 n) := by rw [hw0]; simp
  have q1 : w0.cell? ⟨w.heap.size, 1, none⟩ = some (.int .i64 c) := by rw [hw0]; simp
  have g0 := cell_regrown q0
  have g1 := cell_regrown q1
  have hl := itoa_len n h0 h1
  have hm : (sErr ++ str (Lib.itoa c)).size ≤ 26 := by have := itoa_len c k0 k1; rw [ByteArray.size_append]; exact Nat.add_le_add (Nat.le_refl 6) this
  generalize str (Lib.itoa n) = s at cA hl ⊢
  generalize sErr ++ str (Lib.itoa c) = t at cB hm ⊢
  have z1 : ¬ 9223372036854775807 < 3 + s.size := by omega
  have z2 : ¬ 9223372036854775807 < 3 + s.size + 2 := by omega
  have z3 : ¬ 9223372036854775807 < 3 + s.size + 2 + t.size := by omega
  have mixed : Tryd.prog.follows .mixedOrders = true := by kernel_rfl
  clear hl hm h ht q0 q1
  go_enter Tryd.func4, Tryd.ntmps4
  go_wp2_with fail
  rw [← hw0]
  clear hw0
  refine wp_region_quiet_below mixed (by kernel_rfl) ?_
  repeat (quiet_step (first | exact cA _ _ | exact cB _ _))
  refine wpQuiet_nil ?_
  intro _ hw'
  obtain ⟨⟨dq, osq⟩, hw''⟩ := hw'
  subst hw''
  go_wp2
  go_ret
  exact ⟨rfl, hb0.trans ((below_regrown w0 dq osq).mono hb0.size)⟩

set_option maxRecDepth 20000 in
theorem unwrapF (n c : Int) (w : World) : Calls Tryd.prog 6 #[.agg #[.int .i64 n, .int .i64 c]] w fun e w' => e = .returned (.iface 22 (.int .i64 c)) ∧ w' = w.alloc (.cells #[.int .i64 n, .int .i64 c] 24) := by
  go_enter Tryd.func6, Tryd.ntmps6
  go_wp2
  go_ret
  exact ⟨rfl, rfl⟩
set_option maxRecDepth 20000 in
theorem unwrapW (T : TypeId) (v : Value) (w : World) : Calls Tryd.prog 50 #[.agg #[.iface T v]] w fun e w' => e = .returned (.iface T v) ∧ w' = w.alloc (.cells #[.iface T v] 31) := by
  go_enter Tryd.func50, Tryd.ntmps50
  go_wp2
  go_ret
  exact ⟨rfl, rfl⟩
end Go.Proofs.YtinjcefekbpabaaDoor
