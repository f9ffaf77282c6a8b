/- Plan, the program's: the least words for each number of hashes, by halving. -/
import Derived.Test.YtbemmhngadpjcaaBR3
import Derived.Lib.QuietBelow
namespace Go.Proofs.Ytbemmhngadpjcaa
set_option linter.unusedVariables false
set_option linter.unusedSimpArgs false
open Go.RowKit Go.Sort Ieee

def BoolC (w : World) (b : Bool) (e : Ending) (w' : World) : Prop := e = .returned (.bool b) ∧ Below w.heap.size w w'
theorem Below.step {a b c : World} (h : Below a.heap.size a b) (k : Below b.heap.size b c) : Below a.heap.size a c := h.trans (k.mono h.size)
/-- With t + 1 words the rate is kept to. -/
def Keeps (r h n t : Nat) : Prop := rateF (64 * (t + 1)) h n ≤ r
theorem Keeps.up {r h n t t' : Nat} (k : Keeps r h n t) (ht : t ≤ t') (h' : t' < 16384) : Keeps r h n t' :=
  Nat.le_trans (rateF_anti (64 * (t + 1)) (64 * (t' + 1)) h n (by omega) (by omega) (by omega)) k
instance (r h n t : Nat) : Decidable (Keeps r h n t) := by unfold Keeps; infer_instance
theorem leq_val {x y : Nat} (hx : x < infR) (hy : y < infR) : (double.order x y == some .lt || double.order x y == some .eq) = decide (x ≤ y) := by
  rcases Nat.lt_trichotomy x y with h | h | h
  · rw [order_lt hy h, decide_eq_true (by omega)]; rfl
  · subst h
    rw [order_eq' hx, decide_eq_true (by omega)]; rfl
  · rw [order_gt hx h, decide_eq_false (by omega)]; rfl
set_option maxRecDepth 20000 in
set_option maxHeartbeats 2000000 in
theorem few1_any (w : World) (bh ba br : Nat) (h n r i : Nat) (c1 : w.cell? ⟨bh, 0, none⟩ = some (.int .i64 h)) (c2 : w.cell? ⟨ba, 0, none⟩ = some (.int .i64 n)) (c3 : w.cell? ⟨br, 0, none⟩ = some (.float .f64 r)) (hh : 1 ≤ h ∧ h ≤ 16) (hn : n ≤ 4294967296) (hr : r < infR) (hi : i < 16384) :
    Calls Try.prog 61 (#[.int .i64 i] ++ #[.pointer (some ⟨bh, 0, none⟩), .pointer (some ⟨ba, 0, none⟩), .pointer (some ⟨br, 0, none⟩)]) w (BoolC w (decide (Keeps r h n i))) := by
  have q1 := World.block_lt_of_cell? w _ c1
  have q2 := World.block_lt_of_cell? w _ c2
  have q3 := World.block_lt_of_cell? w _ c3
  obtain ⟨k, hk⟩ : ∃ k, k = 64 * (i + 1) := ⟨_, rfl⟩
  have hR := rateF_le k h n (by omega) (by omega)
  have hone := one_lt
  have C := hide (fun W => rate_in k h n (by omega) hh hn W)
  have hv := leq_val (x := rateF k h n) (y := r) (by omega) hr
  have hkp : decide (rateF k h n ≤ r) = decide (Keeps r h n i) := by unfold Keeps; rw [hk]
  rw [hkp] at hv
  obtain ⟨i1, hi1⟩ : ∃ i1, i1 = i + 1 := ⟨_, rfl⟩
  have hw1 : IntKind.i64.wrap ((i : Int) + 1) = (i1 : Int) := by
    rw [show (i : Int) + 1 = ((i1 : Nat) : Int) by omega]
    exact wrapi64_nat i1 (by omega)
  have hw2 : IntKind.i64.wrap (64 * (i1 : Int)) = (k : Int) := by
    rw [show 64 * (i1 : Int) = ((k : Nat) : Int) by omega]
    exact wrapi64_nat k (by omega)
  have hki : k ≤ 1048576 := by omega
  generalize rateF k h n = R at C hv
  generalize decide (Keeps r h n i) = B at hv ⊢
  have hv' : (FloatKind.f64.format.order R r == some .lt || FloatKind.f64.format.order R r == some .eq) = B := hv
  have HV := hide hv'
  clear hv hv' hk hkp hR hone hi1
  have C1 := hide c1
  go_enter Try.func61, Try.ntmps61
  go_wp2
  refine wp_region_quiet_below (by kernel_rfl) (by kernel_rfl) ?_
  have d1 := fun d os => cell_regrown c1 d os
  have d2 := fun d os => cell_regrown c2 d os
  have d3 := fun d os => cell_regrown c3 d os
  repeat quiet_step (fail)
  quiet_step (exact Calls.regrown_of (C.out _))
  repeat quiet_step (fail)
  refine wpQuiet_nil ?_
  intro w2 hw'
  obtain ⟨⟨dq, osq⟩, hw''⟩ := hw'
  have hb := below_regrown w dq osq
  rw [← show w2 = grow (redrawn w dq) osq from hw''] at hb
  clear hw''
  rw [HV.out]
  go_wp2
  go_ret
  exact ⟨rfl, hb⟩
/-- The least number of words, less one, with which the rate is kept to. -/
def Few (r h n m : Nat) : Prop := m ≤ 16384 ∧ (∀ t, t < m → ¬ Keeps r h n t) ∧ (∀ t, m ≤ t → t < 16384 → Keeps r h n t)
set_option maxRecDepth 20000 in
set_option maxHeartbeats 2000000 in
theorem search_any (w : World) (bh ba br : Nat) (h n r : Nat) (c1 : w.cell? ⟨bh, 0, none⟩ = some (.int .i64 h)) (c2 : w.cell? ⟨ba, 0, none⟩ = some (.int .i64 n)) (c3 : w.cell? ⟨br, 0, none⟩ = some (.float .f64 r)) (hh : 1 ≤ h ∧ h ≤ 16) (hn : n ≤ 4294967296) (hr : r < infR) :
    Calls Try.prog 60 #[.int .i64 16384, .func (.func 61) #[] #[.pointer (some ⟨bh, 0, none⟩), .pointer (some ⟨ba, 0, none⟩), .pointer (some ⟨br, 0, none⟩)]] w fun e w' => ∃ m, Few r h n m ∧ e = .returned (.int .i64 m) ∧ Below w.heap.size w w' := by
  have q1 := World.block_lt_of_cell? w _ c1
  have q2 := World.block_lt_of_cell? w _ c2
  have q3 := World.block_lt_of_cell? w _ c3
  have HF : Hid (∀ W i, Below w.heap.size w W → i < 16384 → Calls Try.prog 61 (#[.int .i64 i] ++ #[.pointer (some ⟨bh, 0, none⟩), .pointer (some ⟨ba, 0, none⟩), .pointer (some ⟨br, 0, none⟩)]) W (BoolC W (decide (Keeps r h n i)))) := hide (fun W i hb hi =>
    few1_any W bh ba br h n r i ((hb.cell q1).trans c1) ((hb.cell q2).trans c2) ((hb.cell q3).trans c3) hh hn hr hi)
  clear c1 c2 c3 q1 q2 q3 hh hn hr
  go_enter Try.func60, Try.ntmps60
  go_wp2
  go_loopw [5, 6] (fun s5 s6 wr => ∃ (lo hi : Nat), s5 = .int .i64 lo ∧ s6 = .int .i64 hi ∧ lo ≤ hi ∧ hi ≤ 16384 ∧ Below w.heap.size w wr ∧ Hid ((∀ t, t < lo → ¬ Keeps r h n t) ∧ (∀ t, hi ≤ t → t < 16384 → Keeps r h n t))) (fun s5 s6 _ => (intOf s6).toNat - (intOf s5).toNat)
  case atStart => exact ⟨0, 16384, rfl, rfl, by omega, by omega, Below.refl _ _, hide ⟨fun t ht => by omega, fun t h1 h2 => by omega⟩⟩
  case round =>
    obtain ⟨lo, hi, rfl, rfl, hlh, hin, hbel, I⟩ := hrel
    by_cases hlt : lo < hi
    · have hc := HF.out wr ((lo + hi) / 2) hbel (by omega)
      rw [show (((lo + hi) / 2 : Nat) : Int) = ((lo : Int) + (hi : Int)) / 2 by omega] at hc
      by_cases hp : Keeps r h n ((lo + hi) / 2)
      · rw [decide_eq_true hp] at hc
        have HP := hide hp
        have HB := hide hbel
        clear hp hbel
        go_wp2_with (go_at_call 61; refine hc.mono ?_; rintro e w' ⟨rfl, hb⟩)
        refine ⟨⟨lo, (lo + hi) / 2, rfl, by go_num, by omega, by omega, Below.step HB.out hb, hide ⟨I.out.1, fun t h1 h2 => HP.out.up h1 h2⟩⟩, ?_⟩
        simp [intOf]
        omega
      · rw [decide_eq_false hp] at hc
        have HP := hide hp
        have HB := hide hbel
        clear hp hbel
        go_wp2_with (go_at_call 61; refine hc.mono ?_; rintro e w' ⟨rfl, hb⟩)
        refine ⟨⟨(lo + hi) / 2 + 1, hi, by go_num, rfl, by omega, by omega, Below.step HB.out hb, hide ⟨fun t ht hk => HP.out (hk.up (by omega) (by omega)), I.out.2⟩⟩, ?_⟩
        simp [intOf]
        omega
    · obtain rfl : hi = lo := by omega
      go_wp2
      go_ret
      exact ⟨hi, ⟨hin, I.out.1, I.out.2⟩, rfl, hbel⟩
end Go.Proofs.Ytbemmhngadpjcaa
