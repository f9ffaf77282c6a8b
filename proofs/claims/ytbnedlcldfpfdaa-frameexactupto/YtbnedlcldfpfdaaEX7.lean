/- FrameExact's sums, and its mark. -/
import Derived.Test.YtbnedlcldfpfdaaEX6
namespace Go.Proofs.Ytbnedlcldfpfdaa
set_option linter.unusedVariables false
set_option linter.unusedSimpArgs false
open Go.RowKit Go.Sort

/-- What is asked, in memory. -/
def askC (vb vr : Value) (at' : Int) (s : Nat) : Array Value := #[vb, vr, .int .i64 at', .int .u32 (s : Int)]
theorem rmore_sum (w : World) (s : Nat) (hs : s < 4294967296) (v : Value) (xs : List UInt8) (hv : RdA w v xs) : Calls Try.prog 24 #[.int .u32 (s : Int), v] w (SumC w (moreN s xs)) := (rmore_any w s hs v xs hv).mono fun _ _ ⟨h1, h2⟩ => ⟨h1, by rw [h2]; exact Below.refl _ _⟩
theorem rcrc_sum (w : World) (v : Value) (xs : List UInt8) (hv : RdA w v xs) : Calls Try.prog 23 #[v] w (SumC w (moreN 0 xs)) := (rcrc_any w v xs hv).mono fun _ _ ⟨h1, h2⟩ => ⟨h1, by rw [h2]; exact Below.refl _ _⟩
set_option maxRecDepth 40000 in
set_option maxHeartbeats 4000000 in
theorem sums_any (w : World) (vb vr : Value) (at' : Int) (s : Nat) (hs : s < 4294967296) (u : Value) (xs : List UInt8) (hr : RdA w vr xs) (hu : RdA w u xs) : Calls Try.prog 10 #[.agg (askC vb vr at' s), u] w (TrueC w) := by
  have HR := hide hr
  have HU := hide hu
  obtain ⟨ao, c, rfl, -⟩ := hr.slice
  obtain ⟨ao2, c2, rfl, -⟩ := hu.slice
  unfold askC
  clear hr hu
  obtain ⟨w1, hw1⟩ : ∃ w1, w1 = w.alloc (.cells #[vb, .slice ao xs.length c, .int .i64 at', .int .u32 (s : Int)] 25) := ⟨_, rfl⟩
  have HK1 : Hid (Blk w1 w.heap.size #[vb, .slice ao xs.length c, .int .i64 at', .int .u32 (s : Int)] 25) := hide (by rw [hw1]; exact Blk.made w _ _)
  have HB1 : Hid (Below w.heap.size w w1) := hide (by rw [hw1]; exact (Below.refl _ _).alloc (Nat.le_refl _) _)
  have g1 := fun d os => cell_regrown (HK1.out.cell 1) d os
  have g3 := fun d os => cell_regrown (HK1.out.cell 3) d os
  have hw1' := hw1.symm
  have c1 := moreN_lt 0 xs
  have c2 := moreN_lt s xs
  clear hw1
  go_enter Try.func10, Try.ntmps10
  go_wp2
  refine wp_region_quiet_below (by kernel_rfl) (by kernel_rfl) ?_
  quiet_step (fail)
  quiet_step (exact Calls.regrown_of (crc_any _ _ xs (HU.out.below (Below.step HB1.out (below_regrown _ _ _)))))
  quiet_step (fail)
  quiet_step (fail)
  quiet_step (exact Calls.regrown_of (rcrc_sum _ _ xs (HR.out.below (Below.step HB1.out (below_regrown _ _ _)))))
  repeat quiet_step (fail)
  quiet_step (exact Calls.regrown_of (more_any _ s hs _ xs (HU.out.below (Below.step HB1.out (below_regrown _ _ _)))))
  repeat quiet_step (fail)
  quiet_step (exact Calls.regrown_of (rmore_sum _ s hs _ xs (HR.out.below (Below.step HB1.out (below_regrown _ _ _)))))
  repeat quiet_step (fail)
  refine wpQuiet_nil ?_
  intro w2 hw'
  obtain ⟨⟨dq, osq⟩, hw''⟩ := hw'
  have hb12 := below_regrown w1 dq osq
  rw [← show w2 = grow (redrawn w1 dq) osq from hw''] at hb12
  have HB2 := hide (Below.step HB1.out hb12)
  clear hw''
  go_wp2
  go_ret
  exact ⟨rfl, HB2.out⟩
/-- The k-th byte's mark in the n-th list. -/
def mkB (n k : Nat) : UInt8 := UInt8.ofNat ((k + 1) * (2 * n + 3) + n * 89 + k / 251)
def MarkC (w : World) (n k : Nat) (e : Ending) (w' : World) : Prop := e = .returned (.int .u8 ((mkB n k).toNat : Int)) ∧ w' = w
set_option maxRecDepth 20000 in
set_option maxHeartbeats 1600000 in
theorem mark_any (w : World) (n k : Nat) (hn : n ≤ 16777216) (hk : k ≤ 16777216) (p q : Int) (hp : p = n) (hq : q = k) : Calls Try.prog 38 #[.int .i64 p, .int .i64 q] w (MarkC w n k) := by
  subst hp hq
  obtain ⟨a, ha⟩ : ∃ a, a = k + 1 := ⟨_, rfl⟩
  obtain ⟨b, hb⟩ : ∃ b, b = 2 * n + 3 := ⟨_, rfl⟩
  have hab : a * b ≤ 16777217 * 33554435 := Nat.mul_le_mul (by omega) (by omega)
  have HM : Hid (mkB n k = UInt8.ofNat (a * b + n * 89 + k / 251)) := hide (by rw [ha, hb]; rfl)
  obtain ⟨c, hc⟩ : ∃ c, c = a * b := ⟨_, rfl⟩
  have h1 : (k : Int) + 1 = (a : Int) := by omega
  have h2 : 2 * (n : Int) + 3 = (b : Int) := by omega
  have h3 : (a : Int) * (b : Int) = (c : Int) := by rw [hc, Int.natCast_mul]
  rw [← hc] at hab HM
  obtain ⟨d, hd⟩ : ∃ d, d = k / 251 := ⟨_, rfl⟩
  have h4 : (k : Int).tdiv 251 = (d : Int) := by rw [hd]; rfl
  have h4' : (k : Int) / 251 = (d : Int) := by rw [hd]; rfl
  rw [← hd] at HM
  have hdl : d ≤ 16777216 := by rw [hd]; omega
  obtain ⟨s, hs⟩ : ∃ s, s = c + n * 89 + d := ⟨_, rfl⟩
  rw [← hs] at HM
  have h5 : (c : Int) + (n : Int) * 89 + (d : Int) = (s : Int) := by omega
  have h6 := wrap8 s
  rw [← HM.out] at h6
  obtain ⟨y, hy⟩ : ∃ y, y = mkB n k := ⟨_, rfl⟩
  have HY := hide hy
  rw [← hy] at h6
  have ha' : a ≤ 16777217 := by omega
  have hb' : b ≤ 33554435 := by omega
  have hsl : s ≤ 600000000000000000 := by omega
  clear ha hb hc hd hs hy
  go_enter Try.func38, Try.ntmps38
  go_wp2
  go_ret
  exact ⟨by rw [← HY.out]; rfl, rfl⟩
end Go.Proofs.Ytbnedlcldfpfdaa
