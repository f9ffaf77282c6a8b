/- GearWords, walked. -/
import Derived.Test.YtamajnaeladehaaGE2
namespace Go.Proofs.Ytamajnaeladehaa
set_option linter.unusedVariables false
set_option linter.unusedSimpArgs false
open Go.RowKit

/-- A way of cutting that lies somewhere. -/
def CutAt (w : World) (z : Nat) (mn me mx : Int) : Prop := Blk w z #[.int .i64 mn, .int .i64 me, .int .i64 mx] 23
theorem infoCut : (Try.prog.info? 23).map (·.size) = some 3 := by kernel_rfl
theorem loadAt_cut {w : World} {z : Nat} {mn me mx : Int} (h : CutAt w z mn me mx) : (Instr.loadAt 23 (.pointer (some ⟨z, 0, none⟩))).run Try.prog w = .ok (cutV mn me mx) w :=
  loadAt_blk h 23 _ Try.underlying23 rfl 3 infoCut rfl
theorem CutAt.below {w w' : World} {z : Nat} {mn me mx : Int} (h : CutAt w z mn me mx) (hb : Below w.heap.size w w') : CutAt w' z mn me mx := Blk.below h hb h.lt
set_option maxRecDepth 20000 in
set_option maxHeartbeats 1000000 in
theorem one_any (w : World) : Calls Try.prog 8 #[] w fun e w' => e = .returned (cutV 2 4 8) ∧ Below w.heap.size w w' := by
  have hk := Blk.made w #[Value.int IntKind.i64 2, Value.int IntKind.i64 4, Value.int IntKind.i64 8] 23
  go_enter Try.func8, Try.ntmps8
  go_wp2
  refine bodyPost_ret (results_cell rfl _ _ _ rfl _ (loadBlkT hk 23 _ Try.underlying23 rfl 3 infoCut rfl)) rfl ?_
  exact ⟨rfl, (Below.refl _ _).alloc (Nat.le_refl _) _⟩
theorem chk248 : chk 2 4 8 = 0 := by decide
theorem chk000 : chk 0 0 0 = 50 := by decide
theorem wordI_eq (b : Int) : (wordI b == wordI b) = true := by simp
set_option maxRecDepth 20000 in
set_option maxHeartbeats 4000000 in
theorem words_law (w : World) (mn me mx : Int) : Calls Try.prog 3 #[cutV mn me mx] w fun e w' => e = .returned (.bool true) ∧ Below w.heap.size w w' := by
  unfold cutV
  have HA : Hid (CutAt (w.alloc (.cells #[.int .i64 mn, .int .i64 me, .int .i64 mx] 23)) w.heap.size mn me mx) := hide (Blk.made w _ _)
  have HW : Hid (Below w.heap.size w (w.alloc (.cells #[.int .i64 mn, .int .i64 me, .int .i64 mx] 23))) := hide ((Below.refl _ _).alloc (Nat.le_refl _) _)
  go_enter Try.func3, Try.ntmps3
  go_wp2
  go_loopw [3] (fun i wr => ∃ k : Nat, i = .int .i64 k ∧ k ≤ 256 ∧ CutAt wr w.heap.size mn me mx ∧ Below w.heap.size w wr) (fun i _ => 256 - (intOf i).toNat)
  case atStart => exact ⟨0, rfl, by omega, HA.out, HW.out⟩
  case round =>
    clear HA HW
    obtain ⟨k, rfl, hk, hA, hW⟩ := hrel
    have HA := hide hA
    have HW := hide hW
    clear hA hW
    by_cases hlt : k < 256
    · have hki : (k : Int) < 256 := by omega
      have H1 := hide (word_any k hlt wr)
      have H2 := hide (rword_any k hlt wr)
      obtain ⟨z, hz⟩ : ∃ z, z = wordI k := ⟨_, rfl⟩
      rw [← hz] at H1 H2
      clear hz
      go_wp2_with fail
      refine H1.out.mono ?_
      rintro e w1 ⟨rfl, rfl⟩
      go_wp2_with fail
      refine H2.out.mono ?_
      rintro e w2 ⟨rfl, rfl⟩
      go_wp2
      exact ⟨⟨k + 1, by go_num, by omega, HA.out, HW.out⟩, by simp [intOf]; omega⟩
    · have hki : ¬ (k : Int) < 256 := by omega
      have hww := below_regrown wr
      have H6 := hide (fun d os => check_any mn me mx (Sort.grow (redrawn wr d) os))
      have H7 := hide (fun d os => rcheck_any mn me mx (Sort.grow (redrawn wr d) os))
      have H8 := hide (fun d os => one_any (Sort.grow (redrawn wr d) os))
      have H9 := hide (fun d os => check_any 2 4 8 (Sort.grow (redrawn wr d) os))
      have H0 := hide (fun d os => check_any 0 0 0 (Sort.grow (redrawn wr d) os))
      have HL := hide (fun d os => loadAt_cut (HA.out.below (hww d os)))
      rw [chk248] at H9
      rw [chk000] at H0
      obtain ⟨c, hc⟩ : ∃ c, c = chk mn me mx := ⟨_, rfl⟩
      rw [← hc] at H6 H7
      clear hc hww
      go_wp2
      refine wp_region_quiet_below (by kernel_rfl) (by kernel_rfl) ?_
      refine wpQuiet_val (cutV mn me mx) rfl (fun w hw => ?_) ?_
      · obtain ⟨p, rfl⟩ := hw
        exact run_load rfl rfl (HL.out _ _)
      quiet_step (exact Calls.regrown_of (H6.out _ _))
      refine wpQuiet_val (cutV mn me mx) rfl (fun w hw => ?_) ?_
      · obtain ⟨p, rfl⟩ := hw
        exact run_load rfl rfl (HL.out _ _)
      quiet_step (exact Calls.regrown_of (H7.out _ _))
      quiet_step (fail)
      quiet_step (fail)
      quiet_step (exact Calls.regrown_of (H8.out _ _))
      quiet_step (exact Calls.regrown_of (H9.out _ _))
      quiet_step (fail)
      quiet_step (fail)
      quiet_step (fail)
      quiet_step (fail)
      quiet_step (exact Calls.regrown_of (H0.out _ _))
      quiet_step (fail)
      quiet_step (fail)
      quiet_step (fail)
      refine wpQuiet_nil ?_
      intro _ hw'
      obtain ⟨⟨dq, osq⟩, hw''⟩ := hw'
      have hbq := below_regrown wr dq osq
      rw [← hw''] at hbq
      clear hw''
      have HBQ := hide hbq
      clear hbq
      go_wp2
      go_ret
      exact ⟨rfl, HW.out.trans (HBQ.out.mono HW.out.size)⟩
end Go.Proofs.Ytamajnaeladehaa
