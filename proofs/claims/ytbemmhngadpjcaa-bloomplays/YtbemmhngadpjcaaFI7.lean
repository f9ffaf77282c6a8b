/- Open of a filter, the document's: whether there is one. -/
import Derived.Test.YtbemmhngadpjcaaFI6
namespace Go.Proofs.Ytbemmhngadpjcaa
set_option linter.unusedVariables false
set_option linter.unusedSimpArgs false
open Go.RowKit

def MayC (w : World) (b h : Int) (e : Ending) (w' : World) : Prop := ∃ r, e = .returned (.bool r) ∧ (r = true ↔ NewOk b h) ∧ w' = w
set_option maxRecDepth 20000 in
set_option maxHeartbeats 2000000 in
theorem may_any (w : World) (b h : Int) : Calls Try.prog 21 #[.int .i64 b, .int .i64 h] w (MayC w b h) := by
  by_cases a1 : b < 64
  · have n1 : ¬ (64 : Int) ≤ b := by omega
    have HN : Hid (¬ NewOk b h) := hide (by unfold NewOk; omega)
    go_enter Try.func21, Try.ntmps21
    go_wp2
    go_ret
    exact ⟨false, rfl, by simp [HN.out], rfl⟩
  · have n1 : (64 : Int) ≤ b := by omega
    by_cases a2 : b ≤ 1048576
    · have hmod := Int.tmod_eq_emod_of_nonneg (a := b) (b := 64) (by omega)
      by_cases a3 : b % 64 = 0
      · have hm : Int.tmod b 64 = 0 := by rw [hmod]; exact a3
        by_cases a4 : 1 ≤ h
        · by_cases a5 : h ≤ 16
          · have HN : Hid (NewOk b h) := hide (by unfold NewOk; omega)
            clear hmod a3
            go_enter Try.func21, Try.ntmps21
            go_wp2
            go_ret
            exact ⟨true, rfl, by simp [HN.out], rfl⟩
          · have HN : Hid (¬ NewOk b h) := hide (by unfold NewOk; omega)
            clear hmod a3
            go_enter Try.func21, Try.ntmps21
            go_wp2
            go_ret
            exact ⟨false, rfl, by simp [HN.out], rfl⟩
        · have HN : Hid (¬ NewOk b h) := hide (by unfold NewOk; omega)
          clear hmod a3
          go_enter Try.func21, Try.ntmps21
          go_wp2
          go_ret
          exact ⟨false, rfl, by simp [HN.out], rfl⟩
      · obtain ⟨m, hm⟩ : ∃ m, Int.tmod b 64 = m := ⟨_, rfl⟩
        have hm0 : ¬ m = 0 := by rw [← hm, hmod]; exact a3
        have hm1 : (m == 0) = false := by rw [beq_eq_false_iff_ne]; exact hm0
        have HN : Hid (¬ NewOk b h) := hide (by unfold NewOk; omega)
        clear hmod a3
        go_enter Try.func21, Try.ntmps21
        go_wp2
        go_ret
        exact ⟨false, rfl, by simp [HN.out], rfl⟩
    · have HN : Hid (¬ NewOk b h) := hide (by unfold NewOk; omega)
      go_enter Try.func21, Try.ntmps21
      go_wp2
      go_ret
      exact ⟨false, rfl, by simp [HN.out], rfl⟩
theorem infoBo : (Try.prog.info? 4).map (fun i => (i.zero, i.size, i.bytes)) = some (some (.bool false), 1, 1) := by kernel_rfl
theorem make_bo (n : Nat) (h : n ≤ 1048576) (w : World) : (Instr.makeSlice 69 (.int .i64 (n : Int)) (.int .i64 (n : Int))).run Try.prog w = .ok (.slice (some ⟨w.heap.size, 0, none⟩) n n) (w.alloc (.cells (madeCells #[.bool false] n) 4)) :=
  run_make_row' (P := Try.prog) 69 4 (.bool false) 1 Try.underlying69 infoBo rfl .i64 .i64 n (by omega) (by omega) w
theorem madeZBo (n : Nat) : madeCells #[Value.bool false] n = (List.replicate n (Value.bool false)).toArray := by
  apply Array.ext'
  rw [toList_madeCells_one]
/-- The document's filter in memory: so many bits in block g. -/
structure RFil (w : World) (z g h : Nat) (bs : List Bool) : Prop where
  zb : Blk w z #[.slice (some ⟨g, 0, none⟩) bs.length bs.length, .int .i64 h] 71
  gb : Blk w g (bs.map Value.bool).toArray 4
theorem RFil.below {w w' : World} {z g h : Nat} {bs : List Bool} (f : RFil w z g h bs) (hb : Below w.heap.size w w') : RFil w' z g h bs := ⟨f.zb.below hb f.zb.lt, f.gb.below hb f.gb.lt⟩
theorem RFil.ne {w : World} {z g h : Nat} {bs : List Bool} (f : RFil w z g h bs) : z ≠ g := fun e => by
  have h1 := f.zb
  have h2 := f.gb
  unfold Blk at h1 h2
  rw [e, h2] at h1
  have := Obj.cells.inj (Option.some.inj h1)
  exact absurd this.2.1 (by decide)
theorem RFil.setB {w : World} {z g h : Nat} {bs : List Bool} (f : RFil w z g h bs) (k : Nat) (b : Bool) : RFil (w.setCell ⟨g, k, none⟩ (.bool b)) z g h (bs.set k b) := by
  refine ⟨?_, ?_⟩
  · rw [List.length_set]
    exact f.zb.setOther _ _ f.ne
  · have := f.gb.set k (.bool b)
    rw [List.map_set]
    simpa using this
def RNewC (w : World) (h k : Nat) (e : Ending) (w' : World) : Prop := e = .returned (.pointer (some ⟨w.heap.size + 1, 0, none⟩)) ∧ RFil w' (w.heap.size + 1) w.heap.size h (List.replicate k false) ∧ Below w.heap.size w w' ∧ w'.heap.size = w.heap.size + 2
set_option maxRecDepth 20000 in
set_option maxHeartbeats 2000000 in
theorem rnew_in (w : World) (k h : Nat) (hok : NewOk k h) : Calls Try.prog 29 #[.int .i64 k, .int .i64 h] w (RNewC w h k) := by
  have hkb : k ≤ 1048576 := by unfold NewOk at hok; omega
  have hmk := make_bo k hkb
  have C := hide (may_any w k h)
  have HO := hide hok
  clear hok
  go_enter Try.func29, Try.ntmps29
  go_wp2_with fail
  refine C.out.mono ?_
  rintro e w1 ⟨r, rfl, hr, rfl⟩
  obtain rfl : r = true := hr.2 HO.out
  clear hr
  go_wp2
  go_ret
  refine ⟨rfl, ⟨?_, ?_⟩, ((Below.refl _ _).alloc (Nat.le_refl _) _).alloc (by simp) _, by simp⟩
  · have := Blk.made (w1.alloc (.cells (madeCells #[.bool false] k) 4)) #[.slice (some ⟨w1.heap.size, 0, none⟩) k k, .int .i64 h] 71
    rw [World.size_alloc] at this
    rw [List.length_replicate]
    exact this
  · rw [List.map_replicate, ← madeZBo]
    exact (Blk.made w1 _ _).alloc _
set_option maxRecDepth 20000 in
set_option maxHeartbeats 2000000 in
theorem rnew_out (w : World) (b h : Int) (hno : ¬ NewOk b h) : Calls Try.prog 29 #[.int .i64 b, .int .i64 h] w fun e w' => e = .returned (.pointer none) ∧ w' = w := by
  have C := hide (may_any w b h)
  have HO := hide hno
  clear hno
  go_enter Try.func29, Try.ntmps29
  go_wp2_with fail
  refine C.out.mono ?_
  rintro e w1 ⟨r, rfl, hr, rfl⟩
  obtain rfl : r = false := by
    cases r with
    | false => rfl
    | true => exact absurd (hr.1 rfl) HO.out
  clear hr
  go_wp2
  go_ret
  exact ⟨rfl, rfl⟩
end Go.Proofs.Ytbemmhngadpjcaa
