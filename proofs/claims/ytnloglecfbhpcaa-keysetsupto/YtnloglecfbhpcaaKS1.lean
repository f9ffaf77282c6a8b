/- The document's set: Has. -/
import Derived.Test.YtnloglecfbhpcaaKSQ
namespace Go.Proofs.Ytnloglecfbhpcaa
set_option linter.unusedVariables false
set_option linter.unusedSimpArgs false
open Go.RowKit Go.Sort
set_option maxRecDepth 100000
set_option maxHeartbeats 4000000

/-- Whether a key is among the first. -/
def inT (x : List UInt8) (R : List (List UInt8)) (i : Nat) : Prop := ∀ j (h : j < R.length), j < i → R[j] ≠ x
theorem inT.step {x y : List UInt8} {R : List (List UInt8)} {i : Nat} (h : inT x R i) (hi : i < R.length) (hy : R[i] = y) (hne : (y == x) = false) : inT x R (i + 1) := fun j hj hji => by
  by_cases e : j = i
  · subst e
    rw [hy]
    simpa using hne
  · exact h j hj (by omega)
theorem inT.all {x : List UInt8} {R : List (List UInt8)} {i : Nat} (h : inT x R i) (hi : R.length ≤ i) : decide (x ∈ R) = false := by
  rw [decide_eq_false_iff_not]
  intro hx
  obtain ⟨j, hj, e⟩ := List.getElem_of_mem hx
  exact h j hj (by omega) e
/-- While a row is gone through. -/
structure RwS (w : World) (z zk : Nat) (ao : Option Addr) (n c : Nat) (R : List (List UInt8)) (x : List UInt8) (W : World) : Prop where
  rs : RsAt W z ao n c R
  key : KeyAt W zk x
  bel : Below w.heap.size w W
theorem RwS.below {w W W' : World} {z zk : Nat} {ao : Option Addr} {n c : Nat} {R : List (List UInt8)} {x : List UInt8} (h : RwS w z zk ao n c R x W) (hb : Below W.heap.size W W') : RwS w z zk ao n c R x W' := ⟨h.rs.below hb, h.key.below hb, h.bel.trans (hb.mono h.bel.size)⟩
theorem rhas_any (w : World) (z : Nat) (ao : Option Addr) (n c : Nat) (R : List (List UInt8)) (x : List UInt8) (hx : x.length = 32) (h : RsAt w z ao n c R) (hl : n ≤ 4398046511104) : Calls Try.prog 18 #[.pointer (some ⟨z, 0, none⟩), keyV x] w fun e w' => e = .returned (.bool (decide (x ∈ R))) ∧ Below w.heap.size w w' := by
  obtain ⟨W, hW⟩ : ∃ W, W = w.alloc (.cells (x.map u8c).toArray 38) := ⟨_, rfl⟩
  have hB : Below w.heap.size w W := by rw [hW]; exact (Below.refl _ _).alloc (Nat.le_refl _) _
  have HR : Hid (RwS w z w.heap.size ao n c R x W) := hide ⟨h.below hB, by rw [hW]; exact ⟨Blk.made w _ _, hx⟩, hB⟩
  have HX := hide hx
  have HN := hide h.len
  clear h hB hx
  show Calls Try.prog 18 #[.pointer (some ⟨z, 0, none⟩), .agg (x.map u8c).toArray] w _
  go_enter Try.func18, Try.ntmps18
  go_upto_region 1 with fail
  rw [← hW]
  clear hW
  generalize w.heap.size = zk at *
  go_upto_region 2 with fail
  go_loopw [5] (fun t wr => ∃ i : Nat, t = .int .i64 i ∧ i ≤ n ∧ inT x R i ∧ RwS w z zk ao n c R x wr) (fun t _ => n - (intOf t).toNat)
  case atStart => exact ⟨0, rfl, by omega, fun j _ hj => by omega, HR.out⟩
  case round =>
    clear HR
    obtain ⟨i, rfl, hi, hno, hR⟩ := hrel
    have HR := hide hR
    have HNO := hide hno
    have cz : wr.cell? ⟨z, 0, none⟩ = some (.slice ao n c) := by rw [hR.rs.blk.cell]; rfl
    clear hR hno
    by_cases hlt : i < n
    · have hii : (i : Int) < (n : Int) := by omega
      have hil : i < R.length := by rw [← HN.out]; exact hlt
      obtain ⟨y, hy⟩ : ∃ y, R[i] = y := ⟨_, rfl⟩
      obtain ⟨g, o, rfl, hrd⟩ := HR.out.rs.row.at' i hil
      rw [hy] at hrd
      have hyl : y.length = 32 := by rw [← hy]; exact HR.out.rs.row.len _ (List.getElem_mem _)
      have HY := hide hyl
      have HYE : Hid (∀ h : i < R.length, R[i] = y) := hide (fun _ => hy)
      have HIL := hide hil
      have czd : ∀ d os, (grow (redrawn wr d) os).cell? ⟨z, 0, none⟩ = some (.slice (some ⟨g, o, none⟩) n c) := fun d os => cell_regrown cz d os
      have HRD := hide (range_regrown hrd)
      have HKD := hide (range_regrown (range_blk HR.out.key.1))
      clear hrd hyl hy hil
      go_upto_region 4 with fail
      clear cz
      refine wp_region_quiet_below (by kernel_rfl) (by kernel_rfl) ?_
      iterate 6 quiet_step (fail)
      refine wpQuiet_val (keyV y) rfl (fun w0 hw => ?_) ?_
      · obtain ⟨p0, rfl⟩ := hw
        exact run_loadK rfl rfl HY.out (HRD.out _ _)
      refine wpQuiet_val (keyV x) rfl (fun w0 hw => ?_) ?_
      · obtain ⟨p0, rfl⟩ := hw
        refine run_loadK rfl rfl HX.out ?_
        have := HKD.out p0.d p0.os
        rwa [List.toList_toArray] at this
      refine wpQuiet_val (.bool (y == x)) rfl (fun w0 _ => run_eqlKK rfl rfl rfl HY.out HX.out w0) ?_
      refine wpQuiet_nil ?_
      intro w1 hw1
      have hb1 : RowKit.Below wr.heap.size wr w1 := below_of hw1
      have HR1 := hide (HR.out.below hb1)
      clear hw1 hb1 HRD HKD HR czd
      cases he : (y == x) with
      | true =>
        have HE : Hid (decide (x ∈ R) = true) := hide (by
          have : y = x := by simpa using he
          rw [decide_eq_true_eq, ← this, ← HYE.out HIL.out]
          exact List.getElem_mem _)
        clear he
        go_wp2
        go_ret
        exact ⟨by rw [HE.out]; rfl, HR1.out.bel⟩
      | false =>
        have HN1 := hide (HNO.out.step HIL.out (HYE.out HIL.out) he)
        clear he
        go_wp2
        go_roundw
        case rel => exact ⟨i + 1, by go_num, by omega, HN1.out, HR1.out⟩
        case measure => simp [intOf]; omega
    · have hii : ¬ (i : Int) < (n : Int) := by omega
      have HE := hide (HNO.out.all (by rw [← HN.out]; omega))
      clear cz
      have cz : wr.cell? ⟨z, 0, none⟩ = some (.slice ao n c) := by rw [HR.out.rs.blk.cell]; rfl
      go_wp2
      go_ret
      exact ⟨by rw [HE.out]; rfl, HR.out.bel⟩
end Go.Proofs.Ytnloglecfbhpcaa
