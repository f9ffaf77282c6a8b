/- A new arena of three segments of 64 bytes; what it was made with. -/
import Derived.Test.YtjdlffmiokobnaaGreatDoorMA0
namespace Go.Proofs.YtjdlffmiokobnaaGreatDoor
set_option linter.unusedVariables false
set_option linter.unusedSimpArgs false
namespace MA
set_option maxRecDepth 100000
set_option maxHeartbeats 8000000
open Go.RowKit TX

/-- An arena of three segments of 64 bytes. -/
def Ar (w : World) (a s mb : Nat) : Prop := Blk w a (arL 3 64 s mb) 123
theorem seg_cell (w : World) : ∃ v, (w.alloc (rowObj 3)).cell? ⟨w.heap.size, (3 - 1) * 5, none⟩ = some v := by
  have hb : Blk (w.alloc (rowObj 3)) w.heap.size (madeCells (Value.cells (.agg (bareL 0))) (3 * 5)) 127 := Blk.made w _ _
  have hs : (madeCells (Value.cells (.agg (bareL 0))) (3 * 5)).size = 15 := by rw [size_madeCells]
  exact ⟨_, by rw [hb.cell]; exact Array.getElem?_eq_getElem (by rw [hs]; decide)⟩
theorem seg_blk (w : World) : Blk (w.alloc (rowObj 3)) w.heap.size (madeCells (Value.cells (.agg (bareL 0))) (3 * 5)) 127 := Blk.made w _ _
/-- What New has laid: its configuration's box, the arena, its segments. -/
structure NwSt (w W : World) (a s mb : Nat) : Prop where
  bel : Below w.heap.size w W
  cfg : Blk W w.heap.size #[.int .i64 3, .int .i64 64] 73
  ar : Ar W a s mb
  seg : Blk W s (madeCells (Value.cells (.agg (bareL 0))) (3 * 5)) 127
  low : w.heap.size ≤ a ∧ w.heap.size ≤ s
theorem new3_any (w : World) : Calls Tryz.prog 18 #[.agg #[.int .i64 3, .int .i64 64]] w fun e w' => ∃ a s mb, e = .returned (.tuple #[.pointer (some ⟨a, 0, none⟩), .int .i64 0]) ∧ Ar w' a s mb ∧ w.heap.size ≤ a ∧ Below w.heap.size w w' := by
  go_enter Tryz.func18, Tryz.ntmps18
  go_upto_region 3 with fail
  refine TX.name_world (fun W => Below w.heap.size w W ∧ Blk W w.heap.size #[.int .i64 3, .int .i64 64] 73) ⟨TX.below_alloc w _, Blk.made w _ _⟩ ?_
  rintro W ⟨hb, hc⟩
  have HB := hide hb
  have HC := hide hc
  have hwW := hb.size
  clear hb hc
  refine nw3_walk _ (fun _ _ _ _ _ h => h) W w.heap.size 3 64 (by decide) HC.out _ (Nat.lt_of_sub_pos (by exact Nat.succ_pos _)) rfl ?_ ?_
  · simp only [Act.put, List.setIfInBounds_toArray, List.set_cons_zero, List.set_cons_succ]
    go_upto_region 4 with fail
    refine TX.name_world (fun V => NwSt w V (W.heap.size + 1 + 1) W.heap.size (W.heap.size + 1)) ?_ ?_
    · have b1 : Below W.heap.size W (((W.drew.alloc (rowObj 3)).alloc (.map #[] 0)).alloc (.cells (arL 3 64 W.heap.size (W.heap.size + 1)) 123)) := (((TX.below_dN (Below.refl _ W) 1).alloc (Nat.le_refl _) _).alloc (by simp) _).alloc (by simp; omega) _
      refine ⟨HB.out.trans (b1.mono hwW), HC.out.below (b1.mono (Nat.le_refl _)) HC.out.lt, ?_, ?_, by omega, hwW⟩
      · have := Blk.made ((W.drew.alloc (rowObj 3)).alloc (.map #[] 0)) (arL 3 64 W.heap.size (W.heap.size + 1)) 123
        unfold Ar
        simpa using this
      · exact Blk.alloc (Blk.alloc (seg_blk W.drew) _) _
    · intro V hv
      have HV := hide hv
      clear hv HB HC
      generalize W.heap.size + 1 + 1 = z at *
      generalize W.heap.size + 1 = y at *
      generalize W.heap.size = x at *
      have hs : (madeCells (Value.cells (.agg (bareL 0))) (3 * 5)).size = 15 := by rw [size_madeCells]
      refine nw4_walk _ (fun _ _ _ _ _ h => h) V w.heap.size z x 3 ((madeCells (Value.cells (.agg (bareL 0))) (3 * 5))[(3 - 1) * 5]'(by rw [hs]; decide)) (by decide) (by decide) ⟨by rw [HV.out.ar.cell]; rfl, HV.out.cfg.cell 0⟩ (by rw [HV.out.seg.cell]; exact Array.getElem?_eq_getElem (by rw [hs]; decide)) (HV.out.seg.frozen _) (TX.blk_ne HV.out.ar HV.out.seg (by decide)) (TX.blk_ne HV.out.cfg HV.out.seg (by decide)) _ (Nat.lt_of_sub_pos (by exact Nat.succ_pos _)) rfl rfl ?_
      have HS : Hid (Ar (V.drew.setCell ⟨x, (3 - 1) * 5, none⟩ (.int .u8 1)) z x y) := hide (Blk.setOther (w := V.drew) HV.out.ar _ _ (TX.blk_ne HV.out.ar HV.out.seg (by decide)))
      have HBV : Hid (Below w.heap.size w (V.drew.setCell ⟨x, (3 - 1) * 5, none⟩ (.int .u8 1))) := hide ((TX.below_dN HV.out.bel 1).setCell HV.out.low.2 _)
      have HLO := hide HV.out.low.1
      clear HV
      simp only [Act.put, List.setIfInBounds_toArray, List.set_cons_zero, List.set_cons_succ]
      go_wp2
      go_ret2
      exact ⟨z, x, y, rfl, HS.out, HLO.out, HBV.out⟩
  · simp only [Act.put, List.setIfInBounds_toArray, List.set_cons_zero, List.set_cons_succ]
    go_upto_region 4 with fail
    refine TX.name_world (fun V => NwSt w V (W.heap.size + 1 + 1) (W.heap.size + 1) W.heap.size) ?_ ?_
    · have b1 : Below W.heap.size W (((W.drew.alloc (.map #[] 0)).alloc (rowObj 3)).alloc (.cells (arL 3 64 (W.heap.size + 1) W.heap.size) 123)) := (((TX.below_dN (Below.refl _ W) 1).alloc (Nat.le_refl _) _).alloc (by simp) _).alloc (by simp; omega) _
      refine ⟨HB.out.trans (b1.mono hwW), HC.out.below (b1.mono (Nat.le_refl _)) HC.out.lt, ?_, ?_, by omega, by omega⟩
      · have := Blk.made ((W.drew.alloc (.map #[] 0)).alloc (rowObj 3)) (arL 3 64 (W.heap.size + 1) W.heap.size) 123
        unfold Ar
        simpa using this
      · have := Blk.alloc (seg_blk (W.drew.alloc (.map #[] 0))) (.cells (arL 3 64 (W.heap.size + 1) W.heap.size) 123)
        simpa using this
    · intro V hv
      have HV := hide hv
      clear hv HB HC
      generalize W.heap.size + 1 + 1 = z at *
      generalize W.heap.size + 1 = y at *
      generalize W.heap.size = x at *
      have hs : (madeCells (Value.cells (.agg (bareL 0))) (3 * 5)).size = 15 := by rw [size_madeCells]
      refine nw4_walk _ (fun _ _ _ _ _ h => h) V w.heap.size z y 3 ((madeCells (Value.cells (.agg (bareL 0))) (3 * 5))[(3 - 1) * 5]'(by rw [hs]; decide)) (by decide) (by decide) ⟨by rw [HV.out.ar.cell]; rfl, HV.out.cfg.cell 0⟩ (by rw [HV.out.seg.cell]; exact Array.getElem?_eq_getElem (by rw [hs]; decide)) (HV.out.seg.frozen _) (TX.blk_ne HV.out.ar HV.out.seg (by decide)) (TX.blk_ne HV.out.cfg HV.out.seg (by decide)) _ (Nat.lt_of_sub_pos (by exact Nat.succ_pos _)) rfl rfl ?_
      have HS : Hid (Ar (V.drew.setCell ⟨y, (3 - 1) * 5, none⟩ (.int .u8 1)) z y x) := hide (Blk.setOther (w := V.drew) HV.out.ar _ _ (TX.blk_ne HV.out.ar HV.out.seg (by decide)))
      have HBV : Hid (Below w.heap.size w (V.drew.setCell ⟨y, (3 - 1) * 5, none⟩ (.int .u8 1))) := hide ((TX.below_dN HV.out.bel 1).setCell HV.out.low.2 _)
      have HLO := hide HV.out.low.1
      clear HV
      simp only [Act.put, List.setIfInBounds_toArray, List.set_cons_zero, List.set_cons_succ]
      go_wp2
      go_ret2
      exact ⟨z, y, x, rfl, HS.out, HLO.out, HBV.out⟩
theorem anone_no (w : World) {a s mb : Nat} (h : Ar w a s mb) : Calls Tryz.prog 66 #[.pointer (some ⟨a, 0, none⟩)] w fun e w' => e = .returned (.bool false) ∧ w' = w := by
  have c2 : w.cell? ⟨a, 2, none⟩ = some (.slice (some ⟨s, 0, none⟩) 3 3) := by rw [Blk.cell h]; rfl
  have hz := Blk.lt h
  clear h
  go_enter Tryz.func66, Tryz.ntmps66
  go_wp2
  go_ret
  exact ⟨rfl, rfl⟩
theorem anone_yes (w : World) : Calls Tryz.prog 66 #[.pointer none] w fun e w' => e = .returned (.bool true) ∧ w' = w := by
  go_enter Tryz.func66, Tryz.ntmps66
  go_wp2
  go_ret
  exact ⟨rfl, rfl⟩
theorem config_any (w : World) {a s mb : Nat} (h : Ar w a s mb) : Calls Tryz.prog 83 #[.pointer (some ⟨a, 0, none⟩)] w fun e w' => e = .returned (.agg #[.int .i64 3, .int .i64 64]) ∧ Below w.heap.size w w' := by
  have HN := hide (anone_no (w.alloc (.cells #[.int .i64 0, .int .i64 0] 73)) (Blk.alloc h _))
  have c0 : w.cell? ⟨a, 0, none⟩ = some (.int .i64 3) := by rw [Blk.cell h]; rfl
  have c1 : w.cell? ⟨a, 1, none⟩ = some (.int .i64 64) := by rw [Blk.cell h]; rfl
  have hz := Blk.lt h
  have hzne : ¬ a = w.heap.size := by omega
  clear h
  go_enter Tryz.func83, Tryz.ntmps83
  go_wp2_with (go_at_call 66; refine HN.out.mono ?_; rintro e w' ⟨rfl, hw⟩; subst hw)
  refine bodyPost_ret (v := .agg #[.int .i64 3, .int .i64 64]) (by simp [results, Tryz.results83, go_sem]) rfl ⟨rfl, ?_⟩
  repeat (first | exact TX.below_alloc w _ | refine Below.setCell ?_ (by simp) _)
theorem config_nil (w : World) : Calls Tryz.prog 83 #[.pointer none] w fun e w' => e = .returned (.agg #[.int .i64 0, .int .i64 0]) ∧ Below w.heap.size w w' := by
  have HN := hide (anone_yes (w.alloc (.cells #[.int .i64 0, .int .i64 0] 73)))
  go_enter Tryz.func83, Tryz.ntmps83
  go_wp2_with (go_at_call 66; refine HN.out.mono ?_; rintro e w' ⟨rfl, hw⟩; subst hw)
  refine bodyPost_ret (v := .agg #[.int .i64 0, .int .i64 0]) (by simp [results, Tryz.results83, go_sem]) rfl ⟨rfl, ?_⟩
  repeat (first | exact TX.below_alloc w _ | refine Below.setCell ?_ (by simp) _)
end MA
end Go.Proofs.YtjdlffmiokobnaaGreatDoor
