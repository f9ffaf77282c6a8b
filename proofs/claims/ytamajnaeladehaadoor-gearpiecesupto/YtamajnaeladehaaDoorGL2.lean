/- Rows of ints held against one another. -/
import Derived.Test.YtamajnaeladehaaDoorGL1
namespace Go.Proofs.YtamajnaeladehaaDoor
set_option linter.unusedVariables false
set_option linter.unusedSimpArgs false
open Go.RowKit

/-- A slice of ints that can be read. -/
def RdI (w : World) (v : Value) (xs : List Int) : Prop :=
  ∃ ao c, v = .slice ao xs.length c ∧ xs.length ≤ 9223372036854775807 ∧ (0 < xs.length → ∃ g, ao = some ⟨g, 0, none⟩ ∧ ∀ k (h : k < xs.length), w.cell? ⟨g, k, none⟩ = some (.int .i64 xs[k]))
theorem OwnsI.rd {w : World} {base : Nat} {v : Value} {xs : List Int} (h : OwnsI w base v xs) : RdI w v xs := by
  obtain ⟨ao, c, rfl, hf⟩ := h.form
  refine ⟨ao, c, rfl, ?_, fun h0 => ?_⟩
  · obtain ⟨hl, ⟨h1, h2⟩ | ⟨g, cap, cur, e, hb, hg, hc, hm, hs, ht⟩⟩ := h
    · omega
    · unfold maxLen at hm; omega
  · obtain ⟨g, rfl⟩ := hf h0
    exact ⟨g, rfl, fun k hk => h.at k hk⟩
theorem RdI.below {w w' : World} {v : Value} {xs : List Int} (h : RdI w v xs) (hb : Below w.heap.size w w') : RdI w' v xs := by
  obtain ⟨ao, c, e, hl, hf⟩ := h
  refine ⟨ao, c, e, hl, fun h0 => ?_⟩
  obtain ⟨g, e2, hc⟩ := hf h0
  exact ⟨g, e2, fun k hk => (hb.cell (World.block_lt_of_cell? w _ (hc k hk))).trans (hc k hk)⟩
set_option maxRecDepth 20000 in
set_option maxHeartbeats 1000000 in
theorem sameInts_any (w : World) (v u : Value) (xs : List Int) (hv : RdI w v xs) (hu : RdI w u xs) : Calls Tryd.prog 13 #[v, u] w fun e w' => e = .returned (.bool true) ∧ Below w.heap.size w w' := by
  obtain ⟨ao, c, rfl, hl, hf⟩ := hv
  obtain ⟨bo, d, rfl, -, hg⟩ := hu
  have HF := hide hf
  have HG := hide hg
  clear hf hg
  go_enter Tryd.func13, Tryd.ntmps13
  go_wp2
  go_loopw [5] (fun i wr => ∃ k : Nat, i = .int .i64 k ∧ k ≤ xs.length ∧ Below w.heap.size w wr) (fun i _ => xs.length - (intOf i).toNat)
  case atStart => exact ⟨0, rfl, by omega, Below.refl _ _⟩
  case round =>
    obtain ⟨k, rfl, hk, hbel⟩ := hrel
    by_cases hlt : k < xs.length
    · have hki : (k : Int) < xs.length := by omega
      obtain ⟨g, rfl, hc⟩ := HF.out (by omega)
      obtain ⟨g2, rfl, hc2⟩ := HG.out (by omega)
      have q1 := (hbel.cell (World.block_lt_of_cell? w _ (hc k hlt))).trans (hc k hlt)
      have q2 := (hbel.cell (World.block_lt_of_cell? w _ (hc2 k hlt))).trans (hc2 k hlt)
      obtain ⟨x, hx⟩ : ∃ x, x = xs[k] := ⟨_, rfl⟩
      rw [← hx] at q1 q2
      clear hx hc hc2
      go_wp2
      go_quiet (fail)
      go_wp2
      exact ⟨⟨k + 1, by go_num, by omega, hbel.trans ⟨rfl, rfl, rfl, Nat.le_refl _, fun _ _ => rfl⟩⟩, by simp [intOf]; omega⟩
    · have hki : ¬ (k : Int) < xs.length := by omega
      go_wp2
      go_ret
      exact ⟨rfl, hbel⟩
set_option maxRecDepth 20000 in
set_option maxHeartbeats 1000000 in
theorem all_any (w : World) (v : Value) (xs : List Int) (q : Int) (hv : RdI w v xs) (hq : ∀ x ∈ xs, x = q) : Calls Tryd.prog 15 #[v, .int .i64 q] w fun e w' => e = .returned (.bool true) ∧ w' = w := by
  obtain ⟨ao, c, rfl, hl, hf⟩ := hv
  have HF := hide hf
  have HQ := hide hq
  clear hf hq
  go_enter Tryd.func15, Tryd.ntmps15
  go_wp2
  go_loopw [5] (fun i wr => ∃ k : Nat, i = .int .i64 k ∧ k ≤ xs.length ∧ wr = w) (fun i _ => xs.length - (intOf i).toNat)
  case atStart => exact ⟨0, rfl, by omega, rfl⟩
  case round =>
    obtain ⟨k, rfl, hk, rfl⟩ := hrel
    by_cases hlt : k < xs.length
    · have hki : (k : Int) < xs.length := by omega
      obtain ⟨g, rfl, hc⟩ := HF.out (by omega)
      have q1 := hc k hlt
      rw [HQ.out _ (List.getElem_mem hlt)] at q1
      clear hc
      go_wp2
      exact ⟨⟨k + 1, by go_num, by omega, by trivial⟩, by simp [intOf]; omega⟩
    · have hki : ¬ (k : Int) < xs.length := by omega
      go_wp2
      go_ret
      exact ⟨rfl, rfl⟩
set_option maxRecDepth 20000 in
set_option maxHeartbeats 1000000 in
theorem one_any (w : World) : Calls Tryd.prog 32 #[] w fun e w' => e = .returned (cutV 2 4 8) ∧ Below w.heap.size w w' := by
  have hk := Blk.made w #[Value.int IntKind.i64 2, Value.int IntKind.i64 4, Value.int IntKind.i64 8] 23
  go_enter Tryd.func32, Tryd.ntmps32
  go_wp2
  refine bodyPost_ret (results_cell rfl _ _ _ rfl _ (loadBlkT hk 23 _ Tryd.underlying23 rfl 3 infoCut rfl)) rfl ?_
  exact ⟨rfl, (Below.refl _ _).alloc (Nat.le_refl _) _⟩
def liveL : List UInt8 := [1, 2, 3, 4, 5, 6, 7, 8, 9, 10, 11, 12, 13, 14, 15, 16, 17]
theorem live_cut : 2 < (cutR 2 4 8 liveL).length := of_decide_eq_true (by kernel_rfl)
theorem chk248 : chk 2 4 8 = 0 := by decide
set_option maxRecDepth 20000 in
set_option maxHeartbeats 1000000 in
theorem lives_any (w : World) (hT : Tabs w) : Calls Tryd.prog 16 #[] w fun e w' => e = .returned (.bool true) ∧ Below w.heap.size w w' := by
  have HT := hide hT
  obtain ⟨W0, hW0⟩ : ∃ W0, W0 = w.alloc (.cells (liveL.map u8c).toArray 5) := ⟨_, rfl⟩
  have HW := hide ((Below.refl w.heap.size w).alloc (Nat.le_refl _) (.cells (liveL.map u8c).toArray 5))
  have HR : Hid (RdA (w.alloc (.cells (liveL.map u8c).toArray 5)) (.slice (some ⟨w.heap.size, 0, none⟩) 17 17) liveL) := hide (.inl (Rd_owned (base := w.heap.size) (owns_made w liveL (by decide) w.heap.size (Nat.le_refl _))))
  have hw0 : w.alloc (.cells #[Value.int IntKind.u8 1, Value.int IntKind.u8 2, Value.int IntKind.u8 3, Value.int IntKind.u8 4, Value.int IntKind.u8 5, Value.int IntKind.u8 6, Value.int IntKind.u8 7, Value.int IntKind.u8 8, Value.int IntKind.u8 9, Value.int IntKind.u8 10, Value.int IntKind.u8 11, Value.int IntKind.u8 12, Value.int IntKind.u8 13, Value.int IntKind.u8 14, Value.int IntKind.u8 15, Value.int IntKind.u8 16, Value.int IntKind.u8 17] 5) = W0 := by rw [hW0]; rfl
  rw [← hW0] at HW HR
  clear hT hW0
  go_enter Tryd.func16, Tryd.ntmps16
  go_wp2_with fail
  refine (one_any _).mono ?_
  rintro e w1 ⟨rfl, hb1⟩
  have HB1 := hide (HW.out.trans (hb1.mono HW.out.size))
  have HR1 := hide (HR.out.below hb1)
  clear hb1 HW HR
  go_wp2_with fail
  refine (cut_any w1 (HT.out.below HB1.out HT.out.size) 2 4 8 _ liveL HR1.out (by decide)).mono ?_
  rintro e w2 ⟨v2, rfl, hO2, hb2⟩
  rw [chk248]
  have HB2 := hide (HB1.out.trans (hb2.mono HB1.out.size))
  have HR2 := hide (HR1.out.below hb2)
  have HI2 := hide hO2.rd
  obtain ⟨ao2, c2, rfl, -⟩ := hO2.form
  have HLc := hide live_cut
  obtain ⟨L, hL⟩ : ∃ L, L = (cutR 2 4 8 liveL).length := ⟨_, rfl⟩
  rw [← hL] at HLc HI2 ⊢
  have hL2 : (2 : Int) < (L : Int) := by have := HLc.out; omega
  clear hb2 hO2 HR1 hL
  go_wp2_with fail
  refine (one_any _).mono ?_
  rintro e w3 ⟨rfl, hb3⟩
  have HB3 := hide (HB2.out.trans (hb3.mono HB2.out.size))
  have HR3 := hide (HR2.out.below hb3)
  have HI3 := hide (HI2.out.below hb3)
  clear hb3 HR2 HI2 HB2
  go_wp2_with fail
  refine (rcut_any w3 2 4 8 _ liveL HR3.out (by decide)).mono ?_
  rintro e w4 ⟨v4, rfl, hO4, hb4⟩
  rw [chk248]
  have HB4 := hide (HB3.out.trans (hb4.mono HB3.out.size))
  have HI4 := hide (HI3.out.below hb4)
  have HJ4 := hide hO4.rd
  clear hb4 hO4 HR3 HI3 HB3
  go_wp2_with fail
  refine (sameInts_any w4 _ v4 _ HI4.out HJ4.out).mono ?_
  rintro e w5 ⟨rfl, hb5⟩
  have HB5 := hide (HB4.out.trans (hb5.mono HB4.out.size))
  clear hb5
  go_wp2
  go_ret
  exact ⟨rfl, HB5.out⟩
end Go.Proofs.YtamajnaeladehaaDoor
