/- Lists held against one another; a record of two bytes is packed and read. -/
import Derived.Test.YtbnedlcldfpfdaaFR12
import Derived.Test.YtbnedlcldfpfdaaFR13
namespace Go.Proofs.Ytbnedlcldfpfdaa
set_option linter.unusedVariables false
set_option linter.unusedSimpArgs false
open Go.RowKit

theorem unpk_zero (b : List UInt8) : unpk b 0 = upk b := by
  unfold unpk
  rw [if_neg (by omega)]; rfl
set_option maxRecDepth 20000 in
set_option maxHeartbeats 1000000 in
theorem same_any (w : World) (v u : Value) (xs : List UInt8) (hv : RdA w v xs) (hu : RdA w u xs) : Calls Try.prog 19 #[v, u] w (TrueC w) := by
  have HV := hide hv
  have HU := hide hu
  obtain ⟨ao, c, rfl, hl⟩ := hv.slice
  obtain ⟨bo, d, rfl, -⟩ := hu.slice
  clear hv hu
  go_enter Try.func19, Try.ntmps19
  go_wp2
  go_loopw [5] (fun i wr => ∃ k : Nat, i = .int .i64 k ∧ k ≤ xs.length ∧ Below w.heap.size w wr) (fun i _ => xs.length - (intOf i).toNat)
  case atStart => exact ⟨0, rfl, by omega, Below.refl _ _⟩
  case round =>
    obtain ⟨k, rfl, hk, hbel⟩ := hrel
    by_cases hlt : k < xs.length
    · have hki : (k : Int) < xs.length := by omega
      obtain ⟨b1, o1, c1, e1, q1⟩ := (HV.out.below hbel).at k hlt
      obtain ⟨b2, o2, c2, e2, q2⟩ := (HU.out.below hbel).at k hlt
      cases e1
      cases e2
      obtain ⟨x, hx⟩ : ∃ x : Int, x = (xs[k].toNat : Int) := ⟨_, rfl⟩
      rw [← hx] at q1 q2
      clear hx
      go_wp2
      go_quiet (fail)
      go_wp2
      exact ⟨⟨k + 1, by go_num, by omega, hbel.trans ⟨rfl, rfl, rfl, Nat.le_refl _, fun _ _ => rfl⟩⟩, by simp [intOf]; omega⟩
    · have hki : ¬ (k : Int) < xs.length := by omega
      go_wp2
      go_ret
      exact ⟨rfl, hbel⟩
def abL : List UInt8 := [97, 98]
theorem ab_len : (packL abL).length = 12 := packL_len abL
theorem ab_read : unpk (packL abL) 0 = (abL, 12, 0) := by
  rw [unpk_zero]
  have := upk_pack abL [] (by decide)
  rw [List.append_nil] at this
  exact this
set_option maxRecDepth 20000 in
set_option maxHeartbeats 1000000 in
theorem works_any (w : World) : Calls Try.prog 9 #[] w (TrueC w) := by
  have HW := hide ((Below.refl w.heap.size w).alloc (Nat.le_refl _) (.cells (abL.map u8c).toArray 5))
  have HR : Hid (RdA (w.alloc (.cells (abL.map u8c).toArray 5)) (.slice (some ⟨w.heap.size, 0, none⟩) 2 2) abL) := hide (.inl (Rd_owned (base := w.heap.size) (owns_made w abL (by decide) w.heap.size (Nat.le_refl _))))
  obtain ⟨W0, hW0⟩ : ∃ W0, W0 = w.alloc (.cells (abL.map u8c).toArray 5) := ⟨_, rfl⟩
  have hw0 : w.alloc (.cells #[Value.int IntKind.u8 97, Value.int IntKind.u8 98] 5) = W0 := by rw [hW0]; rfl
  rw [← hW0] at HW HR
  clear hW0
  go_enter Try.func9, Try.ntmps9
  go_wp2_with fail
  refine (pack_any W0 _ abL HR.out).mono ?_
  rintro e w1 ⟨v1, rfl, hO1, hb1⟩
  rw [show packE abL = 0 from rfl]
  rw [show packR abL = packL abL from rfl] at hO1
  have HB1 := hide (HW.out.trans (hb1.mono HW.out.size))
  obtain ⟨g, cap, rfl, hg1, hg2, hg3, hg4⟩ := hO1.formB (by rw [ab_len]; omega)
  rw [ab_len] at hO1 hg3 ⊢
  have q0 := (hO1.atB 0 (by rw [ab_len]; omega)).1
  have q10 := (hO1.atB 10 (by rw [ab_len]; omega)).1
  rw [show (packL abL)[0]'(by rw [ab_len]; omega) = 199 from rfl, show ((199 : UInt8).toNat : Int) = 199 from rfl] at q0
  rw [show (packL abL)[10]'(by rw [ab_len]; omega) = 97 from rfl, show ((97 : UInt8).toNat : Int) = 97 from rfl] at q10
  have HO1 := hide hO1.rd
  clear hO1 hb1 HW HR hw0
  go_wp2_with fail
  refine (unpack_any w1 _ (packL abL) HO1.out 0 (by omega)).mono ?_
  rintro e w2 ⟨v2, rfl, hO2, hb2⟩
  rw [ab_read] at hO2 ⊢
  have HB2 := hide (Below.step HB1.out hb2)
  simp only [] at hO2 ⊢
  obtain ⟨g2, cap2, rfl, hh1, hh2, hh3, hh4⟩ := hO2.formB (by decide)
  rw [show abL.length = 2 from rfl] at hO2 hh3 ⊢
  have r1 := (hO2.atB 1 (by decide)).1
  rw [show abL[1]'(by decide) = 98 from rfl, show ((98 : UInt8).toNat : Int) = 98 from rfl] at r1
  clear hO2 hb2 HB1
  go_wp2
  go_ret
  exact ⟨rfl, HB2.out⟩
end Go.Proofs.Ytbnedlcldfpfdaa
