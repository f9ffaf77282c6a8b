/- Plan, the document's; refusals; BloomPlans, walked. -/
import Derived.Test.YtbemmhngadpjcaaBP2
namespace Go.Proofs.Ytbemmhngadpjcaa
set_option linter.unusedVariables false
set_option linter.unusedSimpArgs false
open Go.RowKit Go.Sort Ieee

set_option maxRecDepth 20000 in
set_option maxHeartbeats 4000000 in
theorem rplan_in (w : World) (n r : Nat) (hn : n ≤ 4294967296) (hr0 : 0 < r) (hr1 : r < ONE) : Calls Try.prog 16 #[.int .i64 n, .float .f64 r] w (PlanC w n r) := by
  have hone := one_lt
  have o1 : FloatKind.f64.format.order r 0 = some .gt := order_gt (by omega) hr0
  have o2 : FloatKind.f64.format.order r 4607182418800017408 = some .lt := order_lt one_lt hr1
  have F := hide (fun W k h hk hh => rrate_in k h n hk hh hn W)
  have HR := hide (show r < infR by omega)
  have i1 : ¬ (n : Int) < 0 := by omega
  have i2 : ¬ (4294967296 : Int) < n := by omega
  clear hr0 hr1 hone
  go_enter Try.func16, Try.ntmps16
  go_wp2
  go_loopw [9] (fun s9 wr => ∃ (t k : Nat), s9 = .int .i64 k ∧ Hid (k = 64 * (t + 1)) ∧ t ≤ 16384 ∧ k ≤ 1048640 ∧ Below w.heap.size w wr ∧ Hid (∀ h' t', 1 ≤ h' → h' ≤ 16 → t' < t → ¬ Keeps r h' n t')) (fun s9 _ => 1048704 - (intOf s9).toNat)
  case atStart => exact ⟨0, 64, rfl, hide rfl, by omega, by omega, Below.refl _ _, hide (fun h' t' a b c => by omega)⟩
  case round =>
    obtain ⟨t, k, rfl, HK, ht, hk, hbel, HT⟩ := hrel
    obtain ⟨w0, hw0⟩ : ∃ w0, w0 = wr := ⟨_, rfl⟩
    rw [← hw0] at hbel ⊢
    clear hw0
    by_cases hlt : t < 16384
    · have hki : (k : Int) ≤ 1048576 := by have := HK.out; omega
      have HB := hide hbel
      clear hbel
      go_wp2
      go_loopw [10] (fun s10 wi => ∃ g : Nat, s10 = .int .i64 g ∧ 1 ≤ g ∧ g ≤ 17 ∧ Below w.heap.size w wi ∧ Hid (∀ h', 1 ≤ h' → h' < g → ¬ Keeps r h' n t)) (fun s10 _ => 17 - (intOf s10).toNat)
      case atStart => exact ⟨1, rfl, by omega, by omega, HB.out, hide (fun h' a b => by omega)⟩
      case round =>
        obtain ⟨g, rfl, hg1, hg2, hb1, HG⟩ := hrel
        by_cases hgl : g ≤ 16
        · have hgi : (g : Int) ≤ 16 := by omega
          have C := hide (F.out wr k g (by have := HK.out; omega) (by omega))
          have hR := rateF_le k g n (by have := HK.out; omega) (by have := HK.out; omega)
          have hone := one_lt
          have hv := leq_val (x := rateF k g n) (y := r) (by omega) HR.out
          have hkp : decide (rateF k g n ≤ r) = decide (Keeps r g n t) := by unfold Keeps; rw [HK.out]
          rw [hkp] at hv
          have HKp : Hid (Keeps r g n t ↔ rateF k g n ≤ r) := hide (by unfold Keeps; rw [HK.out])
          generalize rateF k g n = R at C hv hR HKp
          have HB1 := hide hb1
          clear hkp hb1
          by_cases hkp : Keeps r g n t
          · obtain ⟨c, oc, hc⟩ : ∃ c, FloatKind.f64.format.order R r = some c ∧ (c = .lt ∨ c = .eq) := by
              have h1 := HKp.out.1 hkp
              rcases Nat.lt_or_ge R r with q | q
              · exact ⟨.lt, order_lt HR.out q, .inl rfl⟩
              · obtain rfl : R = r := by omega
                exact ⟨.eq, order_eq' HR.out, .inr rfl⟩
            have HKp2 := hide hkp
            clear hv hkp HKp hone hR
            rcases hc with rfl | rfl
            all_goals
              go_wp2_with fail
              refine C.out.mono ?_
              rintro e w1 ⟨rfl, hb1⟩
              go_wp2
              go_ret3
              refine ⟨_, _, _, .inr ⟨rfl, t, g, ?_, rfl, by omega, hg1, by omega, HKp2.out, HG.out, HT.out⟩, rfl, Below.step HB1.out hb1⟩
              have := HK.out
              omega
          · have oc : FloatKind.f64.format.order R r = some .gt := by
              have h1 : ¬ R ≤ r := fun h => hkp (HKp.out.2 h)
              exact order_gt (by omega) (by omega)
            have HKp2 := hide hkp
            clear hv hkp HKp hone hR
            go_wp2_with fail
            refine C.out.mono ?_
            rintro e w1 ⟨rfl, hb1⟩
            go_wp2
            refine ⟨⟨g + 1, by go_num, by omega, by omega, Below.step HB1.out hb1, hide (fun h' a b hk' => ?_)⟩, by simp [intOf]; omega⟩
            rcases Nat.lt_or_ge h' g with q | q
            · exact HG.out h' a q hk'
            · obtain rfl : h' = g := by omega
              exact HKp2.out hk'
        · have hgi : ¬ (g : Int) ≤ 16 := by omega
          have hge : g = 17 := by omega
          have HB1 := hide hb1
          clear hb1
          go_wp2
          go_roundw
          case rel =>
            refine ⟨t + 1, k + 64, by go_num, hide (by have := HK.out; omega), by omega, by have := HK.out; omega, HB1.out, hide (fun h' t' a b c hk' => ?_)⟩
            rcases Nat.lt_or_ge t' t with q | q
            · exact HT.out h' t' a b q hk'
            · obtain rfl : t' = t := by omega
              exact HG.out h' a (by omega) hk'
          case measure =>
            have := HK.out
            simp [intOf]
            omega
    · have hki : ¬ (k : Int) ≤ 1048576 := by have := HK.out; omega
      go_wp2
      go_ret3
      exact ⟨_, _, _, .inl ⟨rfl, rfl, rfl, fun h' t' a b c => HT.out h' t' a b (by omega)⟩, rfl, hbel⟩
end Go.Proofs.Ytbemmhngadpjcaa
