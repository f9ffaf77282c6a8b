/- BloomRates, walked. -/
import Derived.Test.YtbemmhngadpjcaaBR2
namespace Go.Proofs.Ytbemmhngadpjcaa
set_option linter.unusedVariables false
set_option linter.unusedSimpArgs false
open Go.RowKit Ieee

theorem nan_order : double.order NAN NAN = none := by decide
def TrueC (w : World) (e : Ending) (w' : World) : Prop := e = .returned (.bool true) ∧ Below w.heap.size w w'
set_option maxRecDepth 20000 in
set_option maxHeartbeats 2000000 in
theorem rates_law (b h n : Int) (w : World) : Calls Try.prog 4 #[.int .i64 b, .int .i64 h, .int .i64 n] w (TrueC w) := by
  by_cases hok : RateOk b h n
  · obtain ⟨k, rfl⟩ : ∃ k : Nat, b = k := ⟨b.toNat, by unfold RateOk at hok; omega⟩
    obtain ⟨g, rfl⟩ : ∃ g : Nat, h = g := ⟨h.toNat, by unfold RateOk at hok; omega⟩
    obtain ⟨m, rfl⟩ : ∃ m : Nat, n = m := ⟨n.toNat, by unfold RateOk at hok; omega⟩
    unfold RateOk at hok
    have C1 := hide (fun W => rate_in k g m (by omega) (by omega) (by omega) W)
    have C2 := hide (fun W => rrate_in k g m (by omega) (by omega) (by omega) W)
    have hle := rateF_le k g m (by omega) (by omega)
    generalize rateF k g m = R at C1 C2 hle
    have i1 := one_lt
    have o1 : FloatKind.f64.format.order R R = some .eq := order_eq' (by omega)
    obtain ⟨c0, o2, hc0⟩ : ∃ c0, FloatKind.f64.format.order R 0 = some c0 ∧ (c0 = .gt ∨ c0 = .eq) := by
      rcases Nat.eq_zero_or_pos R with q | q
      · subst q; exact ⟨.eq, by decide, .inr rfl⟩
      · exact ⟨.gt, order_gt (by omega) q, .inl rfl⟩
    obtain ⟨c1, o3, hc1⟩ : ∃ c1, FloatKind.f64.format.order R 4607182418800017408 = some c1 ∧ (c1 = .lt ∨ c1 = .eq) := by
      rcases Nat.lt_or_ge R ONE with q | q
      · exact ⟨.lt, order_lt one_lt q, .inl rfl⟩
      · have e : R = 4607182418800017408 := by unfold ONE at hle q; omega
        exact ⟨.eq, by rw [e]; exact order_eq' one_lt, .inr rfl⟩
    clear hok hle i1
    rcases hc0 with rfl | rfl <;> rcases hc1 with rfl | rfl
    all_goals
      go_enter Try.func4, Try.ntmps4
      go_wp2_with fail
      refine (C2.out _).mono ?_
      rintro e w1 ⟨rfl, hb1⟩
      go_wp2_with fail
      refine (C1.out _).mono ?_
      rintro e w2 ⟨rfl, hb2⟩
      go_wp2
      go_ret
      exact ⟨rfl, hb1.trans (hb2.mono hb1.size)⟩
  · have C1 := hide (fun W => rate_out b h n hok W)
    have C2 := hide (fun W => rrate_out b h n hok W)
    have o1 := nan_order
    clear hok
    go_enter Try.func4, Try.ntmps4
    go_wp2_with fail
    refine (C2.out _).mono ?_
    rintro e w1 ⟨rfl, hb1⟩
    go_wp2_with fail
    refine (C1.out _).mono ?_
    rintro e w2 ⟨rfl, hb2⟩
    go_wp2
    go_ret
    exact ⟨rfl, hb1.trans (hb2.mono hb1.size)⟩
end Go.Proofs.Ytbemmhngadpjcaa
