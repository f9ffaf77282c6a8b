/- BloomLeast, walked. -/
import Derived.Test.YtbemmhngadpjcaaBP4
namespace Go.Proofs.Ytbemmhngadpjcaa
set_option linter.unusedVariables false
set_option linter.unusedSimpArgs false
open Go.RowKit Go.Sort Ieee

/-- How a rate stands to the one that is asked. -/
theorem rate_order (k h n r t : Nat) (hk : k = 64 * (t + 1)) (ht : t < 16384) (hr : r < infR) : (Keeps r h n t → ∃ c, FloatKind.f64.format.order (rateF k h n) r = some c ∧ (c = .lt ∨ c = .eq)) ∧ (¬ Keeps r h n t → FloatKind.f64.format.order (rateF k h n) r = some .gt) := by
  have hone := one_lt
  have hR := rateF_le k h n (by omega) (by omega)
  refine ⟨fun hkp => ?_, fun hkp => ?_⟩
  · have h1 : rateF k h n ≤ r := by rw [hk]; exact hkp
    rcases Nat.lt_or_ge (rateF k h n) r with q | q
    · exact ⟨.lt, order_lt hr q, .inl rfl⟩
    · have e : rateF k h n = r := by omega
      exact ⟨.eq, by rw [e]; exact order_eq' hr, .inr rfl⟩
  · have h1 : ¬ rateF k h n ≤ r := by rw [hk]; exact hkp
    exact order_gt (by omega) (by omega)
set_option maxRecDepth 20000 in
set_option maxHeartbeats 4000000 in
theorem least_arg (w : World) (n : Int) (r : Nat) (hn : n < 0 ∨ 4294967296 < n) : Calls Try.prog 6 #[.int .i64 n, .float .f64 r] w (TrueC w) := by
  have C := hide (plan_arg w n r hn)
  by_cases h1 : n < 0
  · clear hn
    go_enter Try.func6, Try.ntmps6
    go_wp2_with fail
    refine C.out.mono ?_
    rintro e w1 ⟨rfl, hb1⟩
    go_wp2
    go_ret
    exact ⟨rfl, hb1⟩
  · have h2 : (4294967296 : Int) < n := by omega
    clear hn
    go_enter Try.func6, Try.ntmps6
    go_wp2_with fail
    refine C.out.mono ?_
    rintro e w1 ⟨rfl, hb1⟩
    go_wp2
    go_ret
    exact ⟨rfl, hb1⟩
set_option maxRecDepth 20000 in
set_option maxHeartbeats 4000000 in
theorem least_rate (w : World) (n : Int) (r : Nat) (h1 : ¬ n < 0) (h2 : ¬ (4294967296 : Int) < n) (hr : ¬ (double.order r 0 = some .gt ∧ double.order r 4607182418800017408 = some .lt)) : Calls Try.prog 6 #[.int .i64 n, .float .f64 r] w (TrueC w) := by
  have C := hide (plan_rate w n r h1 h2 hr)
  obtain ⟨o0, e0⟩ : ∃ o, FloatKind.f64.format.order r 0 = o := ⟨_, rfl⟩
  obtain ⟨o1, e1⟩ : ∃ o, FloatKind.f64.format.order r 4607182418800017408 = o := ⟨_, rfl⟩
  have hr' : ¬ (o0 = some .gt ∧ o1 = some .lt) := by rw [← e0, ← e1]; exact hr
  clear hr
  rcases o0 with _ | (_ | _ | _) <;> rcases o1 with _ | (_ | _ | _)
  all_goals first
    | (exfalso; exact hr' ⟨rfl, rfl⟩)
    | (clear hr'
       go_enter Try.func6, Try.ntmps6
       go_wp2_with fail
       refine C.out.mono ?_
       rintro e w1 ⟨rfl, hb1⟩
       go_wp2
       go_ret
       exact ⟨rfl, hb1⟩)
set_option maxRecDepth 20000 in
set_option maxHeartbeats 8000000 in
theorem least_in (w : World) (n r : Nat) (hn : n ≤ 4294967296) (hr0 : 0 < r) (hr1 : r < ONE) : Calls Try.prog 6 #[.int .i64 n, .float .f64 r] w (TrueC w) := by
  have hone := one_lt
  have o1 : FloatKind.f64.format.order r 0 = some .gt := order_gt (by omega) hr0
  have o2 : FloatKind.f64.format.order r 4607182418800017408 = some .lt := order_lt one_lt hr1
  have C := hide (plan_in w n r hn hr0 hr1)
  have F := hide (fun W k h hk hh => rate_in k h n hk hh hn W)
  have HR := hide (show r < infR by omega)
  have i1 : ¬ (n : Int) < 0 := by omega
  have i2 : ¬ (4294967296 : Int) < n := by omega
  clear hr0 hr1 hone
  go_enter Try.func6, Try.ntmps6
  go_wp2_with fail
  refine C.out.mono ?_
  rintro e w1 ⟨b, h, er, hp, rfl, hb1⟩
  have HB1 := hide hb1
  clear hb1
  rcases hp with ⟨rfl, rfl, rfl, hno⟩ | ⟨rfl, L, H, rfl, rfl, p1, p2, p3, p4, p5, p6⟩
  · have ho := (rate_order 1048576 1 n r 16383 rfl (by omega) HR.out).2 (hno 1 16383 (by omega) (by omega) (by omega))
    have D := hide (F.out w1 1048576 1 (by omega) (by omega))
    generalize rateF 1048576 1 n = R at ho D
    clear hno
    go_wp2_with fail
    refine D.out.mono ?_
    rintro e w2 ⟨rfl, hb2⟩
    go_wp2
    go_ret
    exact ⟨rfl, Below.step HB1.out hb2⟩
  · obtain ⟨k, hk⟩ : ∃ k : Nat, k = 64 * (L + 1) := ⟨_, rfl⟩
    rw [show 64 * ((L : Int) + 1) = (k : Int) by omega]
    obtain ⟨c, ho, hc⟩ := (rate_order k H n r L hk p1 HR.out).1 p4
    have D := hide (F.out w1 k H (by omega) (by omega))
    generalize rateF k H n = R at ho D
    have hmod : Int.tmod (k : Int) 64 = 0 := by
      have := Int.ofNat_tmod k 64
      rw [show k % 64 = 0 by omega] at this
      exact this.symm
    have hk64 : ¬ (k : Int) < 64 := by omega
    have hkm : k ≤ 1048576 := by omega
    have HKe := hide hk
    have P5 := hide p5
    have P6 := hide p6
    clear hk p4 p5 p6
    have hco : c = .lt ∨ c = .eq := hc
    clear hc
    rcases hco with rfl | rfl
    all_goals
      go_wp2_with fail
      refine D.out.mono ?_
      rintro e w2 ⟨rfl, hb2⟩
      have HB2 := hide (Below.step HB1.out hb2)
      clear hb2
      go_wp2
      go_loopw [8] (fun s8 wr => ∃ g : Nat, s8 = .int .i64 g ∧ 1 ≤ g ∧ g ≤ H ∧ Below w.heap.size w wr) (fun s8 _ => H - (intOf s8).toNat)
      case atStart => exact ⟨1, rfl, by omega, by omega, HB2.out⟩
      case round =>
        obtain ⟨g, rfl, g1, g2, hb3⟩ := hrel
        have HB3 := hide hb3
        clear hb3
        by_cases hg : g < H
        · have hgi : (g : Int) < H := by omega
          have ho3 := (rate_order k g n r L HKe.out p1 HR.out).2 (P5.out g g1 hg)
          have D3 := hide (F.out wr k g (by have := HKe.out; omega) (by omega))
          generalize rateF k g n = R3 at ho3 D3
          go_wp2_with fail
          refine D3.out.mono ?_
          rintro e w4 ⟨rfl, hb4⟩
          go_wp2
          exact ⟨⟨g + 1, by go_num, by omega, by omega, Below.step HB3.out hb4⟩, by simp [intOf]; omega⟩
        · have hgi : ¬ (g : Int) < H := by omega
          go_wp2
          go_loopw [9] (fun s9 wi => ∃ f : Nat, s9 = .int .i64 f ∧ 1 ≤ f ∧ f ≤ 17 ∧ Below w.heap.size w wi) (fun s9 _ => 17 - (intOf s9).toNat)
          case atStart => exact ⟨1, rfl, by omega, by omega, HB3.out⟩
          case round =>
            obtain ⟨f, rfl, f1, f2, hb5⟩ := hrel
            have HB5 := hide hb5
            clear hb5
            by_cases hf : f ≤ 16
            · have hfi : (f : Int) ≤ 16 := by omega
              by_cases hL : 0 < L
              · have hki : (64 : Int) < k := by have := HKe.out; omega
                obtain ⟨k', hk'⟩ : ∃ k' : Nat, k' = k - 64 := ⟨_, rfl⟩
                have ho5 := (rate_order k' f n r (L - 1) (by have := HKe.out; omega) (by omega) HR.out).2 (P6.out f (L - 1) f1 hf (by omega))
                have D5 := hide (F.out wr k' f (by have := HKe.out; omega) (by omega))
                generalize rateF k' f n = R5 at ho5 D5
                have hke : (k : Int) - 64 = (k' : Int) := by omega
                clear hk'
                go_wp2_with fail
                refine D5.out.mono ?_
                rintro e w6 ⟨rfl, hb6⟩
                go_wp2
                exact ⟨⟨f + 1, by go_num, by omega, by omega, Below.step HB5.out hb6⟩, by simp [intOf]; omega⟩
              · have hki : ¬ (64 : Int) < k := by have := HKe.out; omega
                go_wp2
                go_ret
                exact ⟨rfl, HB5.out⟩
            · have hfi : ¬ (f : Int) ≤ 16 := by omega
              go_wp2
              go_ret
              exact ⟨rfl, HB5.out⟩
theorem least_law (w : World) (n : Int) (r : Nat) (hr : r < 18446744073709551616) : Calls Try.prog 6 #[.int .i64 n, .float .f64 r] w (TrueC w) := by
  by_cases hn : n < 0 ∨ 4294967296 < n
  · exact least_arg w n r hn
  · by_cases ho : double.order r 0 = some .gt ∧ double.order r 4607182418800017408 = some .lt
    · obtain ⟨r0, r1⟩ := order_pos r hr ho.1 ho.2
      obtain ⟨k, rfl⟩ : ∃ k : Nat, n = k := ⟨n.toNat, by omega⟩
      exact least_in w k r (by omega) r0 r1
    · exact least_rate w n r (by omega) (by omega) ho
end Go.Proofs.Ytbemmhngadpjcaa
