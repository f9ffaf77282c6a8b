/- Plan's refusals; BloomPlans, walked. -/
import Derived.Test.YtbemmhngadpjcaaBP3
namespace Go.Proofs.Ytbemmhngadpjcaa
set_option linter.unusedVariables false
set_option linter.unusedSimpArgs false
open Go.RowKit Go.Sort Ieee

theorem read_neg (r : Nat) (h : 9223372036854775808 ≤ r) (h2 : r < 18446744073709551616) : ∃ x, r = double.word true x ∧ x < 9223372036854775808 := ⟨r - 9223372036854775808, by unfold Format.word; rw [dSign]; simp; omega, by omega⟩
theorem order_pos (r : Nat) (hr : r < 18446744073709551616) (h0 : double.order r 0 = some .gt) (h1 : double.order r 4607182418800017408 = some .lt) : 0 < r ∧ r < ONE := by
  have hz : double.read 0 = .number false 0 (-1074) := by decide
  rcases Nat.lt_or_ge r infR with q | q
  · have hone := one_lt
    have e : (4607182418800017408 : Nat) = ONE := rfl
    rw [e] at h1
    rw [order_fin r 0 q (by unfold infR; omega)] at h0
    rw [order_fin r ONE q hone] at h1
    constructor
    · rcases Nat.eq_zero_or_pos r with z | z
      · subst z; simp at h0
      · exact z
    · rcases Nat.lt_or_ge r ONE with z | z
      · exact z
      · rw [if_neg (by omega)] at h1
        split at h1 <;> cases h1
  · exfalso
    have hi : double.read infR = .infinity false := by decide
    rcases Nat.lt_or_ge r 9223372036854775808 with p | p
    · rcases Nat.lt_or_ge infR r with g | g
      · -- a NaN
        have hn : ∃ b f, double.read r = .nan b f := by
          refine ⟨false, r - 9218868437227405312, ?_⟩
          unfold Format.read
          simp only [dSign, dBin, dInf, dLeast]
          unfold infR at g
          have e2 : r % 9223372036854775808 = r := by omega
          have e1 : r / 9223372036854775808 % 2 = 0 := by omega
          rw [e2, e1, if_neg (by omega), if_neg (by omega), if_neg (by omega)]
          rfl
        obtain ⟨b, f, e⟩ := hn
        unfold Format.order at h0
        rw [e] at h0
        simp [Datum.order] at h0
      · obtain rfl : r = infR := by omega
        have : double.order infR 4607182418800017408 = some .gt := by decide
        rw [this] at h1
        cases h1
    · obtain ⟨x, rfl, hx⟩ := read_neg r p hr
      unfold Format.order at h0
      rw [hz] at h0
      rcases Nat.lt_or_ge x infR with g | g
      · obtain ⟨m, i, e, -⟩ := read_fin true x g
        rw [e] at h0
        simp only [Datum.order, signed_val, Bool.false_eq_true, if_false, if_true, Nat.zero_mul] at h0
        have h3 : compareOfLessAndEq (-((m * 2 ^ ((i : Int) - 1074 - min ((i : Int) - 1074) (-1074)).toNat : Nat) : Int)) ((0 : Nat) : Int) = .gt := Option.some.inj h0
        unfold compareOfLessAndEq at h3
        split at h3
        · cases h3
        · split at h3
          · cases h3
          · omega
      · rcases Nat.lt_or_ge infR x with g2 | g2
        · have hn : ∃ b f, double.read (double.word true x) = .nan b f := by
            refine ⟨true, x - 9218868437227405312, ?_⟩
            unfold Format.read Format.word
            simp only [dSign, dBin, dInf, dLeast, if_true]
            unfold infR at g2
            have e2 : (9223372036854775808 + x) % 9223372036854775808 = x := by omega
            have e1 : (9223372036854775808 + x) / 9223372036854775808 % 2 = 1 := by omega
            rw [e2, e1, if_neg (by omega), if_neg (by omega), if_neg (by omega)]
            rfl
          obtain ⟨b, f, e⟩ := hn
          rw [e] at h0
          simp [Datum.order] at h0
        · obtain rfl : x = infR := by omega
          rw [read_inf] at h0
          simp [Datum.order] at h0
def TriC (w : World) (b h er : Int) (e : Ending) (w' : World) : Prop := e = .returned (.tuple #[.int .i64 b, .int .i64 h, .int .i64 er]) ∧ Below w.heap.size w w'
set_option maxRecDepth 20000 in
set_option maxHeartbeats 4000000 in
theorem plan_arg (w : World) (n : Int) (r : Nat) (hn : n < 0 ∨ 4294967296 < n) : Calls Try.prog 15 #[.int .i64 n, .float .f64 r] w (TriC w 0 0 2) := by
  go_enter Try.func15, Try.ntmps15
  by_cases h1 : n < 0
  · go_wp2
    go_ret3
    exact ⟨rfl, Below.refl _ _⟩
  · have h2 : (4294967296 : Int) < n := by omega
    clear hn
    go_wp2
    go_ret3
    exact ⟨rfl, Below.refl _ _⟩
set_option maxRecDepth 20000 in
set_option maxHeartbeats 4000000 in
theorem rplan_arg (w : World) (n : Int) (r : Nat) (hn : n < 0 ∨ 4294967296 < n) : Calls Try.prog 16 #[.int .i64 n, .float .f64 r] w (TriC w 0 0 2) := by
  go_enter Try.func16, Try.ntmps16
  by_cases h1 : n < 0
  · go_wp2
    go_ret3
    exact ⟨rfl, Below.refl _ _⟩
  · have h2 : (4294967296 : Int) < n := by omega
    clear hn
    go_wp2
    go_ret3
    exact ⟨rfl, Below.refl _ _⟩
set_option maxRecDepth 20000 in
set_option maxHeartbeats 4000000 in
theorem plan_rate (w : World) (n : Int) (r : Nat) (h1 : ¬ n < 0) (h2 : ¬ (4294967296 : Int) < n) (hr : ¬ (double.order r 0 = some .gt ∧ double.order r 4607182418800017408 = some .lt)) : Calls Try.prog 15 #[.int .i64 n, .float .f64 r] w (TriC w 0 0 71) := by
  obtain ⟨o0, e0⟩ : ∃ o, FloatKind.f64.format.order r 0 = o := ⟨_, rfl⟩
  obtain ⟨o1, e1⟩ : ∃ o, FloatKind.f64.format.order r 4607182418800017408 = o := ⟨_, rfl⟩
  have hr' : ¬ (o0 = some .gt ∧ o1 = some .lt) := by rw [← e0, ← e1]; exact hr
  clear hr
  go_enter Try.func15, Try.ntmps15
  rcases o0 with _ | (_ | _ | _) <;> rcases o1 with _ | (_ | _ | _)
  all_goals first
    | (exfalso; exact hr' ⟨rfl, rfl⟩)
    | (clear hr'
       go_wp2
       go_ret3
       exact ⟨rfl, Below.refl _ _⟩)
set_option maxRecDepth 20000 in
set_option maxHeartbeats 4000000 in
theorem rplan_rate (w : World) (n : Int) (r : Nat) (h1 : ¬ n < 0) (h2 : ¬ (4294967296 : Int) < n) (hr : ¬ (double.order r 0 = some .gt ∧ double.order r 4607182418800017408 = some .lt)) : Calls Try.prog 16 #[.int .i64 n, .float .f64 r] w (TriC w 0 0 71) := by
  obtain ⟨o0, e0⟩ : ∃ o, FloatKind.f64.format.order r 0 = o := ⟨_, rfl⟩
  obtain ⟨o1, e1⟩ : ∃ o, FloatKind.f64.format.order r 4607182418800017408 = o := ⟨_, rfl⟩
  have hr' : ¬ (o0 = some .gt ∧ o1 = some .lt) := by rw [← e0, ← e1]; exact hr
  clear hr
  go_enter Try.func16, Try.ntmps16
  rcases o0 with _ | (_ | _ | _) <;> rcases o1 with _ | (_ | _ | _)
  all_goals first
    | (exfalso; exact hr' ⟨rfl, rfl⟩)
    | (clear hr'
       go_wp2
       go_ret3
       exact ⟨rfl, Below.refl _ _⟩)
set_option maxRecDepth 20000 in
set_option maxHeartbeats 4000000 in
theorem plans_law (w : World) (n : Int) (r : Nat) (hr : r < 18446744073709551616) : Calls Try.prog 5 #[.int .i64 n, .float .f64 r] w (TrueC w) := by
  -- both answer the same
  have key : ∀ (P : Int → Int → Int → Prop), (∀ W, Calls Try.prog 15 #[.int .i64 n, .float .f64 r] W fun e w' => ∃ b h er, P b h er ∧ e = .returned (.tuple #[.int .i64 b, .int .i64 h, .int .i64 er]) ∧ Below W.heap.size W w') → (∀ W, Calls Try.prog 16 #[.int .i64 n, .float .f64 r] W fun e w' => ∃ b h er, P b h er ∧ e = .returned (.tuple #[.int .i64 b, .int .i64 h, .int .i64 er]) ∧ Below W.heap.size W w') → (∀ b h er b' h' er', P b h er → P b' h' er' → b = b' ∧ h = h' ∧ er = er') → Calls Try.prog 5 #[.int .i64 n, .float .f64 r] w (TrueC w) := by
    intro P C1 C2 hone
    have H1 := hide C1
    have H2 := hide C2
    have H3 := hide hone
    clear C1 C2 hone
    go_enter Try.func5, Try.ntmps5
    go_wp2_with fail
    refine (H1.out _).mono ?_
    rintro e w1 ⟨b, h, er, p1, rfl, hb1⟩
    have P1 := hide p1
    clear p1
    go_wp2_with fail
    refine (H2.out _).mono ?_
    rintro e w2 ⟨b', h', er', p2, rfl, hb2⟩
    obtain ⟨rfl, rfl, rfl⟩ := H3.out _ _ _ _ _ _ P1.out p2
    clear p2
    go_wp2
    go_ret
    exact ⟨rfl, Below.step hb1 hb2⟩
  by_cases hn : n < 0 ∨ 4294967296 < n
  · refine key (fun b h er => b = 0 ∧ h = 0 ∧ er = 2) (fun W => (plan_arg W n r hn).mono fun e w' he => ⟨0, 0, 2, ⟨rfl, rfl, rfl⟩, he.1, he.2⟩) (fun W => (rplan_arg W n r hn).mono fun e w' he => ⟨0, 0, 2, ⟨rfl, rfl, rfl⟩, he.1, he.2⟩) ?_
    rintro b h er b' h' er' ⟨rfl, rfl, rfl⟩ ⟨rfl, rfl, rfl⟩
    exact ⟨rfl, rfl, rfl⟩
  · by_cases ho : double.order r 0 = some .gt ∧ double.order r 4607182418800017408 = some .lt
    · obtain ⟨r0, r1⟩ := order_pos r hr ho.1 ho.2
      obtain ⟨k, rfl⟩ : ∃ k : Nat, n = k := ⟨n.toNat, by omega⟩
      exact key (PlanV k r) (fun W => plan_in W k r (by omega) r0 r1) (fun W => rplan_in W k r (by omega) r0 r1) (fun _ _ _ _ _ _ p q => p.one q)
    · refine key (fun b h er => b = 0 ∧ h = 0 ∧ er = 71) (fun W => (plan_rate W n r (by omega) (by omega) ho).mono fun e w' he => ⟨0, 0, 71, ⟨rfl, rfl, rfl⟩, he.1, he.2⟩) (fun W => (rplan_rate W n r (by omega) (by omega) ho).mono fun e w' he => ⟨0, 0, 71, ⟨rfl, rfl, rfl⟩, he.1, he.2⟩) ?_
      rintro b h er b' h' er' ⟨rfl, rfl, rfl⟩ ⟨rfl, rfl, rfl⟩
      exact ⟨rfl, rfl, rfl⟩
end Go.Proofs.Ytbemmhngadpjcaa
