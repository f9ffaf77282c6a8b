/- The document's table in memory: Probes. -/
import Derived.Test.YtnknjcnbbljagaaTR3
namespace Go.Proofs.Ytnknjcnbbljagaa
set_option linter.unusedVariables false
set_option linter.unusedSimpArgs false
namespace RR
set_option maxRecDepth 100000
open Go.RowKit

section
variable {w : World} {z gy ge : Nat} {ti ma : Int} {T : TR}
theorem probes_any (w : World) (H : TbR w z gy ge ti ma T) (k : KR) : Calls Try.prog 54 #[.pointer (some ⟨z, 0, none⟩), .int .i64 k.1] w fun e w' => e = .returned (.int .i64 ((seek eqR (hsR ti ma) T k).2 : Int)) ∧ ∃ q, w' = w.drewN q := by
  have c2 := H.c2
  have c4 := H.c4
  have hz := H.blk.lt
  have b1 := H.by'
  have b2 := H.be
  cases hy : find eqR T.y (hsR ti ma k) k with
  | mk r n =>
    have HY := hide (H.findY k hy)
    cases r with
    | some p =>
      have HS : Hid (seek eqR (hsR ti ma) T k = (some (false, p), n)) := hide (by unfold seek; rw [hy])
      rw [HS.out]
      have hp0 : (0 : Int) ≤ (p : Int) := by omega
      have hp1 : ¬ (p : Int) < 0 := by omega
      unfold fndR at HY
      dsimp only at HY
      clear H hy c4
      generalize T.y.length = ny at *
      obtain ⟨kk, tt⟩ := k
      dsimp only at HY ⊢
      go_enter Try.func54, Try.ntmps54
      go_wp2_with (go_at_call 85; refine (HY.out 0).mono ?_; rintro e w' ⟨rfl, q1, hw⟩; rw [hw]; clear hw)
      go_returns
      exact ⟨rfl, _, rfl⟩
    | none =>
      by_cases h0 : T.e.length = 0
      · have HS : Hid (seek eqR (hsR ti ma) T k = (none, n)) := hide (by unfold seek; rw [hy, find_nil0 h0]; rfl)
        rw [HS.out]
        rw [show decide (T.e.length ≠ 0) = false by simp [h0]] at c4
        unfold fndR at HY
        dsimp only at HY
        clear H hy h0
        generalize T.y.length = ny at *
        obtain ⟨kk, tt⟩ := k
        dsimp only at HY ⊢
        go_enter Try.func54, Try.ntmps54
        go_wp2_with (go_at_call 85; refine (HY.out 0).mono ?_; rintro e w' ⟨rfl, q1, hw⟩; rw [hw]; clear hw)
        go_returns
        exact ⟨rfl, _, rfl⟩
      · obtain ⟨ao, c3, hao⟩ := H.c3
        obtain rfl := hao h0
        rw [show decide (T.e.length ≠ 0) = true by simp [h0]] at c4
        cases he : find eqR T.e (hsR ti ma k) k with
        | mk r2 n2 =>
          have HE := hide (H.findE h0 k he)
          have HS : Hid ((seek eqR (hsR ti ma) T k).2 = n + n2) := hide (by unfold seek; rw [hy]; dsimp only; rw [he]; cases r2 <;> rfl)
          rw [HS.out]
          have l1 := find_le eqR T.y (hsR ti ma k) k
          have l2 := find_le eqR T.e (hsR ti ma k) k
          rw [hy] at l1
          rw [he] at l2
          dsimp only at l1 l2
          have hn1 : n ≤ 8796093022208 := by omega
          have hn2 : n2 ≤ 8796093022208 := by omega
          cases r2
          all_goals
            unfold fndR at HY HE
            dsimp only at HY HE
            clear H hy he h0 hao l1 l2
            generalize T.y.length = ny at *
            generalize T.e.length = ne at *
            obtain ⟨kk, tt⟩ := k
            dsimp only at HY HE ⊢
            go_enter Try.func54, Try.ntmps54
            go_upto_region 3 with (go_at_call 85; refine (HY.out 0).mono ?_; rintro e w' ⟨rfl, q1, hw⟩; rw [hw]; clear hw)
            go_wp2_with (go_at_call 85; refine (HE.out _).mono ?_; rintro e w'' ⟨rfl, q2, hw⟩; rw [hw]; clear hw)
            go_returns
            exact ⟨by push_cast; rfl, _, rfl⟩
end
end RR
end Go.Proofs.Ytnknjcnbbljagaa
