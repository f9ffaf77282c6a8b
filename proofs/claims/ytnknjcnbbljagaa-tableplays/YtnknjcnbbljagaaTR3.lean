/- The document's table in memory: Get, Probes. -/
import Derived.Test.YtnknjcnbbljagaaTR2
namespace Go.Proofs.Ytnknjcnbbljagaa
set_option linter.unusedVariables false
set_option linter.unusedSimpArgs false
namespace RR
set_option maxRecDepth 100000
open Go.RowKit

section
variable {w : World} {z gy ge : Nat} {ti ma : Int} {T : TR}
theorem TbR.findY (H : TbR w z gy ge ti ma T) (k : KR) {r : Option Nat × Nat} (hr : find eqR T.y (hsR ti ma k) k = r) : ∀ q, Calls Try.prog 85 #[.pointer (some ⟨z, 0, none⟩), .slice (some ⟨gy, 0, none⟩) T.y.length T.y.length, .int .i64 k.1] (w.drewN q) fun e w' => e = .returned (fndR r) ∧ ∃ q', w' = (w.drewN q).drewN q' := by
  intro q
  rw [← hr]
  exact find_any (w.drewN q) z T.y.length T.y.length gy ti ma T.y k (H.drewN q).c0 (H.drewN q).c1 rfl (H.drewN q).ry H.by'
theorem TbR.findE (H : TbR w z gy ge ti ma T) (h0 : T.e.length ≠ 0) (k : KR) {r : Option Nat × Nat} (hr : find eqR T.e (hsR ti ma k) k = r) : ∀ q, Calls Try.prog 85 #[.pointer (some ⟨z, 0, none⟩), .slice (some ⟨ge, 0, none⟩) T.e.length T.e.length, .int .i64 k.1] (w.drewN q) fun e w' => e = .returned (fndR r) ∧ ∃ q', w' = (w.drewN q).drewN q' := by
  intro q
  rw [← hr]
  exact find_any (w.drewN q) z T.e.length T.e.length ge ti ma T.e k (H.drewN q).c0 (H.drewN q).c1 rfl ((H.drewN q).re h0) H.be
theorem find_nil0 {L : List SR} (h : L.length = 0) (x : Nat) (k : KR) : find eqR L x k = (none, 0) := by
  unfold find
  rw [h]
  rfl
theorem val_row {g p : Nat} {L : List SR} (hr : RowR w g L) (hp : p < L.length) : w.cell? ⟨g, p * 4 + 3, none⟩ = some (.int .i64 (valS 0 (sat L p))) := by
  rw [hr.c3 p hp]
  cases sat L p <;> rfl
def GetC (w : World) (ti ma : Int) (T : TR) (k : KR) (e : Ending) (w' : World) : Prop := e = .returned (.tuple #[.int .i64 (valT 0 T (seek eqR (hsR ti ma) T k).1), .bool (seek eqR (hsR ti ma) T k).1.isSome]) ∧ ∃ q, w' = w.drewN q
theorem get_any (w : World) (H : TbR w z gy ge ti ma T) (k : KR) : Calls Try.prog 53 #[.pointer (some ⟨z, 0, none⟩), .int .i64 k.1] w (GetC w ti ma T k) := by
  unfold GetC
  have c2 := H.c2
  have c4 := H.c4
  have hz := H.blk.lt
  have b1 := H.by'
  have b2 := H.be
  cases hy : find eqR T.y (hsR ti ma k) k with
  | mk r n =>
    have HY := hide (H.findY k hy)
    cases r with
    | some p =>
      obtain ⟨hp, _⟩ := find_some hy
      have d := val_row H.ry hp
      have HS : Hid (seek eqR (hsR ti ma) T k = (some (false, p), n)) := hide (by unfold seek; rw [hy])
      rw [HS.out]
      have HV : Hid (valT 0 T (some (false, p)) = valS 0 (sat T.y p)) := hide rfl
      rw [HV.out]
      have hpi : (p : Int) < (T.y.length : Int) := by omega
      have hg := H.ry.lt
      unfold fndR at HY
      dsimp only at HY
      clear H hy c4
      generalize valS 0 (sat T.y p) = y at *
      generalize T.y.length = ny at *
      obtain ⟨kk, tt⟩ := k
      dsimp only at HY ⊢
      go_enter Try.func53, Try.ntmps53
      go_wp2_with (go_at_call 85; refine (HY.out 0).mono ?_; rintro e w' ⟨rfl, q1, hw⟩; rw [hw]; clear hw)
      go_returns
      exact ⟨rfl, _, rfl⟩
    | none =>
      by_cases h0 : T.e.length = 0
      · have HS : Hid (seek eqR (hsR ti ma) T k = (none, n + 0)) := hide (by unfold seek; rw [hy, find_nil0 h0])
        rw [HS.out]
        rw [show decide (T.e.length ≠ 0) = false by simp [h0]] at c4
        unfold fndR at HY
        dsimp only at HY
        clear H hy h0
        generalize T.y.length = ny at *
        obtain ⟨kk, tt⟩ := k
        dsimp only at HY ⊢
        go_enter Try.func53, Try.ntmps53
        go_wp2_with (go_at_call 85; refine (HY.out 0).mono ?_; rintro e w' ⟨rfl, q1, hw⟩; rw [hw]; clear hw)
        go_returns
        exact ⟨rfl, _, rfl⟩
      · obtain ⟨ao, c3, hao⟩ := H.c3
        obtain rfl := hao h0
        rw [show decide (T.e.length ≠ 0) = true by simp [h0]] at c4
        cases he : find eqR T.e (hsR ti ma k) k with
        | mk r2 n2 =>
          have HE := hide (H.findE h0 k he)
          cases r2 with
          | some p =>
            obtain ⟨hp, _⟩ := find_some he
            have d := val_row (H.re h0) hp
            have HS : Hid (seek eqR (hsR ti ma) T k = (some (true, p), n + n2)) := hide (by unfold seek; rw [hy]; dsimp only; rw [he])
            rw [HS.out]
            have HV : Hid (valT 0 T (some (true, p)) = valS 0 (sat T.e p)) := hide rfl
            rw [HV.out]
            have hpi : (p : Int) < (T.e.length : Int) := by omega
            have hg := (H.re h0).lt
            unfold fndR at HY HE
            dsimp only at HY HE
            clear H hy he h0 hao
            generalize valS 0 (sat T.e p) = y at *
            generalize T.y.length = ny at *
            generalize T.e.length = ne at *
            obtain ⟨kk, tt⟩ := k
            dsimp only at HY HE ⊢
            go_enter Try.func53, Try.ntmps53
            go_upto_region 5 with (go_at_call 85; refine (HY.out 0).mono ?_; rintro e w' ⟨rfl, q1, hw⟩; rw [hw]; clear hw)
            go_wp2_with (go_at_call 85; refine (HE.out _).mono ?_; rintro e w'' ⟨rfl, q2, hw⟩; rw [hw]; clear hw)
            go_returns
            exact ⟨rfl, _, rfl⟩
          | none =>
            have HS : Hid (seek eqR (hsR ti ma) T k = (none, n + n2)) := hide (by unfold seek; rw [hy]; dsimp only; rw [he])
            rw [HS.out]
            unfold fndR at HY HE
            dsimp only at HY HE
            clear H hy he h0 hao
            generalize T.y.length = ny at *
            generalize T.e.length = ne at *
            obtain ⟨kk, tt⟩ := k
            dsimp only at HY HE ⊢
            go_enter Try.func53, Try.ntmps53
            go_upto_region 5 with (go_at_call 85; refine (HY.out 0).mono ?_; rintro e w' ⟨rfl, q1, hw⟩; rw [hw]; clear hw)
            go_wp2_with (go_at_call 85; refine (HE.out _).mono ?_; rintro e w'' ⟨rfl, q2, hw⟩; rw [hw]; clear hw)
            go_returns
            exact ⟨rfl, _, rfl⟩
end
end RR
end Go.Proofs.Ytnknjcnbbljagaa
