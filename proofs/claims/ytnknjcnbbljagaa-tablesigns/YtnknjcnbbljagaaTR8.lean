/- The document's table in memory: New, Del. -/
import Derived.Test.YtnknjcnbbljagaaTR7
namespace Go.Proofs.Ytnknjcnbbljagaa
set_option linter.unusedVariables false
set_option linter.unusedSimpArgs false
namespace RR
set_option maxRecDepth 100000
open Go.RowKit

def nilR : Array Value := #[.int .i64 0, .int .i64 0, .int .i64 0, .int .i64 0]
theorem infoR : (Try.prog.info? 145).map (fun i => (i.zero, i.size, i.bytes)) = some (some (.agg nilR), 4, 32) := by kernel_rfl
def rowR (n : Nat) : Obj := .cells (madeCells (Value.cells (.agg nilR)) (n * 4)) 145
theorem make_r (m : Nat) (hm : m ≤ 8796093022208) (w : World) : (Instr.makeSlice 96 (.int .i64 (m : Int)) (.int .i64 (m : Int))).run Try.prog w = .ok (.slice (some ⟨w.heap.size, 0, none⟩) m m) (w.alloc (rowR m)) :=
  run_make_wide w _ _ nilR 4 32 Try.underlying96 infoR .i64 .i64 m (by omega) (by omega)
theorem row_made (w : World) (n : Nat) : RowR (w.alloc (rowR n)) w.heap.size (List.replicate n .emp) := by
  have hb : Blk (w.alloc (rowR n)) w.heap.size (madeCells (Value.cells (.agg nilR)) (n * 4)) 145 := Blk.made w _ _
  have s : ∀ p, sat (List.replicate n (Slt.emp : SR)) p = .emp := fun p => by
    simp only [sat, List.getD_eq_getElem?_getD, List.getElem?_replicate]
    split <;> rfl
  refine ⟨⟨_, hb, by rw [size_madeCells]; simp⟩, fun p hp => ?_, fun p hp => ?_, fun p hp => ?_, fun p hp => ?_⟩
  all_goals
    rw [List.length_replicate] at hp
    rw [hb.cell, s, made_at _ _ _ (by omega)]
    simp [nilR, Slt.st, kR, vR, tR, Value.cells, Nat.mul_add_mod_self_right]
def newR : TR := ⟨List.replicate 8 .emp, [], 0⟩
theorem new_any (w : World) (ti ma : Int) : Calls Try.prog 11 #[.int .i64 ti, .int .i64 ma] w fun e w' => ∃ z g, e = .returned (.pointer (some ⟨z, 0, none⟩)) ∧ TbR w' z g g ti ma newR ∧ w.heap.size ≤ z ∧ w.heap.size ≤ g ∧ Below w.heap.size w w' := by
  have hmk : ∀ w, (Instr.makeSlice 96 (.int .i64 8) (.int .i64 8)).run Try.prog w = .ok (.slice (some ⟨w.heap.size, 0, none⟩) 8 8) (w.alloc (rowR 8)) := make_r 8 (by decide)
  go_enter Try.func11, Try.ntmps11
  go_wp2
  go_ret
  have hr := row_made w 8
  have hrl := hr.lt
  refine ⟨w.heap.size + 1, w.heap.size, by simp, ⟨?_, hr.same (Below.heap_alloc _ _ _ hrl), fun h => absurd rfl h, fun h => absurd rfl h, fun _ => rfl, by decide, by decide, Nat.le_refl _⟩, by omega, by omega, (below_alloc w _).alloc (by simp) _⟩
  have := Blk.made (w.alloc (rowR 8)) #[.int .i64 ti, .int .i64 ma, .slice (some ⟨w.heap.size, 0, none⟩) 8 8, .slice none 0 0, .bool false, .int .i64 0] 98
  rw [World.size_alloc] at this
  exact this
section
variable {z gy ge : Nat} {ti ma : Int} {T : TR}
/-- How an elder array of the document's table may stand. -/
def Ok8 (T : TR) : Prop := (T.e.length = 0 ∧ T.m = 0) ∨ T.m + 8 ≤ T.e.length
theorem step_any (w : World) (H : TbR w z gy ge ti ma T) (ho : Ok8 T) : Calls Try.prog 84 #[.pointer (some ⟨z, 0, none⟩)] w fun e w' => e = .returned (.tuple #[]) ∧ TrS w w' z gy ge ti ma (stepT (hsR ti ma) T) := by
  unfold stepT
  rcases ho with ⟨h1, h2⟩ | h1
  · rw [if_pos (by unfold Tb.left; omega)]
    exact (step_none w H h1).mono (by
      rintro e w' ⟨rfl, q, rfl⟩
      exact ⟨rfl, ((TrK.refl H).drewN q).s⟩)
  · rw [if_neg (by unfold Tb.left; omega)]
    exact step_some w H h1
/-- What Put and Del tell. -/
def ansR (T : TR) (r : Option (Bool × Nat)) : Value := .tuple #[.int .i64 (valT 0 T r), .bool r.isSome]
def DelC (w : World) (z gy ge : Nat) (ti ma : Int) (T : TR) (k : KR) (e : Ending) (w' : World) : Prop := e = .returned (ansR (stepT (hsR ti ma) T) (seek eqR (hsR ti ma) (stepT (hsR ti ma) T) k).1) ∧ TrS w w' z gy ge ti ma (delT eqR (hsR ti ma) T k)
theorem del_any (w : World) (H : TbR w z gy ge ti ma T) (ho : Ok8 T) (k : KR) : Calls Try.prog 44 #[.pointer (some ⟨z, 0, none⟩), .int .i64 k.1] w (DelC w z gy ge ti ma T k) := by
  have HStep := hide (step_any w H ho)
  have HH := hide H
  clear H ho
  go_enter Try.func44, Try.ntmps44
  go_upto_region 2 with (go_at_call 84; refine HStep.out.mono ?_; rintro e w1 ⟨rfl, hst⟩; have HST := hide hst; clear hst)
  obtain ⟨⟨gy1, ge1, ht, hnw⟩, hfr⟩ := HST.out
  obtain ⟨T1, hT1⟩ : ∃ X, X = stepT (hsR ti ma) T := ⟨_, rfl⟩
  have HC : Hid (∀ e w', e = Ending.returned (ansR T1 (seek eqR (hsR ti ma) T1 k).1) → TrS w1 w' z gy1 ge1 ti ma (delG eqR (hsR ti ma) T1 k) → DelC w z gy ge ti ma T k e w') := hide (by
    intro e w' h1 h2
    rw [hT1] at h1 h2
    exact ⟨h1, TrS.trans hfr hnw h2⟩)
  rw [← hT1] at ht
  clear hT1 HST HStep hfr hnw HH
  have c2 := ht.c2
  have c4 := ht.c4
  have hz := ht.blk.lt
  have b1 := ht.by'
  have b2 := ht.be
  have HT := hide ht
  unfold delG at HC
  cases hy : find eqR T1.y (hsR ti ma k) k with
  | mk r n =>
    have HY := hide (ht.findY k hy)
    cases r with
    | some p =>
      have hsk : seek eqR (hsR ti ma) T1 k = (some (false, p), n) := by unfold seek; rw [hy]
      rw [hsk] at HC
      obtain ⟨hp, _⟩ := find_some hy
      have z0 := ht.ry.c0 p hp
      have z1 := ht.ry.c1 p hp
      have z2 := ht.ry.c2 p hp
      have z3 := val_row ht.ry hp
      have HFz : Hid (∀ o, w1.frozen? ⟨gy1, o, none⟩ = false) := hide (fun o => by obtain ⟨cur, hb, _⟩ := ht.ry.row; exact hb.frozen o)
      have HV : Hid (valT 0 T1 (some (false, p)) = valS 0 (sat T1.y p)) := hide rfl
      have hpi : (p : Int) < (T1.y.length : Int) := by omega
      have hg := ht.ry.lt
      have g0 := HFz.out (p * 4)
      have g1 := HFz.out (p * 4 + 1)
      have g2 := HFz.out (p * 4 + 2)
      have g3 := HFz.out (p * 4 + 3)
      have HP := hide hp
      unfold fndR at HY
      dsimp only at HY
      clear ht hy c4 hsk HFz hp
      generalize valS 0 (sat T1.y p) = y at *
      generalize ((sat T1.y p).st : Int) = x0 at *
      generalize kR (sat T1.y p) = x1 at *
      generalize tR (sat T1.y p) = x2 at *
      generalize hny : T1.y.length = ny at *
      obtain ⟨kk, tt⟩ := k
      dsimp only at HY ⊢
      go_wp2_with (go_at_call 85; refine (HY.out 0).mono ?_; rintro e w' ⟨rfl, q1, hw⟩; rw [hw]; clear hw)
      go_returns
      refine HC.out _ _ (by unfold ansR; rw [HV.out]; rfl) ?_
      exact (((TrK.refl HT.out).drewN _).trans (TrK.putY (HT.out.drewN _) p (by rw [hny]; exact HP.out) .tmb)).s
    | none =>
      by_cases h0 : T1.e.length = 0
      · have hsk : seek eqR (hsR ti ma) T1 k = (none, n + 0) := by unfold seek; rw [hy, find_nil0 h0]
        rw [hsk] at HC
        rw [show decide (T1.e.length ≠ 0) = false by simp [h0]] at c4
        unfold fndR at HY
        dsimp only at HY
        clear ht hy h0 hsk
        generalize T1.y.length = ny at *
        obtain ⟨kk, tt⟩ := k
        dsimp only at HY ⊢
        go_wp2_with (go_at_call 85; refine (HY.out 0).mono ?_; rintro e w' ⟨rfl, q1, hw⟩; rw [hw]; clear hw)
        go_returns
        exact HC.out _ _ rfl ((TrK.refl HT.out).drewN _).s
      · obtain ⟨ao, c3, hao⟩ := ht.c3
        obtain rfl := hao h0
        rw [show decide (T1.e.length ≠ 0) = true by simp [h0]] at c4
        cases he : find eqR T1.e (hsR ti ma k) k with
        | mk r2 n2 =>
          have HE := hide (ht.findE h0 k he)
          cases r2 with
          | some p =>
            have hsk : seek eqR (hsR ti ma) T1 k = (some (true, p), n + n2) := by unfold seek; rw [hy]; dsimp only; rw [he]
            rw [hsk] at HC
            obtain ⟨hp, _⟩ := find_some he
            have hr := ht.re h0
            have z0 := hr.c0 p hp
            have z1 := hr.c1 p hp
            have z2 := hr.c2 p hp
            have z3 := val_row hr hp
            have HFz : Hid (∀ o, w1.frozen? ⟨ge1, o, none⟩ = false) := hide (fun o => by obtain ⟨cur, hb, _⟩ := hr.row; exact hb.frozen o)
            have HV : Hid (valT 0 T1 (some (true, p)) = valS 0 (sat T1.e p)) := hide rfl
            have hpi : (p : Int) < (T1.e.length : Int) := by omega
            have hg := hr.lt
            have g0 := HFz.out (p * 4)
            have g1 := HFz.out (p * 4 + 1)
            have g2 := HFz.out (p * 4 + 2)
            have g3 := HFz.out (p * 4 + 3)
            have HP := hide hp
            unfold fndR at HY HE
            dsimp only at HY HE
            clear ht hy he h0 hao hsk HFz hp hr
            generalize valS 0 (sat T1.e p) = y at *
            generalize ((sat T1.e p).st : Int) = x0 at *
            generalize kR (sat T1.e p) = x1 at *
            generalize tR (sat T1.e p) = x2 at *
            generalize T1.y.length = ny at *
            generalize hne : T1.e.length = ne at *
            obtain ⟨kk, tt⟩ := k
            dsimp only at HY HE ⊢
            go_upto_region 8 with (go_at_call 85; refine (HY.out 0).mono ?_; rintro e w' ⟨rfl, q1, hw⟩; rw [hw]; clear hw)
            go_wp2_with (go_at_call 85; refine (HE.out _).mono ?_; rintro e w'' ⟨rfl, q2, hw⟩; rw [hw]; clear hw)
            go_returns
            refine HC.out _ _ (by unfold ansR; rw [HV.out]; rfl) ?_
            exact (((TrK.refl HT.out).drewN _).trans (TrK.putE (HT.out.drewN _) p (by rw [hne]; exact HP.out) .tmb)).s
          | none =>
            have hsk : seek eqR (hsR ti ma) T1 k = (none, n + n2) := by unfold seek; rw [hy]; dsimp only; rw [he]
            rw [hsk] at HC
            unfold fndR at HY HE
            dsimp only at HY HE
            clear ht hy he h0 hao hsk
            generalize T1.y.length = ny at *
            generalize T1.e.length = ne at *
            obtain ⟨kk, tt⟩ := k
            dsimp only at HY HE ⊢
            go_upto_region 8 with (go_at_call 85; refine (HY.out 0).mono ?_; rintro e w' ⟨rfl, q1, hw⟩; rw [hw]; clear hw)
            go_wp2_with (go_at_call 85; refine (HE.out _).mono ?_; rintro e w'' ⟨rfl, q2, hw⟩; rw [hw]; clear hw)
            go_returns
            exact HC.out _ _ rfl ((TrK.refl HT.out).drewN _).s
end
end RR
end Go.Proofs.Ytnknjcnbbljagaa
