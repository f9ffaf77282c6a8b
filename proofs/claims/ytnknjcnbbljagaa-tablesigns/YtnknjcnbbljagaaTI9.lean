/- Get, Probes. -/
import Derived.Test.YtnknjcnbbljagaaTI8
namespace Go.Proofs.Ytnknjcnbbljagaa
set_option linter.unusedVariables false
set_option linter.unusedSimpArgs false
set_option maxRecDepth 100000
open Go.RowKit

theorem fnd_some {K V : Type} {eq : K → K → Bool} {L : List (Slt K V)} {h : Nat} {k : K} (h0 : 0 < L.length) : ∀ (f i : Nat) {p n : Nat}, fnd eq L h k f i = (some p, n) → p < L.length ∧ ∃ k' v', sat L p = .ful k' v' ∧ eq k' k = true := by
  intro f
  induction f with
  | zero => intro i p n e; simp [fnd] at e
  | succ f ih =>
    intro i p n e
    cases hs : sat L ((h + i) % L.length) with
    | emp => rw [fnd_emp hs] at e; cases e
    | tmb => rw [fnd_tmb hs] at e; exact ih _ e
    | ful k' v' =>
      cases he : eq k' k with
      | true =>
        rw [fnd_yes hs he] at e
        cases e
        exact ⟨Nat.mod_lt _ h0, k', v', hs, he⟩
      | false => rw [fnd_no hs he] at e; exact ih _ e
theorem find_some {K V : Type} {eq : K → K → Bool} {L : List (Slt K V)} {h : Nat} {k : K} {p n : Nat} (e : find eq L h k = (some p, n)) : p < L.length ∧ ∃ k' v', sat L p = .ful k' v' ∧ eq k' k = true := by
  have h0 : 0 < L.length := by
    rcases Nat.eq_zero_or_pos L.length with h | h
    · unfold find at e; rw [h] at e; simp [fnd] at e
    · exact h
  exact fnd_some h0 _ _ e
theorem seek_some {K V : Type} {eq : K → K → Bool} {hs : K → Nat} {T : Tb K V} {k : K} {b : Bool} {p n : Nat} (e : seek eq hs T k = (some (b, p), n)) : (b = false ∧ p < T.y.length ∧ (∃ k' v', sat T.y p = .ful k' v' ∧ eq k' k = true) ∧ ∃ m, find eq T.y (hs k) k = (some p, m)) ∨ (b = true ∧ p < T.e.length ∧ (∃ k' v', sat T.e p = .ful k' v' ∧ eq k' k = true) ∧ (∃ m, find eq T.y (hs k) k = (none, m)) ∧ ∃ m, find eq T.e (hs k) k = (some p, m)) := by
  unfold seek at e
  cases hy : find eq T.y (hs k) k with
  | mk oy ny =>
    rw [hy] at e
    cases oy with
    | some q =>
      simp only [] at e
      cases e
      exact .inl ⟨rfl, (find_some hy).1, (find_some hy).2, _, rfl⟩
    | none =>
      simp only [] at e
      cases he : find eq T.e (hs k) k with
      | mk oe ne =>
        rw [he] at e
        cases oe with
        | some q =>
          simp only [] at e
          cases e
          exact .inr ⟨rfl, (find_some he).1, (find_some he).2, ⟨_, rfl⟩, _, rfl⟩
        | none => simp only [] at e; cases e
section
variable {z gy ge : Nat} {hv : Value} {T : TB} {F bt bm : Nat} {ti ma : Int}
theorem get_any (w : World) (H : TbAt w z gy ge (hvF F bt bm) T) (hs : HsAt w F bt bm ti ma) (k : Int) : Calls Try.prog 52 #[.pointer (some ⟨z, 0, none⟩), .int .i64 k] w fun e w' => e = .returned (.tuple #[.int .i64 (valT 0 T (seek eqK (hsh ti ma) T k).1), .bool (seek eqK (hsh ti ma) T k).1.isSome]) ∧ ∃ q, w' = w.drewN q := by
  have HN := hide (none_no w H)
  have HHs := hide (hs_any w F bt bm ti ma hs k)
  have HSk := hide (seek_any w H (hsh ti ma) k (hsh_lt _ _ _))
  have hen := hs_enter hs
  have c0 : w.cell? ⟨z, 0, none⟩ = some (.func (.func F) #[] #[.pointer (some ⟨bt, 0, none⟩), .pointer (some ⟨bm, 0, none⟩)]) := by rw [H.blk.cell]; rfl
  have hz := H.blk.lt
  cases hsk : seek eqK (hsh ti ma) T k with
  | mk r n =>
    rw [hsk] at HSk
    cases r with
    | none =>
      clear H hs hsk
      go_enter Try.func52, Try.ntmps52
      go_wp2_with (first | (go_at_call 62; refine HN.out.mono ?_; rintro e w' ⟨rfl, hw⟩; rw [hw]; clear hw) | (go_at_call 63; refine HSk.out.mono ?_; rintro e w' ⟨rfl, q, hw⟩; rw [hw]; clear hw; unfold seekV) | ((with_reducible refine HHs.out.mono ?_); rintro e w2 ⟨rfl, hw⟩; rw [hw]; clear hw))
      go_ret2
      exact ⟨rfl, _, rfl⟩
    | some bp =>
      obtain ⟨b, p⟩ := bp
      rcases seek_some hsk with ⟨rfl, hp, ⟨k', v', hs', _⟩, _⟩ | ⟨rfl, hp, ⟨k', v', hs', _⟩, _⟩
      · have c1 : w.cell? ⟨z, 1, none⟩ = some (.slice (some ⟨gy, 0, none⟩) T.y.length T.y.length) := by rw [H.blk.cell]; rfl
        have d2 := H.ry.c2 p hp
        rw [hs'] at d2
        have e2 : vS (Slt.ful k' v') = .int .i64 v' := rfl
        rw [e2] at d2
        have hv' : valT 0 T (some (false, p)) = v' := by simp [valT, hs', valS]
        rw [hv']
        have b := H.b43.1
        have hg := H.ry.lt
        generalize T.y.length = n at *
        have hpi : (p : Int) < (n : Int) := by omega
        clear H hs hsk hs' hv' e2
        go_enter Try.func52, Try.ntmps52
        go_wp2_with (first | (go_at_call 62; refine HN.out.mono ?_; rintro e w' ⟨rfl, hw⟩; rw [hw]; clear hw) | (go_at_call 63; refine HSk.out.mono ?_; rintro e w' ⟨rfl, q, hw⟩; rw [hw]; clear hw; unfold seekV) | ((with_reducible refine HHs.out.mono ?_); rintro e w2 ⟨rfl, hw⟩; rw [hw]; clear hw))
        go_ret2
        exact ⟨rfl, _, rfl⟩
      · have h0 : T.e.length ≠ 0 := by omega
        have c1 := H.cellE h0 rfl
        have d2 := (H.re h0).c2 p hp
        rw [hs'] at d2
        have e2 : vS (Slt.ful k' v') = .int .i64 v' := rfl
        rw [e2] at d2
        have hv' : valT 0 T (some (true, p)) = v' := by simp [valT, hs', valS]
        rw [hv']
        have b := H.b43.2
        have hg := (H.re h0).lt
        generalize T.e.length = n at *
        have hpi : (p : Int) < (n : Int) := by omega
        clear H hs hsk hs' hv' e2 h0
        go_enter Try.func52, Try.ntmps52
        go_wp2_with (first | (go_at_call 62; refine HN.out.mono ?_; rintro e w' ⟨rfl, hw⟩; rw [hw]; clear hw) | (go_at_call 63; refine HSk.out.mono ?_; rintro e w' ⟨rfl, q, hw⟩; rw [hw]; clear hw; unfold seekV) | ((with_reducible refine HHs.out.mono ?_); rintro e w2 ⟨rfl, hw⟩; rw [hw]; clear hw))
        go_ret2
        exact ⟨rfl, _, rfl⟩
theorem probes_any (w : World) (H : TbAt w z gy ge (hvF F bt bm) T) (hs : HsAt w F bt bm ti ma) (k : Int) : Calls Try.prog 18 #[.pointer (some ⟨z, 0, none⟩), .int .i64 k] w fun e w' => e = .returned (.int .i64 ((seek eqK (hsh ti ma) T k).2 : Int)) ∧ ∃ q, w' = w.drewN q := by
  have HN := hide (none_no w H)
  have HHs := hide (hs_any w F bt bm ti ma hs k)
  have HSk := hide (seek_any w H (hsh ti ma) k (hsh_lt _ _ _))
  have hen := hs_enter hs
  have c0 : w.cell? ⟨z, 0, none⟩ = some (.func (.func F) #[] #[.pointer (some ⟨bt, 0, none⟩), .pointer (some ⟨bm, 0, none⟩)]) := by rw [H.blk.cell]; rfl
  have hz := H.blk.lt
  have hsv : ∃ pv av, seekV z (seek eqK (hsh ti ma) T k) = .tuple #[.pointer pv, .int .i64 av, .int .i64 ((seek eqK (hsh ti ma) T k).2 : Int)] := by
    generalize seek eqK (hsh ti ma) T k = r
    rcases r with ⟨_ | ⟨b, p⟩, n⟩
    · exact ⟨_, _, rfl⟩
    · cases b <;> exact ⟨_, _, rfl⟩
  obtain ⟨pv, av, hsv⟩ := hsv
  rw [hsv] at HSk
  clear H hs hsv
  generalize (seek eqK (hsh ti ma) T k).2 = n at *
  go_enter Try.func18, Try.ntmps18
  go_wp2_with (first | (go_at_call 62; refine HN.out.mono ?_; rintro e w' ⟨rfl, hw⟩; rw [hw]; clear hw) | (go_at_call 63; refine HSk.out.mono ?_; rintro e w' ⟨rfl, q, hw⟩; rw [hw]; clear hw) | ((with_reducible refine HHs.out.mono ?_); rintro e w2 ⟨rfl, hw⟩; rw [hw]; clear hw))
  go_ret
  exact ⟨rfl, _, rfl⟩
end
end Go.Proofs.Ytnknjcnbbljagaa
