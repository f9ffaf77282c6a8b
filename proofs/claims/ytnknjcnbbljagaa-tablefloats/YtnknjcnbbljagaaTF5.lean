/- The hash; seek; a new table. -/
import Derived.Test.YtnknjcnbbljagaaTF4
import Derived.Deep.RegionWith
namespace Go.Proofs.Ytnknjcnbbljagaa
set_option linter.unusedVariables false
set_option linter.unusedSimpArgs false
namespace FF
set_option maxRecDepth 100000
open Go.RowKit

/-- A hash: what it tells of a float's bits. -/
structure HsAt (F : Nat) (hf : Nat → Nat) : Prop where
  call : ∀ (w : World) (k : Nat), k < 18446744073709551616 → Calls Try.prog F #[.float .f64 k] w fun e w' => e = .returned (.int .u64 (hf k : Int)) ∧ w' = w
  lt : ∀ k, k < 18446744073709551616 → hf k < 18446744073709551616
  ent : ∀ args W, (callFunc F args).run Try.prog W = .ok (.enter F args) W
section
variable {z gy ge : Nat} {hv : Value} {T : TB}
theorem seek_any (w : World) (H : TbAt w z gy ge hv T) (hs : Nat → Nat) (k : Nat) (hh : hs k < 18446744073709551616) :
    Calls Try.prog 67 #[.pointer (some ⟨z, 0, none⟩), .int .u64 (hs k : Int), .float .f64 k] w fun e w' => e = .returned (seekV z (seek eqK hs T k)) ∧ ∃ q, w' = w.drewN q := by
  have HY := hide (findY_any w H (hs k) k hh)
  have HE := hide (fun n => findE_any (w.drewN n) (H.drewN n) (hs k) k hh)
  have l1 := find_le eqK T.y (hs k) k
  have l2 := find_le eqK T.e (hs k) k
  have b := H.b43
  have hz := H.blk.lt
  cases hy : find eqK T.y (hs k) k with
  | mk oy ny =>
    rw [hy] at HY l1
    cases oy with
    | some p =>
      have HS : Hid (seek eqK hs T k = (some (false, p), ny)) := hide (by unfold seek; rw [hy])
      have hp0 : (0 : Int) ≤ (p : Int) := by omega
      clear H hy HE l1 l2 b
      go_enter Try.func67, Try.ntmps67
      go_wp2_with (go_at_call 70; refine HY.out.mono ?_; rintro e w' ⟨rfl, q, hw⟩; rw [hw]; clear hw; unfold fndV)
      go_ret3
      exact ⟨by rw [HS.out]; rfl, _, rfl⟩
    | none =>
      cases he : find eqK T.e (hs k) k with
      | mk oe ne =>
        rw [he] at HE l2
        have hny : ny ≤ 8796093022208 := by have : ny ≤ T.y.length := l1; omega
        have hne : ne ≤ 8796093022208 := by have : ne ≤ T.e.length := l2; omega
        cases oe with
        | some p =>
          have HS : Hid (seek eqK hs T k = (some (true, p), ny + ne)) := hide (by unfold seek; rw [hy]; simp only []; rw [he])
          clear H hy he l1 l2 b
          go_enter Try.func67, Try.ntmps67
          go_upto_region 2 with (go_at_call 70; refine HY.out.mono ?_; rintro e w' ⟨rfl, q, hw⟩; rw [hw]; clear hw; unfold fndV)
          have HEq := hide (HE.out q)
          clear HE HY
          go_wp2_with (go_at_call 70; refine HEq.out.mono ?_; rintro e w' ⟨rfl, q2, hw⟩; rw [hw]; clear hw; unfold fndV)
          go_ret3
          exact ⟨by rw [HS.out]; unfold seekV; simp, _, rfl⟩
        | none =>
          have HS : Hid (seek eqK hs T k = (none, ny + ne)) := hide (by unfold seek; rw [hy]; simp only []; rw [he])
          clear H hy he l1 l2 b
          go_enter Try.func67, Try.ntmps67
          go_upto_region 2 with (go_at_call 70; refine HY.out.mono ?_; rintro e w' ⟨rfl, q, hw⟩; rw [hw]; clear hw; unfold fndV)
          have HEq := hide (HE.out q)
          clear HE HY
          go_wp2_with (go_at_call 70; refine HEq.out.mono ?_; rintro e w' ⟨rfl, q2, hw⟩; rw [hw]; clear hw; unfold fndV)
          go_ret3
          exact ⟨by rw [HS.out]; unfold seekV; simp, _, rfl⟩
end
end FF
end Go.Proofs.Ytnknjcnbbljagaa
