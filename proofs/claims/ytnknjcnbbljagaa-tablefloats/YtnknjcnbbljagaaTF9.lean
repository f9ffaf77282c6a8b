/- Get, Probes. -/
import Derived.Test.YtnknjcnbbljagaaTF8
namespace Go.Proofs.Ytnknjcnbbljagaa
set_option linter.unusedVariables false
set_option linter.unusedSimpArgs false
namespace FF
set_option maxRecDepth 100000
open Go.RowKit

section
variable {z gy ge : Nat} {hv : Value} {T : TB} {F bt bm : Nat} {hf : Nat → Nat}
theorem get_any (w : World) (H : TbAt w z gy ge (hvF F bt bm) T) (hs : HsAt F hf) (k : Nat) (hkb : k < 18446744073709551616) : Calls Try.prog 26 #[.pointer (some ⟨z, 0, none⟩), .float .f64 k] w fun e w' => e = .returned (.tuple #[.int .i64 (valT 0 T (seek eqK hf T k).1), .bool (seek eqK hf T k).1.isSome]) ∧ ∃ q, w' = w.drewN q := by
  have HN := hide (none_no w H)
  have HHs := hide (hs.call w k hkb)
  have HSk := hide (seek_any w H hf k (hs.lt _ hkb))
  have hen := hs.ent
  have c0 : w.cell? ⟨z, 0, none⟩ = some (.func (.func F) #[] #[]) := by rw [H.blk.cell]; rfl
  have hz := H.blk.lt
  cases hsk : seek eqK hf T k with
  | mk r n =>
    rw [hsk] at HSk
    cases r with
    | none =>
      clear H hs hsk
      go_enter Try.func26, Try.ntmps26
      go_wp2_with (first | (go_at_call 66; refine HN.out.mono ?_; rintro e w' ⟨rfl, hw⟩; rw [hw]; clear hw) | (go_at_call 67; refine HSk.out.mono ?_; rintro e w' ⟨rfl, q, hw⟩; rw [hw]; clear hw; unfold seekV) | ((with_reducible refine HHs.out.mono ?_); rintro e w2 ⟨rfl, hw⟩; rw [hw]; clear hw))
      go_ret2
      exact ⟨rfl, _, rfl⟩
    | some bp =>
      obtain ⟨b, p⟩ := bp
      rcases seek_some hsk with ⟨rfl, hp, ⟨k', v', hs', _⟩, _⟩ | ⟨rfl, hp, ⟨k', v', hs', _⟩, _⟩
      · have c1 : w.cell? ⟨z, 1, none⟩ = some (.slice (some ⟨gy, 0, none⟩) T.y.length T.y.length) := by rw [H.blk.cell]; rfl
        have d2 := H.ry.c2 p hp
        rw [hs'] at d2
        have e2 : vS (Slt.ful k' v') = .int .i64 v' := rfl
        rw [e2] at d2
        have hv' : valT 0 T (some (false, p)) = v' := by simp [valT, hs', valS]
        rw [hv']
        have b := H.b43.1
        have hg := H.ry.lt
        generalize T.y.length = n at *
        have hpi : (p : Int) < (n : Int) := by omega
        clear H hs hsk hs' hv' e2
        go_enter Try.func26, Try.ntmps26
        go_wp2_with (first | (go_at_call 66; refine HN.out.mono ?_; rintro e w' ⟨rfl, hw⟩; rw [hw]; clear hw) | (go_at_call 67; refine HSk.out.mono ?_; rintro e w' ⟨rfl, q, hw⟩; rw [hw]; clear hw; unfold seekV) | ((with_reducible refine HHs.out.mono ?_); rintro e w2 ⟨rfl, hw⟩; rw [hw]; clear hw))
        go_ret2
        exact ⟨rfl, _, rfl⟩
      · have h0 : T.e.length ≠ 0 := by omega
        have c1 := H.cellE h0 rfl
        have d2 := (H.re h0).c2 p hp
        rw [hs'] at d2
        have e2 : vS (Slt.ful k' v') = .int .i64 v' := rfl
        rw [e2] at d2
        have hv' : valT 0 T (some (true, p)) = v' := by simp [valT, hs', valS]
        rw [hv']
        have b := H.b43.2
        have hg := (H.re h0).lt
        generalize T.e.length = n at *
        have hpi : (p : Int) < (n : Int) := by omega
        clear H hs hsk hs' hv' e2 h0
        go_enter Try.func26, Try.ntmps26
        go_wp2_with (first | (go_at_call 66; refine HN.out.mono ?_; rintro e w' ⟨rfl, hw⟩; rw [hw]; clear hw) | (go_at_call 67; refine HSk.out.mono ?_; rintro e w' ⟨rfl, q, hw⟩; rw [hw]; clear hw; unfold seekV) | ((with_reducible refine HHs.out.mono ?_); rintro e w2 ⟨rfl, hw⟩; rw [hw]; clear hw))
        go_ret2
        exact ⟨rfl, _, rfl⟩
end
end FF
end Go.Proofs.Ytnknjcnbbljagaa
