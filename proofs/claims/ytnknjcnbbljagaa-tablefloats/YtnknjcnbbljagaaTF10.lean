/- Put, Del. -/
import Derived.Test.YtnknjcnbbljagaaTF9
namespace Go.Proofs.Ytnknjcnbbljagaa
set_option linter.unusedVariables false
set_option linter.unusedSimpArgs false
namespace FF
set_option maxRecDepth 100000
open Go.RowKit

section
variable {K V : Type}
theorem tok_zero {T : Tb K V} (h : TOk T) (hl : T.left = 0) : T.e.length = 0 ∧ T.m = 0 := by
  unfold Tb.left at hl
  rcases h.mv with h1 | h1
  · exact h1
  · omega
theorem tok_step {T : Tb K V} (h : TOk T) (hs : K → Nat) : TOk (stepT hs T) := by
  unfold stepT
  split
  · exact h
  · next hl =>
    have h8 := TOk.eightG h hl
    obtain ⟨l1, l2, l3⟩ := mvN_lenG (hs := hs) 8 T
    unfold endT
    split
    · exact ⟨.inl ⟨rfl, rfl⟩, ⟨0, rfl⟩, ⟨0, rfl⟩⟩
    · next h0 =>
      unfold Tb.left at h0
      exact ⟨.inr (by omega), by rw [l3]; exact Nat.dvd_add h.m8 ⟨1, rfl⟩, by rw [l1]; exact h.e8⟩
end
section
variable {z gy ge : Nat} {hv : Value} {T : TB} {F bt bm : Nat} {hf : Nat → Nat}
theorem step_any (w : World) (H : TbAt w z gy ge (hvF F bt bm) T) (hs : HsAt F hf) (ho : TOk T) : Calls Try.prog 68 #[.pointer (some ⟨z, 0, none⟩)] w fun e w' => e = .returned (.tuple #[]) ∧ TbS w w' z gy ge (hvF F bt bm) (stepT hf T) := by
  unfold stepT
  by_cases hl : T.left = 0
  · rw [if_pos hl]
    exact (step_none w H hl).mono (by
      rintro e w' ⟨rfl, q, rfl⟩
      exact ⟨rfl, TbK.s ⟨H.drewN q, (Frm.refl w _).drewN q⟩⟩)
  · rw [if_neg hl]
    exact step_some w ⟨H, Frm.refl _ _, hs⟩ (TOk.eightG ho hl)
theorem grow_any (w : World) (H : TbAt w z gy ge (hvF F bt bm) T) (ho : TOk T) (hG : GrowOk T) : Calls Try.prog 72 #[.pointer (some ⟨z, 0, none⟩)] w fun e w' => e = .returned (.tuple #[]) ∧ TbS w w' z gy ge (hvF F bt bm) (growT T) := by
  unfold growT
  by_cases h : T.left ≠ 0 ∨ 4 * (cnt T.y 1 + cnt T.y 2) ≤ 3 * T.y.length
  · rw [if_pos h]
    exact (grow_no w H h).mono (by
      rintro e w' ⟨rfl, q, rfl⟩
      exact ⟨rfl, TbK.s ⟨H.drewN q, (Frm.refl w _).drewN q⟩⟩)
  · rw [if_neg h]
    have hl : T.left = 0 := by omega
    have := grow_yes w H hl (tok_zero ho hl).2 (tok_zero ho hl).1 (by omega) (hG hl (by omega))
    rw [(tok_zero ho hl).2]
    exact this
/-- What Put and Del tell. -/
def ansV (T : TB) (r : Option (Bool × Nat)) : Value := .tuple #[.int .i64 (valT 0 T r), .bool r.isSome]
/-- Del, behind its step. -/
def DelC (w : World) (z gy ge F bt bm : Nat) (hf : Nat → Nat) (T : TB) (k : Nat) (e : Ending) (w' : World) : Prop := e = .returned (ansV (stepT hf T) (seek eqK hf (stepT hf T) k).1) ∧ TbS w w' z gy ge (hvF F bt bm) (delT eqK hf T k)
theorem del_any (w : World) (H : TbAt w z gy ge (hvF F bt bm) T) (hs : HsAt F hf) (ho : TOk T) (k : Nat) (hkb : k < 18446744073709551616) : Calls Try.prog 27 #[.pointer (some ⟨z, 0, none⟩), .float .f64 k] w (DelC w z gy ge F bt bm hf T k) := by
  have HN := hide (none_no w H)
  have HStep := hide (step_any w H hs ho)
  have HH := hide H
  have HHS := hide hs
  clear H hs ho
  go_enter Try.func27, Try.ntmps27
  go_upto_region 5 with (first | (go_at_call 66; refine HN.out.mono ?_; rintro e w' ⟨rfl, hw⟩; rw [hw]; clear hw) | (go_at_call 68; refine HStep.out.mono ?_; rintro e w1 ⟨rfl, hst⟩; have HST := hide hst; clear hst))
  obtain ⟨⟨gy1, ge1, ht, hnw⟩, hfr⟩ := HST.out
  have hs1 := HHS.out
  obtain ⟨T1, hT1⟩ : ∃ X, X = stepT hf T := ⟨_, rfl⟩
  have HC : Hid (∀ e w', e = Ending.returned (ansV T1 (seek eqK hf T1 k).1) → TbS w1 w' z gy1 ge1 (hvF F bt bm) (delG eqK hf T1 k) → DelC w z gy ge F bt bm hf T k e w') := hide (by
    intro e w' h1 h2
    rw [hT1] at h1 h2
    exact ⟨h1, TbS.trans hfr hnw h2⟩)
  rw [← hT1] at ht
  clear hT1 HST HStep HN hfr hnw HH HHS
  have HHs := hide (hs1.call w1 k hkb)
  have HSk := hide (seek_any w1 ht hf k (hs1.lt _ hkb))
  have hen := hs1.ent
  have c0 : w1.cell? ⟨z, 0, none⟩ = some (.func (.func F) #[] #[]) := by rw [ht.blk.cell]; rfl
  have hz := ht.blk.lt
  have HT := hide ht
  unfold delG at HC
  cases hsk : seek eqK hf T1 k with
  | mk r n =>
    rw [hsk] at HSk HC
    cases r with
    | none =>
      clear hs1 ht hsk
      go_wp2_with (first | (go_at_call 67; refine HSk.out.mono ?_; rintro e w' ⟨rfl, q, hw⟩; rw [hw]; clear hw; unfold seekV) | ((with_reducible refine HHs.out.mono ?_); rintro e w2 ⟨rfl, hw⟩; rw [hw]; clear hw))
      go_ret2
      exact HC.out _ _ rfl (TbK.s ⟨HT.out.drewN _, (Frm.refl _ _).drewN _⟩)
    | some bp =>
      obtain ⟨b, p⟩ := bp
      rcases seek_some hsk with ⟨rfl, hp, ⟨k', v', hs', _⟩, _⟩ | ⟨rfl, hp, ⟨k', v', hs', _⟩, _⟩
      · have HB := hide (fun q => buryY_any (w1.drewN q) (ht.drewN q) p hp k' v' hs')
        have HV : Hid (valT 0 T1 (some (false, p)) = v') := hide (by simp [valT, hs', valS])
        clear hs1 ht hsk hs' hp
        go_upto_region 6 with (first | (go_at_call 67; refine HSk.out.mono ?_; rintro e w' ⟨rfl, q, hw⟩; rw [hw]; clear hw; unfold seekV) | ((with_reducible refine HHs.out.mono ?_); rintro e w2 ⟨rfl, hw⟩; rw [hw]; clear hw))
        have HBq := hide (HB.out q)
        clear HB HSk HHs hen
        go_wp2_with (go_at_call 69; refine HBq.out.mono ?_; rintro e w2 ⟨rfl, hk2⟩; have HK2 := hide hk2; clear hk2)
        go_ret2
        exact HC.out _ _ (by unfold ansV; rw [HV.out]; rfl) (TbK.s ⟨HK2.out.tb, ((Frm.refl w1 _).drewN q).trans HK2.out.fr (fun _ _ h => h)⟩)
      · have HB := hide (fun q => buryE_any (w1.drewN q) (ht.drewN q) p hp k' v' hs')
        have HV : Hid (valT 0 T1 (some (true, p)) = v') := hide (by simp [valT, hs', valS])
        clear hs1 ht hsk hs' hp
        go_upto_region 6 with (first | (go_at_call 67; refine HSk.out.mono ?_; rintro e w' ⟨rfl, q, hw⟩; rw [hw]; clear hw; unfold seekV) | ((with_reducible refine HHs.out.mono ?_); rintro e w2 ⟨rfl, hw⟩; rw [hw]; clear hw))
        have HBq := hide (HB.out q)
        clear HB HSk HHs hen
        go_wp2_with (go_at_call 69; refine HBq.out.mono ?_; rintro e w2 ⟨rfl, hk2⟩; have HK2 := hide hk2; clear hk2)
        go_ret2
        exact HC.out _ _ (by unfold ansV; rw [HV.out]; rfl) (TbK.s ⟨HK2.out.tb, ((Frm.refl w1 _).drewN q).trans HK2.out.fr (fun _ _ h => h)⟩)
end
end FF
end Go.Proofs.Ytnknjcnbbljagaa
