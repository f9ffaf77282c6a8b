/- Put, Del. -/
import Derived.Test.YtnknjcnbbljagaaTI9
namespace Go.Proofs.Ytnknjcnbbljagaa
set_option linter.unusedVariables false
set_option linter.unusedSimpArgs false
set_option maxRecDepth 100000
open Go.RowKit

/-- How an elder array may stand. -/
structure TOk {K V : Type} (T : Tb K V) : Prop where
  mv : (T.e.length = 0 ∧ T.m = 0) ∨ T.m < T.e.length
  m8 : 8 ∣ T.m
  e8 : 8 ∣ T.e.length
/-- If it must grow, it may. -/
def GrowOk {K V : Type} (T : Tb K V) : Prop := T.left = 0 → 3 * T.y.length < 4 * (cnt T.y 1 + cnt T.y 2) → growN T.y.length T.len ≤ 8796093022208
section
variable {z gy ge : Nat} {hv : Value} {T : TB} {F bt bm : Nat} {ti ma : Int}
theorem TOk.eight (h : TOk T) (hl : T.left ≠ 0) : T.m + 8 ≤ T.e.length := by
  obtain ⟨a, ha⟩ := h.m8
  obtain ⟨b, hb⟩ := h.e8
  unfold Tb.left at hl
  rcases h.mv with ⟨h1, h2⟩ | h1 <;> omega
theorem TOk.zero (h : TOk T) (hl : T.left = 0) : T.e.length = 0 ∧ T.m = 0 := by
  unfold Tb.left at hl
  rcases h.mv with h1 | h1
  · exact h1
  · omega
theorem TOk.step (h : TOk T) (hs : Int → Nat) : TOk (stepT hs T) := by
  unfold stepT
  split
  · exact h
  · next hl =>
    have h8 := h.eight hl
    obtain ⟨l1, l2, l3⟩ := mvN_len hs 8 T
    unfold endT
    split
    · exact ⟨.inl ⟨rfl, rfl⟩, ⟨0, rfl⟩, ⟨0, rfl⟩⟩
    · next h0 =>
      unfold Tb.left at h0
      exact ⟨.inr (by omega), by rw [l3]; exact Nat.dvd_add h.m8 ⟨1, rfl⟩, by rw [l1]; exact h.e8⟩
theorem step_any (w : World) (H : TbAt w z gy ge (hvF F bt bm) T) (hs : HsAt w F bt bm ti ma) (ho : TOk T) : Calls Try.prog 88 #[.pointer (some ⟨z, 0, none⟩)] w fun e w' => e = .returned (.tuple #[]) ∧ TbS w w' z gy ge (hvF F bt bm) (stepT (hsh ti ma) T) := by
  unfold stepT
  by_cases hl : T.left = 0
  · rw [if_pos hl]
    exact (step_none w H hl).mono (by
      rintro e w' ⟨rfl, q, rfl⟩
      exact ⟨rfl, TbK.s ⟨H.drewN q, (Frm.refl w _).drewN q⟩⟩)
  · rw [if_neg hl]
    exact step_some w ⟨H, Frm.refl _ _, hs⟩ (ho.eight hl)
theorem grow_any (w : World) (H : TbAt w z gy ge (hvF F bt bm) T) (ho : TOk T) (hG : GrowOk T) : Calls Try.prog 92 #[.pointer (some ⟨z, 0, none⟩)] w fun e w' => e = .returned (.tuple #[]) ∧ TbS w w' z gy ge (hvF F bt bm) (growT T) := by
  unfold growT
  by_cases h : T.left ≠ 0 ∨ 4 * (cnt T.y 1 + cnt T.y 2) ≤ 3 * T.y.length
  · rw [if_pos h]
    exact (grow_no w H h).mono (by
      rintro e w' ⟨rfl, q, rfl⟩
      exact ⟨rfl, TbK.s ⟨H.drewN q, (Frm.refl w _).drewN q⟩⟩)
  · rw [if_neg h]
    have hl : T.left = 0 := by omega
    have := grow_yes w H hl (ho.zero hl).2 (ho.zero hl).1 (by omega) (hG hl (by omega))
    rw [(ho.zero hl).2]
    exact this
/-- What Put and Del tell. -/
def ansV (T : TB) (r : Option (Bool × Nat)) : Value := .tuple #[.int .i64 (valT 0 T r), .bool r.isSome]
/-- Del, behind its step. -/
def DelC (w : World) (z gy ge F bt bm : Nat) (ti ma : Int) (T : TB) (k : Int) (e : Ending) (w' : World) : Prop := e = .returned (ansV (stepT (hsh ti ma) T) (seek eqK (hsh ti ma) (stepT (hsh ti ma) T) k).1) ∧ TbS w w' z gy ge (hvF F bt bm) (delT eqK (hsh ti ma) T k)
theorem del_any (w : World) (H : TbAt w z gy ge (hvF F bt bm) T) (hs : HsAt w F bt bm ti ma) (ho : TOk T) (k : Int) : Calls Try.prog 51 #[.pointer (some ⟨z, 0, none⟩), .int .i64 k] w (DelC w z gy ge F bt bm ti ma T k) := by
  have HN := hide (none_no w H)
  have HStep := hide (step_any w H hs ho)
  have HH := hide H
  have HHS := hide hs
  clear H hs ho
  go_enter Try.func51, Try.ntmps51
  go_upto_region 5 with (first | (go_at_call 62; refine HN.out.mono ?_; rintro e w' ⟨rfl, hw⟩; rw [hw]; clear hw) | (go_at_call 88; refine HStep.out.mono ?_; rintro e w1 ⟨rfl, hst⟩; have HST := hide hst; clear hst))
  obtain ⟨⟨gy1, ge1, ht, hnw⟩, hfr⟩ := HST.out
  have hs1 := HHS.out.frm HH.out hfr
  obtain ⟨T1, hT1⟩ : ∃ X, X = stepT (hsh ti ma) T := ⟨_, rfl⟩
  have HC : Hid (∀ e w', e = Ending.returned (ansV T1 (seek eqK (hsh ti ma) T1 k).1) → TbS w1 w' z gy1 ge1 (hvF F bt bm) (delG eqK (hsh ti ma) T1 k) → DelC w z gy ge F bt bm ti ma T k e w') := hide (by
    intro e w' h1 h2
    rw [hT1] at h1 h2
    exact ⟨h1, TbS.trans hfr hnw h2⟩)
  rw [← hT1] at ht
  clear hT1 HST HStep HN hfr hnw HH HHS
  have HHs := hide (hs_any w1 F bt bm ti ma hs1 k)
  have HSk := hide (seek_any w1 ht (hsh ti ma) k (hsh_lt _ _ _))
  have hen := hs_enter hs1
  have c0 : w1.cell? ⟨z, 0, none⟩ = some (.func (.func F) #[] #[.pointer (some ⟨bt, 0, none⟩), .pointer (some ⟨bm, 0, none⟩)]) := by rw [ht.blk.cell]; rfl
  have hz := ht.blk.lt
  have HT := hide ht
  unfold delG at HC
  cases hsk : seek eqK (hsh ti ma) T1 k with
  | mk r n =>
    rw [hsk] at HSk HC
    cases r with
    | none =>
      clear hs1 ht hsk
      go_wp2_with (first | (go_at_call 63; refine HSk.out.mono ?_; rintro e w' ⟨rfl, q, hw⟩; rw [hw]; clear hw; unfold seekV) | ((with_reducible refine HHs.out.mono ?_); rintro e w2 ⟨rfl, hw⟩; rw [hw]; clear hw))
      go_ret2
      exact HC.out _ _ rfl (TbK.s ⟨HT.out.drewN _, (Frm.refl _ _).drewN _⟩)
    | some bp =>
      obtain ⟨b, p⟩ := bp
      rcases seek_some hsk with ⟨rfl, hp, ⟨k', v', hs', _⟩, _⟩ | ⟨rfl, hp, ⟨k', v', hs', _⟩, _⟩
      · have HB := hide (fun q => buryY_any (w1.drewN q) (ht.drewN q) p hp k' v' hs')
        have HV : Hid (valT 0 T1 (some (false, p)) = v') := hide (by simp [valT, hs', valS])
        clear hs1 ht hsk hs' hp
        go_upto_region 6 with (first | (go_at_call 63; refine HSk.out.mono ?_; rintro e w' ⟨rfl, q, hw⟩; rw [hw]; clear hw; unfold seekV) | ((with_reducible refine HHs.out.mono ?_); rintro e w2 ⟨rfl, hw⟩; rw [hw]; clear hw))
        have HBq := hide (HB.out q)
        clear HB HSk HHs hen
        go_wp2_with (go_at_call 90; refine HBq.out.mono ?_; rintro e w2 ⟨rfl, hk2⟩; have HK2 := hide hk2; clear hk2)
        go_ret2
        exact HC.out _ _ (by unfold ansV; rw [HV.out]; rfl) (TbK.s ⟨HK2.out.tb, ((Frm.refl w1 _).drewN q).trans HK2.out.fr (fun _ _ h => h)⟩)
      · have HB := hide (fun q => buryE_any (w1.drewN q) (ht.drewN q) p hp k' v' hs')
        have HV : Hid (valT 0 T1 (some (true, p)) = v') := hide (by simp [valT, hs', valS])
        clear hs1 ht hsk hs' hp
        go_upto_region 6 with (first | (go_at_call 63; refine HSk.out.mono ?_; rintro e w' ⟨rfl, q, hw⟩; rw [hw]; clear hw; unfold seekV) | ((with_reducible refine HHs.out.mono ?_); rintro e w2 ⟨rfl, hw⟩; rw [hw]; clear hw))
        have HBq := hide (HB.out q)
        clear HB HSk HHs hen
        go_wp2_with (go_at_call 90; refine HBq.out.mono ?_; rintro e w2 ⟨rfl, hk2⟩; have HK2 := hide hk2; clear hk2)
        go_ret2
        exact HC.out _ _ (by unfold ansV; rw [HV.out]; rfl) (TbK.s ⟨HK2.out.tb, ((Frm.refl w1 _).drewN q).trans HK2.out.fr (fun _ _ h => h)⟩)
end
end Go.Proofs.Ytnknjcnbbljagaa
