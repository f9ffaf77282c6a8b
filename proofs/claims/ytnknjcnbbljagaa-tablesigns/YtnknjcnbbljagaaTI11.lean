/- Put. -/
import Derived.Test.YtnknjcnbbljagaaTI10
namespace Go.Proofs.Ytnknjcnbbljagaa
set_option linter.unusedVariables false
set_option linter.unusedSimpArgs false
set_option maxRecDepth 100000
open Go.RowKit

theorem RowAt.setV {w : World} {g : Nat} {L : List SL} (h : RowAt w g L) (p : Nat) (hp : p < L.length) {k' v' : Int} (hs : sat L p = .ful k' v') (v : Int) : RowAt (w.setCell ⟨g, p * 3 + 2, none⟩ (.int .i64 v)) g (L.set p (.ful k' v)) := by
  obtain ⟨cur, hb, hc⟩ := h.row
  have h3 := hb.set (p * 3 + 2) (.int .i64 v)
  have old : ∀ o, w.cell? ⟨g, o, none⟩ = cur[o]? := fun o => hb.cell o
  refine ⟨⟨_, h3, by simpa using hc⟩, fun q hq => ?_, fun q hq => ?_, fun q hq => ?_⟩
  · rw [List.length_set] at hq
    rw [h3.cell, sat_set hp, Array.getElem?_setIfInBounds_ne (by omega), ← old, h.c0 q hq]
    by_cases e : q = p
    · subst e; rw [if_pos rfl, hs]; rfl
    · rw [if_neg e]
  · rw [List.length_set] at hq
    rw [h3.cell, sat_set hp, Array.getElem?_setIfInBounds_ne (by omega), ← old, h.c1 q hq]
    by_cases e : q = p
    · subst e; rw [if_pos rfl, hs]; rfl
    · rw [if_neg e]
  · rw [List.length_set] at hq
    rw [h3.cell, sat_set hp]
    by_cases e : q = p
    · subst e; rw [if_pos rfl, Array.getElem?_setIfInBounds_self_of_lt (by omega)]; rfl
    · rw [if_neg e, Array.getElem?_setIfInBounds_ne (by omega), ← old, h.c2 q hq]
section
variable {z gy ge : Nat} {hv : Value} {T : TB} {F bt bm : Nat} {ti ma : Int}
theorem TbK.setV {w : World} (h : TbAt w z gy ge hv T) (p : Nat) (hp : p < T.y.length) {k' v' : Int} (hs : sat T.y p = .ful k' v') (v : Int) : TbK w (w.setCell ⟨gy, p * 3 + 2, none⟩ (.int .i64 v)) z gy ge hv ⟨T.y.set p (.ful k' v), T.e, T.m⟩ := by
  have hzy := h.zy
  have k1 : cnt (T.y.set p (.ful k' v)) 1 = cnt T.y 1 := by simpa [hs, Slt.st] using cnt_set T.y p hp (.ful k' v) 1
  have k2 : cnt (T.y.set p (.ful k' v)) 2 = cnt T.y 2 := by simpa [hs, Slt.st] using cnt_set T.y p hp (.ful k' v) 2
  refine ⟨h.mkY List.length_set ?_ (h.ry.setV p hp hs v) (fun k h1 h2 => heap_setCell_other _ _ _ _ h2), Frm.set _ _ _ _ _ (.inr (.inl rfl))⟩
  rw [k1, k2]
  exact h.blk.setOther _ _ hzy
def PutC (w : World) (z gy ge F bt bm : Nat) (ti ma : Int) (T : TB) (k v : Int) (e : Ending) (w' : World) : Prop := e = .returned (ansV (stepT (hsh ti ma) T) (seek eqK (hsh ti ma) (stepT (hsh ti ma) T) k).1) ∧ TbS w w' z gy ge (hvF F bt bm) (putT eqK (hsh ti ma) T k v)
theorem put_any (w : World) (H : TbAt w z gy ge (hvF F bt bm) T) (hs : HsAt w F bt bm ti ma) (ho : TOk T) (k v : Int) (hG : GrowOk (⟨lay (stepT (hsh ti ma) T).y (hsh ti ma k) k v, (stepT (hsh ti ma) T).e, (stepT (hsh ti ma) T).m⟩ : TB)) : Calls Try.prog 50 #[.pointer (some ⟨z, 0, none⟩), .int .i64 k, .int .i64 v] w (PutC w z gy ge F bt bm ti ma T k v) := by
  have HN := hide (none_no w H)
  have HStep := hide (step_any w H hs ho)
  have HH := hide H
  have HHS := hide hs
  have HO := hide (ho.step (hsh ti ma))
  have HG := hide hG
  clear H hs ho hG
  go_enter Try.func50, Try.ntmps50
  go_upto_region 5 with (first | (go_at_call 62; refine HN.out.mono ?_; rintro e w' ⟨rfl, hw⟩; rw [hw]; clear hw) | (go_at_call 88; refine HStep.out.mono ?_; rintro e w1 ⟨rfl, hst⟩; have HST := hide hst; clear hst))
  obtain ⟨⟨gy1, ge1, ht, hnw⟩, hfr⟩ := HST.out
  have hs1 := HHS.out.frm HH.out hfr
  obtain ⟨T1, hT1⟩ : ∃ X, X = stepT (hsh ti ma) T := ⟨_, rfl⟩
  have HC : Hid (∀ e w', e = Ending.returned (ansV T1 (seek eqK (hsh ti ma) T1 k).1) → TbS w1 w' z gy1 ge1 (hvF F bt bm) (putG eqK (hsh ti ma) T1 k v) → PutC w z gy ge F bt bm ti ma T k v e w') := hide (by
    intro e w' h1 h2
    rw [hT1] at h1 h2
    exact ⟨h1, TbS.trans hfr hnw h2⟩)
  rw [← hT1] at ht HO HG
  clear hT1 HST HStep HN hfr hnw HH HHS
  have HHs := hide (hs_any w1 F bt bm ti ma hs1 k)
  have HFY := hide (findY_any w1 ht (hsh ti ma k) k (hsh_lt _ _ _))
  have HFE := hide (fun q => findE_any (w1.drewN q) (ht.drewN q) (hsh ti ma k) k (hsh_lt _ _ _))
  have hen := hs_enter hs1
  have c0 : w1.cell? ⟨z, 0, none⟩ = some (.func (.func F) #[] #[.pointer (some ⟨bt, 0, none⟩), .pointer (some ⟨bm, 0, none⟩)]) := by rw [ht.blk.cell]; rfl
  have hz := ht.blk.lt
  have HT := hide ht
  unfold putG at HC
  cases hy : find eqK T1.y (hsh ti ma k) k with
  | mk oy ny =>
    rw [hy] at HFY
    cases oy with
    | some p =>
      have hsk : seek eqK (hsh ti ma) T1 k = (some (false, p), ny) := by unfold seek; rw [hy]
      obtain ⟨hp, k', v', hs', _⟩ := find_some hy
      rw [hsk] at HC
      have c1 : w1.cell? ⟨z, 1, none⟩ = some (.slice (some ⟨gy1, 0, none⟩) T1.y.length T1.y.length) := by rw [ht.blk.cell]; rfl
      have d2 := ht.ry.c2 p hp
      rw [hs'] at d2
      have e2 : vS (Slt.ful k' v') = .int .i64 v' := rfl
      rw [e2] at d2
      obtain ⟨cur, hbk, _⟩ := ht.ry.row
      have g2 := hbk.frozen (p * 3 + 2)
      have HV : Hid (valT 0 T1 (some (false, p)) = v') := hide (by simp [valT, hs', valS])
      have HK := hide (fun q => TbK.setV (ht.drewN q) p hp hs' v)
      have HR : Hid (repS v (sat T1.y p) = .ful k' v) := hide (by rw [hs']; rfl)
      have b := ht.b43.1
      have hg := ht.ry.lt
      generalize T1.y.length = n at *
      have hpi : (p : Int) < (n : Int) := by omega
      clear hs1 ht hsk hs' e2 hbk hy hp
      go_wp2_with (first | (go_at_call 89; refine HFY.out.mono ?_; rintro e w' ⟨rfl, q, hw⟩; rw [hw]; clear hw; unfold fndV) | ((with_reducible refine HHs.out.mono ?_); rintro e w2 ⟨rfl, hw⟩; rw [hw]; clear hw))
      go_ret2
      refine HC.out _ _ (by unfold ansV; rw [HV.out]; rfl) ?_
      show TbS w1 _ z gy1 ge1 _ ⟨T1.y.set p (repS v (sat T1.y p)), T1.e, T1.m⟩
      rw [HR.out]
      exact (TbK.s ⟨(HK.out _).tb, ((Frm.refl w1 _).drewN _).trans (HK.out _).fr (fun _ _ h => h)⟩)
    | none =>
      cases he : find eqK T1.e (hsh ti ma k) k with
      | mk oe ne =>
        rw [he] at HFE
        cases oe with
        | some p =>
          have hsk : seek eqK (hsh ti ma) T1 k = (some (true, p), ny + ne) := by unfold seek; rw [hy]; simp only []; rw [he]
          obtain ⟨hp, k', v', hs', _⟩ := find_some he
          rw [hsk] at HC
          have HB := hide (fun q => buryE_any (w1.drewN q) (ht.drewN q) p hp k' v' hs')
          have HV : Hid (valT 0 T1 (some (true, p)) = v') := hide (by simp [valT, hs', valS])
          have HLy : Hid (∀ w2, TbAt w2 z gy1 ge1 (hvF F bt bm) ⟨T1.y, T1.e.set p .tmb, T1.m⟩ → Calls Try.prog 91 #[.pointer (some ⟨z, 1, none⟩), .int .u64 (hsh ti ma k : Int), .int .i64 k, .int .i64 v] w2 fun e w' => e = .returned (.tuple #[]) ∧ TbK w2 w' z gy1 ge1 (hvF F bt bm) ⟨lay T1.y (hsh ti ma k) k v, T1.e.set p .tmb, T1.m⟩) := hide (fun w2 h2 => lay_any w2 h2 (hsh ti ma k) k v (hsh_lt _ _ _))
          clear hs1 ht hsk hs' hy he hp
          go_upto_region 7 with (first | (go_at_call 89; refine HFY.out.mono ?_; rintro e w' ⟨rfl, q, hw⟩; rw [hw]; clear hw; unfold fndV) | ((with_reducible refine HHs.out.mono ?_); rintro e w2 ⟨rfl, hw⟩; rw [hw]; clear hw))
          have HFq := hide (HFE.out q)
          clear HFE HFY HHs
          go_upto_region 12 with (go_at_call 89; refine HFq.out.mono ?_; rintro e w' ⟨rfl, q2, hw⟩; rw [hw]; clear hw; unfold fndV)
          have HBq := hide (HB.out (q + q2))
          clear HB HFq
          go_upto_region 14 with (go_at_call 90; refine HBq.out.mono ?_; rintro e w2 ⟨rfl, hk2⟩; have HK2 := hide hk2; clear hk2)
          have HLq := hide (HLy.out w2 HK2.out.tb)
          have hz2 := HK2.out.tb.blk.lt
          clear HLy HBq
          go_wp2_with (go_at_call 91; refine HLq.out.mono ?_; rintro e w3 ⟨rfl, hk3⟩; have HK3 := hide hk3; clear hk3)
          go_ret2
          exact HC.out _ _ (by unfold ansV; rw [HV.out]; rfl) (TbK.s ⟨HK3.out.tb, (((Frm.refl w1 _).drewN _).trans HK2.out.fr (fun _ _ h => h)).trans HK3.out.fr (fun _ _ h => h)⟩)
        | none =>
          have hsk : seek eqK (hsh ti ma) T1 k = (none, ny + ne) := by unfold seek; rw [hy]; simp only []; rw [he]
          rw [hsk] at HC
          have HLy := hide (fun q => lay_any (w1.drewN q) (ht.drewN q) (hsh ti ma k) k v (hsh_lt _ _ _))
          have HGr : Hid (∀ w2, TbAt w2 z gy1 ge1 (hvF F bt bm) ⟨lay T1.y (hsh ti ma k) k v, T1.e, T1.m⟩ → Calls Try.prog 92 #[.pointer (some ⟨z, 0, none⟩)] w2 fun e w' => e = .returned (.tuple #[]) ∧ TbS w2 w' z gy1 ge1 (hvF F bt bm) (growT ⟨lay T1.y (hsh ti ma k) k v, T1.e, T1.m⟩)) := hide (fun w2 h2 => grow_any w2 h2 ⟨HO.out.mv, HO.out.m8, HO.out.e8⟩ HG.out)
          clear hs1 ht hsk hy he
          go_upto_region 7 with (first | (go_at_call 89; refine HFY.out.mono ?_; rintro e w' ⟨rfl, q, hw⟩; rw [hw]; clear hw; unfold fndV) | ((with_reducible refine HHs.out.mono ?_); rintro e w2 ⟨rfl, hw⟩; rw [hw]; clear hw))
          have HFq := hide (HFE.out q)
          clear HFE HFY HHs
          go_upto_region 12 with (go_at_call 89; refine HFq.out.mono ?_; rintro e w' ⟨rfl, q2, hw⟩; rw [hw]; clear hw; unfold fndV)
          have HLq := hide (HLy.out (q + q2))
          clear HLy HFq
          go_upto_region 17 with (go_at_call 91; refine HLq.out.mono ?_; rintro e w2 ⟨rfl, hk2⟩; have HK2 := hide hk2; clear hk2)
          have HGq := hide (HGr.out w2 HK2.out.tb)
          clear HGr HLq
          go_wp2_with (go_at_call 92; refine HGq.out.mono ?_; rintro e w3 ⟨rfl, hk3⟩; have HK3 := hide hk3; clear hk3)
          go_ret2
          exact HC.out _ _ rfl (TbS.trans (((Frm.refl w1 _).drewN _).trans HK2.out.fr (fun _ _ h => h)) (fun _ h => .inl h) HK3.out)
end
end Go.Proofs.Ytnknjcnbbljagaa
