/- A ring of wide elements: at, set. -/
import Derived.Test.YtjdlffmiokobnaaGreatDoorGR6g0
namespace Go.Proofs.YtjdlffmiokobnaaGreatDoor
set_option linter.unusedVariables false
set_option linter.unusedSimpArgs false
namespace RG
open Go.RowKit
set_option maxRecDepth 100000

theorem below_dN {w w' : World} {B : Nat} (h : Below B w w') (n : Nat) : Below B w (w'.drewN n) := ⟨h.os, h.tape, h.output, h.size, h.block⟩
theorem below_undrewN {w w' : World} {B n : Nat} (h : Below B (w.drewN n) w') : Below B w w' := ⟨h.os, h.tape, h.output, h.size, h.block⟩
/-- What a reading leaves: all that was there. -/
def AtC (w : World) (v : EL) (ok : Bool) (e : Ending) (w' : World) : Prop := e = .returned (.tuple #[elV v, .bool ok]) ∧ Below w.heap.size w w'
section
variable {w : World} {z g : Nat} {zT : TypeId} {S : List EL} {b c : Nat}
theorem at_in (h : Raw w z g zT S b c) (i : Nat) (hi : i < c) (v : EL) (hv : S[spot S.length b i]? = some v) : Calls Tryz.prog 146 #[.pointer (some ⟨z, 0, none⟩), .int .i64 (i : Int)] w (AtC w v true) := by
  obtain ⟨W, hW⟩ : ∃ W, W = w.alloc (.cells (elA elZ) elT) := ⟨_, rfl⟩
  have hb : Below w.heap.size w W := by rw [hW]; exact below_alloc w _
  have hk : BoxEl W w.heap.size elZ := by rw [hW]; exact BoxEl.made w _
  have hR := h.below hb
  have HH := hide (has_any hR.blk (i : Int))
  rw [decide_eq_true (show 0 ≤ (i : Int) ∧ (i : Int) < c from ⟨by omega, by omega⟩)] at HH
  have hle := hR.le
  have HS := hide (slot_any (w := W.drew) hR.blk hR.bot hR.sz i (by omega))
  have HV := hide hv
  have HR := hide hR
  have HK := hide hk
  have HB := hide hb
  have HZK := hide (Nat.ne_of_lt h.blk.lt)
  have HGK := hide (Nat.ne_of_lt h.row.lt)
  have hz0 := zero_el
  clear h hv hle hR hk hb
  go_enter Tryz.func146, Tryz.ntmps146
  go_upto_region 1 with fail
  rw [← hW]
  obtain ⟨k, hkk⟩ : ∃ k, k = w.heap.size := ⟨_, rfl⟩
  rw [← hkk] at HK HZK HGK ⊢
  have HKK := hide hkk
  clear hW hkk
  go_upto_region 4 with (go_at_call 173; (with_reducible refine HH.out.mono ?_); rintro e w' ⟨rfl, hw⟩; rw [hw]; clear hw)
  refine at4_walk _ (fun _ _ _ _ _ h => h) W z g b c i (spot S.length b i) k zT S v elZ HV.out HZK.out HGK.out (fun w' => ∃ q, w' = W.drewN q) ⟨HR.out.blk, HR.out.row⟩ (HS.out.mono (fun e w' ⟨h1, q, h2⟩ => ⟨h1, 1 + q, by rw [h2]; exact (World.drewN_drew W q)⟩)) ?_ _ (Nat.lt_of_sub_pos (by exact Nat.succ_pos _)) rfl rfl rfl ?_
  · rintro w' ⟨q, rfl⟩; exact ⟨⟨HR.out.blk, HR.out.row⟩, HK.out⟩
  rintro w' ⟨q, rfl⟩
  simp only [Act.put, List.setIfInBounds_toArray, List.set_cons_zero, List.set_cons_succ]
  have hput := BoxEl.put (w := W.drewN q) HK.out v
  obtain ⟨W3, hW3⟩ : ∃ W3, W3 = (W.drewN q).setCells k 0 (elC v) := ⟨_, rfl⟩
  rw [← hW3] at hput ⊢
  have HP := hide hput
  clear hW3 hput HS HH hz0
  go_wp2
  refine ⟨rfl, _, results_cell_tmp (p := 4) (q := 5) (ty := elT) rfl _ _ ⟨k, 0, none⟩ rfl (elV v) (.bool true) rfl (loadB HP.out.1), rfl, ?_⟩
  exact (below_dN HB.out q).trans (below_grownBy HP.out.2 (by rw [HKK.out]; exact Nat.le_refl _) (by have := HB.out.size; exact this))
theorem at_out (hz : Blk w z (rgL g S.length b c) zT) (i : Int) (hi : ¬ (0 ≤ i ∧ i < c)) : Calls Tryz.prog 146 #[.pointer (some ⟨z, 0, none⟩), .int .i64 i] w (AtC w elZ false) := by
  obtain ⟨W, hW⟩ : ∃ W, W = w.alloc (.cells (elA elZ) elT) := ⟨_, rfl⟩
  have hb : Below w.heap.size w W := by rw [hW]; exact below_alloc w _
  have hk : BoxEl W w.heap.size elZ := by rw [hW]; exact BoxEl.made w _
  have HH := hide (has_any (w := W) (hz.below hb hz.lt) i)
  rw [decide_eq_false hi] at HH
  have HK := hide hk
  have HB := hide hb
  have hz0 := zero_el
  clear hz hi hk hb
  go_enter Tryz.func146, Tryz.ntmps146
  go_upto_region 1 with fail
  rw [← hW]
  obtain ⟨k, hkk⟩ : ∃ k, k = w.heap.size := ⟨_, rfl⟩
  rw [← hkk] at HK ⊢
  have HKK := hide hkk
  clear hW hkk
  go_upto_region 3 with (go_at_call 173; (with_reducible refine HH.out.mono ?_); rintro e w' ⟨rfl, hw⟩; rw [hw]; clear hw)
  have HK2 := hide (BoxEl.made W elZ)
  have HB2 := hide (HB.out.trans ((below_alloc W (.cells (elA elZ) elT)).mono HB.out.size))
  have HKW := hide (HK.out.below (below_alloc W (.cells (elA elZ) elT)))
  obtain ⟨W2, hW2⟩ : ∃ W2, W2 = W.alloc (.cells (elA elZ) elT) := ⟨_, rfl⟩
  rw [← hW2] at HK2 HB2 HKW ⊢
  obtain ⟨k2, hk2⟩ : ∃ k2, k2 = W.heap.size := ⟨_, rfl⟩
  rw [← hk2] at HK2 ⊢
  clear hW2 hk2 HH
  go_wp2_with (first | ((with_reducible refine wpList_ldB ?_ (.tmp 6) ?_ k2 ?_ elZ HK2.out ?_); rfl; rfl; rfl) | ((with_reducible refine wpList_stB ?_ (.tmp 4) (.tmp 11) ?_ k ?_ elZ elZ ?_ HKW.out ?_); rfl; rfl; rfl; rfl; intro w5 hk5 hg5))
  refine ⟨rfl, _, results_cell_tmp (p := 4) (q := 5) (ty := elT) rfl _ _ ⟨k, 0, none⟩ rfl (elV elZ) (.bool false) rfl (loadB hk5.out), rfl, ?_⟩
  exact HB2.out.trans (below_grownBy hg5.out (by rw [HKK.out]; exact Nat.le_refl _) HB2.out.size)
/-- What a store leaves. -/
def SetC (w : World) (z g : Nat) (zT : TypeId) (S : List EL) (b c : Nat) (e : Ending) (w' : World) : Prop := e = .returned (.bool true) ∧ Raw w' z g zT S b c ∧ Frm w w' (fun k => k = g)
theorem set_in (h : Raw w z g zT S b c) (i : Nat) (hi : i < c) (v : EL) : Calls Tryz.prog 144 #[.pointer (some ⟨z, 0, none⟩), .int .i64 (i : Int), elV v] w (SetC w z g zT (S.set (spot S.length b i) v) b c) := by
  obtain ⟨W, hW⟩ : ∃ W, W = w.alloc (.cells (elA v) elT) := ⟨_, rfl⟩
  have hb : Below w.heap.size w W := by rw [hW]; exact below_alloc w _
  have hk : BoxEl W w.heap.size v := by rw [hW]; exact BoxEl.made w _
  have hR := h.below hb
  have HH := hide (has_any hR.blk (i : Int))
  rw [decide_eq_true (show 0 ≤ (i : Int) ∧ (i : Int) < c from ⟨by omega, by omega⟩)] at HH
  have hle := hR.le
  have HS := hide (slot_any (w := W.drew) hR.blk hR.bot hR.sz i (by omega))
  have HJ := hide (spot_lt hR.bot (k := i) (by omega))
  have HR := hide hR
  have HK := hide hk
  have HB := hide hb
  have HGK := hide (Nat.ne_of_gt h.row.lt)
  clear h hle hR hk hb
  go_enter Tryz.func144, Tryz.ntmps144
  go_upto_region 1 with fail
  rw [← hW]
  obtain ⟨k, hkk⟩ : ∃ k, k = w.heap.size := ⟨_, rfl⟩
  rw [← hkk] at HK HGK ⊢
  clear hW hkk
  go_upto_region 3 with (go_at_call 173; (with_reducible refine HH.out.mono ?_); rintro e w' ⟨rfl, hw⟩; rw [hw]; clear hw)
  refine st3_walk _ (fun _ _ _ _ _ h => h) W z g b c i (spot S.length b i) k zT S v HJ.out HR.out.ne HGK.out (fun w' => ∃ q, w' = W.drewN q) ⟨HR.out.blk, HK.out⟩ (HS.out.mono (fun e w' ⟨h1, q, h2⟩ => ⟨h1, 1 + q, by rw [h2]; exact (World.drewN_drew W q)⟩)) ?_ _ (Nat.lt_of_sub_pos (by exact Nat.succ_pos _)) rfl rfl rfl ?_
  · rintro w' ⟨q, rfl⟩; exact ⟨⟨HR.out.blk, HK.out⟩, HR.out.row⟩
  rintro w' ⟨q, rfl⟩
  simp only [Act.put, List.setIfInBounds_toArray, List.set_cons_zero, List.set_cons_succ]
  have hput := (HR.out.drewN q).row.put (spot S.length b i) HJ.out v
  obtain ⟨W3, hW3⟩ : ∃ W3, W3 = (W.drewN q).setCells g (ofs (spot S.length b i)) (elC v) := ⟨_, rfl⟩
  rw [← hW3] at hput ⊢
  have HP := hide hput
  clear hW3 hput HS HH
  go_wp2
  go_ret
  have hg : W.grownBy W3 (some g) := grownBy_trans (grownBy_drewN W q (some g)) HP.out.2.2
  refine ⟨rfl, ⟨?_, HP.out.2.1, by rw [List.length_set]; exact HR.out.bot, by rw [List.length_set]; exact HR.out.le, HR.out.ne, by rw [List.length_set]; exact HR.out.sz⟩, (Frm.of_below HB.out).trans (Frm.of_grown (T := fun k => k = g) hg (.inl rfl)) (fun _ _ e => e)⟩
  rw [List.length_set]
  exact Blk.grown HR.out.blk hg (fun e => HR.out.ne (Option.some.inj e))
end
end RG
end Go.Proofs.YtjdlffmiokobnaaGreatDoor
