/- The index: New, shard, Get. -/
import Derived.Test.YtdigjpddmfolgaaXO
namespace Go.Proofs.Ytdigjpddmfolgaa
set_option linter.unusedVariables false
set_option linter.unusedSimpArgs false
namespace TX
set_option maxRecDepth 100000
set_option maxHeartbeats 8000000
open Go.RowKit Go.Sort

theorem ixnew_any (w : World) : Calls Try.prog 6 #[] w fun e w' => ∃ x L, e = .returned (.pointer (some ⟨x, 0, none⟩)) ∧ IxL w' x 16 L (fun _ => none) 0 ∧ Below w.heap.size w w' ∧ ∀ b, IxB x L b → w.heap.size ≤ b := by
  go_enter Try.func6, Try.ntmps6
  go_upto_region 2 with fail
  refine name_world (fun W => Below w.heap.size w W ∧ IxL W w.heap.size 0 [] (fun _ => none) 0) ⟨below_alloc w _, ⟨rfl, by decide, Blk.made w _ _, fun i t h => by simp at h, fun i j t u h => by simp at h⟩⟩ ?_
  rintro W ⟨hB, hX⟩
  have HB := hide hB
  obtain ⟨x, hx⟩ : ∃ x, x = w.heap.size := ⟨_, rfl⟩
  have HXN := hide hx
  rw [← hx] at hX ⊢
  have HX := hide hX
  clear hB hX hx
  go_upto_region 3 with fail
  go_loopw [5] (fun t wr => ∃ (j : Nat) (L : List Tab), t = .int .i64 j ∧ j ≤ 16 ∧ IxL wr x j L (fun _ => none) 0 ∧ Below w.heap.size w wr ∧ ∀ b, IxB x L b → w.heap.size ≤ b) (fun t _ => 16 - (intOf t).toNat)
  case atStart => exact ⟨0, [], rfl, by omega, HX.out, HB.out, fun b hb => by
    rcases hb with rfl | ⟨i, t, h, _⟩
    · rw [HXN.out]; exact Nat.le_refl _
    · simp at h⟩
  case round =>
    obtain ⟨j, L, rfl, hj, hX, hB, hN⟩ := hrel
    have HX1 := hide hX
    have HB1 := hide hB
    have HN1 := hide hN
    clear hX hB hN HX HB
    by_cases hlt : j < 16
    · have hji : (j : Int) < 16 := by omega
      go_upto_region 5 with fail
      have hlen := HX1.out.len
      have hc : ((ixC L).toArray)[j]? = some (.pointer none) := by
        rw [List.getElem?_toArray]
        unfold ixC
        rw [List.getElem?_append_right (by simp [hlen]), List.length_map, hlen, Nat.sub_self, show 16 - j = (15 - j) + 1 by omega]
        rfl
      have HC := hide hc
      clear hc hlen
      refine nx5_walk _ (fun _ _ _ _ _ h => h) wr x j (ixC L).toArray _ (Blk.drew HX1.out.blk) HC.out hlt _ (Nat.lt_of_sub_pos (by exact Nat.succ_pos _)) rfl rfl ?_
      intro z g w1 hT hz hg hB2
      simp only [Act.put, List.setIfInBounds_toArray, List.set_cons_zero, List.set_cons_succ]
      have h3 := (HX1.out.below (below_dN (Below.refl _ wr) 1)).grow hlt hT hz hg hB2
      obtain ⟨w2, hw2⟩ : ∃ w2, w2 = w1.setCell ⟨x, j, none⟩ (.pointer (some ⟨z, 0, none⟩)) := ⟨_, rfl⟩
      rw [← hw2] at h3 ⊢
      have h4 : Below w.heap.size w w2 := by
        rw [hw2]
        exact ((HB1.out.drew).trans (hB2.mono HB1.out.size)).setCell (by have := HN1.out x (.inl rfl); exact this) _
      have HX3 := hide h3
      have HB3 := hide h4
      have HN3 : Hid (∀ b, IxB x (L ++ [⟨z, g, g⟩]) b → w.heap.size ≤ b) := hide (fun b hb => by
        rcases hb with rfl | ⟨i, t, h, hk⟩
        · exact HN1.out _ (.inl rfl)
        · rcases Nat.lt_or_ge i L.length with hi | hi
          · rw [List.getElem?_append_left hi] at h
            exact HN1.out b (.inr ⟨i, t, h, hk⟩)
          · have hz' : w.heap.size ≤ z := Nat.le_trans HB1.out.size hz
            have hg' : w.heap.size ≤ g := Nat.le_trans HB1.out.size hg
            rw [List.getElem?_append_right hi] at h
            have e : i - L.length = 0 := by
              rcases Nat.eq_zero_or_pos (i - L.length) with e | e
              · exact e
              · rw [List.getElem?_eq_none (by simp; omega)] at h; cases h
            rw [e] at h
            simp at h
            subst h
            rcases hk with rfl | rfl | rfl <;> assumption)
      clear h3 h4 hw2 hT hz hg hB2 HC HX1 HB1 HN1
      go_wp2
      go_roundw
      case rel => exact ⟨j + 1, _, by go_num, by omega, HX3.out, HB3.out, HN3.out⟩
      case measure => simp [intOf]; omega
    · obtain rfl : j = 16 := by omega
      go_wp2
      go_ret
      exact ⟨x, L, rfl, HX1.out, HB1.out, HN1.out⟩
section
variable {w : World} {x : Nat} {L : List Tab} {f : KY → Option EN} {P : Nat}
theorem IxL.shard (h : IxL w x 16 L f P) (k : KY) : ∃ t, L[sh k]? = some t := by
  have := sh_lt k
  exact ⟨_, List.getElem?_eq_getElem (by rw [h.len]; exact this)⟩
theorem IxL.cell (h : IxL w x 16 L f P) {i : Nat} {t : Tab} (ht : L[i]? = some t) : w.cell? ⟨x, i, none⟩ = some (ptrV t) := by
  have hil := (List.getElem?_eq_some_iff.1 ht).1
  rw [h.blk.cell, List.getElem?_toArray]
  unfold ixC
  rw [List.getElem?_append_left (by simpa using hil), List.getElem?_map, ht]
  rfl
theorem shard_any (h : IxL w x 16 L f P) (k : KY) {t : Tab} (ht : L[sh k]? = some t) : Calls Try.prog 34 #[.pointer (some ⟨x, 0, none⟩), kV k] w fun e w' => e = .returned (ptrV t) ∧ Below w.heap.size w w' := by
  have HH := hide h
  have HT := hide ht
  clear h ht
  go_enter Try.func34, Try.ntmps34
  go_upto_region 1 with fail
  refine name_world (fun W => Below w.heap.size w W ∧ KB W w.heap.size k) ⟨below_alloc w _, KB.made w k⟩ ?_
  rintro W ⟨hB, hK⟩
  have HB := hide hB
  have HX := hide (HH.out.below hB)
  have hc := HX.out.cell HT.out
  unfold ptrV at hc
  have hcg := fun d os => cell_regrown hc d os
  have hs16 := sh_lt k
  have hsi : (sh k : Int) < 16 := by omega
  have HK : Hid (∀ d os, (grow (redrawn W d) os).rangeAt w.heap.size 0 (kC k)) := hide (range_regrown hK.rng)
  have HS : Hid (∀ d os, Calls Try.prog 27 #[kV k] (grow (redrawn W d) os) fun e w' => e = .returned (.int .i64 (sh k : Int)) ∧ Below (grow (redrawn W d) os).heap.size (grow (redrawn W d) os) w') := hide (fun d os => shard0_any _ k)
  have hxW := HX.out.blk.lt
  obtain ⟨kb, hkb⟩ : ∃ kb, kb = w.heap.size := ⟨_, rfl⟩
  rw [← hkb] at HK ⊢
  obtain ⟨si, hsi'⟩ : ∃ si, si = sh k := ⟨_, rfl⟩
  rw [← hsi'] at hc hcg hs16 hsi HS
  clear hB hK hkb HH hc hsi' HT HX
  go_upto_region 3 with fail
  refine wp_region_quiet_below (by kernel_rfl) (by kernel_rfl) ?_
  iterate 1 quiet_step (fail)
  refine wpQuiet_val (kV k) rfl (fun w0 hw => ?_) ?_
  · obtain ⟨p0, rfl⟩ := hw
    exact run_loadO rfl rfl (run_ldK (HK.out _ _))
  quiet_step (exact Calls.regrown_of (HS.out _ _))
  iterate 2 quiet_step (fail)
  refine wpQuiet_val (.pointer (some ⟨x, si, none⟩)) rfl (fun w0 _ => run_ix16 rfl rfl rfl hs16 _) ?_
  iterate 2 quiet_step (fail)
  refine wpQuiet_nil ?_
  intro w1 hw1
  have hB1 : Below W.heap.size W w1 := below_of hw1
  have HB1 := hide hB1
  clear hw1 hB1 hcg
  go_wp2
  go_ret
  exact ⟨rfl, HB.out.trans (HB1.out.mono HB.out.size)⟩
theorem shard_nil (w : World) (k : KY) : Calls Try.prog 34 #[.pointer none, kV k] w fun e w' => e = .returned (.pointer none) ∧ Below w.heap.size w w' := by
  go_enter Try.func34, Try.ntmps34
  go_wp2
  go_ret
  exact ⟨rfl, below_alloc w _⟩
theorem get_ix (h : IxL w x 16 L f P) (k : KY) : Calls Try.prog 18 #[.pointer (some ⟨x, 0, none⟩), kV k] w fun e w' => e = .returned (optV (f k)) ∧ Below w.heap.size w w' := by
  obtain ⟨t, ht⟩ := h.shard k
  have HH := hide h
  have HT := hide ht
  have hz0 := zero_E
  clear h ht
  go_enter Try.func18, Try.ntmps18
  go_upto_region 1 with fail
  refine name_world (fun W => Below w.heap.size w W ∧ KB W w.heap.size k ∧ EB W (w.heap.size + 1) eZ) ⟨(below_alloc w _).alloc (by simp) _, (KB.made w k).alloc _, EB.made' (by simp) eZ⟩ ?_
  rintro W ⟨hB, hK, hE⟩
  have HB := hide hB
  have HX := hide (HH.out.below hB)
  obtain ⟨kb, hkb⟩ : ∃ kb, kb = w.heap.size := ⟨_, rfl⟩
  rw [← hkb] at hK hE ⊢
  have HKB := hide hkb
  have HK : Hid (∀ d os, (grow (redrawn W d) os).rangeAt kb 0 (kC k)) := hide (range_regrown hK.rng)
  have HE := hide hE
  have HS : Hid (∀ d os, Calls Try.prog 34 #[.pointer (some ⟨x, 0, none⟩), kV k] (grow (redrawn W d) os) fun e w' => e = .returned (ptrV t) ∧ Below (grow (redrawn W d) os).heap.size (grow (redrawn W d) os) w') := hide (fun d os => shard_any (HX.out.below (below_regrown W d os)) k HT.out)
  have HG : Hid (∀ d os, Calls Try.prog 35 #[.pointer (some ⟨t.z, 0, none⟩), kV k] (grow (redrawn W d) os) fun e w' => e = .returned (optV (f k)) ∧ Below (grow (redrawn W d) os).heap.size (grow (redrawn W d) os) w') := hide (fun d os => by
    have := tget_any ((HX.out.below (below_regrown W d os)).tab _ t HT.out) hash_is k
    rw [gsh_own] at this
    exact this)
  clear hB hK hE hkb HH hz0 HX
  unfold ptrV at HS
  refine wp_region_quiet_tail 7 (by kernel_rfl) (by kernel_rfl) ?_
  simp only [List.take_succ_cons, List.take_zero, List.drop_succ_cons, List.drop_zero]
  quiet_step (fail)
  refine wpQuiet_val (kV k) rfl (fun w0 hw => ?_) ?_
  · obtain ⟨p0, rfl⟩ := hw
    exact run_loadO rfl rfl (run_ldK (HK.out _ _))
  quiet_step (exact Calls.regrown_of (HS.out _ _))
  refine wpQuiet_val (kV k) rfl (fun w0 hw => ?_) ?_
  · obtain ⟨p0, rfl⟩ := hw
    exact run_loadO rfl rfl (run_ldK (HK.out _ _))
  quiet_step (exact Calls.regrown_of (HG.out _ _))
  unfold optV
  iterate 2 quiet_step (fail)
  refine wpQuiet_nil ?_
  intro w1 hw1
  have hB1 : Below W.heap.size W w1 := below_of hw1
  have HB1 := hide hB1
  have HE1 := hide (HE.out.below hB1)
  obtain ⟨v, hv⟩ : ∃ v, v = (f k).getD eZ := ⟨_, rfl⟩
  rw [← hv]
  have HV := hide hv
  clear hw1 hB1 HS HG HK HE hv
  go_wp2_with ((with_reducible refine wpList_stEB ?_ (.tmp 4) (.tmp 11) ?_ (kb + 1) ?_ eZ v ?_ HE1.out ?_); rfl; rfl; rfl; rfl; intro w4 h4 hg4)
  refine ⟨rfl, _, results_cell_tmp (p := 4) (q := 5) (ty := ET) rfl _ _ ⟨kb + 1, 0, none⟩ rfl (eV v) (.bool (f k).isSome) rfl (loadE h4.out.rng), by rw [HV.out]; rfl, ?_⟩
  have hs1 := HB.out.size
  have hs2 := HB1.out.size
  exact (HB.out.trans (HB1.out.mono hs1)).trans (below_grownBy hg4.out (by have := HKB.out; omega) (by omega))
end
end TX
end Go.Proofs.Ytdigjpddmfolgaa
