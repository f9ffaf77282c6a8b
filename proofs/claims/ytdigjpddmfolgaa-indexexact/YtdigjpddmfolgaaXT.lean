/- The index: Put, Del. -/
import Derived.Test.YtdigjpddmfolgaaXS
namespace Go.Proofs.Ytdigjpddmfolgaa
set_option linter.unusedVariables false
set_option linter.unusedSimpArgs false
namespace TX
set_option maxRecDepth 100000
set_option maxHeartbeats 8000000
open Go.RowKit Go.Sort

/-- A map with an entry laid under a key that has none. -/
def putF (f : KY → Option EN) (k : KY) (v : EN) : KY → Option EN := if (f k).isSome then f else upd f k (some v)
section
variable {w : World} {x : Nat} {L : List Tab} {f : KY → Option EN} {P : Nat}
/-- What a call leaves, from an earlier world on. -/
theorem IxN.from {w0 wf : World} {L : List Tab} (hB : Below w0.heap.size w0 w) (h : IxN w wf x L f P) : IxN w0 wf x L f P := by
  obtain ⟨L1, h1, h2⟩ := h.ex
  have hs := hB.size
  exact ⟨⟨L1, h1, fun b hb => (h2 b hb).imp id (fun g => by omega)⟩, (Frm.of_below hB).trans h.fr (fun _ _ e => e)⟩
/-- .. and a box of one's own written over behind it. -/
theorem IxN.box {w0 w1 wf : World} {L : List Tab} (h : IxN w0 w1 x L f P) {b : Nat} (hg : w1.grownBy wf (some b)) (hb : w0.heap.size ≤ b) (hn : ∀ L', IxL w1 x 16 L' f P → ¬ IxB x L' b) : IxN w0 wf x L f P := by
  obtain ⟨L1, h1, h2⟩ := h.ex
  exact ⟨⟨L1, h1.same (fun q hq => hg.block q (h1.lt hq) (fun e => hn L1 h1 (by rw [← Option.some.inj e]; exact hq))), h2⟩, h.fr.grown hg (.inr hb)⟩
theorem put_ix (h : IxL w x 16 L f P) (hP : P < 549755813888) (k : KY) (v : EN) : Calls Try.prog 13 #[.pointer (some ⟨x, 0, none⟩), kV k, eV v] w fun e w' => e = .returned (.bool (!(f k).isSome)) ∧ IxN w w' x L (putF f k v) (P + 1) := by
  obtain ⟨t, ht⟩ := h.shard k
  have HH := hide h
  have HT := hide ht
  have hz0 := zero_E
  have HPB := hide hP
  clear h ht hP
  go_enter Try.func13, Try.ntmps13
  go_upto_region 1 with fail
  refine name_world (fun W => Below w.heap.size w W ∧ KB W w.heap.size k ∧ EB W (w.heap.size + 1) v) ⟨(below_alloc w _).alloc (by simp) _, (KB.made w k).alloc _, EB.made' (by simp) v⟩ ?_
  rintro W ⟨hB, hK, hE⟩
  have HB := hide hB
  have HX := hide (HH.out.below hB)
  obtain ⟨kb, hkb⟩ : ∃ kb, kb = w.heap.size := ⟨_, rfl⟩
  rw [← hkb] at hK hE ⊢
  have HK := hide hK
  have HE := hide hE
  have HKR : Hid (W.rangeAt kb 0 (kC k)) := hide hK.rng
  have HS := hide (shard_any HX.out k HT.out)
  clear hB hK hE hkb
  unfold ptrV at HS
  go_upto_region 4 with (first | ((with_reducible refine wpList_ldK ?_ (.tmp 4) ?_ kb 0 ?_ k HKR.out ?_); rfl; rfl; rfl) | (go_at_call 34; (with_reducible refine HS.out.mono ?_); rintro e w1 ⟨rfl, hb1⟩; have HB1 := hide hb1; clear hb1))
  have HX1 := hide (HX.out.below HB1.out)
  have HK1 := hide (HK.out.below HB1.out)
  have HE1 := hide (HE.out.below HB1.out)
  have HKR1 : Hid (w1.rangeAt kb 0 (kC k)) := hide HK1.out.rng
  have HBA := hide (HB.out.trans (HB1.out.mono HB.out.size))
  have HG := hide (tget_any (HX1.out.tab _ t HT.out) hash_is k)
  rw [gsh_own] at HG
  clear HB1 HK HE HKR HS HX HB
  unfold optV at HG
  obtain ⟨u, hu⟩ : ∃ u, u = (f k).getD eZ := ⟨_, rfl⟩
  obtain ⟨bo, hbo⟩ : ∃ bo, bo = (f k).isSome := ⟨_, rfl⟩
  rw [← hu, ← hbo] at HG
  have HBO := hide hbo
  have HE0 : Hid (∀ w5 : World, EB (w5.alloc (.cells (eA eZ) ET)) w5.heap.size eZ) := hide (fun w5 => EB.made w5 eZ)
  clear hu hbo
  go_upto_region 5 with (first | ((with_reducible refine wpList_ldK ?_ (.tmp 4) ?_ kb 0 ?_ k HKR1.out ?_); rfl; rfl; rfl) | (go_at_call 35; (with_reducible refine HG.out.mono ?_); rintro e w2 ⟨rfl, hb2⟩; have HB2 := hide hb2; have HE5 := hide (HE0.out w2); clear hb2) | ((with_reducible refine wpList_stEB ?_ (.tmp 8) (.tmp 19) ?_ w2.heap.size ?_ eZ u ?_ HE5.out ?_); rfl; rfl; rfl; rfl; intro w3 h3 hg3))
  have hB3 : Below w1.heap.size w1 w3 := (HB2.out.trans ((below_alloc w2 _).mono HB2.out.size)).trans (below_grownBy hg3.out HB2.out.size (by have := HB2.out.size; simp; omega))
  have HB3 := hide hB3
  have HX3 := hide (HX1.out.below hB3)
  have HKR3 : Hid (w3.rangeAt kb 0 (kC k)) := hide (HK1.out.below hB3).rng
  have HER3 : Hid (w3.rangeAt (kb + 1) 0 (eC v)) := hide (HE1.out.below hB3).rng
  have HBF := hide (HBA.out.trans (hB3.mono HBA.out.size))
  obtain ⟨b8, hb8⟩ : ∃ b, b = w2.heap.size := ⟨_, rfl⟩
  rw [← hb8]
  clear hB3 h3 hg3 HB2 HE0 HE5 HX1 HK1 HE1 HKR1 HG hz0 hb8 HBA HB3
  cases bo with
  | true =>
    go_wp2
    go_ret
    refine ⟨by rw [← HBO.out]; rfl, ?_⟩
    unfold putF
    rw [← HBO.out, if_pos rfl]
    exact (HH.out.more (Nat.le_succ P)).nBelow HBF.out
  | false =>
    have HPT := hide (tput_any (HX3.out.tab _ t HT.out) hash_is HPB.out k v)
    rw [gsh_own] at HPT
    clear HPB
    go_upto_region 8 with (first | ((with_reducible refine wpList_ldK ?_ (.tmp 4) ?_ kb 0 ?_ k HKR3.out ?_); rfl; rfl; rfl) | ((with_reducible refine wpList_ldE ?_ (.tmp 5) ?_ (kb + 1) 0 ?_ v HER3.out ?_); rfl; rfl; rfl) | (go_at_call 36; (with_reducible refine HPT.out.mono ?_); rintro e w4 ⟨rfl, hn4⟩; have HN4 := hide hn4; clear hn4))
    go_wp2
    go_ret
    refine ⟨by rw [← HBO.out]; rfl, ?_⟩
    unfold putF
    rw [← HBO.out, if_neg (by decide)]
    refine IxN.from HBF.out (HX3.out.step HT.out (f' := upd f k (some v)) ?_ (Nat.le_succ P) (fun j hj => gsh_else f k _ hj))
    rw [gsh_upd]
    exact HN4.out
theorem del_ix (h : IxL w x 16 L f P) (k : KY) : Calls Try.prog 16 #[.pointer (some ⟨x, 0, none⟩), kV k] w fun e w' => e = .returned (optV (f k)) ∧ IxN w w' x L (upd f k none) P := by
  obtain ⟨t, ht⟩ := h.shard k
  have HH := hide h
  have HT := hide ht
  have hz0 := zero_E
  clear h ht
  go_enter Try.func16, Try.ntmps16
  go_upto_region 1 with fail
  refine name_world (fun W => Below w.heap.size w W ∧ KB W w.heap.size k ∧ EB W (w.heap.size + 1) eZ) ⟨(below_alloc w _).alloc (by simp) _, (KB.made w k).alloc _, EB.made' (by simp) eZ⟩ ?_
  rintro W ⟨hB, hK, hE⟩
  have HB := hide hB
  have HX := hide (HH.out.below hB)
  obtain ⟨kb, hkb⟩ : ∃ kb, kb = w.heap.size := ⟨_, rfl⟩
  rw [← hkb] at hK hE ⊢
  have HKB := hide hkb
  have HK : Hid (∀ d os, (grow (redrawn W d) os).rangeAt kb 0 (kC k)) := hide (range_regrown hK.rng)
  have HE := hide hE
  have HS : Hid (∀ d os, Calls Try.prog 34 #[.pointer (some ⟨x, 0, none⟩), kV k] (grow (redrawn W d) os) fun e w' => e = .returned (ptrV t) ∧ Below (grow (redrawn W d) os).heap.size (grow (redrawn W d) os) w') := hide (fun d os => shard_any (HX.out.below (below_regrown W d os)) k HT.out)
  clear hB hK hE hkb hz0
  unfold ptrV at HS
  refine wp_region_any (by kernel_rfl) ?_
  refine seg_quiet (g := 5) (C := fun w' => ∃ p : Regrown, w' = grow (redrawn W p.d) p.os) 0 4 #[true, true, true, true, false, false, false, false, false] (by kernel_rfl) ⟨⟨W.drawn + 1, #[]⟩, by rw [grow_empty]; rfl⟩ ?_
  simp only [List.take_succ_cons, List.take_zero, List.drop_succ_cons, List.drop_zero, Nat.sub_zero, Nat.reduceSub]
  quiet_step (fail)
  refine wpQuiet_val (kV k) rfl (fun w0 hw => ?_) ?_
  · obtain ⟨p0, rfl⟩ := hw
    exact run_loadO rfl rfl (run_ldK (HK.out _ _))
  quiet_step (exact Calls.regrown_of (HS.out _ _))
  refine wpQuiet_val (kV k) rfl (fun w0 hw => ?_) ?_
  · obtain ⟨p0, rfl⟩ := hw
    exact run_loadO rfl rfl (run_ldK (HK.out _ _))
  refine wpQuiet_nil ?_
  intro w1 hw1
  have hB1 : Below W.heap.size W w1 := below_of hw1
  have HB1 := hide hB1
  have HX1 := hide (HX.out.below hB1)
  have HE1 := hide (HE.out.below hB1)
  have HD := hide (tdel_any (HX1.out.tab _ t HT.out) hash_is k)
  rw [gsh_own] at HD
  clear hw1 hB1 HS HK HE
  simp only [Act.put, List.setIfInBounds_toArray, List.set_cons_zero, List.set_cons_succ]
  refine seg_call (g := 4) 4 #[true, true, true, true, true, false, false, false, false] (by kernel_rfl) _ rfl rfl 39 #[.pointer (some ⟨t.z, 0, none⟩), kV k] (by kernel_rfl) (fun V w' => V = optV (f k) ∧ TbN w1 w' t.z t.gy t.ge HFN hK (upd (gsh f (sh k)) k none) P) (HD.out.mono (fun e w' h => ⟨_, h.1, rfl, h.2⟩)) ?_
  rintro _ w2 ⟨rfl, hn⟩
  have HN := hide hn
  have hN2 : IxN w1 w2 x L (upd f k none) P := HX1.out.step HT.out (f' := upd f k none) (by rw [gsh_upd]; exact hn) (Nat.le_refl _) (fun j hj => gsh_else f k _ hj)
  have HN2 := hide hN2
  have HE2 : Hid (EB w2 (kb + 1) eZ) := hide ((hN2.fr.block _ (Blk.lt HE1.out) (HX1.out.notB HE1.out (by decide) (by decide) (by decide))).trans HE1.out)
  clear hn hN2 HD
  unfold optV
  simp only [Act.put, List.setIfInBounds_toArray, List.set_cons_zero, List.set_cons_succ]
  refine seg_quiet (g := 2) (C := fun w' => ∃ p : Regrown, w' = grow (redrawn w2 p.d) p.os) 5 7 #[true, true, true, true, true, true, true, false, false] (by kernel_rfl) ⟨⟨w2.drawn, #[]⟩, by rw [grow_empty]; rfl⟩ ?_
  simp only [List.take_succ_cons, List.take_zero, List.drop_succ_cons, List.drop_zero, Nat.sub_zero, Nat.reduceSub]
  iterate 2 quiet_step (fail)
  refine wpQuiet_nil ?_
  intro w3 hw3
  have hB3 : Below w2.heap.size w2 w3 := below_of hw3
  have HB3 := hide hB3
  have HE3 := hide (HE2.out.below hB3)
  obtain ⟨v, hv⟩ : ∃ v, v = (f k).getD eZ := ⟨_, rfl⟩
  rw [← hv]
  have HV := hide hv
  clear hw3 hB3 hv HE2
  refine seg_rest 7 (by decide) (by kernel_rfl) ?_
  simp only [List.drop_succ_cons, List.drop_zero]
  go_wp2_with ((with_reducible refine wpList_stEB ?_ (.tmp 4) (.tmp 11) ?_ (kb + 1) ?_ eZ v ?_ HE3.out ?_); rfl; rfl; rfl; rfl; intro w4 h4 hg4)
  refine ⟨rfl, _, results_cell_tmp (p := 4) (q := 5) (ty := ET) rfl _ _ ⟨kb + 1, 0, none⟩ rfl (eV v) (.bool (f k).isSome) rfl (loadE h4.out.rng), by rw [HV.out]; rfl, ?_⟩
  have hN3 : IxN w w3 x L (upd f k none) P := (IxN.from HB.out (IxN.from HB1.out HN2.out)).trans (fun L' h' => h'.nBelow HB3.out)
  exact hN3.box hg4.out (by have := HKB.out; omega) (fun L' h' => h'.notB HE3.out (by decide) (by decide) (by decide))
end
end TX
end Go.Proofs.Ytdigjpddmfolgaa
