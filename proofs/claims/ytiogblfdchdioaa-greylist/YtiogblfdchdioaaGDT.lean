/- The document's work list: Bump. -/
import Derived.Test.YtiogblfdchdioaaGDS
namespace Go.Proofs.Ytiogblfdchdioaa
set_option linter.unusedVariables false
set_option linter.unusedSimpArgs false
namespace RG
open Go.RowKit
set_option maxRecDepth 100000

theorem OwnG.nxt {w : World} {B g c n : Nat} {V : List EL} (h : OwnG w B (.slice (some ⟨g, 0, none⟩) n c) V) {i : Nat} {x : EL} (hx : V[i]? = some x) : w.cell? ⟨g, i * 33 + 32, none⟩ = some (.int .i64 x.nxt) ∧ (∀ o, w.frozen? ⟨g, o, none⟩ = false) := by
  have hl := (List.getElem?_eq_some_iff.1 hx).1
  obtain ⟨h0, ⟨h1, h2⟩ | ⟨g', cap, cur, h1, hB, hh, hr⟩⟩ := id h
  · cases h1
  · cases h1
    have hq := flat_at V i x (fun y _ => elC_len y) hx 32 (.int .i64 x.nxt) (by unfold elC; rw [List.getElem?_append_right (by simp [x.k32])]; simp [x.k32])
    obtain ⟨ao, c', e, _⟩ := h.form
    injection e with e1 e2 e3
    rw [e2] at h
    have := World.ownsRow.cells (g := g) h rfl (i * WD + 32) _ hq
    rw [Addr.add_mid, Nat.zero_add] at this
    exact ⟨this, Blk.frozen (cs := cur) (t := elT) hh⟩
theorem elC_bump {x : EL} (hx : x.nxt < 9223372036854775807) : elC (bumpE x) = (elC x).set 32 (.int .i64 (x.nxt + 1)) := by
  unfold elC bumpE
  rw [if_pos hx, List.set_append_right _ _ (by simp [x.k32])]
  simp [x.k32]
/-- A kid more, in a row of one's own. -/
theorem OwnG.bump {w : World} {B g c n : Nat} {V : List EL} (h : OwnG w B (.slice (some ⟨g, 0, none⟩) n c) V) {i : Nat} {x : EL} (hx : V[i]? = some x) (hn : x.nxt < 9223372036854775807) : OwnG (w.setCell ⟨g, i * 33 + 32, none⟩ (.int .i64 (x.nxt + 1))) B (.slice (some ⟨g, 0, none⟩) n c) (V.set i (bumpE x)) := by
  have hl := (List.getElem?_eq_some_iff.1 hx).1
  have hxe := (List.getElem?_eq_some_iff.1 hx).2
  have hrow : rowC (V.set i (bumpE x)) = (rowC V).set (i * 33 + 32) (.int .i64 (x.nxt + 1)) := by
    have e1 : rowC (V.set i (bumpE x)) = (rowC V).take (i * WD) ++ elC (bumpE x) ++ (rowC V).drop (i * WD + WD) := flat_set V i (bumpE x) (fun y _ => elC_len y) hl
    have e2 : rowC (V.set i x) = (rowC V).take (i * WD) ++ elC x ++ (rowC V).drop (i * WD + WD) := flat_set V i x (fun y _ => elC_len y) hl
    have e3 : V.set i x = V := by rw [← hxe]; exact List.set_getElem_self hl
    rw [e3] at e2
    rw [e1, elC_bump hn]
    have hlen : (rowC V).length = V.length * WD := rowC_len V
    have hb : (i + 1) * WD ≤ V.length * WD := Nat.mul_le_mul_right WD hl
    have hs : (i + 1) * WD = i * WD + WD := Nat.succ_mul i WD
    have ht : ((rowC V).take (i * WD)).length = i * WD := by rw [List.length_take]; omega
    have e4 : (rowC V).set (i * 33 + 32) (.int .i64 (x.nxt + 1)) = ((rowC V).take (i * WD) ++ elC x ++ (rowC V).drop (i * WD + WD)).set (i * 33 + 32) (.int .i64 (x.nxt + 1)) := by rw [← e2]
    rw [e4, List.append_assoc, List.append_assoc, List.set_append_right _ _ (by rw [ht]; simp only [WD]; omega), ht, List.set_append_left _ _ (by rw [elC_len]; simp only [WD]; omega)]
    congr 3
    simp only [WD]; omega
  obtain ⟨h0, ⟨h1, h2⟩ | ⟨g', cap, cur, h1, hB, hh, hc, hm, hs, ht⟩⟩ := h
  · cases h1
  · cases h1
    refine ⟨by rw [rowC_len], .inr ⟨g, c, cur.setIfInBounds (i * 33 + 32) (.int .i64 (x.nxt + 1)), by rw [List.length_set], hB, heap_setCell_same w g (i * 33 + 32) cur _ _ hh, by rw [List.length_set]; exact hc, hm, by rw [Array.size_setIfInBounds]; exact hs, ?_⟩⟩
    rw [List.length_set, Array.toList_setIfInBounds, hrow, ← ht, List.take_set]
section
variable {w : World} {q B : Nat} {v : Value} {V : List EL}
theorem rbump_no (h : RlAt w q B v V) (hn : V.length ≤ 3518437208000) (bot : Bool) (hV : endV bot V = none) : Calls Try.prog 24 #[.pointer (some ⟨q, 0, none⟩), .bool bot] w (AtC w elZ false) := by
  obtain ⟨W0, hW0⟩ : ∃ W, W = w.alloc (.cells (elA elZ) elT) := ⟨_, rfl⟩
  have hb0 : Below w.heap.size w W0 := by rw [hW0]; exact below_alloc w _
  have hk0 : BoxEl W0 w.heap.size elZ := by rw [hW0]; exact BoxEl.made w _
  have hE := rend_any (h.below hb0) hn bot
  have hl : V.length = 0 := by
    rw [endV_at] at hV
    have := List.getElem?_eq_none_iff.1 hV
    unfold endI at this
    split at this <;> omega
  have he : endK bot V = -1 := by unfold endK; rw [if_pos hl]
  rw [he] at hE
  have HE := hide hE
  obtain ⟨k, hkk⟩ : ∃ k, k = w.heap.size := ⟨_, rfl⟩
  rw [← hkk] at hk0
  have HK := hide hk0
  have HB0 := hide hb0
  have hz0 := zero_el
  clear h hb0 hk0 hE he hl hV
  go_enter Try.func24, Try.ntmps24
  go_upto_region 1 with fail
  rw [← hW0, ← hkk]
  have HKK := hide hkk
  clear hW0 hkk
  go_wp2_with (first | (go_at_call 38; (with_reducible refine HE.out.mono ?_); rintro e w' ⟨rfl, hw⟩; rw [hw]; clear hw) | ((with_reducible refine wpList_zeroB ?_ ?_ ?_); rfl; rfl) | ((with_reducible refine wpList_stB ?_ (.tmp 4) (.tmp 13) ?_ k ?_ elZ elZ ?_ HK.out ?_); rfl; rfl; rfl; rfl; intro w5 hk5 hg5))
  refine ⟨rfl, _, results_cell_tmp (p := 4) (q := 5) (ty := elT) rfl _ _ ⟨k, 0, none⟩ rfl (elV elZ) (.bool false) rfl (loadB hk5.out), rfl, ?_⟩
  exact HB0.out.trans (below_grownBy hg5.out (by rw [HKK.out]; exact Nat.le_refl _) HB0.out.size)
theorem rbump_yes (h : RlAt w q B v V) (hn : V.length ≤ 3518437208000) (bot : Bool) (x : EL) (hx : endV bot V = some x) (hnx : -9223372036854775808 ≤ x.nxt ∧ x.nxt ≤ 9223372036854775807) : Calls Try.prog 24 #[.pointer (some ⟨q, 0, none⟩), .bool bot] w fun e w' => e = .returned (.tuple #[elV (bumpE x), .bool true]) ∧ DocS w w' q (V.set (endI bot V) (bumpE x)) := by
  obtain ⟨W0, hW0⟩ : ∃ W, W = w.alloc (.cells (elA elZ) elT) := ⟨_, rfl⟩
  have hb0 : Below w.heap.size w W0 := by rw [hW0]; exact below_alloc w _
  have hk0 : BoxEl W0 w.heap.size elZ := by rw [hW0]; exact BoxEl.made w _
  have h0 := h.below hb0
  rw [endV_at] at hx
  obtain ⟨i, hi⟩ : ∃ i, i = endI bot V := ⟨_, rfl⟩
  rw [← hi] at hx ⊢
  have hil := (List.getElem?_eq_some_iff.1 hx).1
  have hE := rend_any h0 hn bot
  have he : endK bot V = (i : Nat) := by unfold endK; rw [if_neg (by omega), hi]
  rw [he] at hE
  have HE := hide hE
  have HG := hide (greys_any W0 v V h0.own.read hn)
  obtain ⟨ao, c, rfl, _⟩ := h.own.form
  have c0 : W0.cell? ⟨q, 0, none⟩ = some (.slice ao V.length c) := by rw [h0.blk.cell]; rfl
  have hql := h0.blk.lt
  have HQ := hide h0.blk
  have HQW := hide h.blk.lt
  have HX := hide hx
  obtain ⟨n, hnl⟩ : ∃ n, n = V.length := ⟨_, rfl⟩
  have HNL := hide hnl
  have hin : (i : Int) < (n : Int) := by omega
  rw [← hnl] at c0 HG HQ hn
  obtain ⟨k, hkk⟩ : ∃ k, k = w.heap.size := ⟨_, rfl⟩
  have HK := hide hk0
  have HB0 := hide hb0
  have hz0 := zero_el
  obtain ⟨y, hy⟩ : ∃ y, y = bumpE x := ⟨_, rfl⟩
  have HY := hide hy
  obtain ⟨m, hm⟩ : ∃ m, m = x.nxt := ⟨_, rfl⟩
  have HM := hide hm
  rw [← hm] at hnx
  obtain ⟨hnx1, hnx2⟩ := hnx
  clear h hb0 hk0 h0 hE he hx hi hil hnl hy hm
  go_enter Try.func24, Try.ntmps24
  go_upto_region 1 with fail
  rw [← hW0]
  clear hW0
  go_upto_region 5 with (first | (go_at_call 38; (with_reducible refine HE.out.mono ?_); rintro e w' ⟨rfl, hw⟩; rw [hw]; clear hw) | (go_at_call 37; (with_reducible refine HG.out.mono ?_); rintro e w2 ⟨u, rfl, h1, h2⟩; have H1 := hide h1; have H2 := hide h2; clear h1 h2))
  obtain ⟨ag, cg, eg, hag⟩ := H1.out.form
  obtain ⟨gu, rfl⟩ := hag (by have := (List.getElem?_eq_some_iff.1 HX.out).1; omega)
  rw [← HNL.out] at eg
  subst eg
  rw [← hkk]
  have HKK := hide hkk
  clear hkk
  obtain ⟨hcn, hfn⟩ := H1.out.nxt HX.out
  rw [← HM.out] at hcn
  have hgl := World.block_lt_of_cell? w2 _ hcn
  have HGU : Hid (W0.heap.size ≤ gu) := hide ((H1.out.lt (b := gu) rfl).2)
  have HK2 : Hid (BoxEl w2 k elZ) := hide (by rw [HKK.out]; exact HK.out.below H2.out)
  have HQ2 : Hid (Blk w2 q #[.slice ao n c] RT) := hide (Blk.below HQ.out H2.out HQ.out.lt)
  have HQG : Hid (q ≠ gu) := hide (by have := HGU.out; have := HQ.out.lt; omega)
  have HKG : Hid (k ≠ gu) := hide (by have := HGU.out; have := HK.out.lt; have := HKK.out; omega)
  have HKQ : Hid (k ≠ q) := hide (by have := HQW.out; have := HKK.out; omega)
  clear c0 HE HG HK HQ
  by_cases hlt : m < 9223372036854775807
  · have hlx : m < 9223372036854775807 := hlt
    go_upto_region 7 with fail
    refine name_world (fun W => OwnG W W0.heap.size (.slice (some ⟨gu, 0, none⟩) n cg) (V.set i y) ∧ BoxEl W k elZ ∧ Blk W q #[.slice ao n c] RT ∧ Frm w W (fun j => j = q)) ⟨by rw [HY.out, HM.out]; exact H1.out.bump HX.out (by rw [← HM.out]; exact hlt), Blk.setOther HK2.out _ _ HKG.out, Blk.setOther HQ2.out _ _ HQG.out, ((Frm.of_below (HB0.out.trans (H2.out.mono HB0.out.size))).put _ _ _ (.inr (by have := HGU.out; have := HB0.out.size; omega)))⟩ ?_
    rintro W ⟨hO, hK, hQ, hF⟩
    have c0 := hQ.cell 0
    have e0 : (#[.slice ao n c] : Array Value)[0]? = some (.slice ao n c) := rfl
    rw [e0] at c0
    have f0 := hQ.frozen 0
    have hlq := hQ.lt
    have HO := hide hO
    have HK := hide hK
    have HQ := hide hQ
    have HF := hide hF
    clear hO hK hQ hF hcn hfn hgl HK2 HQ2 H1 e0
    go_upto_region 8 with fail
    refine name_world (fun W' => OwnG W' W0.heap.size (.slice (some ⟨gu, 0, none⟩) n cg) (V.set i y) ∧ BoxEl W' k elZ ∧ Blk W' q #[.slice (some ⟨gu, 0, none⟩) n cg] RT ∧ Frm w W' (fun j => j = q)) ⟨HO.out.same (fun b e => heap_setCell_other _ _ _ _ (fun e2 => by have e3 : b = q := e2; have e4 : gu = b := (by simpa [Value.ownBlock] using e); exact HQG.out (by omega))), Blk.setOther HK.out _ _ HKQ.out, HQ.out.set 0 _, HF.out.put _ _ _ (.inl rfl)⟩ ?_
    rintro W' ⟨hO, hK, hQ, hF⟩
    have HRI : Hid (W'.rangeAt gu (i * 33) (elC y)) := hide (by
      obtain ⟨ao2, c2, e1, e2⟩ := hO.read
      injection e1 with q1 q2 q3
      obtain ⟨h2, so2, e3, e4⟩ := e2 (by rw [List.length_set]; have := (List.getElem?_eq_some_iff.1 HX.out).1; omega)
      rw [e3] at q1
      cases q1
      have := e4 i y (by rw [List.getElem?_set_self (List.getElem?_eq_some_iff.1 HX.out).1])
      rw [Nat.zero_add] at this
      exact this)
    have HO2 := hide hO
    have HK2 := hide hK
    have HQ2 := hide hQ
    have HF2 := hide hF
    clear hO hK hQ hF c0 f0 hlq HO HK HQ HF
    go_wp2_with (first | ((with_reducible refine wpList_ldR ?_ (.tmp 39) ?_ gu (i * 33) ?_ y HRI.out ?_); rfl; rfl; rfl) | ((with_reducible refine wpList_stB ?_ (.tmp 4) (.tmp 40) ?_ k ?_ y elZ ?_ HK2.out ?_); rfl; rfl; rfl; rfl; intro w5 hk5 hg5))
    rw [← HY.out]
    refine ⟨rfl, _, results_cell_tmp (p := 4) (q := 5) (ty := elT) rfl _ _ ⟨k, 0, none⟩ rfl (elV y) (.bool true) rfl (loadB hk5.out), rfl, ?_⟩
    refine ⟨⟨_, Blk.grown HQ2.out hg5.out (fun e => HKQ.out (Option.some.inj e).symm), (HO2.out.lower HB0.out.size).same (fun b e => hg5.out.block b (HO2.out.lt e).1 (fun e2 => ?_))⟩, HF2.out.trans (Frm.of_grown (T := fun j => j = k) hg5.out (.inl rfl)) (fun j hj e => by rw [e, HKK.out] at hj; omega)⟩
    have e3 : gu = b := by simpa [Value.ownBlock] using e
    have e4 := Option.some.inj e2
    exact HKG.out (by omega)
  · have hlx : ¬ m < 9223372036854775807 := hlt
    go_upto_region 7 with fail
    refine name_world (fun W => OwnG W W0.heap.size (.slice (some ⟨gu, 0, none⟩) n cg) (V.set i y) ∧ BoxEl W k elZ ∧ Blk W q #[.slice ao n c] RT ∧ Frm w W (fun j => j = q)) ⟨by rw [HY.out, bumpE_max (by rw [← HM.out]; exact hlt)]; rw [show V.set i x = V from by rw [← (List.getElem?_eq_some_iff.1 HX.out).2]; exact List.set_getElem_self _]; exact H1.out, HK2.out, HQ2.out, Frm.of_below (HB0.out.trans (H2.out.mono HB0.out.size))⟩ ?_
    rintro W ⟨hO, hK, hQ, hF⟩
    have c0 := hQ.cell 0
    have e0 : (#[.slice ao n c] : Array Value)[0]? = some (.slice ao n c) := rfl
    rw [e0] at c0
    have f0 := hQ.frozen 0
    have hlq := hQ.lt
    have HO := hide hO
    have HK := hide hK
    have HQ := hide hQ
    have HF := hide hF
    clear hO hK hQ hF hcn hfn hgl HK2 HQ2 H1 e0
    go_upto_region 8 with fail
    refine name_world (fun W' => OwnG W' W0.heap.size (.slice (some ⟨gu, 0, none⟩) n cg) (V.set i y) ∧ BoxEl W' k elZ ∧ Blk W' q #[.slice (some ⟨gu, 0, none⟩) n cg] RT ∧ Frm w W' (fun j => j = q)) ⟨HO.out.same (fun b e => heap_setCell_other _ _ _ _ (fun e2 => by have e3 : b = q := e2; have e4 : gu = b := (by simpa [Value.ownBlock] using e); exact HQG.out (by omega))), Blk.setOther HK.out _ _ HKQ.out, HQ.out.set 0 _, HF.out.put _ _ _ (.inl rfl)⟩ ?_
    rintro W' ⟨hO, hK, hQ, hF⟩
    have HRI : Hid (W'.rangeAt gu (i * 33) (elC y)) := hide (by
      obtain ⟨ao2, c2, e1, e2⟩ := hO.read
      injection e1 with q1 q2 q3
      obtain ⟨h2, so2, e3, e4⟩ := e2 (by rw [List.length_set]; have := (List.getElem?_eq_some_iff.1 HX.out).1; omega)
      rw [e3] at q1
      cases q1
      have := e4 i y (by rw [List.getElem?_set_self (List.getElem?_eq_some_iff.1 HX.out).1])
      rw [Nat.zero_add] at this
      exact this)
    have HO2 := hide hO
    have HK2 := hide hK
    have HQ2 := hide hQ
    have HF2 := hide hF
    clear hO hK hQ hF c0 f0 hlq HO HK HQ HF
    go_wp2_with (first | ((with_reducible refine wpList_ldR ?_ (.tmp 39) ?_ gu (i * 33) ?_ y HRI.out ?_); rfl; rfl; rfl) | ((with_reducible refine wpList_stB ?_ (.tmp 4) (.tmp 40) ?_ k ?_ y elZ ?_ HK2.out ?_); rfl; rfl; rfl; rfl; intro w5 hk5 hg5))
    rw [← HY.out]
    refine ⟨rfl, _, results_cell_tmp (p := 4) (q := 5) (ty := elT) rfl _ _ ⟨k, 0, none⟩ rfl (elV y) (.bool true) rfl (loadB hk5.out), rfl, ?_⟩
    refine ⟨⟨_, Blk.grown HQ2.out hg5.out (fun e => HKQ.out (Option.some.inj e).symm), (HO2.out.lower HB0.out.size).same (fun b e => hg5.out.block b (HO2.out.lt e).1 (fun e2 => ?_))⟩, HF2.out.trans (Frm.of_grown (T := fun j => j = k) hg5.out (.inl rfl)) (fun j hj e => by rw [e, HKK.out] at hj; omega)⟩
    have e3 : gu = b := by simpa [Value.ownBlock] using e
    have e4 := Option.some.inj e2
    exact HKG.out (by omega)

end
end RG
end Go.Proofs.Ytiogblfdchdioaa
