/- A ring of wide elements: pop. -/
import Derived.Test.YtjdlffmiokobnaaGreatDoorGR7g
namespace Go.Proofs.YtjdlffmiokobnaaGreatDoor
set_option linter.unusedVariables false
set_option linter.unusedSimpArgs false
namespace RG
open Go.RowKit
set_option maxRecDepth 100000

def PopC (w : World) (z g : Nat) (zT : TypeId) (M : Nat) (v : EL) (V : List EL) (e : Ending) (w' : World) : Prop := e = .returned (.tuple #[elV v, .bool true]) ∧ RgS w w' z g zT M V
theorem Frm.box {w w' : World} {T : Nat → Prop} (h : Frm w w' T) {k : Nat} {x : EL} (hr : BoxEl w k x) (hk : ¬ T k) : BoxEl w' k x := (h.block k hr.lt hk).trans hr
/-- Two boxes, beside all that was there. -/
structure Bx2 (w W : World) (k4 k6 : Nat) (u v : EL) : Prop where
  bel : Below w.heap.size w W
  b4 : BoxEl W k4 u
  b6 : BoxEl W k6 v
  l4 : w.heap.size ≤ k4
  l6 : w.heap.size ≤ k6
theorem Bx2.below {w W W' : World} {k4 k6 : Nat} {u v : EL} (h : Bx2 w W k4 k6 u v) (hb : Below W.heap.size W W') : Bx2 w W' k4 k6 u v :=
  ⟨h.bel.trans (hb.mono h.bel.size), h.b4.below hb, h.b6.below hb, h.l4, h.l6⟩
section
variable {w : World} {z g : Nat} {zT : TypeId} {M : Nat} {V : List EL}
theorem pop_no (h : RgAt w z g zT M []) (bot : Bool) : Calls Tryz.prog 117 #[.pointer (some ⟨z, 0, none⟩), .bool bot] w (AtC w elZ false) := by
  obtain ⟨W0, hW0⟩ : ∃ W, W = w.alloc (.cells (elA elZ) elT) := ⟨_, rfl⟩
  have hb0 : Below w.heap.size w W0 := by rw [hW0]; exact below_alloc w _
  have hk0 : BoxEl W0 w.heap.size elZ := by rw [hW0]; exact BoxEl.made w _
  obtain ⟨k4, hk4⟩ : ∃ k, k = w.heap.size := ⟨_, rfl⟩
  rw [← hk4] at hk0
  obtain ⟨S, b, hz, hg, hR, hS⟩ := (h.below hb0).ex
  have hE := end_any hz (by simp) bot
  have hA := at_out hz (if bot then 0 else (([] : List EL).length : Int) - 1) (by cases bot <;> simp)
  have HE := hide hE
  have HA := hide hA
  generalize (if bot then 0 else (([] : List EL).length : Int) - 1) = i at *
  have HK := hide hk0
  have HB0 := hide hb0
  have hz0 := zero_el
  clear h hz hg hR hS hE hA hk0 hb0
  go_enter Tryz.func117, Tryz.ntmps117
  go_upto_region 1 with fail
  rw [← hW0, ← hk4]
  have HK4 := hide hk4
  clear hW0 hk4
  go_upto_region 2 with (first | (go_at_call 145; (with_reducible refine HE.out.mono ?_); rintro e w' ⟨rfl, hw⟩; rw [hw]; clear hw) | (go_at_call 146; (with_reducible refine HA.out.mono ?_); rintro e w2 ⟨rfl, h1⟩; have H1 := hide h1; have HBX := hide (BoxEl.made w2 elZ); clear h1) | ((with_reducible refine wpList_stB ?_ (.tmp 6) (.tmp 15) ?_ w2.heap.size ?_ elZ elZ ?_ HBX.out ?_); rfl; rfl; rfl; rfl; intro w3 hk3 hg3))
  have HX : Hid (Bx2 w w3 k4 w2.heap.size elZ elZ) := hide (by
    have s0 := HB0.out.size
    have s1 := H1.out.size
    have hb2 : Below W0.heap.size W0 w3 := (H1.out.alloc s1 _).trans (below_grownBy hg3.out s1 (by simp; omega))
    exact ⟨HB0.out.trans (hb2.mono s0), HK.out.below hb2, hk3.out, by rw [HK4.out]; exact Nat.le_refl _, by omega⟩)
  obtain ⟨k6, hk6⟩ : ∃ k, k = w2.heap.size := ⟨_, rfl⟩
  rw [← hk6] at HX ⊢
  clear hk6 hk3 hg3 HBX H1 HE HA
  go_wp2_with (first | ((with_reducible refine wpList_ldB ?_ (.tmp 6) ?_ k6 ?_ elZ HX.out.b6 ?_); rfl; rfl; rfl) | ((with_reducible refine wpList_stB ?_ (.tmp 4) (.tmp 19) ?_ k4 ?_ elZ elZ ?_ HX.out.b4 ?_); rfl; rfl; rfl; rfl; intro w5 hk5 hg5))
  refine ⟨rfl, _, results_cell_tmp (p := 4) (q := 5) (ty := elT) rfl _ _ ⟨k4, 0, none⟩ rfl (elV elZ) (.bool false) rfl (loadB hk5.out), rfl, ?_⟩
  exact HX.out.bel.trans (below_grownBy hg5.out HX.out.l4 HX.out.bel.size)
theorem popT_any (v : EL) (h : RgAt w z g zT M (V ++ [v])) (hM : M ≤ 140737488355327) : Calls Tryz.prog 117 #[.pointer (some ⟨z, 0, none⟩), .bool false] w (PopC w z g zT M v V) := by
  obtain ⟨W0, hW0⟩ : ∃ W, W = w.alloc (.cells (elA elZ) elT) := ⟨_, rfl⟩
  have hb0 : Below w.heap.size w W0 := by rw [hW0]; exact below_alloc w _
  have hk0 : BoxEl W0 w.heap.size elZ := by rw [hW0]; exact BoxEl.made w _
  have hlt := h.lt
  obtain ⟨k4, hk4⟩ : ∃ k, k = w.heap.size := ⟨_, rfl⟩
  rw [← hk4] at hk0
  have h0 := h.below hb0
  obtain ⟨S, b, hz, hg, hR, hS⟩ := h0.ex
  obtain ⟨c, hc⟩ : ∃ c, c = V.length := ⟨_, rfl⟩
  rw [List.length_append, List.length_singleton, ← hc] at hz
  have hlen := hR.len
  rw [List.length_append, List.length_singleton, ← hc] at hlen
  have hRaw : Raw W0 z g zT S b (c + 1) := ⟨hz, hg, hR.pos (by omega), hlen, h0.ne, by omega⟩
  have hE := end_any hRaw.blk (by omega) false
  rw [if_neg (by decide), show ((c + 1 : Nat) : Int) - 1 = (c : Int) by omega] at hE
  have HE := hide hE
  have hl := hR.last
  rw [← hc] at hl
  have hA := at_in hRaw c (by omega) v hl
  have HA := hide hA
  have HRAW := hide hRaw
  have HK := hide hk0
  have HB0 := hide hb0
  have HR := hide hR
  have HSM := hide hS
  have HC := hide hc
  have HLT := hide hlt
  have HNE := hide h0.ne
  have hz0 := zero_el
  have hc48 : c ≤ 281474976710656 := by omega
  clear h h0 hz hg hR hS hRaw hE hA hl hlen hc hk0 hb0 hlt
  go_enter Tryz.func117, Tryz.ntmps117
  go_upto_region 1 with fail
  rw [← hW0, ← hk4]
  have HK4 := hide hk4
  clear hW0 hk4
  go_upto_region 2 with (first | (go_at_call 145; (with_reducible refine HE.out.mono ?_); rintro e w' ⟨rfl, hw⟩; rw [hw]; clear hw) | (go_at_call 146; (with_reducible refine HA.out.mono ?_); rintro e w2 ⟨rfl, h1⟩; have H1 := hide h1; have HBX := hide (BoxEl.made w2 elZ); clear h1) | ((with_reducible refine wpList_stB ?_ (.tmp 6) (.tmp 15) ?_ w2.heap.size ?_ v elZ ?_ HBX.out ?_); rfl; rfl; rfl; rfl; intro w3 hk3 hg3))
  have HB2 : Hid (Below W0.heap.size W0 w3) := hide ((H1.out.alloc H1.out.size _).trans (below_grownBy hg3.out H1.out.size (by have := H1.out.size; simp; omega)))
  have HX : Hid (Bx2 w w3 k4 w2.heap.size elZ v) := hide (by
    have s0 := HB0.out.size
    have s1 := H1.out.size
    exact ⟨HB0.out.trans (HB2.out.mono s0), HK.out.below HB2.out, hk3.out, by rw [HK4.out]; exact Nat.le_refl _, by omega⟩)
  have HR3 := hide (HRAW.out.below HB2.out)
  obtain ⟨k6, hk6⟩ : ∃ k, k = w2.heap.size := ⟨_, rfl⟩
  rw [← hk6] at HX ⊢
  clear hk6 hk3 hg3 HBX H1 HE HA HB2 HRAW
  go_upto_region 5 with fail
  obtain ⟨W8, hW8⟩ : ∃ W, W = w3.alloc (.cells (elA elZ) elT) := ⟨_, rfl⟩
  have H8 : Hid (BoxEl W8 w3.heap.size elZ) := hide (by rw [hW8]; exact BoxEl.made w3 _)
  have HB8 : Hid (Below w3.heap.size w3 W8) := hide (by rw [hW8]; exact below_alloc w3 _)
  rw [← hW8]
  have HX8 := hide (HX.out.below HB8.out)
  have HR8 := hide (HR3.out.below HB8.out)
  have HK8G : Hid (w3.heap.size ≠ g) := hide (Nat.ne_of_gt HR3.out.row.lt)
  obtain ⟨k8, hk8⟩ : ∃ k, k = w3.heap.size := ⟨_, rfl⟩
  rw [← hk8] at H8 HK8G ⊢
  clear hW8 hk8 HX HR3 HB8
  have hE2 := end_any (w := W8.drew) HR8.out.blk (Nat.le_trans HR8.out.le HR8.out.sz) false
  rw [if_neg (by decide), show ((c + 1 : Nat) : Int) - 1 = (c : Int) by omega] at hE2
  have HE2 := hide hE2
  have hST := set_in (w := W8.drew) (HR8.out.drewN 1) c (by omega) elZ
  have HST := hide hST
  clear hE2 hST
  refine pp5_walk _ (fun _ _ _ _ _ h => h) W8 z k8 (c : Int) false elZ (fun w' => w' = W8.drew) (fun w' => Raw w' z g zT (S.set (spot S.length b c) elZ) b (c + 1) ∧ Frm W8 w' (fun q => q = g)) H8.out HE2.out ?_ ?_ ?_ _ (Nat.lt_of_sub_pos (by exact Nat.succ_pos _)) rfl rfl rfl ?_
  · rintro w' rfl; exact H8.out
  · rintro w' rfl
    exact HST.out.mono (fun e w4 q => ⟨q.1, q.2.1, Frm.undrew q.2.2⟩)
  · rintro w' q
    exact q.2.box H8.out HK8G.out
  rintro w5 rfl w4 ⟨h1, h2⟩
  have HK4G : Hid (k4 ≠ g) := hide (fun e => by have := HLT.out.2; have := HX8.out.l4; omega)
  have HK6G : Hid (k6 ≠ g) := hide (fun e => by have := HLT.out.2; have := HX8.out.l6; omega)
  have HK4Z : Hid (k4 ≠ z) := hide (fun e => by have := HLT.out.1; have := HX8.out.l4; omega)
  have HK6Z : Hid (k6 ≠ z) := hide (fun e => by have := HLT.out.1; have := HX8.out.l6; omega)
  have H1 := hide h1
  have B4 := hide (h2.box HX8.out.b4 HK4G.out)
  have B6 := hide (h2.box HX8.out.b6 HK6G.out)
  have H2 : Hid (Frm w w4 (fun k => k = z ∨ k = g)) := hide ((Frm.of_below HX8.out.bel).trans h2 (fun i hi e => .inr e))
  clear h1 h2 HE2 HST H8 HX8 HR8 HK8G
  simp only [Act.put, List.setIfInBounds_toArray, List.set_cons_zero, List.set_cons_succ]
  obtain ⟨d0, d1, d2, d3⟩ := cells3 H1.out.blk
  have hz4 := H1.out.blk.lt
  rw [show ((c + 1 : Nat) : Int) = (c : Int) + 1 by omega] at d2
  go_upto_region 9 with fail
  refine name_world (fun W' => Raw W' z g zT (S.set (spot S.length b c) elZ) b c ∧ Frm w W' (fun k => k = z ∨ k = g) ∧ BoxEl W' k4 elZ ∧ BoxEl W' k6 v) ⟨H1.out.setC c (by have := H1.out.le; omega), H2.out.put _ _ _ (.inl (.inl rfl)), Blk.setOther B4.out _ _ HK4Z.out, Blk.setOther B6.out _ _ HK6Z.out⟩ ?_
  rintro W3 ⟨hRaw3, hF3, hb4, hb6⟩
  clear d0 d1 d2 d3 H1 H2 B4 B6
  have H1 := hide hRaw3
  have H2 := hide hF3
  have B4 := hide hb4
  have B6 := hide hb6
  clear hRaw3 hF3 hb4 hb6
  go_wp2_with (first | ((with_reducible refine wpList_ldB ?_ (.tmp 6) ?_ k6 ?_ v B6.out ?_); rfl; rfl; rfl) | ((with_reducible refine wpList_stB ?_ (.tmp 4) (.tmp 39) ?_ k4 ?_ v elZ ?_ B4.out ?_); rfl; rfl; rfl; rfl; intro w5 hk5 hg5))
  refine ⟨rfl, _, results_cell_tmp (p := 4) (q := 5) (ty := elT) rfl _ _ ⟨k4, 0, none⟩ rfl (elV v) (.bool true) rfl (loadB hk5.out), rfl, ?_⟩
  have hfin := H1.out
  refine ⟨⟨g, ⟨⟨_, b, ?_, hfin.row.grown hg5.out (fun e => HK4G.out (Option.some.inj e).symm), ?_, by rw [List.length_set]; exact HSM.out⟩, HNE.out⟩, .inl rfl⟩, H2.out.trans (Frm.of_grown (T := fun k => k = k4) hg5.out (.inl rfl)) (fun i hi e => by rw [e, HK4.out] at hi; omega)⟩
  · rw [← HC.out]; exact Blk.grown hfin.blk hg5.out (fun e => HK4Z.out (Option.some.inj e).symm)
  · have := HR.out.popT elZ
    rw [← HC.out] at this
    exact this
theorem popB_any (v : EL) (h : RgAt w z g zT M (v :: V)) (hM : M ≤ 140737488355327) : Calls Tryz.prog 117 #[.pointer (some ⟨z, 0, none⟩), .bool true] w (PopC w z g zT M v V) := by
  obtain ⟨W0, hW0⟩ : ∃ W, W = w.alloc (.cells (elA elZ) elT) := ⟨_, rfl⟩
  have hb0 : Below w.heap.size w W0 := by rw [hW0]; exact below_alloc w _
  have hk0 : BoxEl W0 w.heap.size elZ := by rw [hW0]; exact BoxEl.made w _
  have hlt := h.lt
  obtain ⟨k4, hk4⟩ : ∃ k, k = w.heap.size := ⟨_, rfl⟩
  rw [← hk4] at hk0
  have h0 := h.below hb0
  obtain ⟨S, b, hz, hg, hR, hS⟩ := h0.ex
  obtain ⟨c, hc⟩ : ∃ c, c = V.length := ⟨_, rfl⟩
  rw [List.length_cons, ← hc] at hz
  have hlen := hR.len
  rw [List.length_cons, ← hc] at hlen
  have hRaw : Raw W0 z g zT S b (c + 1) := ⟨hz, hg, hR.pos (by omega), hlen, h0.ne, by omega⟩
  have hE := end_any hRaw.blk (by omega) true
  rw [if_pos rfl] at hE
  have HE := hide hE
  have hl := hR.first
  have hA := at_in hRaw 0 (by omega) v hl
  rw [show ((0 : Nat) : Int) = 0 from rfl] at hA
  have HA := hide hA
  have HRAW := hide hRaw
  have HK := hide hk0
  have HB0 := hide hb0
  have HR := hide hR
  have HSM := hide hS
  have HC := hide hc
  have HLT := hide hlt
  have HNE := hide h0.ne
  have hz0 := zero_el
  have hc48 : c ≤ 281474976710656 := by omega
  clear h h0 hz hg hR hS hRaw hE hA hl hlen hc hk0 hb0 hlt
  go_enter Tryz.func117, Tryz.ntmps117
  go_upto_region 1 with fail
  rw [← hW0, ← hk4]
  have HK4 := hide hk4
  clear hW0 hk4
  go_upto_region 2 with (first | (go_at_call 145; (with_reducible refine HE.out.mono ?_); rintro e w' ⟨rfl, hw⟩; rw [hw]; clear hw) | (go_at_call 146; (with_reducible refine HA.out.mono ?_); rintro e w2 ⟨rfl, h1⟩; have H1 := hide h1; have HBX := hide (BoxEl.made w2 elZ); clear h1) | ((with_reducible refine wpList_stB ?_ (.tmp 6) (.tmp 15) ?_ w2.heap.size ?_ v elZ ?_ HBX.out ?_); rfl; rfl; rfl; rfl; intro w3 hk3 hg3))
  have HB2 : Hid (Below W0.heap.size W0 w3) := hide ((H1.out.alloc H1.out.size _).trans (below_grownBy hg3.out H1.out.size (by have := H1.out.size; simp; omega)))
  have HX : Hid (Bx2 w w3 k4 w2.heap.size elZ v) := hide (by
    have s0 := HB0.out.size
    have s1 := H1.out.size
    exact ⟨HB0.out.trans (HB2.out.mono s0), HK.out.below HB2.out, hk3.out, by rw [HK4.out]; exact Nat.le_refl _, by omega⟩)
  have HR3 := hide (HRAW.out.below HB2.out)
  obtain ⟨k6, hk6⟩ : ∃ k, k = w2.heap.size := ⟨_, rfl⟩
  rw [← hk6] at HX ⊢
  clear hk6 hk3 hg3 HBX H1 HE HA HB2 HRAW
  go_upto_region 5 with fail
  obtain ⟨W8, hW8⟩ : ∃ W, W = w3.alloc (.cells (elA elZ) elT) := ⟨_, rfl⟩
  have H8 : Hid (BoxEl W8 w3.heap.size elZ) := hide (by rw [hW8]; exact BoxEl.made w3 _)
  have HB8 : Hid (Below w3.heap.size w3 W8) := hide (by rw [hW8]; exact below_alloc w3 _)
  rw [← hW8]
  have HX8 := hide (HX.out.below HB8.out)
  have HR8 := hide (HR3.out.below HB8.out)
  have HK8G : Hid (w3.heap.size ≠ g) := hide (Nat.ne_of_gt HR3.out.row.lt)
  obtain ⟨k8, hk8⟩ : ∃ k, k = w3.heap.size := ⟨_, rfl⟩
  rw [← hk8] at H8 HK8G ⊢
  clear hW8 hk8 HX HR3 HB8
  have hE2 := end_any (w := W8.drew) HR8.out.blk (Nat.le_trans HR8.out.le HR8.out.sz) true
  rw [if_pos rfl] at hE2
  have HE2 := hide hE2
  have hST := set_in (w := W8.drew) (HR8.out.drewN 1) 0 (by omega) elZ
  rw [show ((0 : Nat) : Int) = 0 from rfl] at hST
  have HST := hide hST
  clear hE2 hST
  refine pp5_walk _ (fun _ _ _ _ _ h => h) W8 z k8 0 true elZ (fun w' => w' = W8.drew) (fun w' => Raw w' z g zT (S.set (spot S.length b 0) elZ) b (c + 1) ∧ Frm W8 w' (fun q => q = g)) H8.out HE2.out ?_ ?_ ?_ _ (Nat.lt_of_sub_pos (by exact Nat.succ_pos _)) rfl rfl rfl ?_
  · rintro w' rfl; exact H8.out
  · rintro w' rfl
    exact HST.out.mono (fun e w4 q => ⟨q.1, q.2.1, Frm.undrew q.2.2⟩)
  · rintro w' q
    exact q.2.box H8.out HK8G.out
  rintro w5 rfl w4 ⟨h1, h2⟩
  have HK4G : Hid (k4 ≠ g) := hide (fun e => by have := HLT.out.2; have := HX8.out.l4; omega)
  have HK6G : Hid (k6 ≠ g) := hide (fun e => by have := HLT.out.2; have := HX8.out.l6; omega)
  have HK4Z : Hid (k4 ≠ z) := hide (fun e => by have := HLT.out.1; have := HX8.out.l4; omega)
  have HK6Z : Hid (k6 ≠ z) := hide (fun e => by have := HLT.out.1; have := HX8.out.l6; omega)
  have H1 := hide h1
  have B4 := hide (h2.box HX8.out.b4 HK4G.out)
  have B6 := hide (h2.box HX8.out.b6 HK6G.out)
  have H2 : Hid (Frm w w4 (fun k => k = z ∨ k = g)) := hide ((Frm.of_below HX8.out.bel).trans h2 (fun i hi e => .inr e))
  clear h1 h2 HE2 HST H8 HX8 HR8 HK8G
  simp only [Act.put, List.setIfInBounds_toArray, List.set_cons_zero, List.set_cons_succ]
  obtain ⟨d0, d1, d2, d3⟩ := cells3 H1.out.blk
  have hz4 := H1.out.blk.lt
  rw [show ((c + 1 : Nat) : Int) = (c : Int) + 1 by omega] at d2
  have hSL := slot_any H1.out.blk H1.out.bot H1.out.sz 1 (by have := H1.out.le; omega)
  rw [show ((1 : Nat) : Int) = 1 from rfl, List.length_set] at hSL
  obtain ⟨b2, hb2⟩ : ∃ b2, b2 = spot S.length b 1 := ⟨_, rfl⟩
  have HBL : Hid (b2 < S.length) := hide (by have := H1.out.bot; rw [List.length_set] at this; have l2 := H1.out.le; rw [List.length_set] at l2; rw [hb2]; exact spot_lt this (by omega))
  rw [← hb2] at hSL
  have HB2 := hide hb2
  have HSL := hide hSL
  clear hSL hb2
  go_upto_region 8 with (go_at_call 143; (with_reducible refine HSL.out.mono ?_); rintro e w' ⟨rfl, q, hw⟩; rw [hw]; clear hw)
  refine name_world (fun W' => Raw W' z g zT (S.set (spot S.length b 0) elZ) b2 (c + 1) ∧ Frm w W' (fun k => k = z ∨ k = g) ∧ BoxEl W' k4 elZ ∧ BoxEl W' k6 v) ⟨(H1.out.drewN _).setB b2 (by rw [List.length_set]; exact HBL.out), (H2.out.drewN _).put _ _ _ (.inl (.inl rfl)), Blk.setOther (Blk.drewN B4.out _) _ _ HK4Z.out, Blk.setOther (Blk.drewN B6.out _) _ _ HK6Z.out⟩ ?_
  rintro W2 ⟨hRaw2, hF2, hb4, hb6⟩
  clear d0 d1 d2 d3 HSL B4 B6 H2 HBL
  obtain ⟨d0, d1, d2, d3⟩ := cells3 hRaw2.blk
  have hzW2 := hRaw2.blk.lt
  rw [show ((c + 1 : Nat) : Int) = (c : Int) + 1 by omega] at d2
  have H1b := hide hRaw2
  have H2 := hide hF2
  have B4 := hide hb4
  have B6 := hide hb6
  clear hRaw2 hF2 hb4 hb6 H1
  have H1 := H1b
  clear H1b
  go_upto_region 9 with fail
  refine name_world (fun W' => Raw W' z g zT (S.set (spot S.length b 0) elZ) b2 c ∧ Frm w W' (fun k => k = z ∨ k = g) ∧ BoxEl W' k4 elZ ∧ BoxEl W' k6 v) ⟨H1.out.setC c (by have := H1.out.le; omega), H2.out.put _ _ _ (.inl (.inl rfl)), Blk.setOther B4.out _ _ HK4Z.out, Blk.setOther B6.out _ _ HK6Z.out⟩ ?_
  rintro W3 ⟨hRaw3, hF3, hb4, hb6⟩
  clear d0 d1 d2 d3 H1 H2 B4 B6
  have H1 := hide hRaw3
  have H2 := hide hF3
  have B4 := hide hb4
  have B6 := hide hb6
  clear hRaw3 hF3 hb4 hb6
  go_wp2_with (first | ((with_reducible refine wpList_ldB ?_ (.tmp 6) ?_ k6 ?_ v B6.out ?_); rfl; rfl; rfl) | ((with_reducible refine wpList_stB ?_ (.tmp 4) (.tmp 39) ?_ k4 ?_ v elZ ?_ B4.out ?_); rfl; rfl; rfl; rfl; intro w5 hk5 hg5))
  refine ⟨rfl, _, results_cell_tmp (p := 4) (q := 5) (ty := elT) rfl _ _ ⟨k4, 0, none⟩ rfl (elV v) (.bool true) rfl (loadB hk5.out), rfl, ?_⟩
  have hfin := H1.out
  refine ⟨⟨g, ⟨⟨_, b2, ?_, hfin.row.grown hg5.out (fun e => HK4G.out (Option.some.inj e).symm), ?_, by rw [List.length_set]; exact HSM.out⟩, HNE.out⟩, .inl rfl⟩, H2.out.trans (Frm.of_grown (T := fun k => k = k4) hg5.out (.inl rfl)) (fun i hi e => by rw [e, HK4.out] at hi; omega)⟩
  · rw [← HC.out]; exact Blk.grown hfin.blk hg5.out (fun e => HK4Z.out (Option.some.inj e).symm)
  · have := HR.out.popB elZ
    rw [← HB2.out] at this
    exact this
end
end RG
end Go.Proofs.YtjdlffmiokobnaaGreatDoor
