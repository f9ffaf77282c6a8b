/- The document's work list: Pop from the bottom; of none. -/
import Derived.Test.YtiogblfdchdioaaGDU
namespace Go.Proofs.Ytiogblfdchdioaa
set_option linter.unusedVariables false
set_option linter.unusedSimpArgs false
namespace RG
open Go.RowKit
set_option maxRecDepth 100000

section
variable {w : World} {q B : Nat} {v : Value} {V : List EL}
set_option maxHeartbeats 4000000 in
theorem rpopB_any (x : EL) (h : RlAt w q B v (x :: V)) (hn : (x :: V).length ≤ 3518437208000) : Calls Try.prog 26 #[.pointer (some ⟨q, 0, none⟩), .bool true] w (PopD w q x V) := by
  obtain ⟨W0, hW0⟩ : ∃ W, W = w.alloc (.cells (elA elZ) elT) := ⟨_, rfl⟩
  have hb0 : Below w.heap.size w W0 := by rw [hW0]; exact below_alloc w _
  have hk0 : BoxEl W0 w.heap.size elZ := by rw [hW0]; exact BoxEl.made w _
  have h0 := h.below hb0
  have hA := rat_any h0 hn true
  rw [show endV true (x :: V) = some x by simp [endV]] at hA
  have HA := hide hA
  have HR0 := hide h0
  have HQW := hide h.blk.lt
  have hl : (x :: V).length = V.length + 1 := by simp
  obtain ⟨ao, c, rfl, hao⟩ := h.own.form
  obtain ⟨g, rfl⟩ := hao (by omega)
  rw [hl] at HR0 hn
  obtain ⟨n, hnn⟩ : ∃ n, n = V.length + 1 := ⟨_, rfl⟩
  rw [← hnn] at HR0 hn
  have HNN := hide hnn
  obtain ⟨k, hkk⟩ : ∃ k, k = w.heap.size := ⟨_, rfl⟩
  have HK := hide hk0
  have HB0 := hide hb0
  have hz0 := zero_el
  clear h hb0 hk0 h0 hA hl hao hnn
  go_enter Try.func26, Try.ntmps26
  go_upto_region 1 with fail
  rw [← hW0]
  clear hW0
  go_upto_region 5 with (first | (go_at_call 22; (with_reducible refine HA.out.mono ?_); rintro e w2 ⟨rfl, h1⟩; have H1 := hide h1; have HBX := hide (BoxEl.made w2 elZ); clear h1) | ((with_reducible refine wpList_stB ?_ (.tmp 6) (.tmp 12) ?_ w2.heap.size ?_ x elZ ?_ HBX.out ?_); rfl; rfl; rfl; rfl; intro w3 hk3 hg3))
  have HB2 : Hid (Below W0.heap.size W0 w3) := hide ((H1.out.alloc H1.out.size _).trans (below_grownBy hg3.out H1.out.size (by have := H1.out.size; simp; omega)))
  rw [← hkk]
  have HKK := hide hkk
  clear hkk
  have HX2 : Hid (Bx2 w w3 k w2.heap.size elZ x) := hide (by
    have s0 := HB0.out.size
    have s1 := H1.out.size
    exact ⟨HB0.out.trans (HB2.out.mono s0), by rw [HKK.out]; exact HK.out.below HB2.out, hk3.out, by rw [HKK.out]; exact Nat.le_refl _, by omega⟩)
  have HR3 := hide (HR0.out.below HB2.out)
  obtain ⟨k6, hk6⟩ : ∃ k, k = w2.heap.size := ⟨_, rfl⟩
  rw [← hk6] at HX2 ⊢
  clear hk6 hk3 hg3 HBX H1 HA HB2 HR0
  have hq3 := HR3.out.blk
  have c0 := hq3.cell 0
  have e0 : (#[.slice (some ⟨g, 0, none⟩) n c] : Array Value)[0]? = some (.slice (some ⟨g, 0, none⟩) n c) := rfl
  rw [e0] at c0
  have hql := hq3.lt
  have hnc : n ≤ c := by
    obtain ⟨_, ⟨z1, _⟩ | ⟨g', cap, cur, z1, _, _, zc, _⟩⟩ := HR3.out.own
    · cases z1
    · injection z1 with z2 z3 z4
      omega
  have hn1 : 1 ≤ n := by have := HNN.out; omega
  have hf0 := hq3.frozen 0
  have HQ3 := hide hq3
  have hT := RowR.tail HR3.out.own.read hnc
  have hvl : V.length ≤ 3518437208000 := by have := HNN.out; omega
  clear hq3 e0
  by_cases hc1 : c = 1
  · subst hc1
    rw [show n - 1 = 0 by omega] at hT
    have HG := hide (greys_any w3 (.slice (some ⟨g, 0, none⟩) 0 0) V hT hvl)
    clear hT
    go_upto_region 7 with (go_at_call 37; (with_reducible refine HG.out.mono ?_); rintro e w5 ⟨u, rfl, h1, h2⟩; obtain ⟨a5, c5, rfl, _⟩ := h1.form; have h3 := Blk.below HQ3.out h2 hql; have hc5 := h3.cell 0; rw [show (#[.slice (some ⟨g, 0, none⟩) n 1] : Array Value)[0]? = some (.slice (some ⟨g, 0, none⟩) n 1) from rfl] at hc5; have hf5 := h3.frozen 0; have hl5 := h3.lt; have H1 := hide h1; have H2 := hide h2; have H3 := hide h3; clear h1 h2 h3)
    have HB := hide (box_put (u := .slice a5 V.length c5) HQW.out HX2.out H2.out)
    go_wp2_with (first | ((with_reducible refine wpList_ldB ?_ (.tmp 6) ?_ k6 ?_ x HB.out.2 ?_); rfl; rfl; rfl) | ((with_reducible refine wpList_stB ?_ (.tmp 4) (.tmp 42) ?_ k ?_ x elZ ?_ HB.out.1 ?_); rfl; rfl; rfl; rfl; intro w9 hk9 hg9))
    refine ⟨rfl, _, results_cell_tmp (p := 4) (q := 5) (ty := elT) rfl _ _ ⟨k, 0, none⟩ rfl (elV x) (.bool true) rfl (loadB hk9.out), rfl, ?_⟩
    exact popD_fin HQW.out HX2.out H2.out H1.out H3.out hg9.out
  · rw [if_neg hc1] at hT
    have HG := hide (greys_any w3 (.slice (some ⟨g, 33, none⟩) (n - 1) (c - 1)) V hT hvl)
    clear hT
    go_upto_region 7 with (go_at_call 37; (with_reducible refine HG.out.mono ?_); rintro e w5 ⟨u, rfl, h1, h2⟩; obtain ⟨a5, c5, rfl, _⟩ := h1.form; have h3 := Blk.below HQ3.out h2 hql; have hc5 := h3.cell 0; rw [show (#[.slice (some ⟨g, 0, none⟩) n c] : Array Value)[0]? = some (.slice (some ⟨g, 0, none⟩) n c) from rfl] at hc5; have hf5 := h3.frozen 0; have hl5 := h3.lt; have H1 := hide h1; have H2 := hide h2; have H3 := hide h3; clear h1 h2 h3)
    have HB := hide (box_put (u := .slice a5 V.length c5) HQW.out HX2.out H2.out)
    go_wp2_with (first | ((with_reducible refine wpList_ldB ?_ (.tmp 6) ?_ k6 ?_ x HB.out.2 ?_); rfl; rfl; rfl) | ((with_reducible refine wpList_stB ?_ (.tmp 4) (.tmp 42) ?_ k ?_ x elZ ?_ HB.out.1 ?_); rfl; rfl; rfl; rfl; intro w9 hk9 hg9))
    refine ⟨rfl, _, results_cell_tmp (p := 4) (q := 5) (ty := elT) rfl _ _ ⟨k, 0, none⟩ rfl (elV x) (.bool true) rfl (loadB hk9.out), rfl, ?_⟩
    exact popD_fin HQW.out HX2.out H2.out H1.out H3.out hg9.out
end
/-- Pop of nothing: nothing changes. -/
theorem rpop_none {w : World} {q B : Nat} {v : Value} (h : RlAt w q B v []) (bot : Bool) : Calls Try.prog 26 #[.pointer (some ⟨q, 0, none⟩), .bool bot] w fun e w' => e = .returned (.tuple #[elV elZ, .bool false]) ∧ Below w.heap.size w w' := by
  obtain ⟨W0, hW0⟩ : ∃ W, W = w.alloc (.cells (elA elZ) elT) := ⟨_, rfl⟩
  have hb0 : Below w.heap.size w W0 := by rw [hW0]; exact below_alloc w _
  have hk0 : BoxEl W0 w.heap.size elZ := by rw [hW0]; exact BoxEl.made w _
  have h0 := h.below hb0
  have hA := rat_any h0 (by simp) bot
  rw [show endV bot ([] : List EL) = none by cases bot <;> rfl] at hA
  have HA := hide hA
  obtain ⟨k, hkk⟩ : ∃ k, k = w.heap.size := ⟨_, rfl⟩
  rw [← hkk] at hk0
  have HK := hide hk0
  have HB0 := hide hb0
  have hz0 := zero_el
  clear h hb0 hk0 h0 hA
  go_enter Try.func26, Try.ntmps26
  go_upto_region 1 with fail
  rw [← hW0, ← hkk]
  have HKK := hide hkk
  clear hW0 hkk
  go_upto_region 3 with (first | (go_at_call 22; (with_reducible refine HA.out.mono ?_); rintro e w2 ⟨rfl, h1⟩; have H1 := hide h1; have HK2 : Hid (BoxEl (w2.alloc (.cells (elA elZ) elT)) k elZ) := hide ((HK.out.below h1).below (below_alloc w2 _)); have HBX := hide (BoxEl.made w2 elZ); clear h1) | ((with_reducible refine wpList_stB ?_ (.tmp 6) (.tmp 12) ?_ w2.heap.size ?_ elZ elZ ?_ HBX.out ?_); rfl; rfl; rfl; rfl; intro w3 hk3 hg3))
  have HB2 : Hid (Below W0.heap.size W0 w3) := hide ((H1.out.alloc H1.out.size _).trans (below_grownBy hg3.out H1.out.size (by have := H1.out.size; simp; omega)))
  have HK3 : Hid (BoxEl w3 k elZ) := hide (HK.out.below HB2.out)
  generalize w2.heap.size = k6 at hk3 hg3 HBX ⊢
  go_wp2_with (first | ((with_reducible refine wpList_ldB ?_ (.tmp 6) ?_ k6 ?_ elZ hk3.out ?_); rfl; rfl; rfl) | ((with_reducible refine wpList_stB ?_ (.tmp 4) (.tmp 16) ?_ k ?_ elZ elZ ?_ HK3.out ?_); rfl; rfl; rfl; rfl; intro w9 hk9 hg9))
  refine ⟨rfl, _, results_cell_tmp (p := 4) (q := 5) (ty := elT) rfl _ _ ⟨k, 0, none⟩ rfl (elV elZ) (.bool false) rfl (loadB hk9.out), rfl, ?_⟩
  exact (HB0.out.trans (HB2.out.mono HB0.out.size)).trans (below_grownBy hg9.out (by rw [HKK.out]; exact Nat.le_refl _) (Nat.le_trans HB0.out.size HB2.out.size))
end RG
end Go.Proofs.Ytiogblfdchdioaa
