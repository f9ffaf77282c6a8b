/- The document's work list: Pop. -/
import Derived.Test.YtiogblfdchdioaaGDT
namespace Go.Proofs.Ytiogblfdchdioaa
set_option linter.unusedVariables false
set_option linter.unusedSimpArgs false
namespace RG
open Go.RowKit
set_option maxRecDepth 100000

theorem RowR.tail {w : World} {g c n : Nat} {x : EL} {V : List EL} (h : RowR w (.slice (some ⟨g, 0, none⟩) n c) (x :: V)) (hc : n ≤ c) : RowR w (.slice (some ⟨g, if c = 1 then 0 else ofs 1, none⟩) (n - 1) (c - 1)) V := by
  obtain ⟨ao, c', e, h2⟩ := h
  injection e with e1 e2 e3
  subst e3
  obtain ⟨h', so, e4, h4⟩ := h2 (by simp)
  rw [← e1] at e4
  cases e4
  rw [List.length_cons] at e2
  refine ⟨some ⟨g, if c = 1 then 0 else ofs 1, none⟩, c - 1, by rw [e2, Nat.add_sub_cancel], fun hp => ?_⟩
  refine ⟨g, ofs 1, by rw [if_neg (by omega)], fun j y hy => ?_⟩
  have := h4 (j + 1) y (by rw [List.getElem?_cons_succ]; exact hy)
  rw [show 0 + ofs (j + 1) = ofs 1 + ofs j by simp only [ofs]; omega] at this
  exact this
theorem RowR.init {w : World} {g c n : Nat} {x : EL} {V : List EL} (h : RowR w (.slice (some ⟨g, 0, none⟩) n c) (V ++ [x])) : RowR w (.slice (some ⟨g, 0, none⟩) (n - 1) c) V := by
  obtain ⟨ao, c', e, h2⟩ := h
  injection e with e1 e2 e3
  subst e3
  obtain ⟨h', so, e4, h4⟩ := h2 (by simp)
  rw [← e1] at e4
  cases e4
  refine ⟨_, c, by rw [e2]; simp, fun hp => ⟨g, 0, rfl, fun j y hy => h4 j y (by rw [List.getElem?_append_left (List.getElem?_eq_some_iff.1 hy).1]; exact hy)⟩⟩
theorem wpList_sl1 {ops : Array Oper} {rest : List Oper} {op : Oper} {a : Act} {w : World} {Q : Exit → Act → World → Prop} (hgd : op.guard = none) (x y : Operand) (ho : op.op = .slice slT x (some y) none none) (g n c : Nat) (hx : a.eval x = .slice (some ⟨g, 0, none⟩) n c) (hy : a.eval y = .int .i64 1) (hj : 1 ≤ n) (hn : n ≤ c) (u : Value) (hu : u = .slice (some ⟨g, if c = 1 then 0 else ofs 1, none⟩) (n - 1) (c - 1))
    (h : wpList Try.prog ops Q rest (a.put op.dst u) w) : wpList Try.prog ops Q (op :: rest) a w := by
  subst hu
  refine wpList_plain hgd fun K hK => ?_
  unfold Oper.wp
  rw [run_sl1 (j := 1) ho hx hy hj hn w]
  exact hK _ _ h
theorem popD_fin {w w3 w5 w9 : World} {q k k6 : Nat} {x : EL} {V : List EL} {u0 u : Value} (hq : q < w.heap.size) (HX : Bx2 w w3 k k6 elZ x) (h5 : Below w3.heap.size w3 w5) (H1 : OwnG w5 w3.heap.size u V) (H3 : Blk w5 q #[u0] RT) (hg9 : (w5.setCell ⟨q, 0, none⟩ u).grownBy w9 (some k)) : DocS w w9 q V := by
  have s0 := HX.bel.size
  have l4 := HX.l4
  have lk : k < w3.heap.size := Blk.lt (cs := elA elZ) (t := elT) HX.b4
  have hq9 : Blk (w5.setCell ⟨q, 0, none⟩ u) q #[u] RT := H3.set 0 u
  refine ⟨⟨u, Blk.grown hq9 hg9 (fun e => by have := Option.some.inj e; omega), ((H1.lower s0).same (fun b e => ?_))⟩, ?_⟩
  · have hb := H1.lt e
    refine (hg9.block b (by simp; omega) (fun e => ?_)).trans (heap_setCell_other _ _ _ _ (fun e => ?_))
    · have := Option.some.inj e
      omega
    · have e3 : b = q := e
      omega
  · exact (((Frm.of_below HX.bel).trans (T' := fun k => k = q) (Frm.of_below h5) (fun i hi e => e)).put _ _ _ (.inl rfl)).trans (T' := fun i => i = k) (Frm.of_grown hg9 (.inl rfl)) (fun i hi e => by omega)
theorem box_put {w w3 w5 : World} {q k k6 : Nat} {x : EL} {u : Value} (hq : q < w.heap.size) (HX : Bx2 w w3 k k6 elZ x) (h5 : Below w3.heap.size w3 w5) : BoxEl (w5.setCell ⟨q, 0, none⟩ u) k elZ ∧ BoxEl (w5.setCell ⟨q, 0, none⟩ u) k6 x := by
  have l4 := HX.l4
  have l6 := HX.l6
  exact ⟨(Frm.set w5 (fun i => i = q) q 0 u rfl).blk (HX.b4.below h5) (fun e => by omega), (Frm.set w5 (fun i => i = q) q 0 u rfl).blk (HX.b6.below h5) (fun e => by omega)⟩
def PopD (w : World) (q : Nat) (v : EL) (V : List EL) (e : Ending) (w' : World) : Prop := e = .returned (.tuple #[elV v, .bool true]) ∧ DocS w w' q V
section
variable {w : World} {q B : Nat} {v : Value} {V : List EL}
set_option maxHeartbeats 4000000 in
theorem rpopT_any (x : EL) (h : RlAt w q B v (V ++ [x])) (hn : (V ++ [x]).length ≤ 3518437208000) : Calls Try.prog 26 #[.pointer (some ⟨q, 0, none⟩), .bool false] w (PopD w q x V) := by
  obtain ⟨W0, hW0⟩ : ∃ W, W = w.alloc (.cells (elA elZ) elT) := ⟨_, rfl⟩
  have hb0 : Below w.heap.size w W0 := by rw [hW0]; exact below_alloc w _
  have hk0 : BoxEl W0 w.heap.size elZ := by rw [hW0]; exact BoxEl.made w _
  have h0 := h.below hb0
  have hA := rat_any h0 hn false
  rw [show endV false (V ++ [x]) = some x by simp [endV]] at hA
  have HA := hide hA
  have HR0 := hide h0
  have HQW := hide h.blk.lt
  have hl : (V ++ [x]).length = V.length + 1 := by simp
  obtain ⟨ao, c, rfl, hao⟩ := h.own.form
  obtain ⟨g, rfl⟩ := hao (by omega)
  rw [hl] at HR0 hn
  obtain ⟨n, hnn⟩ : ∃ n, n = V.length + 1 := ⟨_, rfl⟩
  rw [← hnn] at HR0 hn
  have HNN := hide hnn
  obtain ⟨k, hkk⟩ : ∃ k, k = w.heap.size := ⟨_, rfl⟩
  have HK := hide hk0
  have HB0 := hide hb0
  have hz0 := zero_el
  clear h hb0 hk0 h0 hA hl hao hnn
  go_enter Try.func26, Try.ntmps26
  go_upto_region 1 with fail
  rw [← hW0]
  clear hW0
  go_upto_region 6 with (first | (go_at_call 22; (with_reducible refine HA.out.mono ?_); rintro e w2 ⟨rfl, h1⟩; have H1 := hide h1; have HBX := hide (BoxEl.made w2 elZ); clear h1) | ((with_reducible refine wpList_stB ?_ (.tmp 6) (.tmp 12) ?_ w2.heap.size ?_ x elZ ?_ HBX.out ?_); rfl; rfl; rfl; rfl; intro w3 hk3 hg3))
  have HB2 : Hid (Below W0.heap.size W0 w3) := hide ((H1.out.alloc H1.out.size _).trans (below_grownBy hg3.out H1.out.size (by have := H1.out.size; simp; omega)))
  rw [← hkk]
  have HKK := hide hkk
  clear hkk
  have HX2 : Hid (Bx2 w w3 k w2.heap.size elZ x) := hide (by
    have s0 := HB0.out.size
    have s1 := H1.out.size
    exact ⟨HB0.out.trans (HB2.out.mono s0), by rw [HKK.out]; exact HK.out.below HB2.out, hk3.out, by rw [HKK.out]; exact Nat.le_refl _, by omega⟩)
  have HR3 := hide (HR0.out.below HB2.out)
  obtain ⟨k6, hk6⟩ : ∃ k, k = w2.heap.size := ⟨_, rfl⟩
  rw [← hk6] at HX2 ⊢
  clear hk6 hk3 hg3 HBX H1 HA HB2 HR0
  have hq3 := HR3.out.blk
  have c0 := hq3.cell 0
  have e0 : (#[.slice (some ⟨g, 0, none⟩) n c] : Array Value)[0]? = some (.slice (some ⟨g, 0, none⟩) n c) := rfl
  rw [e0] at c0
  have hql := hq3.lt
  have hnc : n ≤ c := by
    obtain ⟨_, ⟨z1, _⟩ | ⟨g', cap, cur, z1, _, _, zc, _⟩⟩ := HR3.out.own
    · cases z1
    · injection z1 with z2 z3 z4
      omega
  have hn1 : 1 ≤ n := by have := HNN.out; omega
  have HG := hide (greys_any w3.drew (.slice (some ⟨g, 0, none⟩) (n - 1) c) V (RowR.below (RowR.init HR3.out.own.read) ⟨rfl, rfl, rfl, Nat.le_refl _, fun _ _ => rfl⟩) (by have := HNN.out; omega))
  have hf0 := hq3.frozen 0
  have HQ3 : Hid (Blk w3.drew q #[.slice (some ⟨g, 0, none⟩) n c] RT) := hide hq3
  clear hq3 e0
  have hwr : IntKind.i64.wrap ((n:Int) - 1) = ((n - 1 : Nat) : Int) := by
    simp [IntKind.wrap, IntKind.bits, IntKind.signed]; omega
  have hs2 : ((n - 1 : Nat) : Int) ≤ (c:Int) := by omega
  go_region_with (go_at_call 37; (with_reducible refine HG.out.mono ?_); rintro e w5 ⟨u, rfl, h1, h2⟩; obtain ⟨a5, c5, rfl, _⟩ := h1.form; have h3 := Blk.below HQ3.out h2 hql; have hc5 := h3.cell 0; rw [show (#[.slice (some ⟨g, 0, none⟩) n c] : Array Value)[0]? = some (.slice (some ⟨g, 0, none⟩) n c) from rfl] at hc5; have hf5 := h3.frozen 0; have hl5 := h3.lt; have H1 := hide h1; have H2 := hide h2; have H3 := hide h3; clear h1 h2 h3)
  all_goals
    have HW : Hid (Below w3.heap.size w3 w5) := hide ((below_dW w3).trans H2.out)
    have HB := hide (box_put (u := .slice a5 V.length c5) HQW.out HX2.out HW.out)
    go_wp2_with (first | ((with_reducible refine wpList_ldB ?_ (.tmp 6) ?_ k6 ?_ x HB.out.2 ?_); rfl; rfl; rfl) | ((with_reducible refine wpList_stB ?_ (.tmp 4) (.tmp 42) ?_ k ?_ x elZ ?_ HB.out.1 ?_); rfl; rfl; rfl; rfl; intro w9 hk9 hg9))
    refine ⟨rfl, _, results_cell_tmp (p := 4) (q := 5) (ty := elT) rfl _ _ ⟨k, 0, none⟩ rfl (elV x) (.bool true) rfl (loadB hk9.out), rfl, ?_⟩
    exact popD_fin HQW.out HX2.out HW.out H1.out H3.out hg9.out
end
end RG
end Go.Proofs.Ytiogblfdchdioaa
