/- Copied. -/
import Derived.Test.YtjcfndiceinkjaaDoorOB9
namespace Go.Proofs.YtjcfndiceinkjaaDoor
set_option linter.unusedVariables false
set_option linter.unusedSimpArgs false
open Go.RowKit

theorem below_none {a b : World} (h : a.grownBy b none) : Below a.heap.size a b := ⟨h.os, h.tape, h.output, h.size, fun i hi => h.block i hi (by simp)⟩
theorem below_alloc (w : World) (o : Obj) : Below w.heap.size w (w.alloc o) := (Below.refl _ _).alloc (Nat.le_refl _) _
theorem ownsRow_belowK {w w' : World} {base : Nat} {e : TypeId} {k : Nat} {v : Value} {n : Nat} {ys : List Value} (h : w.ownsRow base e k v n ys) (hb : Below w.heap.size w w') : w'.ownsRow base e k v n ys := by
  obtain ⟨h0, h1 | ⟨g, cap, cur, rfl, hg, hh, hr⟩⟩ := h
  · exact ⟨h0, .inl h1⟩
  · have hlt : g < w.heap.size := Blk.lt (cs := cur) (t := e) hh
    exact ⟨h0, .inr ⟨g, cap, cur, rfl, hg, (hb.block g hlt).trans hh, hr⟩⟩
theorem ownsRow_ltK {w : World} {base : Nat} {e : TypeId} {k : Nat} {v : Value} {n : Nat} {ys : List Value} (h : w.ownsRow base e k v n ys) (g : Nat) (hg : v.ownBlock = some g) : base ≤ g := by
  obtain ⟨h0, ⟨rfl, _⟩ | ⟨g', cap, cur, rfl, hb, hh, hr⟩⟩ := h
  · cases hg
  · cases hg; exact hb
theorem CopyRow.mono {B B' : Nat} {w : World} {v : Value} {k : Nat} {L : List (List Value)} {M : List Value} (h : CopyRow B w v k L M) (hB : B' ≤ B) : CopyRow B' w v k L M := by
  obtain ⟨g, cap, h1, h0, h2⟩ := h
  exact ⟨g, cap, h1, Nat.le_trans hB h0, h2⟩
/-- What lies behind a stage: two appends to a row of the call's own. -/
theorem stage_below {X0 X1 X3 : World} {e : TypeId} {k n : Nat} {v1 : Value} {ys : List Value} {o : Obj} (g1 : X0.grownBy X1 none) (o1 : X1.ownsRow X0.heap.size e k v1 n ys) (g3 : (X1.alloc o).grownBy X3 v1.ownBlock) : Below X0.heap.size X0 X3 := by
  have h1 := below_none g1
  have h2 : Below X0.heap.size X0 (X1.alloc o) := h1.alloc h1.size o
  exact h2.grown g3 h2.size (fun j hj => ownsRow_ltK o1 j hj)
/-- The walk stands still here. -/
def Stop (p : Prop) : Prop := p
structure ObjSz (o : ObjR) : Prop where
  d : o.data.length ≤ 140737488353000
  p : (o.parts.length + 2) * 40 ≤ 140737488355328
  i : (o.items.length + 2) * 64 ≤ 140737488355328
  k : (o.parents.length + 2) * 32 ≤ 140737488355328
def CopC (w : World) (o : ObjR) (e : Ending) (w' : World) : Prop := ∃ v', e = .returned (.agg (objL o v').toArray) ∧ Fresh w.heap.size w' o v' ∧ Below w.heap.size w w'
theorem partsC_one (o : ObjR) : ∀ c ∈ o.parts.map partC, ∀ y ∈ c, y.oneCell' = true := by
  intro c hc; obtain ⟨p, hp, rfl⟩ := List.mem_map.1 hc; exact partC_one p
theorem itemsC_one (o : ObjR) : ∀ c ∈ o.items.map itemC, ∀ y ∈ c, y.oneCell' = true := by
  intro c hc; obtain ⟨p, hp, rfl⟩ := List.mem_map.1 hc; exact itemC_one p
theorem keysC_one (o : ObjR) : ∀ c ∈ o.parents.map keyC, ∀ y ∈ c, y.oneCell' = true := by
  intro c hc; obtain ⟨p, hp, rfl⟩ := List.mem_map.1 hc; exact keyC_one p
theorem two_len {k : Nat} {c : List Value} (hc : c.length = k) : ∀ x ∈ [c, c], x.length = k := by simp [hc]
theorem two_one {c : List Value} (hc : ∀ y ∈ c, y.oneCell' = true) : ∀ x ∈ [c, c], ∀ y ∈ x, y.oneCell' = true := by
  intro x hx y hy
  have : x = c := by simpa using hx
  subst this; exact hc y hy
theorem loadAt_obj {w : World} {z : Nat} {cs : Array Value} (h : Blk w z cs 30) (hs : cs.size = 39) : (Instr.loadAt 30 (.pointer (some ⟨z, 0, none⟩))).run Tryd.prog w = .ok (.agg cs) w := by
  simp only [Instr.loadAt, Instr.sureAddr, Sem.run_bind, Sem.run_pure, Result.andThen_ok]
  exact loadBlkT h 30 _ Tryd.underlying30 rfl 39 infoObj hs
theorem wpList_load_obj {ops : Array Oper} {rest : List Oper} {op : Oper} {a : Act} {w : World} {Q : Exit → Act → World → Prop} (x : Operand) (z : Nat) (cs : Array Value) (hk : Blk w z cs 30) (hs : cs.size = 39) (ho : op.op = .load 30 x) (hx : a.eval x = .pointer (some ⟨z, 0, none⟩)) (hg : Region.wanted op (yielded ops a.tmps) = true)
    (h : wpList Tryd.prog ops Q rest (a.put op.dst (.agg cs)) w) : wpList Tryd.prog ops Q (op :: rest) a w :=
  wpList_val _ hg (run_load ho hx (loadAt_obj hk hs)) h
theorem CopyRow.grown {w w' : World} {n : Nat} {v : Value} {k : Nat} {L : List (List Value)} {M : List Value} (h : CopyRow (n + 2) w v k L M) (hg : w.grownBy w' (some (n + 1))) : CopyRow (n + 2) w' v k L M := by
  obtain ⟨g, cap, h1, h0, h2, h3, h4⟩ := h
  refine ⟨g, cap, h1, h0, h2, h3, fun j u hj => ?_⟩
  have hc := h4 j u hj
  have hlt := World.block_lt_of_cell? w _ hc
  rw [← hc]
  simp only [World.cell?, hg.block g hlt (fun e => by have := Option.some.inj e; omega)]
set_option maxRecDepth 20000 in
set_option maxHeartbeats 4000000 in
theorem copied_any (w : World) (o : ObjR) (v : ObjV) (hr : ObjRd w o v) (hs : ObjSz o) : Calls Tryd.prog 7 #[.agg (objL o v).toArray] w (CopC w o) := by
  have hzo := zero_obj
  have RR := hide hr
  obtain ⟨vd, vp, vi, vk⟩ := v
  obtain ⟨pa, pc, epa, hpl⟩ := hr.p.slice
  obtain ⟨ia, ic, eia, hil⟩ := hr.i.slice
  obtain ⟨ka, kc, eka, hkl⟩ := hr.k.slice
  simp only at epa eia eka
  rw [List.length_map] at epa eia eka hpl hil hkl
  subst epa eia eka
  have S0 := hide (St.made w o ⟨vd, .slice pa o.parts.length pc, .slice ia o.items.length ic, .slice ka o.parents.length kc⟩)
  have OK := hide hr.ok
  have SZ := hide hs
  obtain ⟨np, hnp⟩ : ∃ n, n = o.parts.length := ⟨_, rfl⟩
  obtain ⟨ni, hni⟩ : ∃ n, n = o.items.length := ⟨_, rfl⟩
  obtain ⟨nk, hnk⟩ : ∃ n, n = o.parents.length := ⟨_, rfl⟩
  obtain ⟨nd, hnd⟩ : ∃ n, n = o.data.length := ⟨_, rfl⟩
  rw [← hnp, ← hni, ← hnk] at S0 RR ⊢
  rw [← hnp] at hpl
  rw [← hni] at hil
  rw [← hnk] at hkl
  have cD := S0.out.A.cD
  have HNP := hide hnp
  have HNI := hide hni
  have HNK := hide hnk
  have HND := hide hnd
  clear hr hs hnp hni hnk hnd
  go_enter Tryd.func7, Tryd.ntmps7
  go_wp2_with fail
  refine (spare_any _ vd o.data (RR.out.d.below S0.out.B) SZ.out.d).mono ?_
  rintro e W1 ⟨rfl, hD1, hb1⟩
  rw [← HND.out]
  obtain ⟨gd, hgd⟩ : ∃ g, g = ((w.alloc (.cells (objL o ⟨vd, .slice pa np pc, .slice ia ni ic, .slice ka nk kc⟩).toArray 30)).alloc (.cells objZ 30)).heap.size := ⟨_, rfl⟩
  rw [← hgd] at hD1 ⊢
  have HGD : Hid (w.heap.size + 2 ≤ gd) := hide (by rw [hgd]; exact S0.out.sz)
  have S1 := hide (S0.out.below hb1)
  clear S0 hgd cD hb1
  have D0 := hide (hD1.setOther ⟨w.heap.size, 1, none⟩ (.slice (some ⟨gd, 0, none⟩) nd (nd + 70)) (by have := HGD.out; show gd ≠ w.heap.size; omega))
  have c1 := S1.out.A.cD
  have f1 : W1.frozen? ⟨w.heap.size, 1, none⟩ = false := Blk.frozen S1.out.A 1
  have T0 := hide (S1.out.setD (.slice (some ⟨gd, 0, none⟩) nd (nd + 70)))
  have R0P : Hid (RowR (W1.setCell ⟨w.heap.size, 1, none⟩ (.slice (some ⟨gd, 0, none⟩) nd (nd + 70))) (.slice pa np pc) 33 (o.parts.map partC)) := hide (RR.out.p.below T0.out.B)
  have d2 : (W1.setCell ⟨w.heap.size, 1, none⟩ (.slice (some ⟨gd, 0, none⟩) nd (nd + 70))).cell? ⟨w.heap.size, 2, none⟩ = some (.slice pa np pc) := T0.out.A.cP
  clear hD1
  obtain ⟨mP, hmP⟩ : ∃ m, m = partV markP := ⟨_, rfl⟩
  have BdP : Hid (∀ {op : Oper} {a : Act}, op.op = .build 47 #[(1, .const (.int .u64 92))] → ∀ w, (execOp a.eval op).run Tryd.prog w = .ok (.value mP) w) := hide (fun ho w => by rw [hmP]; exact run_buildP ho w)
  have SlP : Hid (∀ (x y : Operand) {op : Oper} {ev : Operand → Value} {w : World}, op.op = .buildSlice 24 2 #[(0, x), (1, y)] → ev x = mP → ev y = mP → (execOp ev op).run Tryd.prog w = .ok (.value (.slice (some ⟨w.heap.size, 0, none⟩) 2 2)) (w.alloc (.cells (partC markP ++ partC markP).toArray 47))) := hide (fun x y _ _ _ ho hx hy => run_bsP ho (hx.trans hmP) (hy.trans hmP))
  clear hmP
  obtain ⟨mI, hmI⟩ : ∃ m, m = itemV markI := ⟨_, rfl⟩
  have BdI : Hid (∀ {op : Oper} {a : Act}, op.op = .build 50 #[(2, .const (.int .u64 92))] → ∀ w, (execOp a.eval op).run Tryd.prog w = .ok (.value mI) w) := hide (fun ho w => by rw [hmI]; exact run_buildI ho w)
  have SlI : Hid (∀ (x y : Operand) {op : Oper} {ev : Operand → Value} {w : World}, op.op = .buildSlice 25 2 #[(0, x), (1, y)] → ev x = mI → ev y = mI → (execOp ev op).run Tryd.prog w = .ok (.value (.slice (some ⟨w.heap.size, 0, none⟩) 2 2)) (w.alloc (.cells (itemC markI ++ itemC markI).toArray 50))) := hide (fun x y _ _ _ ho hx hy => run_bsI ho (hx.trans hmI) (hy.trans hmI))
  clear hmI
  obtain ⟨mK, hmK⟩ : ∃ m, m = keyV markK := ⟨_, rfl⟩
  have BdK : Hid (∀ {op : Oper} {a : Act}, op.op = .build 27 #[(9, .const (.int .u8 92))] → ∀ w, (execOp a.eval op).run Tryd.prog w = .ok (.value mK) w) := hide (fun ho w => by rw [hmK]; exact run_buildK ho w)
  have SlK : Hid (∀ (x y : Operand) {op : Oper} {ev : Operand → Value} {w : World}, op.op = .buildSlice 28 2 #[(0, x), (1, y)] → ev x = mK → ev y = mK → (execOp ev op).run Tryd.prog w = .ok (.value (.slice (some ⟨w.heap.size, 0, none⟩) 2 2)) (w.alloc (.cells (keyC markK ++ keyC markK).toArray 27))) := hide (fun x y _ _ _ ho hx hy => run_bsK ho (hx.trans hmK) (hy.trans hmK))
  clear hmK
  have LP : Hid (0 + (o.parts.map partC).length ≤ 9223372036854775807) := hide (by rw [Nat.zero_add, List.length_map, ← HNP.out]; exact hpl)
  have LI : Hid (0 + (o.items.map itemC).length ≤ 9223372036854775807) := hide (by rw [Nat.zero_add, List.length_map, ← HNI.out]; exact hil)
  have LK : Hid (0 + (o.parents.map keyC).length ≤ 9223372036854775807) := hide (by rw [Nat.zero_add, List.length_map, ← HNK.out]; exact hkl)
  have BP : Hid ((0 + (o.parts.map partC).length) * 40 ≤ 140737488355328) := hide (by rw [Nat.zero_add, List.length_map]; have := SZ.out.p; omega)
  have BI : Hid ((0 + (o.items.map itemC).length) * 64 ≤ 140737488355328) := hide (by rw [Nat.zero_add, List.length_map]; have := SZ.out.i; omega)
  have BK : Hid ((0 + (o.parents.map keyC).length) * 32 ≤ 140737488355328) := hide (by rw [Nat.zero_add, List.length_map]; have := SZ.out.k; omega)
  have LP2 : Hid (0 + (o.parts.map partC).length + [partC markP, partC markP].length ≤ 9223372036854775807) := hide (by rw [Nat.zero_add, List.length_map]; have := SZ.out.p; show _ + 2 ≤ _; omega)
  have LI2 : Hid (0 + (o.items.map itemC).length + [itemC markI, itemC markI].length ≤ 9223372036854775807) := hide (by rw [Nat.zero_add, List.length_map]; have := SZ.out.i; show _ + 2 ≤ _; omega)
  have LK2 : Hid (0 + (o.parents.map keyC).length + [keyC markK, keyC markK].length ≤ 9223372036854775807) := hide (by rw [Nat.zero_add, List.length_map]; have := SZ.out.k; show _ + 2 ≤ _; omega)
  have BP2 : Hid ((0 + (o.parts.map partC).length + [partC markP, partC markP].length) * 40 ≤ 140737488355328) := hide (by rw [Nat.zero_add, List.length_map]; exact SZ.out.p)
  have BI2 : Hid ((0 + (o.items.map itemC).length + [itemC markI, itemC markI].length) * 64 ≤ 140737488355328) := hide (by rw [Nat.zero_add, List.length_map]; exact SZ.out.i)
  have BK2 : Hid ((0 + (o.parents.map keyC).length + [keyC markK, keyC markK].length) * 32 ≤ 140737488355328) := hide (by rw [Nat.zero_add, List.length_map]; exact SZ.out.k)
  go_wp2_with (first
    | ((with_reducible refine wpList_append_row elemP ?_ (.tmp 10) (.tmp 12) ?_ _ (.slice none 0 0) (.slice pa np pc) 0 [] (o.parts.map partC) ?_ (World.ownsRow_nil _ _ _ _) ?_ R0P.out (partsC_len o OK.out) (partsC_one o) LP.out BP.out (Nat.le_refl _) ?_); rfl; rfl; rfl; rfl; intro v1P X1P O1P G1P E1P)
    | ((with_reducible refine wpList_val mP ?_ (BdP.out ?_ _) ?_); rfl; rfl)
    | ((with_reducible refine wpList_runW (.slice (some ⟨X1P.heap.size, 0, none⟩) 2 2) (X1P.alloc (.cells (partC markP ++ partC markP).toArray 47)) ?_ (SlP.out (.tmp 15) (.tmp 16) ?_ ?_ ?_) ?_); rfl; rfl; rfl; rfl)
    | ((with_reducible refine wpList_append_row elemP ?_ (.tmp 14) (.tmp 17) ?_ _ v1P (.slice (some ⟨X1P.heap.size, 0, none⟩) 2 2) (0 + (o.parts.map partC).length) ([] ++ (o.parts.map partC).flatten) [partC markP, partC markP] ?_ (ownsRow_belowK O1P.out (below_alloc X1P _)) ?_ (row_two (partC_len markP markP_ok)) (two_len (partC_len markP markP_ok)) (two_one (partC_one markP)) LP2.out BP2.out (Nat.le_trans G1P.out.size (below_alloc X1P _).size) ?_); rfl; rfl; rfl; rfl; intro v2P X3P O3P G3P E3P; generalize hGP : wpList _ _ _ _ _ _ = GP))
  have hbP := stage_below G1P.out O1P.out G3P.out
  obtain ⟨gP, capP, evP, hcapP, CRP⟩ := copyRow_own (L := o.parts.map partC) (M := partC markP ++ partC markP) (n := 0) (by have := O3P.out; simpa using this) (by have := LP2.out; simpa using this)
  rw [List.length_map, ← HNP.out] at evP hcapP CRP
  subst evP
  have S3P := hide (T0.out.below hbP)
  have hci : (np : Int) ≤ (capP : Int) := (by omega)
  have g2 := S3P.out.A.cP
  have f2 : X3P.frozen? ⟨w.heap.size, 2, none⟩ = false := Blk.frozen S3P.out.A 2
  have T0P := hide (S3P.out.setP (.slice (some ⟨gP, 0, none⟩) np capP))
  have DP := hide ((D0.out.below hbP D0.out.lt).setOther ⟨w.heap.size, 2, none⟩ (.slice (some ⟨gP, 0, none⟩) np capP) (by have := HGD.out; show gd ≠ w.heap.size; omega))
  have CP := hide ((CRP.mono (by have := T0.out.sz; simpa using this)).set ⟨w.heap.size, 2, none⟩ (.slice (some ⟨gP, 0, none⟩) np capP) (by show w.heap.size < w.heap.size + 2; omega))
  have R0I : Hid (RowR (X3P.setCell ⟨w.heap.size, 2, none⟩ (.slice (some ⟨gP, 0, none⟩) np capP)) (.slice ia ni ic) 35 (o.items.map itemC)) := hide (RR.out.i.below T0P.out.B)
  have d3 : (X3P.setCell ⟨w.heap.size, 2, none⟩ (.slice (some ⟨gP, 0, none⟩) np capP)).cell? ⟨w.heap.size, 3, none⟩ = some (.slice ia ni ic) := T0P.out.A.cI
  clear hbP CRP
  clear BdP SlP O1P G1P O3P G3P E1P E3P LP BP LP2 BP2 R0P c1 f1 d2 S1
  subst hGP
  go_wp2_with (first
    | ((with_reducible refine wpList_append_row elemI ?_ (.tmp 25) (.tmp 27) ?_ _ (.slice none 0 0) (.slice ia ni ic) 0 [] (o.items.map itemC) ?_ (World.ownsRow_nil _ _ _ _) ?_ R0I.out (itemsC_len o OK.out) (itemsC_one o) LI.out BI.out (Nat.le_refl _) ?_); rfl; rfl; rfl; rfl; intro v1I X1I O1I G1I E1I)
    | ((with_reducible refine wpList_val mI ?_ (BdI.out ?_ _) ?_); rfl; rfl)
    | ((with_reducible refine wpList_runW (.slice (some ⟨X1I.heap.size, 0, none⟩) 2 2) (X1I.alloc (.cells (itemC markI ++ itemC markI).toArray 50)) ?_ (SlI.out (.tmp 30) (.tmp 31) ?_ ?_ ?_) ?_); rfl; rfl; rfl; rfl)
    | ((with_reducible refine wpList_append_row elemI ?_ (.tmp 29) (.tmp 32) ?_ _ v1I (.slice (some ⟨X1I.heap.size, 0, none⟩) 2 2) (0 + (o.items.map itemC).length) ([] ++ (o.items.map itemC).flatten) [itemC markI, itemC markI] ?_ (ownsRow_belowK O1I.out (below_alloc X1I _)) ?_ (row_two (itemC_len markI markI_ok)) (two_len (itemC_len markI markI_ok)) (two_one (itemC_one markI)) LI2.out BI2.out (Nat.le_trans G1I.out.size (below_alloc X1I _).size) ?_); rfl; rfl; rfl; rfl; intro v2I X3I O3I G3I E3I; generalize hGI : wpList _ _ _ _ _ _ = GI))
  have hbI := stage_below G1I.out O1I.out G3I.out
  obtain ⟨gI, capI, evI, hcapI, CRI⟩ := copyRow_own (L := o.items.map itemC) (M := itemC markI ++ itemC markI) (n := 0) (by have := O3I.out; simpa using this) (by have := LI2.out; simpa using this)
  rw [List.length_map, ← HNI.out] at evI hcapI CRI
  subst evI
  have S3I := hide (T0P.out.below hbI)
  have hci2 : (ni : Int) ≤ (capI : Int) := (by omega)
  have g3 := S3I.out.A.cI
  have f3 : X3I.frozen? ⟨w.heap.size, 3, none⟩ = false := Blk.frozen S3I.out.A 3
  have T0I := hide (S3I.out.setI (.slice (some ⟨gI, 0, none⟩) ni capI))
  have DI := hide ((DP.out.below hbI DP.out.lt).setOther ⟨w.heap.size, 3, none⟩ (.slice (some ⟨gI, 0, none⟩) ni capI) (by have := HGD.out; show gd ≠ w.heap.size; omega))
  have CP2 := hide ((CP.out.below hbI).set ⟨w.heap.size, 3, none⟩ (.slice (some ⟨gI, 0, none⟩) ni capI) (by show w.heap.size < w.heap.size + 2; omega))
  have CI2 := hide ((CRI.mono (by have := T0P.out.sz; simpa using this)).set ⟨w.heap.size, 3, none⟩ (.slice (some ⟨gI, 0, none⟩) ni capI) (by show w.heap.size < w.heap.size + 2; omega))
  have R0K : Hid (RowR (X3I.setCell ⟨w.heap.size, 3, none⟩ (.slice (some ⟨gI, 0, none⟩) ni capI)) (.slice ka nk kc) 32 (o.parents.map keyC)) := hide (RR.out.k.below T0I.out.B)
  have d4 : (X3I.setCell ⟨w.heap.size, 3, none⟩ (.slice (some ⟨gI, 0, none⟩) ni capI)).cell? ⟨w.heap.size, 36, none⟩ = some (.slice ka nk kc) := T0I.out.A.cK OK.out.t
  clear hbI CRI
  clear BdI SlI O1I G1I O3I G3I E1I E3I LI BI LI2 BI2 R0I g2 f2 hci d3 S3P T0P
  subst hGI
  go_wp2_with (first
    | ((with_reducible refine wpList_append_row elemK ?_ (.tmp 40) (.tmp 42) ?_ _ (.slice none 0 0) (.slice ka nk kc) 0 [] (o.parents.map keyC) ?_ (World.ownsRow_nil _ _ _ _) ?_ R0K.out (keysC_len o OK.out) (keysC_one o) LK.out BK.out (Nat.le_refl _) ?_); rfl; rfl; rfl; rfl; intro v1K X1K O1K G1K E1K)
    | ((with_reducible refine wpList_val mK ?_ (BdK.out ?_ _) ?_); rfl; rfl)
    | ((with_reducible refine wpList_runW (.slice (some ⟨X1K.heap.size, 0, none⟩) 2 2) (X1K.alloc (.cells (keyC markK ++ keyC markK).toArray 27)) ?_ (SlK.out (.tmp 45) (.tmp 46) ?_ ?_ ?_) ?_); rfl; rfl; rfl; rfl)
    | ((with_reducible refine wpList_append_row elemK ?_ (.tmp 44) (.tmp 47) ?_ _ v1K (.slice (some ⟨X1K.heap.size, 0, none⟩) 2 2) (0 + (o.parents.map keyC).length) ([] ++ (o.parents.map keyC).flatten) [keyC markK, keyC markK] ?_ (ownsRow_belowK O1K.out (below_alloc X1K _)) ?_ (row_two (keyC_len markK markK_ok)) (two_len (keyC_len markK markK_ok)) (two_one (keyC_one markK)) LK2.out BK2.out (Nat.le_trans G1K.out.size (below_alloc X1K _).size) ?_); rfl; rfl; rfl; rfl; intro v2K X3K O3K G3K E3K; generalize hGK : wpList _ _ _ _ _ _ = GK))
  have hbK := stage_below G1K.out O1K.out G3K.out
  obtain ⟨gK, capK, evK, hcapK, CRK⟩ := copyRow_own (L := o.parents.map keyC) (M := keyC markK ++ keyC markK) (n := 0) (by have := O3K.out; simpa using this) (by have := LK2.out; simpa using this)
  rw [List.length_map, ← HNK.out] at evK hcapK CRK
  subst evK
  have S3K := hide (T0I.out.below hbK)
  have hci3 : (nk : Int) ≤ (capK : Int) := (by omega)
  have g4 := S3K.out.A.cK OK.out.t
  have f4 : X3K.frozen? ⟨w.heap.size, 36, none⟩ = false := Blk.frozen S3K.out.A 36
  have T0K := hide (S3K.out.setK (.slice (some ⟨gK, 0, none⟩) nk capK) OK.out.t)
  have DK := hide ((DI.out.below hbK DI.out.lt).setOther ⟨w.heap.size, 36, none⟩ (.slice (some ⟨gK, 0, none⟩) nk capK) (by have := HGD.out; show gd ≠ w.heap.size; omega))
  have CP3 := hide ((CP2.out.below hbK).set ⟨w.heap.size, 36, none⟩ (.slice (some ⟨gK, 0, none⟩) nk capK) (by show w.heap.size < w.heap.size + 2; omega))
  have CI3 := hide ((CI2.out.below hbK).set ⟨w.heap.size, 36, none⟩ (.slice (some ⟨gK, 0, none⟩) nk capK) (by show w.heap.size < w.heap.size + 2; omega))
  have CK3 := hide ((CRK.mono (by have := T0I.out.sz; simpa using this)).set ⟨w.heap.size, 36, none⟩ (.slice (some ⟨gK, 0, none⟩) nk capK) (by show w.heap.size < w.heap.size + 2; omega))
  have AK : Hid (Blk (X3K.setCell ⟨w.heap.size, 36, none⟩ (.slice (some ⟨gK, 0, none⟩) nk capK)) w.heap.size (objL o ⟨.slice (some ⟨gd, 0, none⟩) nd (nd + 70), .slice (some ⟨gP, 0, none⟩) np capP, .slice (some ⟨gI, 0, none⟩) ni capI, .slice (some ⟨gK, 0, none⟩) nk capK⟩).toArray 30) := hide T0K.out.A
  have ZK := hide T0K.out.Z
  have OZ : Hid ((objL o ⟨.slice (some ⟨gd, 0, none⟩) nd (nd + 70), .slice (some ⟨gP, 0, none⟩) np capP, .slice (some ⟨gI, 0, none⟩) ni capI, .slice (some ⟨gK, 0, none⟩) nk capK⟩).toArray.size = 39) := hide (objL_size o _ OK.out.t)
  have O1c : Hid ((objL o ⟨.slice (some ⟨gd, 0, none⟩) nd (nd + 70), .slice (some ⟨gP, 0, none⟩) np capP, .slice (some ⟨gI, 0, none⟩) ni capI, .slice (some ⟨gK, 0, none⟩) nk capK⟩).toArray.all (·.oneCell') = true) := hide (all_oneCell_toArray (objL_one o _ ⟨⟨_, _, _, rfl⟩, ⟨_, _, _, rfl⟩, ⟨_, _, _, rfl⟩, ⟨_, _, _, rfl⟩⟩))
  clear hbK CRK
  clear BdK SlK O1K G1K O3K G3K E1K E3K LK BK LK2 BK2 R0K g3 f3 hci2 d4 S3I T0I
  subst hGK
  go_wp2_with (first
    | ((with_reducible refine wpList_load_obj (.tmp 1) w.heap.size (objL o ⟨.slice (some ⟨gd, 0, none⟩) nd (nd + 70), .slice (some ⟨gP, 0, none⟩) np capP, .slice (some ⟨gI, 0, none⟩) ni capI, .slice (some ⟨gK, 0, none⟩) nk capK⟩).toArray AK.out OZ.out ?_ ?_ ?_ ?_); rfl; rfl; rfl)
    | ((with_reducible refine wpList_store_blk ?_ 30 (.tmp 2) (.tmp 55) ?_ (w.heap.size + 1) 39 objZ (objL o ⟨.slice (some ⟨gd, 0, none⟩) nd (nd + 70), .slice (some ⟨gP, 0, none⟩) np capP, .slice (some ⟨gI, 0, none⟩) ni capI, .slice (some ⟨gK, 0, none⟩) nk capK⟩).toArray 30 OZ.out objZ_size ?_ ?_ ZK.out infoObj O1c.out ?_); rfl; rfl; rfl; rfl; intro w9 hk9 hg9))
  refine bodyPost_ret (results_cell rfl _ _ _ rfl _ (loadBlkT hk9 30 _ Tryd.underlying30 rfl 39 infoObj OZ.out)) rfl ?_
  have hz9 : Below (w.heap.size + 2) w9 w9 := Below.refl _ _
  have hne : ∀ g, w.heap.size + 2 ≤ g → some g ≠ some (w.heap.size + 1) := fun g hg e => by have := Option.some.inj e; omega
  refine ⟨⟨.slice (some ⟨gd, 0, none⟩) nd (nd + 70), .slice (some ⟨gP, 0, none⟩) np capP, .slice (some ⟨gI, 0, none⟩) ni capI, .slice (some ⟨gK, 0, none⟩) nk capK⟩, rfl, ⟨⟨gd, by rw [HND.out], by have := HGD.out; omega, DK.out.grown hg9 (hne gd HGD.out)⟩, (CP3.out.grown hg9).mono (by omega), (CI3.out.grown hg9).mono (by omega), (CK3.out.grown hg9).mono (by omega)⟩, T0K.out.B.trans (below_grownBy hg9 (by omega) T0K.out.B.size)⟩
end Go.Proofs.YtjcfndiceinkjaaDoor
