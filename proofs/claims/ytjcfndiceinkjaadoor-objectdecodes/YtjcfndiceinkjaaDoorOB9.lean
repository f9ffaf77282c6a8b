/- What Copied is made of. -/
import Derived.Test.YtjcfndiceinkjaaDoorOB8
namespace Go.Proofs.YtjcfndiceinkjaaDoor
set_option linter.unusedVariables false
set_option linter.unusedSimpArgs false
open Go.RowKit

def zero32 : List UInt8 := List.replicate 32 0
def markP : PartR := (zero32, 92)
def markI : ItemR := ([], 0, 92, zero32)
def markK : List UInt8 := List.replicate 9 0 ++ 92 :: List.replicate 22 0
theorem markP_ok : okP markP := rfl
theorem markI_ok : okI markI := rfl
theorem markK_ok : okK markK := rfl
theorem infoP : (Tryd.prog.info? 47).map (fun i => (i.zero, i.size, i.bytes)) = some (some (.agg (partC (zero32, 0)).toArray), 33, 40) := by kernel_rfl
theorem infoI : (Tryd.prog.info? 50).map (fun i => (i.zero, i.size, i.bytes)) = some (some (.agg (itemC ([], 0, 0, zero32)).toArray), 35, 64) := by kernel_rfl
theorem infoK : (Tryd.prog.info? 27).map (fun i => (i.zero, i.size, i.bytes)) = some (some (.agg (keyC zero32).toArray), 32, 32) := by kernel_rfl
theorem elemP : Elem 24 47 33 40 := by
  obtain ⟨i0, h1, h2, h3, h4⟩ := info_parts infoP
  exact ⟨Tryd.underlying24, ⟨i0, _, h1, h2, h3, h4, rfl⟩, by decide⟩
theorem elemI : Elem 25 50 35 64 := by
  obtain ⟨i0, h1, h2, h3, h4⟩ := info_parts infoI
  exact ⟨Tryd.underlying25, ⟨i0, _, h1, h2, h3, h4, rfl⟩, by decide⟩
theorem elemK : Elem 28 27 32 32 := by
  obtain ⟨i0, h1, h2, h3, h4⟩ := info_parts infoK
  exact ⟨Tryd.underlying28, ⟨i0, _, h1, h2, h3, h4, rfl⟩, by decide⟩
theorem run_buildP {op : Oper} {a : Act} (ho : op.op = .build 47 #[(1, .const (.int .u64 92))]) (w : World) : (execOp a.eval op).run Tryd.prog w = .ok (.value (partV markP)) w := by
  simp only [execOp, ho]
  kernel_rfl
theorem run_buildI {op : Oper} {a : Act} (ho : op.op = .build 50 #[(2, .const (.int .u64 92))]) (w : World) : (execOp a.eval op).run Tryd.prog w = .ok (.value (itemV markI)) w := by
  simp only [execOp, ho]
  kernel_rfl
theorem run_buildK {op : Oper} {a : Act} (ho : op.op = .build 27 #[(9, .const (.int .u8 92))]) (w : World) : (execOp a.eval op).run Tryd.prog w = .ok (.value (keyV markK)) w := by
  simp only [execOp, ho]
  kernel_rfl
set_option maxRecDepth 20000 in
theorem run_bsP {op : Oper} {ev : Operand → Value} {x y : Operand} {w : World} (ho : op.op = .buildSlice 24 2 #[(0, x), (1, y)]) (hx : ev x = partV markP) (hy : ev y = partV markP) : (execOp ev op).run Tryd.prog w = .ok (.value (.slice (some ⟨w.heap.size, 0, none⟩) 2 2)) (w.alloc (.cells (partC markP ++ partC markP).toArray 47)) := by
  simp only [execOp, ho]
  simp [hx, hy]
  kernel_rfl
set_option maxRecDepth 20000 in
theorem run_bsI {op : Oper} {ev : Operand → Value} {x y : Operand} {w : World} (ho : op.op = .buildSlice 25 2 #[(0, x), (1, y)]) (hx : ev x = itemV markI) (hy : ev y = itemV markI) : (execOp ev op).run Tryd.prog w = .ok (.value (.slice (some ⟨w.heap.size, 0, none⟩) 2 2)) (w.alloc (.cells (itemC markI ++ itemC markI).toArray 50)) := by
  simp only [execOp, ho]
  simp [hx, hy]
  kernel_rfl
set_option maxRecDepth 20000 in
theorem run_bsK {op : Oper} {ev : Operand → Value} {x y : Operand} {w : World} (ho : op.op = .buildSlice 28 2 #[(0, x), (1, y)]) (hx : ev x = keyV markK) (hy : ev y = keyV markK) : (execOp ev op).run Tryd.prog w = .ok (.value (.slice (some ⟨w.heap.size, 0, none⟩) 2 2)) (w.alloc (.cells (keyC markK ++ keyC markK).toArray 27)) := by
  simp only [execOp, ho]
  simp [hx, hy]
  kernel_rfl
theorem wpList_runW {ops : Array Oper} {rest : List Oper} {op : Oper} {a : Act} {w : World} {Q : Exit → Act → World → Prop} (v : Value) (w' : World) (hg : Region.wanted op (yielded ops a.tmps) = true) (hr : (execOp a.eval op).run Tryd.prog w = .ok (.value v) w') (h : wpList Tryd.prog ops Q rest (a.put op.dst v) w') : wpList Tryd.prog ops Q (op :: rest) a w := by
  unfold wpList
  rw [if_pos hg]
  refine .inl ?_
  unfold Oper.wp
  rw [hr]
  exact h
/-- Two elements side by side in a new block. -/
theorem row_two {w : World} {k : Nat} {c : List Value} {t : TypeId} (hc : c.length = k) : RowR (w.alloc (.cells (c ++ c).toArray t)) (.slice (some ⟨w.heap.size, 0, none⟩) 2 2) k [c, c] := by
  have hB : Blk (w.alloc (.cells (c ++ c).toArray t)) w.heap.size (c ++ c).toArray t := Blk.made w _ _
  have hr : (w.alloc (.cells (c ++ c).toArray t)).rangeAt w.heap.size 0 [c, c].flatten := by
    have := range_blk hB
    simpa using this
  exact ⟨_, 2, rfl, by simp, (fun e => nomatch e), .inr ⟨_, 0, rfl, rangeAt_each k [c, c] 0 (by simp [hc]) hr⟩⟩
def objZ : Array Value := (objL ⟨0, [], [], [], zero32, [], 0, []⟩ ⟨.slice none 0 0, .slice none 0 0, .slice none 0 0, .slice none 0 0⟩).toArray
theorem objZ_size : objZ.size = 39 := rfl
theorem zero_obj (W : World) : (zeroValue 30).run Tryd.prog W = .ok (.agg objZ) W := by kernel_rfl
theorem infoObj : (Tryd.prog.info? 30).map (·.size) = some 39 := by kernel_rfl
theorem objL_size (o : ObjR) (v : ObjV) (ht : o.tree.length = 32) : (objL o v).toArray.size = 39 := by simp [objL, ht]
def isSl (v : Value) : Prop := ∃ a n c, v = .slice a n c
structure ObjV.Sl (v : ObjV) : Prop where
  d : isSl v.d
  p : isSl v.p
  i : isSl v.i
  k : isSl v.k
theorem isSl.one {v : Value} (h : isSl v) : v.oneCell' = true := by obtain ⟨a, n, c, rfl⟩ := h; rfl
theorem objL_one (o : ObjR) (v : ObjV) (h : v.Sl) : ∀ x ∈ objL o v, x.oneCell' = true := by
  intro x hx
  unfold objL at hx
  rcases List.mem_cons.1 hx with rfl | hx
  · rfl
  rcases List.mem_cons.1 hx with rfl | hx
  · exact h.d.one
  rcases List.mem_cons.1 hx with rfl | hx
  · exact h.p.one
  rcases List.mem_cons.1 hx with rfl | hx
  · exact h.i.one
  rcases List.mem_append.1 hx with hx | hx
  · exact u8c_one _ x hx
  rcases List.mem_cons.1 hx with rfl | hx
  · exact h.k.one
  rcases List.mem_cons.1 hx with rfl | hx
  · rfl
  rcases List.mem_cons.1 hx with rfl | hx
  · rfl
  cases hx
theorem ObjRd.sl {w : World} {o : ObjR} {v : ObjV} (h : ObjRd w o v) : v.Sl := by
  obtain ⟨a1, c1, e1, _⟩ := h.d.slice
  obtain ⟨a2, c2, e2, _⟩ := h.p.slice
  obtain ⟨a3, c3, e3, _⟩ := h.i.slice
  obtain ⟨a4, c4, e4, _⟩ := h.k.slice
  exact ⟨⟨_, _, _, e1⟩, ⟨_, _, _, e2⟩, ⟨_, _, _, e3⟩, ⟨_, _, _, e4⟩⟩
theorem objL_setD (o : ObjR) (v : ObjV) (x : Value) : (objL o v).toArray.setIfInBounds 1 x = (objL o { v with d := x }).toArray := by simp [objL]
theorem objL_setP (o : ObjR) (v : ObjV) (x : Value) : (objL o v).toArray.setIfInBounds 2 x = (objL o { v with p := x }).toArray := by simp [objL]
theorem objL_setI (o : ObjR) (v : ObjV) (x : Value) : (objL o v).toArray.setIfInBounds 3 x = (objL o { v with i := x }).toArray := by simp [objL]
theorem objL_setK (o : ObjR) (v : ObjV) (x : Value) (ht : o.tree.length = 32) : (objL o v).toArray.setIfInBounds 36 x = (objL o { v with k := x }).toArray := by
  rw [List.setIfInBounds_toArray]
  unfold objL
  simp only [List.set_cons_succ]
  rw [List.set_append_right _ _ (by simp [ht]), List.length_map, ht]
  rfl
/-- The call's own frame of mind: the boxed object, the answer's place. -/
structure St (w W : World) (o : ObjR) (v : ObjV) : Prop where
  A : ObjAt W w.heap.size o v
  Z : Blk W (w.heap.size + 1) objZ 30
  B : Below w.heap.size w W
  sz : w.heap.size + 2 ≤ W.heap.size
theorem St.made (w : World) (o : ObjR) (v : ObjV) : St w ((w.alloc (.cells (objL o v).toArray 30)).alloc (.cells objZ 30)) o v :=
  ⟨(Blk.made w _ _).alloc _, blk_made1 w _ _ _ _, ((Below.refl _ _).alloc (Nat.le_refl _) _).alloc (by simp) _, by simp⟩
theorem St.below {w W W' : World} {o : ObjR} {v : ObjV} (h : St w W o v) (hb : Below W.heap.size W W') : St w W' o v := ⟨h.A.below hb, h.Z.below hb h.Z.lt, h.B.trans (hb.mono h.B.size), Nat.le_trans h.sz hb.size⟩
theorem St.setD {w W : World} {o : ObjR} {v : ObjV} (h : St w W o v) (x : Value) : St w (W.setCell ⟨w.heap.size, 1, none⟩ x) o { v with d := x } := by
  have hA : Blk W w.heap.size (objL o v).toArray 30 := h.A
  have := hA.set 1 x
  rw [objL_setD] at this
  exact ⟨this, h.Z.setOther _ _ (by show w.heap.size + 1 ≠ w.heap.size; omega), h.B.setCell (p := ⟨w.heap.size, 1, none⟩) (Nat.le_refl _) x, by simpa using h.sz⟩
theorem St.setP {w W : World} {o : ObjR} {v : ObjV} (h : St w W o v) (x : Value) : St w (W.setCell ⟨w.heap.size, 2, none⟩ x) o { v with p := x } := by
  have hA : Blk W w.heap.size (objL o v).toArray 30 := h.A
  have := hA.set 2 x
  rw [objL_setP] at this
  exact ⟨this, h.Z.setOther _ _ (by show w.heap.size + 1 ≠ w.heap.size; omega), h.B.setCell (p := ⟨w.heap.size, 2, none⟩) (Nat.le_refl _) x, by simpa using h.sz⟩
theorem St.setI {w W : World} {o : ObjR} {v : ObjV} (h : St w W o v) (x : Value) : St w (W.setCell ⟨w.heap.size, 3, none⟩ x) o { v with i := x } := by
  have hA : Blk W w.heap.size (objL o v).toArray 30 := h.A
  have := hA.set 3 x
  rw [objL_setI] at this
  exact ⟨this, h.Z.setOther _ _ (by show w.heap.size + 1 ≠ w.heap.size; omega), h.B.setCell (p := ⟨w.heap.size, 3, none⟩) (Nat.le_refl _) x, by simpa using h.sz⟩
theorem St.setK {w W : World} {o : ObjR} {v : ObjV} (h : St w W o v) (x : Value) (ht : o.tree.length = 32) : St w (W.setCell ⟨w.heap.size, 36, none⟩ x) o { v with k := x } := by
  have hA : Blk W w.heap.size (objL o v).toArray 30 := h.A
  have := hA.set 36 x
  rw [objL_setK _ _ _ ht] at this
  exact ⟨this, h.Z.setOther _ _ (by show w.heap.size + 1 ≠ w.heap.size; omega), h.B.setCell (p := ⟨w.heap.size, 36, none⟩) (Nat.le_refl _) x, by simpa using h.sz⟩
theorem rangeAt_set {w : World} {b o : Nat} {l : List Value} (h : w.rangeAt b o l) (a : Addr) (x : Value) (hne : b ≠ a.block) : (w.setCell a x).rangeAt b o l := fun j v hj => by
  have := h j v hj
  rw [← this]
  simp only [World.cell?, heap_setCell_other w a b x hne]
theorem CopyRow.set {B : Nat} {w : World} {v : Value} {k : Nat} {L : List (List Value)} {M : List Value} (h : CopyRow B w v k L M) (a : Addr) (x : Value) (ha : a.block < B) : CopyRow B (w.setCell a x) v k L M := by
  obtain ⟨g, cap, h1, h0, h2, h3, h4⟩ := h
  exact ⟨g, cap, h1, h0, h2, h3, rangeAt_set h4 a x (by omega)⟩
/-- What was made of an object is new memory from B on, and marked behind its lists. -/
structure Fresh (B : Nat) (w : World) (o : ObjR) (v : ObjV) : Prop where
  d : ∃ g, v.d = .slice (some ⟨g, 0, none⟩) o.data.length (o.data.length + 70) ∧ B ≤ g ∧ Blk w g ((spL o.data).map u8c).toArray 5
  p : CopyRow B w v.p 33 (o.parts.map partC) (partC markP ++ partC markP)
  i : CopyRow B w v.i 35 (o.items.map itemC) (itemC markI ++ itemC markI)
  k : CopyRow B w v.k 32 (o.parents.map keyC) (keyC markK ++ keyC markK)
theorem Fresh.below {B : Nat} {w w' : World} {o : ObjR} {v : ObjV} (h : Fresh B w o v) (hb : Below w.heap.size w w') : Fresh B w' o v := by
  obtain ⟨g, h1, h2, h3⟩ := h.d
  exact ⟨⟨g, h1, h2, h3.below hb h3.lt⟩, h.p.below hb, h.i.below hb, h.k.below hb⟩
theorem partsC_len (o : ObjR) (ho : ObjOk o) : ∀ c ∈ o.parts.map partC, c.length = 33 := by
  intro c hc; obtain ⟨p, hp, rfl⟩ := List.mem_map.1 hc; exact partC_len p (ho.p p hp)
theorem itemsC_len (o : ObjR) (ho : ObjOk o) : ∀ c ∈ o.items.map itemC, c.length = 35 := by
  intro c hc; obtain ⟨p, hp, rfl⟩ := List.mem_map.1 hc; exact itemC_len p (ho.i p hp)
theorem keysC_len (o : ObjR) (ho : ObjOk o) : ∀ c ∈ o.parents.map keyC, c.length = 32 := by
  intro c hc; obtain ⟨p, hp, rfl⟩ := List.mem_map.1 hc; exact keyC_len p (ho.k p hp)
theorem Fresh.rd {B : Nat} {w : World} {o : ObjR} {v : ObjV} (h : Fresh B w o v) (ho : ObjOk o) (hl : o.data.length ≤ 140737488353000) : ObjRd w o v := by
  obtain ⟨g, h1, h2, h3⟩ := h.d
  exact ⟨ho, by rw [h1]; exact RdA.spare h3 hl, h.p.row (partsC_len o ho), h.i.row (itemsC_len o ho), h.k.row (keysC_len o ho)⟩
end Go.Proofs.YtjcfndiceinkjaaDoor
