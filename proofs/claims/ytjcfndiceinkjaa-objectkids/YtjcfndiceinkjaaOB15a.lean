/- Kids, both ways. -/
import Derived.Test.YtjcfndiceinkjaaOB14
namespace Go.Proofs.Ytjcfndiceinkjaa
set_option linter.unusedVariables false
set_option linter.unusedSimpArgs false
open Go.RowKit

theorem list32 (k : List UInt8) (h : okK k) : ∃ b0 b1 b2 b3 b4 b5 b6 b7 b8 b9 b10 b11 b12 b13 b14 b15 b16 b17 b18 b19 b20 b21 b22 b23 b24 b25 b26 b27 b28 b29 b30 b31, k = [b0, b1, b2, b3, b4, b5, b6, b7, b8, b9, b10, b11, b12, b13, b14, b15, b16, b17, b18, b19, b20, b21, b22, b23, b24, b25, b26, b27, b28, b29, b30, b31] := by
  match k, h with
  | [b0, b1, b2, b3, b4, b5, b6, b7, b8, b9, b10, b11, b12, b13, b14, b15, b16, b17, b18, b19, b20, b21, b22, b23, b24, b25, b26, b27, b28, b29, b30, b31], _ => exact ⟨_, _, _, _, _, _, _, _, _, _, _, _, _, _, _, _, _, _, _, _, _, _, _, _, _, _, _, _, _, _, _, _, rfl⟩
theorem run_bs1 {op : Oper} {ev : Operand → Value} {x : Operand} {w : World} (k : List UInt8) (hk : okK k) (ho : op.op = .buildSlice 28 1 #[(0, x)]) (hx : ev x = keyV k) : (execOp ev op).run Try.prog w = .ok (.value (.slice (some ⟨w.heap.size, 0, none⟩) 1 1)) (w.alloc (.cells (keyC k).toArray 27)) := by
  simp only [execOp, ho]
  simp only [List.map_toArray, List.map_cons, List.map_nil, hx]
  obtain ⟨b0, b1, b2, b3, b4, b5, b6, b7, b8, b9, b10, b11, b12, b13, b14, b15, b16, b17, b18, b19, b20, b21, b22, b23, b24, b25, b26, b27, b28, b29, b30, b31, rfl⟩ := list32 k hk
  kernel_rfl
theorem wpList_bs1 {ops : Array Oper} {rest : List Oper} {op : Oper} {a : Act} {w : World} {Q : Exit → Act → World → Prop} (x : Operand) (k : List UInt8) (hk : okK k) (hg : Region.wanted op (yielded ops a.tmps) = true) (ho : op.op = .buildSlice 28 1 #[(0, x)]) (hx : a.eval x = keyV k)
    (h : wpList Try.prog ops Q rest (a.put op.dst (.slice (some ⟨w.heap.size, 0, none⟩) 1 1)) (w.alloc (.cells (keyC k).toArray 27))) : wpList Try.prog ops Q (op :: rest) a w :=
  wpList_runW _ _ hg (run_bs1 k hk ho hx) h
theorem row_one {w : World} {c : List Value} {t : TypeId} (hc : c.length = 32) : RowR (w.alloc (.cells c.toArray t)) (.slice (some ⟨w.heap.size, 0, none⟩) 1 1) 32 [c] := by
  have hB : Blk (w.alloc (.cells c.toArray t)) w.heap.size c.toArray t := Blk.made w _ _
  have hr : (w.alloc (.cells c.toArray t)).rangeAt w.heap.size 0 [c].flatten := by
    have := range_blk hB
    simpa using this
  exact ⟨_, 1, rfl, by simp, (fun e => nomatch e), .inr ⟨_, 0, rfl, rangeAt_each 32 [c] 0 (by simp [hc]) hr⟩⟩
def kidsO (o : ObjR) : List (List UInt8) := if o.kind = 2 then o.parts.map (·.1) else if o.kind = 3 then o.items.map (·.2.2.2) else if o.kind = 4 then o.tree :: o.parents else []
theorem kidsO_ok (o : ObjR) (ho : ObjOk o) : ∀ k ∈ kidsO o, okK k := by
  intro k hk
  unfold kidsO at hk
  split at hk
  · obtain ⟨p, hp, rfl⟩ := List.mem_map.1 hk; exact ho.p p hp
  split at hk
  · obtain ⟨p, hp, rfl⟩ := List.mem_map.1 hk; exact ho.i p hp
  split at hk
  · rcases List.mem_cons.1 hk with rfl | hk
    · exact ho.t
    · exact ho.k k hk
  · cases hk
def flatK (L : List (List UInt8)) : List Value := (L.map keyC).flatten
def KidsC (w : World) (o : ObjR) (e : Ending) (w' : World) : Prop := ∃ v', e = .returned v' ∧ w'.ownsRow w.heap.size 27 32 v' (kidsO o).length (flatK (kidsO o)) ∧ Below w.heap.size w w'
theorem flatK_succ (L : List (List UInt8)) (k : Nat) (h : k < L.length) : flatK (L.take (k + 1)) = flatK (L.take k) ++ [keyC L[k]].flatten := by
  unfold flatK
  rw [List.take_succ_eq_append_getElem h, List.map_append, List.flatten_append]
  rfl
theorem ownsRow_base {w : World} {base base' n k : Nat} {v : Value} {xs : List Value} {e : TypeId} (h : w.ownsRow base e k v n xs) (hb : base' ≤ base) : w.ownsRow base' e k v n xs := by
  obtain ⟨h0, h1 | ⟨g, cap, cur, e1, hg, hr⟩⟩ := h
  · exact ⟨h0, .inl h1⟩
  · exact ⟨h0, .inr ⟨g, cap, cur, e1, Nat.le_trans hb hg, hr⟩⟩
def zP : Array Value := (partC (zero32, 0)).toArray
def zI : Array Value := (itemC ([], 0, 0, zero32)).toArray
theorem zero_part (W : World) : (zeroValue 39).run Try.prog W = .ok (.agg zP) W := by kernel_rfl
theorem zero_item (W : World) : (zeroValue 42).run Try.prog W = .ok (.agg zI) W := by kernel_rfl
theorem itemC_key {w : World} {b o : Nat} {i : ItemR} (h : w.rangeAt b o (itemC i)) : w.rangeAt b (o + 3) (keyC i.2.2.2) := by
  have e : itemC i = [.string ⟨i.1.toArray⟩, .int .u8 (i.2.1 : Int), .int .u64 (i.2.2.1 : Int)] ++ keyC i.2.2.2 := rfl
  rw [e] at h
  exact rangeAt_right h
theorem partC_key {w : World} {b o : Nat} {p : PartR} (h : w.rangeAt b o (partC p)) : w.rangeAt b o (keyC p.1) := rangeAt_left h
end Go.Proofs.Ytjcfndiceinkjaa
