/- An object without its kind and the fields of it; why it may not be, as the program tells it. -/
import Derived.Test.YtjcfndiceinkjabDoorOC6
namespace Go.Proofs.YtjcfndiceinkjabDoor
set_option linter.unusedVariables false
set_option linter.unusedSimpArgs false
open Go.RowKit

theorem list32 (k : List UInt8) (h : okK k) : ∃ b0 b1 b2 b3 b4 b5 b6 b7 b8 b9 b10 b11 b12 b13 b14 b15 b16 b17 b18 b19 b20 b21 b22 b23 b24 b25 b26 b27 b28 b29 b30 b31, k = [b0, b1, b2, b3, b4, b5, b6, b7, b8, b9, b10, b11, b12, b13, b14, b15, b16, b17, b18, b19, b20, b21, b22, b23, b24, b25, b26, b27, b28, b29, b30, b31] := by
  match k, h with
  | [b0, b1, b2, b3, b4, b5, b6, b7, b8, b9, b10, b11, b12, b13, b14, b15, b16, b17, b18, b19, b20, b21, b22, b23, b24, b25, b26, b27, b28, b29, b30, b31], _ => exact ⟨_, _, _, _, _, _, _, _, _, _, _, _, _, _, _, _, _, _, _, _, _, _, _, _, _, _, _, _, _, _, _, _, rfl⟩
/-- An object's lists, but for those of its kind. -/
def othersV (o : ObjR) (v : ObjV) : ObjV :=
  if o.kind = 1 then { v with d := .slice none 0 0 } else if o.kind = 2 then { v with p := .slice none 0 0 } else if o.kind = 3 then { v with i := .slice none 0 0 }
  else if o.kind = 4 then { v with k := .slice none 0 0 } else v
theorem rdA_nil (w : World) : RdA w (.slice none 0 0) [] := .inl (Rd_none w)
theorem rowR_nil (w : World) (k : Nat) : RowR w (.slice none 0 0) k [] := ⟨none, 0, rfl, by simp, fun _ => rfl, .inl rfl⟩
theorem others_rd {w : World} {o : ObjR} {v : ObjV} (h : ObjRd w o v) : ObjRd w (othersO o) (othersV o v) := by
  unfold othersO othersV
  have hn : ∀ {α : Type} {C : α → List Value} (k : Nat), RowR w (.slice none 0 0) k (([] : List α).map C) := fun k => rowR_nil w k
  split
  · exact ⟨⟨h.ok.t, h.ok.p, h.ok.i, h.ok.k⟩, rdA_nil w, h.p, h.i, h.k⟩
  split
  · exact ⟨⟨h.ok.t, by simp, h.ok.i, h.ok.k⟩, h.d, hn 33, h.i, h.k⟩
  split
  · exact ⟨⟨h.ok.t, h.ok.p, by simp, h.ok.k⟩, h.d, h.p, hn 35, h.k⟩
  split
  · exact ⟨⟨rfl, h.ok.p, h.ok.i, by simp⟩, h.d, h.p, h.i, hn 32⟩
  · exact ⟨⟨h.ok.t, h.ok.p, h.ok.i, h.ok.k⟩, h.d, h.p, h.i, h.k⟩
/-- GEN -/
theorem objL_setKind (o : ObjR) (v : ObjV) : (objL o v).toArray.setIfInBounds 0 (.int .u8 0) = (objL { o with kind := 0 } v).toArray := by simp [objL]
theorem St.setKind {w W : World} {o : ObjR} {v : ObjV} (h : St w W o v) : St w (W.setCell ⟨w.heap.size, 0, none⟩ (.int .u8 0)) { o with kind := 0 } v := by
  have hA : Blk W w.heap.size (objL o v).toArray 30 := h.A
  have := hA.set 0 (.int .u8 0)
  rw [objL_setKind] at this
  exact ⟨this, h.Z.setOther _ _ (by show w.heap.size + 1 ≠ w.heap.size; omega), h.B.setCell (p := ⟨w.heap.size, 0, none⟩) (Nat.le_refl _) _, by simpa using h.sz⟩
def OthC (w : World) (o : ObjR) (v : ObjV) (e : Ending) (w' : World) : Prop := e = .returned (.agg (objL (othersO o) (othersV o v)).toArray) ∧ Below w.heap.size w w'
set_option maxRecDepth 20000 in
set_option maxHeartbeats 2000000 in
theorem others_0 (w : World) (o : ObjR) (v : ObjV) (hr : ObjRd w o v) (h1 : o.kind ≠ 1) (h2 : o.kind ≠ 2) (h3 : o.kind ≠ 3) (h4 : o.kind ≠ 4) : Calls Tryd.prog 61 #[.agg (objL o v).toArray] w (OthC w o v) := by
  have hzo := zero_obj
  have hAr := hr.sl
  obtain ⟨arr, harr⟩ : ∃ x, x = (objL o v).toArray := ⟨_, rfl⟩
  have hs : arr.size = 39 := by rw [harr]; exact objL_size o v hr.ok.t
  have a0 : arr[0]? = some (.int .u8 (o.kind : Int)) := by rw [harr]; rfl
  have b1 : ((o.kind : Int) == 1) = false := by simp; omega
  have b2 : ((o.kind : Int) == 2) = false := by simp; omega
  have b3 : ((o.kind : Int) == 3) = false := by simp; omega
  have b4 : ((o.kind : Int) == 4) = false := by simp; omega
  have HE : Hid ((objL (othersO o) (othersV o v)).toArray = arr.setIfInBounds 0 (.int .u8 0)) := hide (by
    unfold othersO othersV; rw [if_neg h1, if_neg h2, if_neg h3, if_neg h4, if_neg h1, if_neg h2, if_neg h3, if_neg h4, harr, objL_setKind])
  have O1c : Hid ((arr.setIfInBounds 0 (.int .u8 0)).all (·.oneCell') = true) := hide (by
    rw [← HE.out]; unfold othersO othersV; rw [if_neg h1, if_neg h2, if_neg h3, if_neg h4, if_neg h1, if_neg h2, if_neg h3, if_neg h4]; exact all_oneCell_toArray (objL_one _ _ ⟨hAr.d, hAr.p, hAr.i, hAr.k⟩))
  have OZ : Hid ((arr.setIfInBounds 0 (.int .u8 0)).size = 39) := hide (by simp [hs])
  have AK : Hid (Blk ((w.alloc (.cells (arr.setIfInBounds 0 (.int .u8 0)) 30)).alloc (.cells objZ 30)) w.heap.size (arr.setIfInBounds 0 (.int .u8 0)) 30) := hide ((Blk.made w _ _).below (below_alloc _ _) (by simp))
  have ZK : Hid (Blk ((w.alloc (.cells (arr.setIfInBounds 0 (.int .u8 0)) 30)).alloc (.cells objZ 30)) (w.heap.size + 1) objZ 30) := hide (by have := Blk.made (w.alloc (.cells (arr.setIfInBounds 0 (.int .u8 0)) 30)) objZ 30; simpa using this)
  have HB : Hid (Below w.heap.size w ((w.alloc (.cells (arr.setIfInBounds 0 (.int .u8 0)) 30)).alloc (.cells objZ 30))) := hide ((below_alloc w _).trans ((below_alloc _ _).mono (by simp)))
  rw [← harr]
  clear hr hAr harr hs 
  go_enter Tryd.func61, Tryd.ntmps61
  go_wp2_with (first
    | ((with_reducible refine wpList_load_obj (.tmp 1) w.heap.size (arr.setIfInBounds 0 (.int .u8 0)) AK.out OZ.out ?_ ?_ ?_ ?_); rfl; rfl; rfl)
    | ((with_reducible refine wpList_store_blk ?_ 30 (.tmp 2) (.tmp 22) ?_ (w.heap.size + 1) 39 objZ (arr.setIfInBounds 0 (.int .u8 0)) 30 OZ.out objZ_size ?_ ?_ ZK.out infoObj O1c.out ?_); rfl; rfl; rfl; rfl; intro w9 hk9 hg9))
  refine bodyPost_ret (results_cell rfl _ _ _ rfl _ (loadBlkT hk9 30 _ Tryd.underlying30 rfl 39 infoObj OZ.out)) rfl ?_
  exact ⟨by rw [HE.out], HB.out.trans (below_grownBy hg9 (by omega) HB.out.size)⟩
set_option maxRecDepth 20000 in
set_option maxHeartbeats 2000000 in
theorem others_1 (w : World) (o : ObjR) (v : ObjV) (hr : ObjRd w o v) (hkd : o.kind = 1) : Calls Tryd.prog 61 #[.agg (objL o v).toArray] w (OthC w o v) := by
  have hzo := zero_obj
  have hAr := hr.sl
  obtain ⟨arr, harr⟩ : ∃ x, x = (objL o v).toArray := ⟨_, rfl⟩
  have hs : arr.size = 39 := by rw [harr]; exact objL_size o v hr.ok.t
  have a0 : arr[0]? = some (.int .u8 (o.kind : Int)) := by rw [harr]; rfl
  have b1 : ((o.kind : Int) == 1) = true := by simp; omega
  obtain ⟨vd, hvd⟩ : ∃ x, x = v.d := ⟨_, rfl⟩
  have a1 : arr[1]? = some vd := by rw [harr, hvd]; rfl
  have HE : Hid ((objL (othersO o) (othersV o v)).toArray = (arr.setIfInBounds 1 (.slice none 0 0)).setIfInBounds 0 (.int .u8 0)) := hide (by
    unfold othersO othersV; rw [if_pos hkd, if_pos hkd, harr, objL_setD, objL_setKind]; rfl)
  have O1c : Hid (((arr.setIfInBounds 1 (.slice none 0 0)).setIfInBounds 0 (.int .u8 0)).all (·.oneCell') = true) := hide (by
    rw [← HE.out]; unfold othersO othersV; rw [if_pos hkd, if_pos hkd]; exact all_oneCell_toArray (objL_one _ _ ⟨⟨_, _, _, rfl⟩, hAr.p, hAr.i, hAr.k⟩))
  have OZ : Hid (((arr.setIfInBounds 1 (.slice none 0 0)).setIfInBounds 0 (.int .u8 0)).size = 39) := hide (by simp [hs])
  have AK : Hid (Blk ((w.alloc (.cells ((arr.setIfInBounds 1 (.slice none 0 0)).setIfInBounds 0 (.int .u8 0)) 30)).alloc (.cells objZ 30)) w.heap.size ((arr.setIfInBounds 1 (.slice none 0 0)).setIfInBounds 0 (.int .u8 0)) 30) := hide ((Blk.made w _ _).below (below_alloc _ _) (by simp))
  have ZK : Hid (Blk ((w.alloc (.cells ((arr.setIfInBounds 1 (.slice none 0 0)).setIfInBounds 0 (.int .u8 0)) 30)).alloc (.cells objZ 30)) (w.heap.size + 1) objZ 30) := hide (by have := Blk.made (w.alloc (.cells ((arr.setIfInBounds 1 (.slice none 0 0)).setIfInBounds 0 (.int .u8 0)) 30)) objZ 30; simpa using this)
  have HB : Hid (Below w.heap.size w ((w.alloc (.cells ((arr.setIfInBounds 1 (.slice none 0 0)).setIfInBounds 0 (.int .u8 0)) 30)).alloc (.cells objZ 30))) := hide ((below_alloc w _).trans ((below_alloc _ _).mono (by simp)))
  rw [← harr]
  clear hr hAr harr hs hvd
  go_enter Tryd.func61, Tryd.ntmps61
  go_wp2_with (first
    | ((with_reducible refine wpList_load_obj (.tmp 1) w.heap.size ((arr.setIfInBounds 1 (.slice none 0 0)).setIfInBounds 0 (.int .u8 0)) AK.out OZ.out ?_ ?_ ?_ ?_); rfl; rfl; rfl)
    | ((with_reducible refine wpList_store_blk ?_ 30 (.tmp 2) (.tmp 22) ?_ (w.heap.size + 1) 39 objZ ((arr.setIfInBounds 1 (.slice none 0 0)).setIfInBounds 0 (.int .u8 0)) 30 OZ.out objZ_size ?_ ?_ ZK.out infoObj O1c.out ?_); rfl; rfl; rfl; rfl; intro w9 hk9 hg9))
  refine bodyPost_ret (results_cell rfl _ _ _ rfl _ (loadBlkT hk9 30 _ Tryd.underlying30 rfl 39 infoObj OZ.out)) rfl ?_
  exact ⟨by rw [HE.out], HB.out.trans (below_grownBy hg9 (by omega) HB.out.size)⟩
set_option maxRecDepth 20000 in
set_option maxHeartbeats 2000000 in
theorem others_2 (w : World) (o : ObjR) (v : ObjV) (hr : ObjRd w o v) (hkd : o.kind = 2) : Calls Tryd.prog 61 #[.agg (objL o v).toArray] w (OthC w o v) := by
  have hzo := zero_obj
  have hAr := hr.sl
  obtain ⟨arr, harr⟩ : ∃ x, x = (objL o v).toArray := ⟨_, rfl⟩
  have hs : arr.size = 39 := by rw [harr]; exact objL_size o v hr.ok.t
  have a0 : arr[0]? = some (.int .u8 (o.kind : Int)) := by rw [harr]; rfl
  have b1 : ((o.kind : Int) == 1) = false := by simp; omega
  have b2 : ((o.kind : Int) == 2) = true := by simp; omega
  obtain ⟨vd, hvd⟩ : ∃ x, x = v.p := ⟨_, rfl⟩
  have a1 : arr[2]? = some vd := by rw [harr, hvd]; rfl
  have HE : Hid ((objL (othersO o) (othersV o v)).toArray = (arr.setIfInBounds 2 (.slice none 0 0)).setIfInBounds 0 (.int .u8 0)) := hide (by
    unfold othersO othersV; rw [if_neg (by omega), if_pos hkd, if_neg (by omega), if_pos hkd, harr, objL_setP, objL_setKind]; rfl)
  have O1c : Hid (((arr.setIfInBounds 2 (.slice none 0 0)).setIfInBounds 0 (.int .u8 0)).all (·.oneCell') = true) := hide (by
    rw [← HE.out]; unfold othersO othersV; rw [if_neg (by omega), if_pos hkd, if_neg (by omega), if_pos hkd]; exact all_oneCell_toArray (objL_one _ _ ⟨hAr.d, ⟨_, _, _, rfl⟩, hAr.i, hAr.k⟩))
  have OZ : Hid (((arr.setIfInBounds 2 (.slice none 0 0)).setIfInBounds 0 (.int .u8 0)).size = 39) := hide (by simp [hs])
  have AK : Hid (Blk ((w.alloc (.cells ((arr.setIfInBounds 2 (.slice none 0 0)).setIfInBounds 0 (.int .u8 0)) 30)).alloc (.cells objZ 30)) w.heap.size ((arr.setIfInBounds 2 (.slice none 0 0)).setIfInBounds 0 (.int .u8 0)) 30) := hide ((Blk.made w _ _).below (below_alloc _ _) (by simp))
  have ZK : Hid (Blk ((w.alloc (.cells ((arr.setIfInBounds 2 (.slice none 0 0)).setIfInBounds 0 (.int .u8 0)) 30)).alloc (.cells objZ 30)) (w.heap.size + 1) objZ 30) := hide (by have := Blk.made (w.alloc (.cells ((arr.setIfInBounds 2 (.slice none 0 0)).setIfInBounds 0 (.int .u8 0)) 30)) objZ 30; simpa using this)
  have HB : Hid (Below w.heap.size w ((w.alloc (.cells ((arr.setIfInBounds 2 (.slice none 0 0)).setIfInBounds 0 (.int .u8 0)) 30)).alloc (.cells objZ 30))) := hide ((below_alloc w _).trans ((below_alloc _ _).mono (by simp)))
  rw [← harr]
  clear hr hAr harr hs hvd
  go_enter Tryd.func61, Tryd.ntmps61
  go_wp2_with (first
    | ((with_reducible refine wpList_load_obj (.tmp 1) w.heap.size ((arr.setIfInBounds 2 (.slice none 0 0)).setIfInBounds 0 (.int .u8 0)) AK.out OZ.out ?_ ?_ ?_ ?_); rfl; rfl; rfl)
    | ((with_reducible refine wpList_store_blk ?_ 30 (.tmp 2) (.tmp 22) ?_ (w.heap.size + 1) 39 objZ ((arr.setIfInBounds 2 (.slice none 0 0)).setIfInBounds 0 (.int .u8 0)) 30 OZ.out objZ_size ?_ ?_ ZK.out infoObj O1c.out ?_); rfl; rfl; rfl; rfl; intro w9 hk9 hg9))
  refine bodyPost_ret (results_cell rfl _ _ _ rfl _ (loadBlkT hk9 30 _ Tryd.underlying30 rfl 39 infoObj OZ.out)) rfl ?_
  exact ⟨by rw [HE.out], HB.out.trans (below_grownBy hg9 (by omega) HB.out.size)⟩
set_option maxRecDepth 20000 in
set_option maxHeartbeats 2000000 in
theorem others_3 (w : World) (o : ObjR) (v : ObjV) (hr : ObjRd w o v) (hkd : o.kind = 3) : Calls Tryd.prog 61 #[.agg (objL o v).toArray] w (OthC w o v) := by
  have hzo := zero_obj
  have hAr := hr.sl
  obtain ⟨arr, harr⟩ : ∃ x, x = (objL o v).toArray := ⟨_, rfl⟩
  have hs : arr.size = 39 := by rw [harr]; exact objL_size o v hr.ok.t
  have a0 : arr[0]? = some (.int .u8 (o.kind : Int)) := by rw [harr]; rfl
  have b1 : ((o.kind : Int) == 1) = false := by simp; omega
  have b2 : ((o.kind : Int) == 2) = false := by simp; omega
  have b3 : ((o.kind : Int) == 3) = true := by simp; omega
  obtain ⟨vd, hvd⟩ : ∃ x, x = v.i := ⟨_, rfl⟩
  have a1 : arr[3]? = some vd := by rw [harr, hvd]; rfl
  have HE : Hid ((objL (othersO o) (othersV o v)).toArray = (arr.setIfInBounds 3 (.slice none 0 0)).setIfInBounds 0 (.int .u8 0)) := hide (by
    unfold othersO othersV; rw [if_neg (by omega), if_neg (by omega), if_pos hkd, if_neg (by omega), if_neg (by omega), if_pos hkd, harr, objL_setI, objL_setKind]; rfl)
  have O1c : Hid (((arr.setIfInBounds 3 (.slice none 0 0)).setIfInBounds 0 (.int .u8 0)).all (·.oneCell') = true) := hide (by
    rw [← HE.out]; unfold othersO othersV; rw [if_neg (by omega), if_neg (by omega), if_pos hkd, if_neg (by omega), if_neg (by omega), if_pos hkd]; exact all_oneCell_toArray (objL_one _ _ ⟨hAr.d, hAr.p, ⟨_, _, _, rfl⟩, hAr.k⟩))
  have OZ : Hid (((arr.setIfInBounds 3 (.slice none 0 0)).setIfInBounds 0 (.int .u8 0)).size = 39) := hide (by simp [hs])
  have AK : Hid (Blk ((w.alloc (.cells ((arr.setIfInBounds 3 (.slice none 0 0)).setIfInBounds 0 (.int .u8 0)) 30)).alloc (.cells objZ 30)) w.heap.size ((arr.setIfInBounds 3 (.slice none 0 0)).setIfInBounds 0 (.int .u8 0)) 30) := hide ((Blk.made w _ _).below (below_alloc _ _) (by simp))
  have ZK : Hid (Blk ((w.alloc (.cells ((arr.setIfInBounds 3 (.slice none 0 0)).setIfInBounds 0 (.int .u8 0)) 30)).alloc (.cells objZ 30)) (w.heap.size + 1) objZ 30) := hide (by have := Blk.made (w.alloc (.cells ((arr.setIfInBounds 3 (.slice none 0 0)).setIfInBounds 0 (.int .u8 0)) 30)) objZ 30; simpa using this)
  have HB : Hid (Below w.heap.size w ((w.alloc (.cells ((arr.setIfInBounds 3 (.slice none 0 0)).setIfInBounds 0 (.int .u8 0)) 30)).alloc (.cells objZ 30))) := hide ((below_alloc w _).trans ((below_alloc _ _).mono (by simp)))
  rw [← harr]
  clear hr hAr harr hs hvd
  go_enter Tryd.func61, Tryd.ntmps61
  go_wp2_with (first
    | ((with_reducible refine wpList_load_obj (.tmp 1) w.heap.size ((arr.setIfInBounds 3 (.slice none 0 0)).setIfInBounds 0 (.int .u8 0)) AK.out OZ.out ?_ ?_ ?_ ?_); rfl; rfl; rfl)
    | ((with_reducible refine wpList_store_blk ?_ 30 (.tmp 2) (.tmp 22) ?_ (w.heap.size + 1) 39 objZ ((arr.setIfInBounds 3 (.slice none 0 0)).setIfInBounds 0 (.int .u8 0)) 30 OZ.out objZ_size ?_ ?_ ZK.out infoObj O1c.out ?_); rfl; rfl; rfl; rfl; intro w9 hk9 hg9))
  refine bodyPost_ret (results_cell rfl _ _ _ rfl _ (loadBlkT hk9 30 _ Tryd.underlying30 rfl 39 infoObj OZ.out)) rfl ?_
  exact ⟨by rw [HE.out], HB.out.trans (below_grownBy hg9 (by omega) HB.out.size)⟩
def setMid (cs : Array Value) : Nat → List Value → Array Value
  | _, [] => cs
  | o, v :: r => setMid (cs.setIfInBounds o v) (o + 1) r
theorem setCells_mid {b : Nat} {t : TypeId} : ∀ (vs : List Value) (o : Nat) (w : World) (cs : Array Value), Blk w b cs t → Blk (w.setCells b o vs) b (setMid cs o vs) t ∧ w.grownBy (w.setCells b o vs) (some b)
  | [], o, w, cs, h => ⟨h, ⟨rfl, rfl, rfl, Nat.le_refl _, fun _ _ _ => rfl⟩⟩
  | v :: r, o, w, cs, h => by
    obtain ⟨h1, h2⟩ := setCells_mid r (o + 1) (w.setCell ⟨b, o, none⟩ v) (cs.setIfInBounds o v) (h.set o v)
    exact ⟨h1, grownBy_trans (grownBy_set w b o v) h2⟩
theorem there_mid {w : World} {b : Nat} {old : Array Value} {t : TypeId} (hk : Blk w b old t) (o n : Nat) (hs : o + n ≤ old.size) : w.there b o n := fun j hj => by
  refine ⟨?_, Blk.frozen hk (o + j)⟩
  rw [hk.cell]
  exact Option.isSome_iff_exists.2 ⟨old[o + j]'(by omega), Array.getElem?_eq_getElem (by omega)⟩
theorem wpList_store_midB {ops : Array Oper} {rest : List Oper} {op : Oper} {a : Act} {w : World} {Q : Exit → Act → World → Prop} (hgd : op.guard = none) (ty : TypeId) (x y : Operand) (ho : op.op = .store ty x y)
    (b o n : Nat) (old cells : Array Value) (t : TypeId) (hs : cells.size = n) (hn : o + n ≤ old.size) (hx : a.eval x = .pointer (some ⟨b, o, none⟩)) (hy : a.eval y = .agg cells) (hk : Blk w b old t) (hi : (Tryd.prog.info? ty).map (·.size) = some n) (h1 : cells.all (·.oneCell') = true)
    (h : ∀ w', Blk w' b (setMid old o cells.toList) t → w.grownBy w' (some b) → wpList Tryd.prog ops Q rest (a.put op.dst undef) w') : wpList Tryd.prog ops Q (op :: rest) a w :=
  wpList_store_mid hgd ty x y ho b o cells hx hy (there_mid hk _ _ (by omega)) (by rw [hs]; exact hi) h1 (h _ (setCells_mid cells.toList o w old hk).1 (setCells_mid cells.toList o w old hk).2)
set_option maxHeartbeats 4000000 in
set_option maxRecDepth 20000 in
theorem objL_setTree (o : ObjR) (v : ObjV) (ht : okK o.tree) (k : List UInt8) (hk : okK k) : setMid (objL o v).toArray 4 (keyC k) = (objL { o with tree := k } v).toArray := by
  obtain ⟨kd, d, p, i, t, ps, tm, nt⟩ := o
  obtain ⟨b0, b1, b2, b3, b4, b5, b6, b7, b8, b9, b10, b11, b12, b13, b14, b15, b16, b17, b18, b19, b20, b21, b22, b23, b24, b25, b26, b27, b28, b29, b30, b31, rfl⟩ := list32 t ht
  obtain ⟨c0, c1, c2, c3, c4, c5, c6, c7, c8, c9, c10, c11, c12, c13, c14, c15, c16, c17, c18, c19, c20, c21, c22, c23, c24, c25, c26, c27, c28, c29, c30, c31, rfl⟩ := list32 k hk
  kernel_rfl
set_option maxRecDepth 20000 in
theorem objL_setTime (o : ObjR) (v : ObjV) (ht : okK o.tree) (n : Int) : (objL o v).toArray.setIfInBounds 37 (.int .i64 n) = (objL { o with time := n } v).toArray := by
  obtain ⟨kd, d, p, i, t, ps, tm, nt⟩ := o
  obtain ⟨b0, b1, b2, b3, b4, b5, b6, b7, b8, b9, b10, b11, b12, b13, b14, b15, b16, b17, b18, b19, b20, b21, b22, b23, b24, b25, b26, b27, b28, b29, b30, b31, rfl⟩ := list32 t ht
  rfl
set_option maxRecDepth 20000 in
theorem objL_setNote (o : ObjR) (v : ObjV) (ht : okK o.tree)   : (objL o v).toArray.setIfInBounds 38 (.string { data := #[] }) = (objL { o with note := [] } v).toArray := by
  obtain ⟨kd, d, p, i, t, ps, tm, nt⟩ := o
  obtain ⟨b0, b1, b2, b3, b4, b5, b6, b7, b8, b9, b10, b11, b12, b13, b14, b15, b16, b17, b18, b19, b20, b21, b22, b23, b24, b25, b26, b27, b28, b29, b30, b31, rfl⟩ := list32 t ht
  rfl
theorem run_build0 {op : Oper} {a : Act} (ho : op.op = .build 27 #[]) (w : World) : (execOp a.eval op).run Tryd.prog w = .ok (.value (keyV zero32)) w := by
  simp only [execOp, ho]
  kernel_rfl
set_option maxRecDepth 20000 in
set_option maxHeartbeats 2000000 in
theorem others_4 (w : World) (o : ObjR) (v : ObjV) (hr : ObjRd w o v) (hkd : o.kind = 4) : Calls Tryd.prog 61 #[.agg (objL o v).toArray] w (OthC w o v) := by
  have hzo := zero_obj
  have SL := hide hr.sl
  have OKt := hide hr.ok.t
  have S0 := hide (St.made w o v)
  have c0 := S0.out.A.cKind
  have AB : Hid (Blk ((w.alloc (.cells (objL o v).toArray 30)).alloc (.cells objZ 30)) w.heap.size (objL o v).toArray 30) := hide S0.out.A
  have OSz : Hid (4 + 32 ≤ (objL o v).toArray.size) := hide (by rw [objL_size o v hr.ok.t]; omega)
  have HE : Hid ((objL (othersO o) (othersV o v)).toArray = (objL ⟨0, [], [], [], zero32, [], 0, []⟩ { v with k := .slice none 0 0 }).toArray) := hide (by
    unfold othersO othersV; rw [if_neg (by omega), if_neg (by omega), if_neg (by omega), if_pos hkd, if_neg (by omega), if_neg (by omega), if_neg (by omega), if_pos hkd]; rfl)
  have b1 : ((o.kind : Int) == 1) = false := by simp; omega
  have b2 : ((o.kind : Int) == 2) = false := by simp; omega
  have b3 : ((o.kind : Int) == 3) = false := by simp; omega
  have b4 : ((o.kind : Int) == 4) = true := by simp; omega
  obtain ⟨z32, hz32⟩ : ∃ n, n = zero32 := ⟨_, rfl⟩
  have Bd0 : Hid (∀ {op : Oper} {a : Act}, op.op = .build 27 #[] → ∀ w, (execOp a.eval op).run Tryd.prog w = .ok (.value (keyV z32)) w) := hide (fun ho w => by rw [hz32]; exact run_build0 ho w)
  have KS : Hid ((keyC z32).toArray.size = 32) := hide (by rw [hz32]; rfl)
  have K1 : Hid ((keyC z32).toArray.all (·.oneCell') = true) := hide (all_oneCell_toArray (keyC_one _))
  have KZ := hide hz32
  clear hr hz32 hkd
  go_enter Tryd.func61, Tryd.ntmps61
  go_wp2_with (first
    | ((with_reducible refine wpList_val (keyV z32) ?_ (Bd0.out ?_ _) ?_); rfl; rfl)
    | ((with_reducible refine wpList_store_midB ?_ 27 (.tmp 17) (.tmp 16) ?_ w.heap.size 4 32 (objL o v).toArray (keyC z32).toArray 30 KS.out OSz.out ?_ ?_ AB.out infoKey K1.out ?_); rfl; rfl; rfl; rfl; intro w1 hk1 hg1; generalize hG : wpList _ _ _ _ _ _ = G))
  rw [objL_setTree o v OKt.out z32 (by rw [KZ.out]; rfl)] at hk1
  have HB1 : Hid (Below w.heap.size w w1) := hide (S0.out.B.trans (below_grownBy hg1 (Nat.le_refl _) S0.out.B.size))
  have ZK1 := S0.out.Z.grown hg1 (fun e => by have := Option.some.inj e; omega)
  have OK1 : okK ({ o with tree := z32 } : ObjR).tree := by rw [KZ.out]; rfl
  have hk2 := hk1.set 36 (.slice none 0 0)
  rw [objL_setK _ _ _ OK1] at hk2
  have hk3 := hk2.set 37 (.int .i64 0)
  rw [objL_setTime _ _ OK1] at hk3
  have hk4 := hk3.set 38 (.string { data := #[] })
  rw [objL_setNote { o with tree := z32, time := 0 } _ OK1] at hk4
  have hk5 := hk4.set 0 (.int .u8 0)
  rw [objL_setKind] at hk5
  obtain ⟨vk, hvk⟩ : ∃ x, x = v.k := ⟨_, rfl⟩
  have d1 : w1.cell? ⟨w.heap.size, 36, none⟩ = some vk := by rw [hvk]; exact ObjAt.cK (o := { o with tree := z32 }) hk1 OK1
  have e1 : w1.frozen? ⟨w.heap.size, 36, none⟩ = false := Blk.frozen hk1 36
  have d2 : (w1.setCell ⟨w.heap.size, 36, none⟩ (.slice none 0 0)).cell? ⟨w.heap.size, 37, none⟩ = some (.int .i64 o.time) := ObjAt.cTime (o := { o with tree := z32 }) (v := { v with k := .slice none 0 0 }) hk2 OK1
  have e2 : (w1.setCell ⟨w.heap.size, 36, none⟩ (.slice none 0 0)).frozen? ⟨w.heap.size, 37, none⟩ = false := Blk.frozen hk2 37
  have d3 : ((w1.setCell ⟨w.heap.size, 36, none⟩ (.slice none 0 0)).setCell ⟨w.heap.size, 37, none⟩ (.int .i64 0)).cell? ⟨w.heap.size, 38, none⟩ = some (.string ⟨o.note.toArray⟩) := ObjAt.cNote (o := { o with tree := z32, time := 0 }) (v := { v with k := .slice none 0 0 }) hk3 OK1
  have e3 : ((w1.setCell ⟨w.heap.size, 36, none⟩ (.slice none 0 0)).setCell ⟨w.heap.size, 37, none⟩ (.int .i64 0)).frozen? ⟨w.heap.size, 38, none⟩ = false := Blk.frozen hk3 38
  have d4 : (((w1.setCell ⟨w.heap.size, 36, none⟩ (.slice none 0 0)).setCell ⟨w.heap.size, 37, none⟩ (.int .i64 0)).setCell ⟨w.heap.size, 38, none⟩ (.string { data := #[] })).cell? ⟨w.heap.size, 0, none⟩ = some (.int .u8 (o.kind : Int)) := ObjAt.cKind (o := { o with tree := z32, time := 0, note := [] }) (v := { v with k := .slice none 0 0 }) hk4
  have e4 : (((w1.setCell ⟨w.heap.size, 36, none⟩ (.slice none 0 0)).setCell ⟨w.heap.size, 37, none⟩ (.int .i64 0)).setCell ⟨w.heap.size, 38, none⟩ (.string { data := #[] })).frozen? ⟨w.heap.size, 0, none⟩ = false := Blk.frozen hk4 0
  obtain ⟨arr, harr⟩ : ∃ x, x = (objL (othersO o) (othersV o v)).toArray := ⟨_, rfl⟩
  have AK : Hid (Blk ((((w1.setCell ⟨w.heap.size, 36, none⟩ (.slice none 0 0)).setCell ⟨w.heap.size, 37, none⟩ (.int .i64 0)).setCell ⟨w.heap.size, 38, none⟩ (.string { data := #[] })).setCell ⟨w.heap.size, 0, none⟩ (.int .u8 0)) w.heap.size arr 30) := hide (by rw [harr, HE.out, ← KZ.out]; exact hk5)
  have OZ : Hid (arr.size = 39) := hide (by rw [harr, HE.out]; rfl)
  have O1c : Hid (arr.all (·.oneCell') = true) := hide (by rw [harr, HE.out]; exact all_oneCell_toArray (objL_one _ _ ⟨SL.out.d, SL.out.p, SL.out.i, ⟨_, _, _, rfl⟩⟩))
  have ZK : Hid (Blk ((((w1.setCell ⟨w.heap.size, 36, none⟩ (.slice none 0 0)).setCell ⟨w.heap.size, 37, none⟩ (.int .i64 0)).setCell ⟨w.heap.size, 38, none⟩ (.string { data := #[] })).setCell ⟨w.heap.size, 0, none⟩ (.int .u8 0)) (w.heap.size + 1) objZ 30) :=
    hide ((((ZK1.setOther _ _ (by show w.heap.size + 1 ≠ w.heap.size; omega)).setOther _ _ (by show w.heap.size + 1 ≠ w.heap.size; omega)).setOther _ _ (by show w.heap.size + 1 ≠ w.heap.size; omega)).setOther _ _ (by show w.heap.size + 1 ≠ w.heap.size; omega))
  have HB : Hid (Below w.heap.size w ((((w1.setCell ⟨w.heap.size, 36, none⟩ (.slice none 0 0)).setCell ⟨w.heap.size, 37, none⟩ (.int .i64 0)).setCell ⟨w.heap.size, 38, none⟩ (.string { data := #[] })).setCell ⟨w.heap.size, 0, none⟩ (.int .u8 0))) :=
    hide ((((HB1.out.setCell (p := ⟨w.heap.size, 36, none⟩) (Nat.le_refl _) _).setCell (p := ⟨w.heap.size, 37, none⟩) (Nat.le_refl _) _).setCell (p := ⟨w.heap.size, 38, none⟩) (Nat.le_refl _) _).setCell (p := ⟨w.heap.size, 0, none⟩) (Nat.le_refl _) _)
  have HARR := hide harr
  clear hk1 hk2 hk3 hk4 hk5 ZK1 hg1 HB1 harr hvk S0 AB c0 OK1
  subst hG
  go_wp2_with (first
    | ((with_reducible refine wpList_load_obj (.tmp 1) w.heap.size arr AK.out OZ.out ?_ ?_ ?_ ?_); rfl; rfl; rfl)
    | ((with_reducible refine wpList_store_blk ?_ 30 (.tmp 2) (.tmp 22) ?_ (w.heap.size + 1) 39 objZ arr 30 OZ.out objZ_size ?_ ?_ ZK.out infoObj O1c.out ?_); rfl; rfl; rfl; rfl; intro w9 hk9 hg9))
  refine bodyPost_ret (results_cell rfl _ _ _ rfl _ (loadBlkT hk9 30 _ Tryd.underlying30 rfl 39 infoObj OZ.out)) rfl ?_
  exact ⟨by rw [HARR.out], HB.out.trans (below_grownBy hg9 (by omega) HB.out.size)⟩
theorem others_any (w : World) (o : ObjR) (v : ObjV) (hr : ObjRd w o v) : Calls Tryd.prog 61 #[.agg (objL o v).toArray] w (OthC w o v) := by
  by_cases h1 : o.kind = 1
  · exact others_1 w o v hr h1
  by_cases h2 : o.kind = 2
  · exact others_2 w o v hr h2
  by_cases h3 : o.kind = 3
  · exact others_3 w o v hr h3
  by_cases h4 : o.kind = 4
  · exact others_4 w o v hr h4
  exact others_0 w o v hr h1 h2 h3 h4
end Go.Proofs.YtjcfndiceinkjabDoor
