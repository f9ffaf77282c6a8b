/- KeyOf, both ways. -/
import Derived.Test.YtjcfndiceinkjabDoorZmm
namespace Go.Proofs.YtjcfndiceinkjabDoor
set_option linter.unusedVariables false
set_option linter.unusedSimpArgs false
open Go.RowKit

theorem results_cell2 {fn : Func} {p q : Tmp} {ty : TypeId} (h : fn.results = #[.cell p ty, .tmp q]) (tmps : Array Value) (w : World) (a : Addr) (ha : tmps.getD p undef = .pointer (some a)) (v : Value) (hl : (loadVar ty a).run Tryd.prog w = .ok v w) :
    (results fn tmps).run Tryd.prog w = .ok (.tuple #[v, tmps.getD q undef]) w := by
  simp only [results, h]
  have ha' : tmps[p]?.getD undef = .pointer (some a) := by simpa using ha
  simp [Sem.run_bind, Result.andThen, ha', asAddr, hl]
/-- An object's key, or nought. -/
def keyO (o : ObjR) : List UInt8 := if checkO o = 0 then shaOf (layO o) else zero32
theorem keyO_len (o : ObjR) : (keyO o).length = 32 := by
  unfold keyO
  split
  · exact shaOf_len _
  · rfl
def KeyC (w : World) (o : ObjR) (e : Ending) (w' : World) : Prop := e = .returned (.tuple #[keyV (keyO o), .int .i64 (checkO o)]) ∧ Below w.heap.size w w'
theorem keyC_mk {w w' : World} {o : ObjR} {v : Value} {c : Int} (hk : checkO o = c) (hv : v = keyV (keyO o)) (hb : Below w.heap.size w w') : KeyC w o (.returned (.tuple #[v, .int .i64 c])) w' := ⟨by rw [hk, hv], hb⟩
set_option maxRecDepth 20000 in
set_option maxHeartbeats 2000000 in
theorem keyOf_any (w : World) (hT8 : Tabs8 w) (hT : Tabs w) (o : ObjR) (v : ObjV) (hr : ObjRd w o v) (hs : TxtSz o) : Calls Tryd.prog 12 #[.agg (objL o v).toArray] w (KeyC w o) := by
  have AB : Hid (Blk ((w.alloc (.cells (objL o v).toArray 30)).alloc (.cells keyZ 27)) w.heap.size (objL o v).toArray 30) := hide ((Blk.made w _ _).below (below_alloc _ _) (by simp))
  have ZB : Hid (Blk ((w.alloc (.cells (objL o v).toArray 30)).alloc (.cells keyZ 27)) (w.heap.size + 1) keyZ 27) := hide (by have := Blk.made (w.alloc (.cells (objL o v).toArray 30)) keyZ 27; simpa using this)
  have OZ : Hid ((objL o v).toArray.size = 39) := hide (objL_size o v hr.ok.t)
  have HW : Hid (Below w.heap.size w ((w.alloc (.cells (objL o v).toArray 30)).alloc (.cells keyZ 27))) := hide ((below_alloc w _).trans ((below_alloc _ _).mono (by simp)))
  have hzk := zero_key
  have HC := hide (encode_any _ (hT8.below HW.out) o v (hr.below HW.out) hs)
  have HT := hide hT
  clear hr hs hT8 hT
  obtain ⟨W0, hW0⟩ : ∃ W, W = (w.alloc (.cells (objL o v).toArray 30)).alloc (.cells keyZ 27) := ⟨_, rfl⟩
  go_enter Tryd.func12, Tryd.ntmps12
  go_wp2_with (first
    | ((with_reducible refine wpList_load_obj (.tmp 1) w.heap.size (objL o v).toArray AB.out OZ.out ?_ ?_ ?_ ?_); rfl; rfl; rfl))
  rw [← hW0] at HW AB ZB HC ⊢
  refine HC.out.mono ?_
  rintro e W1 ⟨v', rfl, h1, hb1⟩
  have HW1 := hide (HW.out.trans (hb1.mono HW.out.size))
  have ZB1 := hide (ZB.out.below hb1 ZB.out.lt)
  have RD1 : Hid (RdA W1 v' (encO o)) := hide (.inl (Rd_owned h1))
  obtain ⟨ax, cx, rfl⟩ := own_sl h1
  clear h1 hb1 AB ZB HW HC hW0
  have ZS : Hid (keyZ.size = 32) := hide rfl
  by_cases h0 : checkO o = 0
  · have HK := hide h0
    have HE : Hid (encO o = layO o) := hide (by unfold encO; rw [if_pos h0])
    have HKO : Hid (keyO o = shaOf (layO o)) := hide (by unfold keyO; rw [if_pos h0])
    rw [h0, HE.out]
    rw [HE.out] at RD1
    clear h0 HE
    obtain ⟨kb, hkb⟩ : ∃ x, x = shaOf (layO o) := ⟨_, rfl⟩
    have KL : Hid (kb.length = 32) := hide (by rw [hkb]; exact shaOf_len _)
    have KS : Hid ((kb.map u8c).toArray.size = 32) := hide (by simp [KL.out])
    have K1 : Hid ((kb.map u8c).toArray.all (·.oneCell') = true) := hide (all_oneCell_toArray (u8c_one _))
    rw [← hkb] at HKO
    have HKB := hide hkb
    clear hkb
    go_wp2_with fail
    refine (ssum_any W1 (HT.out.below HW1.out) _ (layO o) RD1.out (by have := (lay_le HK.out).1; omega)).mono ?_
    rintro e W2 ⟨rfl, hb2⟩
    rw [← HKB.out]
    have HW2 := hide (HW1.out.trans (hb2.mono HW1.out.size))
    have ZB2 := hide (ZB1.out.below hb2 ZB1.out.lt)
    clear hb2 ZB1 HW1 RD1
    go_wp2_with (first
      | ((with_reducible refine wpList_store_blk ?_ 27 (.tmp 2) (.tmp 16) ?_ (w.heap.size + 1) 32 keyZ (kb.map u8c).toArray 27 KS.out ZS.out ?_ ?_ ZB2.out infoKey K1.out ?_); rfl; rfl; rfl; rfl; intro w9 hk9 hg9))
    refine bodyPost_ret (results_cell2 rfl _ _ _ rfl _ (loadBlkT hk9 27 _ Tryd.underlying27 rfl 32 infoKey KS.out)) rfl ?_
    exact keyC_mk HK.out (by rw [HKO.out]; rfl) (HW2.out.trans (below_grownBy hg9 (by omega) HW2.out.size))
  · have h0b : (checkO o != 0) = true := by simpa using h0
    have HKO : Hid (keyO o = zero32) := hide (by unfold keyO; rw [if_neg h0])
    obtain ⟨z32, hz32⟩ : ∃ n, n = zero32 := ⟨_, rfl⟩
    have Bd0 : Hid (∀ {op : Oper} {a : Act}, op.op = .build 27 #[] → ∀ w, (execOp a.eval op).run Tryd.prog w = .ok (.value (keyV z32)) w) := hide (fun ho w => by rw [hz32]; exact run_build0 ho w)
    have KS : Hid ((z32.map u8c).toArray.size = 32) := hide (by rw [hz32]; rfl)
    have K1 : Hid ((z32.map u8c).toArray.all (·.oneCell') = true) := hide (all_oneCell_toArray (u8c_one _))
    rw [← hz32] at HKO
    clear h0 hz32
    go_wp2_with (first
      | ((with_reducible refine wpList_val (keyV z32) ?_ (Bd0.out ?_ _) ?_); rfl; rfl)
      | ((with_reducible refine wpList_store_blk ?_ 27 (.tmp 2) (.tmp 13) ?_ (w.heap.size + 1) 32 keyZ (z32.map u8c).toArray 27 KS.out ZS.out ?_ ?_ ZB1.out infoKey K1.out ?_); rfl; rfl; rfl; rfl; intro w9 hk9 hg9))
    refine bodyPost_ret (results_cell2 rfl _ _ _ rfl _ (loadBlkT hk9 27 _ Tryd.underlying27 rfl 32 infoKey KS.out)) rfl ?_
    exact keyC_mk rfl (by rw [HKO.out]; rfl) (HW1.out.trans (below_grownBy hg9 (by omega) HW1.out.size))
end Go.Proofs.YtjcfndiceinkjabDoor
