/- KeyOf, both ways. -/
import Derived.Test.YtjcfndiceinkjaaDoorZmm
import Derived.Test.YtjcfndiceinkjaaDoorOMm
namespace Go.Proofs.YtjcfndiceinkjaaDoor
set_option linter.unusedVariables false
set_option linter.unusedSimpArgs false
open Go.RowKit

theorem results_cell2 {fn : Func} {p q : Tmp} {ty : TypeId} (h : fn.results = #[.cell p ty, .tmp q]) (tmps : Array Value) (w : World) (a : Addr) (ha : tmps.getD p undef = .pointer (some a)) (v : Value) (hl : (loadVar ty a).run Tryd.prog w = .ok v w) :
    (results fn tmps).run Tryd.prog w = .ok (.tuple #[v, tmps.getD q undef]) w := by
  simp only [results, h]
  have ha' : tmps[p]?.getD undef = .pointer (some a) := by simpa using ha
  simp [Sem.run_bind, Result.andThen, ha', asAddr, hl]
/-- An object's key, or nought. -/
def keyO (o : ObjR) : List UInt8 := if checkO o = 0 then shaOf (layO o) else zero32
theorem keyO_len (o : ObjR) : (keyO o).length = 32 := by
  unfold keyO
  split
  · exact shaOf_len _
  · rfl
def KeyC (w : World) (o : ObjR) (e : Ending) (w' : World) : Prop := e = .returned (.tuple #[keyV (keyO o), .int .i64 (checkO o)]) ∧ Below w.heap.size w w'
theorem keyC_mk {w w' : World} {o : ObjR} {v : Value} {c : Int} (hk : checkO o = c) (hv : v = keyV (keyO o)) (hb : Below w.heap.size w w') : KeyC w o (.returned (.tuple #[v, .int .i64 c])) w' := ⟨by rw [hk, hv], hb⟩
set_option maxRecDepth 20000 in
set_option maxHeartbeats 2000000 in
theorem keyOf_any (w : World) (hT8 : Tabs8 w) (hT : Tabs w) (o : ObjR) (v : ObjV) (hr : ObjRd w o v) (hs : TxtSz o) : Calls Tryd.prog 14 #[.agg (objL o v).toArray] w (KeyC w o) := by
  have AB : Hid (Blk ((w.alloc (.cells (objL o v).toArray 30)).alloc (.cells keyZ 27)) w.heap.size (objL o v).toArray 30) := hide ((Blk.made w _ _).below (below_alloc _ _) (by simp))
  have ZB : Hid (Blk ((w.alloc (.cells (objL o v).toArray 30)).alloc (.cells keyZ 27)) (w.heap.size + 1) keyZ 27) := hide (by have := Blk.made (w.alloc (.cells (objL o v).toArray 30)) keyZ 27; simpa using this)
  have OZ : Hid ((objL o v).toArray.size = 39) := hide (objL_size o v hr.ok.t)
  have HW : Hid (Below w.heap.size w ((w.alloc (.cells (objL o v).toArray 30)).alloc (.cells keyZ 27))) := hide ((below_alloc w _).trans ((below_alloc _ _).mono (by simp)))
  have hzk := zero_key
  have HC := hide (encode_any _ (hT8.below HW.out) o v (hr.below HW.out) hs)
  have HT := hide hT
  clear hr hs hT8 hT
  obtain ⟨W0, hW0⟩ : ∃ W, W = (w.alloc (.cells (objL o v).toArray 30)).alloc (.cells keyZ 27) := ⟨_, rfl⟩
  go_enter Tryd.func14, Tryd.ntmps14
  go_wp2_with (first
    | ((with_reducible refine wpList_load_obj (.tmp 1) w.heap.size (objL o v).toArray AB.out OZ.out ?_ ?_ ?_ ?_); rfl; rfl; rfl))
  rw [← hW0] at HW AB ZB HC ⊢
  refine HC.out.mono ?_
  rintro e W1 ⟨v', rfl, h1, hb1⟩
  have HW1 := hide (HW.out.trans (hb1.mono HW.out.size))
  have ZB1 := hide (ZB.out.below hb1 ZB.out.lt)
  have RD1 : Hid (RdA W1 v' (encO o)) := hide (.inl (Rd_owned h1))
  obtain ⟨ax, cx, rfl⟩ := own_sl h1
  clear h1 hb1 AB ZB HW HC hW0
  have ZS : Hid (keyZ.size = 32) := hide rfl
  by_cases h0 : checkO o = 0
  · have HK := hide h0
    have HE : Hid (encO o = layO o) := hide (by unfold encO; rw [if_pos h0])
    have HKO : Hid (keyO o = shaOf (layO o)) := hide (by unfold keyO; rw [if_pos h0])
    rw [h0, HE.out]
    rw [HE.out] at RD1
    clear h0 HE
    obtain ⟨kb, hkb⟩ : ∃ x, x = shaOf (layO o) := ⟨_, rfl⟩
    have KL : Hid (kb.length = 32) := hide (by rw [hkb]; exact shaOf_len _)
    have KS : Hid ((kb.map u8c).toArray.size = 32) := hide (by simp [KL.out])
    have K1 : Hid ((kb.map u8c).toArray.all (·.oneCell') = true) := hide (all_oneCell_toArray (u8c_one _))
    rw [← hkb] at HKO
    have HKB := hide hkb
    clear hkb
    go_wp2_with fail
    refine (ssum_any W1 (HT.out.below HW1.out) _ (layO o) RD1.out (by have := (lay_le HK.out).1; omega)).mono ?_
    rintro e W2 ⟨rfl, hb2⟩
    rw [← HKB.out]
    have HW2 := hide (HW1.out.trans (hb2.mono HW1.out.size))
    have ZB2 := hide (ZB1.out.below hb2 ZB1.out.lt)
    clear hb2 ZB1 HW1 RD1
    go_wp2_with (first
      | ((with_reducible refine wpList_store_blk ?_ 27 (.tmp 2) (.tmp 16) ?_ (w.heap.size + 1) 32 keyZ (kb.map u8c).toArray 27 KS.out ZS.out ?_ ?_ ZB2.out infoKey K1.out ?_); rfl; rfl; rfl; rfl; intro w9 hk9 hg9))
    refine bodyPost_ret (results_cell2 rfl _ _ _ rfl _ (loadBlkT hk9 27 _ Tryd.underlying27 rfl 32 infoKey KS.out)) rfl ?_
    exact keyC_mk HK.out (by rw [HKO.out]; rfl) (HW2.out.trans (below_grownBy hg9 (by omega) HW2.out.size))
  · have h0b : (checkO o != 0) = true := by simpa using h0
    have HKO : Hid (keyO o = zero32) := hide (by unfold keyO; rw [if_neg h0])
    obtain ⟨z32, hz32⟩ : ∃ n, n = zero32 := ⟨_, rfl⟩
    have Bd0 : Hid (∀ {op : Oper} {a : Act}, op.op = .build 27 #[] → ∀ w, (execOp a.eval op).run Tryd.prog w = .ok (.value (keyV z32)) w) := hide (fun ho w => by rw [hz32]; exact run_build0 ho w)
    have KS : Hid ((z32.map u8c).toArray.size = 32) := hide (by rw [hz32]; rfl)
    have K1 : Hid ((z32.map u8c).toArray.all (·.oneCell') = true) := hide (all_oneCell_toArray (u8c_one _))
    rw [← hz32] at HKO
    clear h0 hz32
    go_wp2_with (first
      | ((with_reducible refine wpList_val (keyV z32) ?_ (Bd0.out ?_ _) ?_); rfl; rfl)
      | ((with_reducible refine wpList_store_blk ?_ 27 (.tmp 2) (.tmp 13) ?_ (w.heap.size + 1) 32 keyZ (z32.map u8c).toArray 27 KS.out ZS.out ?_ ?_ ZB1.out infoKey K1.out ?_); rfl; rfl; rfl; rfl; intro w9 hk9 hg9))
    refine bodyPost_ret (results_cell2 rfl _ _ _ rfl _ (loadBlkT hk9 27 _ Tryd.underlying27 rfl 32 infoKey KS.out)) rfl ?_
    exact keyC_mk rfl (by rw [HKO.out]; rfl) (HW1.out.trans (below_grownBy hg9 (by omega) HW1.out.size))
set_option maxRecDepth 20000 in
set_option maxHeartbeats 2000000 in
theorem rkeyOf_any (w : World) (hT : Tabs w) (o : ObjR) (v : ObjV) (hr : ObjRd w o v) (hs : TxtSz o) (hp : o.parents.length < 9223372036854775807) : Calls Tryd.prog 15 #[.agg (objL o v).toArray] w (KeyC w o) := by
  have AB : Hid (Blk ((w.alloc (.cells (objL o v).toArray 30)).alloc (.cells keyZ 27)) w.heap.size (objL o v).toArray 30) := hide ((Blk.made w _ _).below (below_alloc _ _) (by simp))
  have ZB : Hid (Blk ((w.alloc (.cells (objL o v).toArray 30)).alloc (.cells keyZ 27)) (w.heap.size + 1) keyZ 27) := hide (by have := Blk.made (w.alloc (.cells (objL o v).toArray 30)) keyZ 27; simpa using this)
  have OZ : Hid ((objL o v).toArray.size = 39) := hide (objL_size o v hr.ok.t)
  have HW : Hid (Below w.heap.size w ((w.alloc (.cells (objL o v).toArray 30)).alloc (.cells keyZ 27))) := hide ((below_alloc w _).trans ((below_alloc _ _).mono (by simp)))
  have hzk := zero_key
  have HC := hide (rencode_any _ o v (hr.below HW.out) hs hp)
  have HT := hide hT
  clear hr hs hT hp
  obtain ⟨W0, hW0⟩ : ∃ W, W = (w.alloc (.cells (objL o v).toArray 30)).alloc (.cells keyZ 27) := ⟨_, rfl⟩
  go_enter Tryd.func15, Tryd.ntmps15
  go_wp2_with (first
    | ((with_reducible refine wpList_load_obj (.tmp 1) w.heap.size (objL o v).toArray AB.out OZ.out ?_ ?_ ?_ ?_); rfl; rfl; rfl))
  rw [← hW0] at HW AB ZB HC ⊢
  refine HC.out.mono ?_
  rintro e W1 ⟨v', rfl, h1, hb1⟩
  have HW1 := hide (HW.out.trans (hb1.mono HW.out.size))
  have ZB1 := hide (ZB.out.below hb1 ZB.out.lt)
  have RD1 : Hid (RdA W1 v' (encO o)) := hide (.inl (Rd_owned h1))
  obtain ⟨ax, cx, rfl⟩ := own_sl h1
  clear h1 hb1 AB ZB HW HC hW0
  have ZS : Hid (keyZ.size = 32) := hide rfl
  by_cases h0 : checkO o = 0
  · have HK := hide h0
    have HE : Hid (encO o = layO o) := hide (by unfold encO; rw [if_pos h0])
    have HKO : Hid (keyO o = shaOf (layO o)) := hide (by unfold keyO; rw [if_pos h0])
    rw [h0, HE.out]
    rw [HE.out] at RD1
    clear h0 HE
    obtain ⟨kb, hkb⟩ : ∃ x, x = shaOf (layO o) := ⟨_, rfl⟩
    have KL : Hid (kb.length = 32) := hide (by rw [hkb]; exact shaOf_len _)
    have KS : Hid ((kb.map u8c).toArray.size = 32) := hide (by simp [KL.out])
    have K1 : Hid ((kb.map u8c).toArray.all (·.oneCell') = true) := hide (all_oneCell_toArray (u8c_one _))
    rw [← hkb] at HKO
    have HKB := hide hkb
    clear hkb
    go_wp2_with fail
    refine (rsum_any W1 (HT.out.below HW1.out) _ (layO o) RD1.out (by have := (lay_le HK.out).1; omega)).mono ?_
    rintro e W2 ⟨rfl, hb2⟩
    rw [← HKB.out]
    have HW2 := hide (HW1.out.trans (hb2.mono HW1.out.size))
    have ZB2 := hide (ZB1.out.below hb2 ZB1.out.lt)
    clear hb2 ZB1 HW1 RD1
    go_wp2_with (first
      | ((with_reducible refine wpList_store_blk ?_ 27 (.tmp 2) (.tmp 16) ?_ (w.heap.size + 1) 32 keyZ (kb.map u8c).toArray 27 KS.out ZS.out ?_ ?_ ZB2.out infoKey K1.out ?_); rfl; rfl; rfl; rfl; intro w9 hk9 hg9))
    refine bodyPost_ret (results_cell2 rfl _ _ _ rfl _ (loadBlkT hk9 27 _ Tryd.underlying27 rfl 32 infoKey KS.out)) rfl ?_
    exact keyC_mk HK.out (by rw [HKO.out]; rfl) (HW2.out.trans (below_grownBy hg9 (by omega) HW2.out.size))
  · have h0b : (checkO o != 0) = true := by simpa using h0
    have HKO : Hid (keyO o = zero32) := hide (by unfold keyO; rw [if_neg h0])
    obtain ⟨z32, hz32⟩ : ∃ n, n = zero32 := ⟨_, rfl⟩
    have Bd0 : Hid (∀ {op : Oper} {a : Act}, op.op = .build 27 #[] → ∀ w, (execOp a.eval op).run Tryd.prog w = .ok (.value (keyV z32)) w) := hide (fun ho w => by rw [hz32]; exact run_build0 ho w)
    have KS : Hid ((z32.map u8c).toArray.size = 32) := hide (by rw [hz32]; rfl)
    have K1 : Hid ((z32.map u8c).toArray.all (·.oneCell') = true) := hide (all_oneCell_toArray (u8c_one _))
    rw [← hz32] at HKO
    clear h0 hz32
    go_wp2_with (first
      | ((with_reducible refine wpList_val (keyV z32) ?_ (Bd0.out ?_ _) ?_); rfl; rfl)
      | ((with_reducible refine wpList_store_blk ?_ 27 (.tmp 2) (.tmp 13) ?_ (w.heap.size + 1) 32 keyZ (z32.map u8c).toArray 27 KS.out ZS.out ?_ ?_ ZB1.out infoKey K1.out ?_); rfl; rfl; rfl; rfl; intro w9 hk9 hg9))
    refine bodyPost_ret (results_cell2 rfl _ _ _ rfl _ (loadBlkT hk9 27 _ Tryd.underlying27 rfl 32 infoKey KS.out)) rfl ?_
    exact keyC_mk rfl (by rw [HKO.out]; rfl) (HW1.out.trans (below_grownBy hg9 (by omega) HW1.out.size))
end Go.Proofs.YtjcfndiceinkjaaDoor

/- ObjectEncodes, walked. -/
namespace Go.Proofs.YtjcfndiceinkjaaDoor
set_option linter.unusedVariables false
set_option linter.unusedSimpArgs false
open Go.RowKit

theorem run_conv {op : Oper} {ev : Operand → Value} {x : Operand} {v : Value} {xs : List UInt8} {w : World} (ho : op.op = .convert 23 9 x) (hx : ev x = v) (h : RdA w v xs) : (execOp ev op).run Tryd.prog w = .ok (.value (.string ⟨xs.toArray⟩)) w := by
  simp only [execOp, ho, hx, Sem.run_bind, conv_rdA w v xs h, Result.andThen_ok, Sem.run_pure]
/-- What is kept from call to call. -/
structure EnS (w W : World) (z : Nat) (o : ObjR) (v v' : ObjV) : Prop where
  old : Below w.heap.size w W
  a : Blk W w.heap.size (objL o v).toArray 30
  b : Blk W z (objL o v').toArray 30
  f : Fresh (w.heap.size + 1) W o v'
theorem EnS.below {w W W' : World} {z : Nat} {o : ObjR} {v v' : ObjV} (h : EnS w W z o v v') (hb : Below W.heap.size W W') : EnS w W' z o v v' :=
  ⟨h.old.trans (hb.mono h.old.size), h.a.below hb h.a.lt, h.b.below hb h.b.lt, h.f.below hb⟩
set_option maxRecDepth 20000 in
set_option maxHeartbeats 8000000 in
theorem encodes_law (w : World) (hT8 : Tabs8 w) (hTb : Tabs w) (o : ObjR) (v : ObjV) (hr : ObjRd w o v) (hs : ObjSz o) (ht : TxtSz o) : Calls Tryd.prog 4 #[.agg (objL o v).toArray] w (BoolC w true) := by
  have AB : Hid (Blk (w.alloc (.cells (objL o v).toArray 30)) w.heap.size (objL o v).toArray 30) := hide (Blk.made w _ _)
  have OZ : Hid ((objL o v).toArray.size = 39) := hide (objL_size o v hr.ok.t)
  have HW := hide (below_alloc w (.cells (objL o v).toArray 30))
  have HR := hide hr
  have H8 := hide hT8
  have HTb := hide hTb
  have HS := hide hs
  have HT := hide ht
  have hzo := zero_obj
  have hzk := zero_key
  have HP : Hid (o.parents.length < 9223372036854775807) := hide (by have := hs.k; omega)
  clear hr hT8 hTb hs ht
  obtain ⟨W0, hW0⟩ : ∃ W, W = w.alloc (.cells (objL o v).toArray 30) := ⟨_, rfl⟩
  have HW0 : Hid (W0.heap.size = w.heap.size + 1) := hide (by rw [hW0]; simp)
  go_enter Tryd.func4, Tryd.ntmps4
  go_wp2_with (first
    | ((with_reducible refine wpList_load_obj (.tmp 1) w.heap.size (objL o v).toArray AB.out OZ.out ?_ ?_ ?_ ?_); rfl; rfl; rfl))
  rw [← hW0] at HW AB ⊢
  refine (copied_any W0 o v (HR.out.below HW.out) HS.out).mono ?_
  rintro e W1 ⟨v', rfl, hF1, hb1⟩
  have HW1 := hide (HW.out.trans (hb1.mono HW.out.size))
  have AB1 := hide (AB.out.below hb1 AB.out.lt)
  have HF1 : Hid (Fresh (w.heap.size + 1) W1 o v') := hide (by rw [HW0.out] at hF1; exact hF1)
  have HR1 := hide (hF1.rd HR.out.ok HS.out.d)
  have ZB : Hid (Blk (W1.alloc (.cells objZ 30)) W1.heap.size objZ 30) := hide (Blk.made W1 _ _)
  have OZ1 : Hid ((objL o v').toArray.size = 39) := hide (objL_size o v' HR.out.ok.t)
  have P1 : Hid ((objL o v').toArray.all (·.oneCell') = true) := hide (all_oneCell_toArray (objL_one o v' HR1.out.sl))
  have RDF : Hid (∀ W, Fresh (w.heap.size + 1) W o v' → ObjRd W o v') := hide (fun W h => h.rd HR.out.ok HS.out.d)
  clear hF1 hb1 AB HW hW0
  go_wp2_with (first
    | ((with_reducible refine wpList_store_blk ?_ 30 (.tmp 3) (.tmp 13) ?_ W1.heap.size 39 objZ (objL o v').toArray 30 OZ1.out objZ_size ?_ ?_ ZB.out infoObj P1.out ?_); rfl; rfl; rfl; rfl; intro W2 hk2 hg2; have HK2 := hide hk2; have HB2 : Hid (Below W1.heap.size W1 W2) := (hide ((below_alloc W1 _).trans (below_grownBy hg2 (Nat.le_refl _) (below_alloc W1 _).size))))
    | ((with_reducible refine wpList_load_obj (.tmp 3) W1.heap.size (objL o v').toArray HK2.out OZ1.out ?_ ?_ ?_ ?_); rfl; rfl; rfl))
  obtain ⟨z, hz⟩ : ∃ z, z = W1.heap.size := ⟨_, rfl⟩
  rw [← hz] at HK2 ⊢
  have E2 : Hid (EnS w W2 z o v v') := hide ⟨HW1.out.trans (HB2.out.mono HW1.out.size), AB1.out.below HB2.out AB1.out.lt, HK2.out, HF1.out.below HB2.out⟩
  clear hk2 hg2 HB2 HW1 AB1 HF1 HR1 ZB hz HK2
  refine (encode_any W2 (H8.out.below E2.out.old) o v' (RDF.out _ E2.out.f) HT.out).mono ?_
  rintro e W3 ⟨x1, rfl, o1, hb3⟩
  have E3 := hide (E2.out.below hb3)
  have X3 : Hid (RdA W3 x1 (encO o)) := hide (.inl (Rd_owned o1))
  obtain ⟨ax, cx, rfl⟩ := own_sl o1
  have AB3 := hide E3.out.a
  obtain ⟨ck, hck⟩ : ∃ c, c = checkO o := ⟨_, rfl⟩
  have HCK := hide hck
  rw [← hck]
  clear hck o1 hb3 E2
  go_wp2_with (first
    | ((with_reducible refine wpList_load_obj (.tmp 1) w.heap.size (objL o v).toArray AB3.out OZ.out ?_ ?_ ?_ ?_); rfl; rfl; rfl))
  refine (rencode_any W3 o v (HR.out.below E3.out.old) HT.out HP.out).mono ?_
  rintro e W4 ⟨y1, rfl, o2, hb4⟩
  rw [← HCK.out]
  have E4 := hide (E3.out.below hb4)
  have X4 := hide (X3.out.below hb4)
  have Y4 : Hid (RdA W4 y1 (encO o)) := hide (.inl (Rd_owned o2))
  obtain ⟨ay, cy, rfl⟩ := own_sl o2
  have AB4 := hide E4.out.a
  have BB4 := hide E4.out.b
  obtain ⟨eo, heo⟩ : ∃ x, x = encO o := ⟨_, rfl⟩
  rw [← heo] at X4 Y4 ⊢
  clear heo o2 hb4 E3 X3 AB3
  go_wp2_with (first
    | ((with_reducible refine wpList_val (.string ⟨eo.toArray⟩) ?_ (run_conv (x := .tmp 28) ?_ ?_ X4.out) ?_); exact wanted_yes (j := 3) (b := false) (t := 27) rfl rfl rfl (by decide : (27 : Nat) < 72); rfl; rfl)
    | ((with_reducible refine wpList_val (.string ⟨eo.toArray⟩) ?_ (run_conv (x := .tmp 30) ?_ ?_ Y4.out) ?_); exact wanted_yes (j := 3) (b := false) (t := 27) rfl rfl rfl (by decide : (27 : Nat) < 72); rfl; rfl)
    | ((with_reducible refine wpList_load_obj (.tmp 3) z (objL o v').toArray BB4.out OZ1.out ?_ ?_ ?_ ?_); rfl; rfl; exact wanted_yes (j := 10) (b := false) (t := 34) rfl rfl rfl (by decide : (34 : Nat) < 72))
    | ((with_reducible refine wpList_load_obj (.tmp 1) w.heap.size (objL o v).toArray AB4.out OZ.out ?_ ?_ ?_ ?_); rfl; rfl; exact wanted_yes (j := 10) (b := false) (t := 34) rfl rfl rfl (by decide : (34 : Nat) < 72)))
  refine (rsame_any W4 o o v' v (RDF.out _ E4.out.f) (HR.out.below E4.out.old)).mono ?_
  rintro e W5 ⟨rfl, hb5⟩
  rw [sameO_self]
  have E5 := hide (E4.out.below hb5)
  have BB5 := hide E5.out.b
  clear hb5 E4 X4 Y4 AB4 BB4
  go_wp2_with (first
    | ((with_reducible refine wpList_load_obj (.tmp 3) z (objL o v').toArray BB5.out OZ1.out ?_ ?_ ?_ ?_); rfl; rfl; exact wanted_yes (j := 16) (b := false) (t := 40) rfl rfl rfl (by decide : (40 : Nat) < 72)))
  refine (left_any W5 _ o v' E5.out.f HR.out.ok HS.out).mono ?_
  rintro e W6 ⟨rfl, hb6⟩
  have E6 := hide (E5.out.below hb6)
  have BB6 := hide E6.out.b
  clear hb6 E5 BB5
  go_wp2_with (first
    | ((with_reducible refine wpList_load_obj (.tmp 3) z (objL o v').toArray BB6.out OZ1.out ?_ ?_ ?_ ?_); rfl; rfl; rfl))
  refine (keyOf_any W6 (H8.out.below E6.out.old) (HTb.out.below E6.out.old) o v' (RDF.out _ E6.out.f) HT.out).mono ?_
  rintro e W7 ⟨rfl, hb7⟩
  rw [← HCK.out]
  have E7 := hide (E6.out.below hb7)
  clear hb7 E6 BB6
  obtain ⟨ko, hko⟩ : ∃ x, x = keyO o := ⟨_, rfl⟩
  have HKO := hide hko
  have KL : Hid (ko.length = 32) := hide (by rw [hko]; exact keyO_len o)
  have KS : Hid ((ko.map u8c).toArray.size = 32) := hide (by simp [KL.out])
  have K1 : Hid ((ko.map u8c).toArray.all (·.oneCell') = true) := hide (all_oneCell_toArray (u8c_one _))
  have ZS : Hid (keyZ.size = 32) := hide rfl
  rw [← hko]
  clear hko
  have ZB7 : Hid (Blk (W7.alloc (.cells keyZ 27)) W7.heap.size keyZ 27) := hide (Blk.made W7 _ _)
  go_wp2_with (first
    | ((with_reducible refine wpList_store_blk ?_ 27 (.tmp 8) (.tmp 48) ?_ W7.heap.size 32 keyZ (ko.map u8c).toArray 27 KS.out ZS.out ?_ ?_ ZB7.out infoKey K1.out ?_); rfl; rfl; rfl; rfl; intro W8 hk8 hg8; generalize hG : wpList _ _ _ _ _ _ = G))
  have HB8 : Hid (Below W7.heap.size W7 W8) := hide ((below_alloc W7 _).trans (below_grownBy hg8 (Nat.le_refl _) (below_alloc W7 _).size))
  have E8 := hide (E7.out.below HB8.out)
  have AB8 := hide E8.out.a
  have HK8 := hide hk8
  obtain ⟨q1, hq1⟩ : ∃ z, z = W7.heap.size := ⟨_, rfl⟩
  rw [← hq1] at HK8
  subst hG
  rw [← hq1]
  clear hk8 hg8 HB8 E7 ZB7 hq1
  go_wp2_with (first
    | ((with_reducible refine wpList_load_obj (.tmp 1) w.heap.size (objL o v).toArray AB8.out OZ.out ?_ ?_ ?_ ?_); rfl; rfl; rfl))
  refine (rkeyOf_any W8 (HTb.out.below E8.out.old) o v (HR.out.below E8.out.old) HT.out HP.out).mono ?_
  rintro e W9 ⟨rfl, hb9⟩
  rw [← HCK.out, ← HKO.out]
  have E9 := hide (E8.out.below hb9)
  have HK9 := hide (HK8.out.below hb9 HK8.out.lt)
  clear hb9 E8 HK8 AB8 HCK HKO
  have ZB9 : Hid (Blk (W9.alloc (.cells keyZ 27)) W9.heap.size keyZ 27) := hide (Blk.made W9 _ _)
  go_wp2_with (first
    | ((with_reducible refine wpList_store_blk ?_ 27 (.tmp 10) (.tmp 53) ?_ W9.heap.size 32 keyZ (ko.map u8c).toArray 27 KS.out ZS.out ?_ ?_ ZB9.out infoKey K1.out ?_); rfl; rfl; rfl; rfl; intro W10 hk10 hg10; generalize hG : wpList _ _ _ _ _ _ = G))
  have HB10 : Hid (Below W9.heap.size W9 W10) := hide ((below_alloc W9 _).trans (below_grownBy hg10 (Nat.le_refl _) (below_alloc W9 _).size))
  have E10 := hide (E9.out.below HB10.out)
  have RK1 : Hid (W10.rangeAt q1 0 (ko.map u8c)) := hide (range_blk (cs := (ko.map u8c).toArray) (HK9.out.below HB10.out HK9.out.lt))
  obtain ⟨q2, hq2⟩ : ∃ z, z = W9.heap.size := ⟨_, rfl⟩
  rw [← hq2] at hk10
  have RK2 : Hid (W10.rangeAt q2 0 (ko.map u8c)) := hide (range_blk (cs := (ko.map u8c).toArray) hk10)
  have AB10 := hide E10.out.a
  have BB10 := hide E10.out.b
  have g3 := keysGuard .eql ko ko
  have q3 := keysEql ko ko KL.out KL.out
  rw [decide_eq_true rfl] at q3
  subst hG
  rw [← hq2]
  clear hk10 hg10 HB10 E9 ZB9 hq2 HK9
  go_wp2_with (first
    | ((with_reducible refine wpList_load_keyAt (.tmp 8) q1 0 ko KL.out RK1.out ?_ ?_ ?_ ?_); rfl; rfl; exact wanted_yes (j := 3) (b := true) (t := 58) rfl rfl rfl (by decide : (58 : Nat) < 72))
    | ((with_reducible refine wpList_load_keyAt (.tmp 10) q2 0 ko KL.out RK2.out ?_ ?_ ?_ ?_); rfl; rfl; exact wanted_yes (j := 3) (b := true) (t := 58) rfl rfl rfl (by decide : (58 : Nat) < 72))
    | ((with_reducible refine wpList_load_obj (.tmp 3) z (objL o v').toArray BB10.out OZ1.out ?_ ?_ ?_ ?_); rfl; rfl; exact wanted_yes (j := 8) (b := true) (t := 63) rfl rfl rfl (by decide : (63 : Nat) < 72))
    | ((with_reducible refine wpList_load_obj (.tmp 1) w.heap.size (objL o v).toArray AB10.out OZ.out ?_ ?_ ?_ ?_); rfl; rfl; exact wanted_yes (j := 8) (b := true) (t := 63) rfl rfl rfl (by decide : (63 : Nat) < 72)))
  refine (rsame_any W10 o o v' v (RDF.out _ E10.out.f) (HR.out.below E10.out.old)).mono ?_
  rintro e W11 ⟨rfl, hb11⟩
  rw [sameO_self]
  have E11 := hide (E10.out.below hb11)
  have BB11 := hide E11.out.b
  clear hb11 E10 AB10 BB10 RK1 RK2 g3 q3
  go_wp2_with (first
    | ((with_reducible refine wpList_load_obj (.tmp 3) z (objL o v').toArray BB11.out OZ1.out ?_ ?_ ?_ ?_); rfl; rfl; exact wanted_yes (j := 13) (b := true) (t := 68) rfl rfl rfl (by decide : (68 : Nat) < 72)))
  refine (left_any W11 _ o v' E11.out.f HR.out.ok HS.out).mono ?_
  rintro e W12 ⟨rfl, hb12⟩
  have E12 := hide (E11.out.below hb12)
  clear hb12
  go_wp2
  go_ret
  exact ⟨rfl, E12.out.old⟩
end Go.Proofs.YtjcfndiceinkjaaDoor
