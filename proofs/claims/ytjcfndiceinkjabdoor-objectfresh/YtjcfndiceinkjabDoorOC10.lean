/- Why an object may not be, as the program tells it. -/
import Derived.Test.YtjcfndiceinkjabDoorOC9
namespace Go.Proofs.YtjcfndiceinkjabDoor
set_option linter.unusedVariables false
set_option linter.unusedSimpArgs false
open Go.RowKit

def nilV : ObjV := ⟨.slice none 0 0, .slice none 0 0, .slice none 0 0, .slice none 0 0⟩
theorem zero_rd (w : World) : ObjRd w zeroO nilV := ⟨⟨rfl, by simp [zeroO], by simp [zeroO], by simp [zeroO]⟩, rdA_nil w, rowR_nil w 33, rowR_nil w 35, rowR_nil w 32⟩
theorem run_buildO {op : Oper} {a : Act} (ho : op.op = .build 30 #[]) (w : World) : (execOp a.eval op).run Tryd.prog w = .ok (.value (.agg objZ)) w := by
  simp only [execOp, ho]
  kernel_rfl
theorem same_zero (w : World) (a : ObjR) (va : ObjV) (ha : ObjRd w a va) : Calls Tryd.prog 60 #[.agg (objL a va).toArray, .agg objZ] w (BoolC w (sameO a zeroO)) := same_any w a zeroO va nilV ha (zero_rd w)
/-- Numbers are in their ranges. -/
structure TxtSz (o : ObjR) : Prop where
  m : ∀ p ∈ o.items, p.2.1 ≤ 255
  s : ∀ p ∈ o.items, p.2.2.1 ≤ 18446744073709551615
  q : ∀ p ∈ o.parts, p.2 ≤ 18446744073709551615
  k : o.kind ≤ 255
  w : (Lit.int .i64 o.time).wf = true
set_option maxRecDepth 20000 in
set_option maxHeartbeats 4000000 in
theorem wrong_any (w : World) (hT8 : Tabs8 w) (o : ObjR) (v : ObjV) (hr : ObjRd w o v) (hs : TxtSz o) : Calls Tryd.prog 27 #[.agg (objL o v).toArray] w (ErrC w (wrongO o)) := by
  have hA0 : ObjAt (w.alloc (.cells (objL o v).toArray 30)) w.heap.size o v := Blk.made w _ _
  have AB : Hid (Blk (w.alloc (.cells (objL o v).toArray 30)) w.heap.size (objL o v).toArray 30) := hide hA0
  have OZ : Hid ((objL o v).toArray.size = 39) := hide (objL_size o v hr.ok.t)
  have HW := hide (below_alloc w (.cells (objL o v).toArray 30))
  have HR := hide (hr.below (below_alloc w (.cells (objL o v).toArray 30)))
  have H8 := hide (hT8.below (below_alloc w (.cells (objL o v).toArray 30)))
  have HS := hide hs
  have c0 := hA0.cKind
  obtain ⟨kd, hkd⟩ : ∃ n, n = o.kind := ⟨_, rfl⟩
  rw [← hkd] at c0
  have HKD := hide hkd
  have HA := hide hA0
  clear hr hT8 hs hA0 hkd
  by_cases k1 : kd < 1
  · have k1i : (kd : Int) < 1 := by omega
    have HE : Hid (wrongO o = 40) := hide (by unfold wrongO; rw [← HKD.out, if_pos (.inl k1)])
    clear k1
    go_enter Tryd.func27, Tryd.ntmps27
    go_wp2
    go_ret
    exact ⟨by rw [HE.out]; rfl, HW.out⟩
  have k1i : ¬ (kd : Int) < 1 := by omega
  by_cases k4 : 4 < kd
  · have k4i : (4 : Int) < (kd : Int) := by omega
    have HE : Hid (wrongO o = 40) := hide (by unfold wrongO; rw [← HKD.out, if_pos (.inr k4)])
    clear k1 k4
    go_enter Tryd.func27, Tryd.ntmps27
    go_wp2
    go_ret
    exact ⟨by rw [HE.out]; rfl, HW.out⟩
  have k4i : ¬ (4 : Int) < (kd : Int) := by omega
  have HE0 : Hid (wrongO o = if foreignO o = true then 41 else if kd = 2 then wrongListO o.parts else if kd = 3 then wrongTreeO o.items else if kd = 4 then wrongSnapO o.parents o.note else 0) := hide (by unfold wrongO; rw [← HKD.out, if_neg (by omega)])
  clear k1 k4
  obtain ⟨W0, hW0⟩ : ∃ W, W = w.alloc (.cells (objL o v).toArray 30) := ⟨_, rfl⟩
  have BdO : Hid (∀ {op : Oper} {a : Act}, op.op = .build 30 #[] → ∀ w, (execOp a.eval op).run Tryd.prog w = .ok (.value (.agg objZ)) w) := hide (fun ho w => run_buildO ho w)
  go_enter Tryd.func27, Tryd.ntmps27
  go_wp2_with (first
    | ((with_reducible refine wpList_load_obj (.tmp 1) w.heap.size (objL o v).toArray AB.out OZ.out ?_ ?_ ?_ ?_); rfl; rfl; rfl))
  rw [← hW0] at HW HR H8 HA AB c0 ⊢
  refine (others_any W0 o v HR.out).mono ?_
  rintro e W1 ⟨rfl, hb1⟩
  have HR1 := hide (others_rd (HR.out.below hb1))
  have HRR := hide (HR.out.below hb1)
  have H81 := hide (H8.out.below hb1)
  have HW1 := hide (HW.out.trans (hb1.mono HW.out.size))
  have HA1 := hide (HA.out.below hb1)
  clear HR H8 HW HA AB c0 hb1 hW0
  go_wp2_with (first
    | ((with_reducible refine wpList_val (.agg objZ) ?_ (BdO.out ?_ _) ?_); rfl; rfl))
  refine (same_zero W1 (othersO o) (othersV o v) HR1.out).mono ?_
  rintro e W2 ⟨rfl, hb2⟩
  rw [foreign_eq]
  have HR2 := hide (HRR.out.below hb2)
  have H82 := hide (H81.out.below hb2)
  have HW2 := hide (HW1.out.trans (hb2.mono HW1.out.size))
  have hA2 := HA1.out.below hb2
  clear HR1 HRR H81 HW1 HA1 hb2
  cases hF : foreignO o with
  | true =>
    have HE : Hid (wrongO o = 41) := hide (by rw [HE0.out, if_pos hF])
    go_wp2
    go_ret
    exact ⟨by rw [HE.out]; rfl, HW2.out⟩
  | false =>
  have HE1 : Hid (wrongO o = if kd = 2 then wrongListO o.parts else if kd = 3 then wrongTreeO o.items else if kd = 4 then wrongSnapO o.parents o.note else 0) := hide (by rw [HE0.out, if_neg (by rw [hF]; simp)])
  clear HE0 hF
  have c0 : W2.cell? ⟨w.heap.size, 0, none⟩ = some (.int .u8 (kd : Int)) := by rw [HKD.out]; exact hA2.cKind
  have c2 := hA2.cP
  have c3 := hA2.cI
  have c4 := hA2.cK HR2.out.ok.t
  have c5 := hA2.cNote HR2.out.ok.t
  obtain ⟨pa, ca, epa, hla⟩ := HR2.out.p.slice
  obtain ⟨ia, da, eia, hia⟩ := HR2.out.i.slice
  obtain ⟨ka, dk, eka, hka⟩ := HR2.out.k.slice
  rw [List.length_map] at epa eia eka
  have HP := hide epa
  have HI := hide eia
  have HK := hide eka
  rw [epa] at c2
  rw [eia] at c3
  rw [eka] at c4
  clear epa eia eka hla hia hka hA2
  by_cases k2 : kd = 2
  · have b2 : ((kd : Int) == 2) = true := by simp; omega
    have HE : Hid (wrongO o = wrongListO o.parts) := hide (by rw [HE1.out, if_pos k2])
    clear k2
    go_wp2_with fail
    rw [← HP.out]
    refine (wrongList_any W2 v.p o.parts HR2.out.ok.p HR2.out.p).mono ?_
    rintro e W3 ⟨rfl, hb3⟩
    have HW3 := hide (HW2.out.trans (hb3.mono HW2.out.size))
    clear hb3
    go_wp2
    go_ret
    exact ⟨by rw [HE.out]; rfl, HW3.out⟩
  have b2 : ((kd : Int) == 2) = false := by simp; omega
  by_cases k3 : kd = 3
  · have b3 : ((kd : Int) == 3) = true := by simp; omega
    have HE : Hid (wrongO o = wrongTreeO o.items) := hide (by rw [HE1.out, if_neg k2, if_pos k3])
    clear k2 k3
    go_wp2_with fail
    rw [← HI.out]
    refine (wrongTree_any W2 H82.out v.i o.items HR2.out.ok.i HR2.out.i).mono ?_
    rintro e W3 ⟨rfl, hb3⟩
    have HW3 := hide (HW2.out.trans (hb3.mono HW2.out.size))
    clear hb3
    go_wp2
    go_ret
    exact ⟨by rw [HE.out]; rfl, HW3.out⟩
  have b3 : ((kd : Int) == 3) = false := by simp; omega
  by_cases k4 : kd = 4
  · have b4 : ((kd : Int) == 4) = true := by simp; omega
    have HE : Hid (wrongO o = wrongSnapO o.parents o.note) := hide (by rw [HE1.out, if_neg k2, if_neg k3, if_pos k4])
    clear k2 k3 k4
    go_wp2_with fail
    rw [← HK.out]
    refine (wrongSnap_any W2 H82.out v.k o.parents o.note HR2.out.k).mono ?_
    rintro e W3 ⟨rfl, hb3⟩
    have HW3 := hide (HW2.out.trans (hb3.mono HW2.out.size))
    clear hb3
    go_wp2
    go_ret
    exact ⟨by rw [HE.out]; rfl, HW3.out⟩
  have b4 : ((kd : Int) == 4) = false := by simp; omega
  have HE : Hid (wrongO o = 0) := hide (by rw [HE1.out, if_neg k2, if_neg k3, if_neg k4])
  clear k2 k3 k4
  go_wp2
  go_ret
  exact ⟨by rw [HE.out]; rfl, HW2.out⟩
end Go.Proofs.YtjcfndiceinkjabDoor
