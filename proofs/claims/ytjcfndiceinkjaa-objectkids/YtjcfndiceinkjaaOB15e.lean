/- Kids: kids_n, rkids_n, kids_4, rkids_4. -/
import Derived.Test.YtjcfndiceinkjaaOB15a
namespace Go.Proofs.Ytjcfndiceinkjaa
set_option linter.unusedVariables false
set_option linter.unusedSimpArgs false
open Go.RowKit

set_option maxRecDepth 20000 in
set_option maxHeartbeats 4000000 in
theorem kids_n (w : World) (o : ObjR) (v : ObjV) (hr : ObjRd w o v) (hs : ObjSz o) (hn2 : ¬ o.kind = 2) (hn3 : ¬ o.kind = 3) (hn4 : ¬ o.kind = 4) : Calls Try.prog 7 #[.agg (objL o v).toArray] w (KidsC w o) := by
  have HE : Hid (kidsO o = []) := hide (by unfold kidsO; rw [if_neg hn2, if_neg hn3, if_neg hn4])
  have hA0 : ObjAt (w.alloc (.cells (objL o v).toArray 30)) w.heap.size o v := Blk.made w _ _
  have HA := hide hA0
  have HW := hide (below_alloc w (.cells (objL o v).toArray 30))
  have OKo := hide hr.ok
  have RR := hide hr
  have SZ := hide hs
  have cK := hA0.cKind
  have hb2 : ((o.kind : Int) == 2) = false := by simp; omega
  have hb3 : ((o.kind : Int) == 3) = false := by simp; omega
  have hb4 : ((o.kind : Int) == 4) = false := by simp; omega
  clear hA0 hr hs
  go_enter Try.func7, Try.ntmps7
  go_wp2
  go_ret
  exact ⟨_, rfl, by rw [HE.out]; exact World.ownsRow_nil _ _ _ _, HW.out⟩
set_option maxRecDepth 20000 in
set_option maxHeartbeats 4000000 in
theorem rkids_n (w : World) (o : ObjR) (v : ObjV) (hr : ObjRd w o v) (hs : ObjSz o) (hn2 : ¬ o.kind = 2) (hn3 : ¬ o.kind = 3) (hn4 : ¬ o.kind = 4) : Calls Try.prog 6 #[.agg (objL o v).toArray] w (KidsC w o) := by
  have HE : Hid (kidsO o = []) := hide (by unfold kidsO; rw [if_neg hn2, if_neg hn3, if_neg hn4])
  have hA0 : ObjAt (w.alloc (.cells (objL o v).toArray 30)) w.heap.size o v := Blk.made w _ _
  have HA := hide hA0
  have HW := hide (below_alloc w (.cells (objL o v).toArray 30))
  have OKo := hide hr.ok
  have RR := hide hr
  have SZ := hide hs
  have cK := hA0.cKind
  have hb2 : ((o.kind : Int) == 2) = false := by simp; omega
  have hb3 : ((o.kind : Int) == 3) = false := by simp; omega
  have hb4 : ((o.kind : Int) == 4) = false := by simp; omega
  clear hA0 hr hs
  go_enter Try.func6, Try.ntmps6
  go_wp2
  go_ret
  exact ⟨_, rfl, by rw [HE.out]; exact World.ownsRow_nil _ _ _ _, HW.out⟩
set_option maxRecDepth 20000 in
set_option maxHeartbeats 4000000 in
theorem kids_4 (w : World) (o : ObjR) (v : ObjV) (hr : ObjRd w o v) (hs : ObjSz o) (hkd : o.kind = 4) : Calls Try.prog 7 #[.agg (objL o v).toArray] w (KidsC w o) := by
  have HE : Hid (kidsO o = o.tree :: o.parents) := hide (by unfold kidsO; rw [if_neg (by omega), if_neg (by omega), if_pos hkd])
  have hA0 : ObjAt (w.alloc (.cells (objL o v).toArray 30)) w.heap.size o v := Blk.made w _ _
  have HA := hide hA0
  have HW := hide (below_alloc w (.cells (objL o v).toArray 30))
  have OKo := hide hr.ok
  have RR := hide hr
  have SZ := hide hs
  have cK := hA0.cKind
  have hb2 : ((o.kind : Int) == 2) = false := by simp; omega
  have hb3 : ((o.kind : Int) == 3) = false := by simp; omega
  have hb4 : ((o.kind : Int) == 4) = true := by simp; omega
  have cKs := hA0.cK hr.ok.t
  have OKt : Hid (okK o.tree) := hide hr.ok.t
  have KL := hide (keyC_len _ hr.ok.t)
  have TRE := hide hA0.tree
  have LK : Hid (0 + [keyC o.tree].length ≤ 9223372036854775807) := hide (by show 0 + 1 ≤ _; decide)
  have BK : Hid ((0 + [keyC o.tree].length) * 32 ≤ 140737488355328) := hide (by show (0 + 1) * 32 ≤ _; decide)
  have LP : Hid (0 + [keyC o.tree].length + (o.parents.map keyC).length ≤ 9223372036854775807) := hide (by rw [List.length_map]; have := hs.k; show 0 + 1 + _ ≤ _; omega)
  have BP : Hid ((0 + [keyC o.tree].length + (o.parents.map keyC).length) * 32 ≤ 140737488355328) := hide (by rw [List.length_map]; have := hs.k; show (0 + 1 + _) * 32 ≤ _; omega)
  clear hA0 hr hs hkd
  go_enter Try.func7, Try.ntmps7
  go_wp2_with (first
    | ((with_reducible refine wpList_load_keyAt (.tmp 43) w.heap.size 4 o.tree OKo.out.t TRE.out ?_ ?_ ?_ ?_); rfl; rfl; rfl)
    | ((with_reducible refine wpList_bs1 (.tmp 44) o.tree OKt.out ?_ ?_ ?_ ?_); rfl; rfl; rfl)
    | ((with_reducible refine wpList_append_row elemK ?_ (.tmp 42) (.tmp 45) ?_ (w.heap.size + 1) (.slice none 0 0) (.slice (some ⟨(w.alloc (.cells (objL o v).toArray 30)).heap.size, 0, none⟩) 1 1) 0 [] [keyC o.tree] ?_ (World.ownsRow_nil _ _ _ _) ?_ (row_one KL.out) (by simp [KL.out]) (by simpa using keyC_one o.tree) LK.out BK.out (by simp) ?_); rfl; rfl; rfl; rfl; intro v3 w3 O3 G3 E3; generalize hG : wpList _ _ _ _ _ _ = G))
  have hb3 : Below (w.heap.size + 1) (w.alloc (.cells (objL o v).toArray 30)) w3 := by
    have h1 := below_alloc (w.alloc (.cells (objL o v).toArray 30)) (.cells (keyC o.tree).toArray 27)
    have h2 := h1.trans ((below_none G3.out).mono h1.size)
    rwa [show (w.alloc (.cells (objL o v).toArray 30)).heap.size = w.heap.size + 1 by simp] at h2
  have hb3' : Below (w.alloc (.cells (objL o v).toArray 30)).heap.size (w.alloc (.cells (objL o v).toArray 30)) w3 := by
    rw [show (w.alloc (.cells (objL o v).toArray 30)).heap.size = w.heap.size + 1 by simp]; exact hb3
  have HA3 := hide (HA.out.below hb3')
  have HW3 := hide (HW.out.trans (hb3'.mono HW.out.size))
  have HR3 := hide (RR.out.k.below HW3.out)
  have c3 := HA3.out.cK OKo.out.t
  have HSZ : Hid (w.heap.size + 1 ≤ w3.heap.size) := hide (by have := hb3'.size; simpa using this)
  clear hb3 hb3' HA HW cK cKs G3 E3 TRE
  subst hG
  go_wp2_with (first
    | ((with_reducible refine wpList_append_row elemK ?_ (.tmp 47) (.tmp 49) ?_ (w.heap.size + 1) v3 v.k (0 + [keyC o.tree].length) ([] ++ [keyC o.tree].flatten) (o.parents.map keyC) ?_ O3.out ?_ HR3.out (keysC_len o OKo.out) (keysC_one o) LP.out BP.out HSZ.out ?_); rfl; rfl; rfl; rfl; intro v4 w4 O4 G4 E4))
  go_ret
  refine ⟨_, rfl, ?_, HW3.out.grown G4.out HW3.out.size (fun j hj => by have := ownsRow_ltK O3.out j hj; omega)⟩
  rw [HE.out]
  have := ownsRow_base O4.out (show w.heap.size ≤ w.heap.size + 1 by omega)
  unfold flatK
  simpa [Nat.add_comm] using this
set_option maxRecDepth 20000 in
set_option maxHeartbeats 4000000 in
theorem rkids_4 (w : World) (o : ObjR) (v : ObjV) (hr : ObjRd w o v) (hs : ObjSz o) (hkd : o.kind = 4) : Calls Try.prog 6 #[.agg (objL o v).toArray] w (KidsC w o) := by
  have HE : Hid (kidsO o = o.tree :: o.parents) := hide (by unfold kidsO; rw [if_neg (by omega), if_neg (by omega), if_pos hkd])
  have hA0 : ObjAt (w.alloc (.cells (objL o v).toArray 30)) w.heap.size o v := Blk.made w _ _
  have HA := hide hA0
  have HW := hide (below_alloc w (.cells (objL o v).toArray 30))
  have OKo := hide hr.ok
  have RR := hide hr
  have SZ := hide hs
  have cK := hA0.cKind
  have hb2 : ((o.kind : Int) == 2) = false := by simp; omega
  have hb3 : ((o.kind : Int) == 3) = false := by simp; omega
  have hb4 : ((o.kind : Int) == 4) = true := by simp; omega
  have cKs := hA0.cK hr.ok.t
  have OKt : Hid (okK o.tree) := hide hr.ok.t
  have KL := hide (keyC_len _ hr.ok.t)
  have TRE := hide hA0.tree
  have LK : Hid (0 + [keyC o.tree].length ≤ 9223372036854775807) := hide (by show 0 + 1 ≤ _; decide)
  have BK : Hid ((0 + [keyC o.tree].length) * 32 ≤ 140737488355328) := hide (by show (0 + 1) * 32 ≤ _; decide)
  have LP : Hid (0 + [keyC o.tree].length + (o.parents.map keyC).length ≤ 9223372036854775807) := hide (by rw [List.length_map]; have := hs.k; show 0 + 1 + _ ≤ _; omega)
  have BP : Hid ((0 + [keyC o.tree].length + (o.parents.map keyC).length) * 32 ≤ 140737488355328) := hide (by rw [List.length_map]; have := hs.k; show (0 + 1 + _) * 32 ≤ _; omega)
  clear hA0 hr hs hkd
  go_enter Try.func6, Try.ntmps6
  go_wp2_with (first
    | ((with_reducible refine wpList_load_keyAt (.tmp 47) w.heap.size 4 o.tree OKo.out.t TRE.out ?_ ?_ ?_ ?_); rfl; rfl; rfl)
    | ((with_reducible refine wpList_bs1 (.tmp 48) o.tree OKt.out ?_ ?_ ?_ ?_); rfl; rfl; rfl)
    | ((with_reducible refine wpList_append_row elemK ?_ (.tmp 46) (.tmp 49) ?_ (w.heap.size + 1) (.slice none 0 0) (.slice (some ⟨(w.alloc (.cells (objL o v).toArray 30)).heap.size, 0, none⟩) 1 1) 0 [] [keyC o.tree] ?_ (World.ownsRow_nil _ _ _ _) ?_ (row_one KL.out) (by simp [KL.out]) (by simpa using keyC_one o.tree) LK.out BK.out (by simp) ?_); rfl; rfl; rfl; rfl; intro v3 w3 O3 G3 E3; generalize hG : wpList _ _ _ _ _ _ = G))
  have hb3 : Below (w.heap.size + 1) (w.alloc (.cells (objL o v).toArray 30)) w3 := by
    have h1 := below_alloc (w.alloc (.cells (objL o v).toArray 30)) (.cells (keyC o.tree).toArray 27)
    have h2 := h1.trans ((below_none G3.out).mono h1.size)
    rwa [show (w.alloc (.cells (objL o v).toArray 30)).heap.size = w.heap.size + 1 by simp] at h2
  have hb3' : Below (w.alloc (.cells (objL o v).toArray 30)).heap.size (w.alloc (.cells (objL o v).toArray 30)) w3 := by
    rw [show (w.alloc (.cells (objL o v).toArray 30)).heap.size = w.heap.size + 1 by simp]; exact hb3
  have HA3 := hide (HA.out.below hb3')
  have HW3 := hide (HW.out.trans (hb3'.mono HW.out.size))
  have HR3 := hide (RR.out.k.below HW3.out)
  have c3 := HA3.out.cK OKo.out.t
  have HSZ : Hid (w.heap.size + 1 ≤ w3.heap.size) := hide (by have := hb3'.size; simpa using this)
  clear hb3 hb3' HA HW cK cKs G3 E3 TRE
  subst hG
  go_wp2_with (first
    | ((with_reducible refine wpList_append_row elemK ?_ (.tmp 51) (.tmp 53) ?_ (w.heap.size + 1) v3 v.k (0 + [keyC o.tree].length) ([] ++ [keyC o.tree].flatten) (o.parents.map keyC) ?_ O3.out ?_ HR3.out (keysC_len o OKo.out) (keysC_one o) LP.out BP.out HSZ.out ?_); rfl; rfl; rfl; rfl; intro v4 w4 O4 G4 E4))
  go_ret
  refine ⟨_, rfl, ?_, HW3.out.grown G4.out HW3.out.size (fun j hj => by have := ownsRow_ltK O3.out j hj; omega)⟩
  rw [HE.out]
  have := ownsRow_base O4.out (show w.heap.size ≤ w.heap.size + 1 by omega)
  unfold flatK
  simpa [Nat.add_comm] using this
end Go.Proofs.Ytjcfndiceinkjaa
