/- ObjectChecks, walked. -/
import Derived.Test.YtjcfndiceinkjaaDoorOL7
import Derived.Test.YtjcfndiceinkjaaDoorOM1
namespace Go.Proofs.YtjcfndiceinkjaaDoor
set_option linter.unusedVariables false
set_option linter.unusedSimpArgs false
open Go.RowKit

set_option maxRecDepth 20000 in
set_option maxHeartbeats 4000000 in
theorem checks_law (w : World) (hT8 : Tabs8 w) (o : ObjR) (v : ObjV) (hr : ObjRd w o v) (hs : ObjSz o) (ht : TxtSz o) : Calls Tryd.prog 3 #[.agg (objL o v).toArray] w (BoolC w true) := by
  have AB : Hid (Blk (w.alloc (.cells (objL o v).toArray 30)) w.heap.size (objL o v).toArray 30) := hide (Blk.made w _ _)
  have OZ : Hid ((objL o v).toArray.size = 39) := hide (objL_size o v hr.ok.t)
  have HW := hide (below_alloc w (.cells (objL o v).toArray 30))
  have HR := hide hr
  have H8 := hide hT8
  have HS := hide hs
  have HT := hide ht
  have hzo := zero_obj
  have HP : Hid (o.parents.length < 9223372036854775807) := hide (by have := hs.k; omega)
  clear hr hT8 hs ht
  obtain ⟨W0, hW0⟩ : ∃ W, W = w.alloc (.cells (objL o v).toArray 30) := ⟨_, rfl⟩
  go_enter Tryd.func3, Tryd.ntmps3
  go_wp2_with (first
    | ((with_reducible refine wpList_load_obj (.tmp 1) w.heap.size (objL o v).toArray AB.out OZ.out ?_ ?_ ?_ ?_); rfl; rfl; rfl))
  rw [← hW0] at HW AB ⊢
  refine (copied_any W0 o v (HR.out.below HW.out) HS.out).mono ?_
  rintro e W1 ⟨v', rfl, hF1, hb1⟩
  have HW1 := hide (HW.out.trans (hb1.mono HW.out.size))
  have AB1 := hide (AB.out.below hb1 AB.out.lt)
  have HF1 := hide hF1
  have HR1 := hide (hF1.rd HR.out.ok HS.out.d)
  have ZB : Hid (Blk (W1.alloc (.cells objZ 30)) W1.heap.size objZ 30) := hide (Blk.made W1 _ _)
  have OZ1 : Hid ((objL o v').toArray.size = 39) := hide (objL_size o v' HR.out.ok.t)
  have P1 : Hid ((objL o v').toArray.all (·.oneCell') = true) := hide (all_oneCell_toArray (objL_one o v' HR1.out.sl))
  clear hF1 hb1 AB HW hW0
  go_wp2_with (first
    | ((with_reducible refine wpList_store_blk ?_ 30 (.tmp 3) (.tmp 6) ?_ W1.heap.size 39 objZ (objL o v').toArray 30 OZ1.out objZ_size ?_ ?_ ZB.out infoObj P1.out ?_); rfl; rfl; rfl; rfl; intro W2 hk2 hg2; have HK2 := hide hk2; have HB2 : Hid (Below W1.heap.size W1 W2) := (hide ((below_alloc W1 _).trans (below_grownBy hg2 (Nat.le_refl _) (below_alloc W1 _).size))))
    | ((with_reducible refine wpList_load_obj (.tmp 3) W1.heap.size (objL o v').toArray HK2.out OZ1.out ?_ ?_ ?_ ?_); rfl; rfl; rfl))
  have HW2 := hide (HW1.out.trans (HB2.out.mono HW1.out.size))
  have AB2 := hide (AB1.out.below HB2.out AB1.out.lt)
  have HF2 := hide (HF1.out.below HB2.out)
  have HR2 := hide (HR1.out.below HB2.out)
  obtain ⟨z, hz⟩ : ∃ z, z = W1.heap.size := ⟨_, rfl⟩
  rw [← hz] at HK2 ⊢
  clear hk2 hg2 HB2 HW1 AB1 HF1 HR1 ZB hz
  refine (check_any W2 (H8.out.below HW2.out) o v' HR2.out HT.out).mono ?_
  rintro e W3 ⟨rfl, hb3⟩
  have HW3 := hide (HW2.out.trans (hb3.mono HW2.out.size))
  have AB3 := hide (AB2.out.below hb3 AB2.out.lt)
  have HK3 := hide (HK2.out.below hb3 HK2.out.lt)
  have HF3 := hide (HF2.out.below hb3)
  have HR3 := hide (HR2.out.below hb3)
  clear hb3 HW2 AB2 HK2 HF2 HR2
  obtain ⟨ck, hck⟩ : ∃ c, c = checkO o := ⟨_, rfl⟩
  have HCK := hide hck
  rw [← hck]
  clear hck
  go_wp2_with (first
    | ((with_reducible refine wpList_load_obj (.tmp 1) w.heap.size (objL o v).toArray AB3.out OZ.out ?_ ?_ ?_ ?_); rfl; rfl; rfl))
  refine (rcheck_any W3 o v (HR.out.below HW3.out) HT.out HP.out).mono ?_
  rintro e W4 ⟨rfl, hb4⟩
  have HW4 := hide (HW3.out.trans (hb4.mono HW3.out.size))
  have AB4 := hide (AB3.out.below hb4 AB3.out.lt)
  have HK4 := hide (HK3.out.below hb4 HK3.out.lt)
  have HF4 := hide (HF3.out.below hb4)
  have HR4 := hide (HR3.out.below hb4)
  rw [← HCK.out]
  clear hb4 HW3 AB3 HK3 HF3 HR3 HCK
  have hcc : (ck == ck) = true := by simp
  have HG1 : Hid (Value.bool (ck == ck) = Value.bool true) := hide (by rw [hcc])
  go_wp2_with (first
    | ((with_reducible refine wpList_load_obj (.tmp 3) z (objL o v').toArray HK4.out OZ1.out ?_ ?_ ?_ ?_); rfl; rfl; exact wanted_yes (j := 4) (b := true) (t := 13) rfl rfl (by first | rfl | exact HG1.out) (by decide : (13 : Nat) < 22))
    | ((with_reducible refine wpList_load_obj (.tmp 1) w.heap.size (objL o v).toArray AB4.out OZ.out ?_ ?_ ?_ ?_); rfl; rfl; exact wanted_yes (j := 4) (b := true) (t := 13) rfl rfl (by first | rfl | exact HG1.out) (by decide : (13 : Nat) < 22)))
  refine (rsame_any W4 o o v' v HR4.out (HR.out.below HW4.out)).mono ?_
  rintro e W5 ⟨rfl, hb5⟩
  rw [sameO_self]
  have HW5 := hide (HW4.out.trans (hb5.mono HW4.out.size))
  have HK5 := hide (HK4.out.below hb5 HK4.out.lt)
  have HF5 := hide (HF4.out.below hb5)
  clear hb5 HW4 AB4 HK4 HF4 HR4
  go_wp2_with (first
    | ((with_reducible refine wpList_load_obj (.tmp 3) z (objL o v').toArray HK5.out OZ1.out ?_ ?_ ?_ ?_); rfl; rfl; exact wanted_yes (j := 9) (b := true) (t := 18) rfl rfl (by first | rfl | exact HG1.out) (by decide : (18 : Nat) < 22)))
  refine (left_any W5 _ o v' HF5.out HR.out.ok HS.out).mono ?_
  rintro e W6 ⟨rfl, hb6⟩
  have HW6 := hide (HW5.out.trans (hb6.mono HW5.out.size))
  clear hb6
  go_wp2
  go_ret
  exact ⟨rfl, HW6.out⟩
end Go.Proofs.YtjcfndiceinkjaaDoor
