/- Decode: an unknown kind, and too many bytes. -/
import Derived.Test.YtjcfndiceinkjabDoorYom
namespace Go.Proofs.YtjcfndiceinkjabDoor
set_option linter.unusedVariables false
set_option linter.unusedSimpArgs false
set_option maxRecDepth 100000
open Go.RowKit

theorem isnil_f (w : World) : (binOp BinOp.eql 61 .nilFunc .nilFunc).run Tryd.prog w = .ok (.bool true) w := by kernel_rfl

set_option maxHeartbeats 8000000 in
theorem decode_0 (w : World) (hT8 : Tabs8 w) (b : Value) (bs : List UInt8) (hb : Rd w b bs) (hl : bs.length ≤ 8192) (hk0 : (mByte bs sZ0).1 < 1 ∨ 4 < (mByte bs sZ0).1) : Calls Tryd.prog 7 #[b] w (DecC w bs) := by
  have hzo := zero_obj
  obtain ⟨W0, hW0⟩ : ∃ W, W = w.alloc (.cells objZ 30) := ⟨_, rfl⟩
  have A0 : Hid (Blk W0 w.heap.size objZ 30) := hide (by rw [hW0]; exact Blk.made w _ _)
  have HW0 : Hid (Below w.heap.size w W0) := hide (by rw [hW0]; exact below_alloc w _)
  have S0 : Hid (W0.heap.size = w.heap.size + 1) := hide (by rw [hW0]; simp)
  have HB := hide hb
  have H8 := hide hT8
  obtain ⟨n, hn⟩ : ∃ n, n = bs.length := ⟨_, rfl⟩
  have hnl : ¬ (8192 : Int) < (n : Int) := by omega
  have HL := hide hl
  have BdO : Hid (∀ {op : Oper} {a : Act}, op.op = .build 30 #[] → ∀ w, (execOp a.eval op).run Tryd.prog w = .ok (.value (.agg objZ)) w) := hide (fun ho w => run_buildO ho w)
  have O1z : Hid (objZ.all (·.oneCell') = true) := hide (all_oneCell_toArray (objL_one _ _ ⟨⟨_, _, _, rfl⟩, ⟨_, _, _, rfl⟩, ⟨_, _, _, rfl⟩, ⟨_, _, _, rfl⟩⟩))
  obtain ⟨ao, c, rfl, _⟩ := hb
  rw [← hn]
  have HN := hide hn
  rw [← hn] at hl
  clear hT8 hn hl
  go_enter Tryd.func7, Tryd.ntmps7
  go_wp2_with fail
  rw [← hW0]
  clear hW0
  rw [HN.out]
  refine (open_any W0 _ bs (HB.out.below HW0.out) (by have := HL.out; omega)).mono ?_
  rintro e W1 ⟨rfl, hd1, hb1, hs1⟩
  rw [← HN.out]
  obtain ⟨z, hz⟩ : ∃ z, z = W0.heap.size + 1 := ⟨_, rfl⟩
  rw [← hz] at hd1 ⊢
  have HZ : Hid (z = w.heap.size + 2) := hide (by rw [hz, S0.out])
  have HS1 : Hid (W1.heap.size = w.heap.size + 3) := hide (by rw [hs1, S0.out])
  have DZ := hide hd1
  have A1 := hide (A0.out.below hb1 A0.out.lt)
  have HW1 := hide (HW0.out.trans (hb1.mono HW0.out.size))
  obtain ⟨sv, hsv⟩ : ∃ x : Value, x = .slice (some ⟨W0.heap.size, 0, none⟩) bs.length bs.length := ⟨_, rfl⟩
  have SVB : Hid (∀ b, sv = .slice (some ⟨b, 0, none⟩) bs.length bs.length → b = w.heap.size + 1) := hide (fun b e => by rw [hsv] at e; cases e; exact S0.out)
  rw [← hsv] at DZ
  clear hd1 hb1 hs1 hz hsv HW0 A0
  go_wp2_with fail
  refine (take_kind W1 z sv bs sZ0 DZ.out).mono ?_
  rintro e W2 ⟨rfl, h1, h2⟩
  have HM : Hid (IntKind.u8.wrap (leNat ((mNext bs sZ0 (mPlace sZ0) 1).1.getD []) : Nat) = ((mByte bs sZ0).1 : Int)) := hide (by have := mByte_lt bs sZ0; unfold mByte at this ⊢; rw [IntKind.wrap_u8]; omega)
  rw [HM.out]
  have h1' : DecSt W2 z sv bs (mByte bs sZ0).2 := h1
  have HDO : Hid (decO bs = (49, zeroO)) := hide (by unfold decO; rw [if_neg (by have := HL.out; omega), if_pos hk0])
  have HK0' := hk0
  clear hk0
  obtain ⟨k, hk⟩ : ∃ r, r = mByte bs sZ0 := ⟨_, rfl⟩
  rw [← hk] at h1' HK0' ⊢
  clear hk HM h1
  obtain ⟨kd, s1⟩ := k
  have HK0 : Hid (kd < 1 ∨ 4 < kd) := hide HK0'
  clear HK0'
  have A2 := hide (A1.out.grown h2 (fun e => by have := Option.some.inj e; have := HZ.out; omega))
  have HW2 : Hid (Below w.heap.size w W2) := hide (HW1.out.trans (below_grownBy h2 (by have := HZ.out; omega) (by have := HS1.out; omega)))
  have S2 : Hid (W1.heap.size ≤ W2.heap.size) := hide h2.size
  have D2 := hide h1'
  obtain ⟨zo, hzo'⟩ : ∃ x, x = W2.heap.size := ⟨_, rfl⟩
  have HZO : Hid (w.heap.size + 3 ≤ zo) := hide (by rw [hzo', ← HS1.out]; exact S2.out)
  have ZB : Hid (Blk (W2.alloc (.cells objZ 30)) zo objZ 30) := hide (by rw [hzo']; exact Blk.made W2 _ _)
  have OZ : Hid ((objL (kindO kd) nilV).toArray.size = 39) := hide (objL_size _ _ rfl)
  have P1 : Hid ((objL (kindO kd) nilV).toArray.all (·.oneCell') = true) := hide (all_oneCell_toArray (objL_one _ _ ⟨⟨_, _, _, rfl⟩, ⟨_, _, _, rfl⟩, ⟨_, _, _, rfl⟩, ⟨_, _, _, rfl⟩⟩))
  obtain ⟨arr, harr⟩ : ∃ x, x = (objL (kindO kd) nilV).toArray := ⟨_, rfl⟩
  have BdK : Hid (∀ {op : Oper} {ev : Operand → Value} {x : Operand}, op.op = .build 30 #[(0, x)] → ev x = .int .u8 (kd : Int) → ∀ w, (execOp ev op).run Tryd.prog w = .ok (.value (.agg arr)) w) := hide (fun ho hx w => by rw [harr]; exact run_buildOK ho hx w)
  rw [← harr] at OZ P1
  have HARR := hide harr
  have HZO2 := hide hzo'
  clear h1' h2 A1 HW1 DZ harr hzo'
  go_wp2_with (first
    | ((with_reducible refine wpList_val (.agg arr) ?_ (BdK.out (x := .tmp 14) ?_ ?_ _) ?_); rfl; rfl; rfl)
    | ((with_reducible refine wpList_store_blk ?_ 30 (.tmp 5) (.tmp 15) ?_ W2.heap.size 39 objZ arr 30 OZ.out objZ_size ?_ ?_ (by rw [← HZO2.out]; exact ZB.out) infoObj P1.out ?_); rfl; rfl; rfl; rfl; intro W3 hk3 hg3; generalize hG : wpList _ _ _ _ _ _ = G))
  rw [← HZO2.out] at hk3 hg3
  have HB3 : Hid (Below W2.heap.size W2 W3) := hide ((below_alloc W2 _).trans (below_grownBy hg3 (by rw [HZO2.out]; exact Nat.le_refl _) (below_alloc W2 _).size))
  have hS3 : zo < W3.heap.size := Blk.lt hk3
  have A3 := hide (A2.out.below HB3.out A2.out.lt)
  have HW3 := hide (HW2.out.trans (HB3.out.mono HW2.out.size))
  have DS3 : Hid (DS W3 W3 z sv bs s1 zo (kindO kd) nilV) := hide ⟨by have := HZ.out; have := HZO.out; omega, hS3, fun b e => by have := SVB.out b e; have := HZO.out; omega, by have := HZ.out; have := HZO.out; omega, fun b e => by have := SVB.out b e; have := HZO.out; omega, D2.out.below HB3.out, by show Blk W3 zo (objL (kindO kd) nilV).toArray 30; rw [← HARR.out]; exact hk3, kindO_own _ _ _, Ch2.refl _ _ _⟩
  have c3 : W3.cell? ⟨zo, 0, none⟩ = some (.int .u8 (kd : Int)) := ObjAt.cKind (o := kindO kd) DS3.out.obj
  subst hG
  rw [← HZO2.out]
  clear hk3 hg3 HB3 A2 HW2 D2 ZB P1 BdK HARR HZO2 hS3 OZ
  go_wp2_with fail
  refine (tk_0 W3 kd (by have := HK0.out; omega) (by have := HK0.out; omega) (by have := HK0.out; omega) (by have := HK0.out; omega)).mono ?_
  rintro e W4 ⟨rfl, hw4⟩
  rw [hw4]
  clear hw4 W4 c3
  have ZS := objZ_size
  have HNF := isnil_f W3
  go_wp2_with (first
    | ((with_reducible refine wpList_val (.agg objZ) ?_ (BdO.out ?_ _) ?_); rfl; rfl)
    | ((with_reducible refine wpList_store_blk ?_ 30 (.tmp 2) (.tmp 21) ?_ w.heap.size 39 objZ objZ 30 objZ_size objZ_size ?_ ?_ A3.out infoObj O1z.out ?_); rfl; rfl; rfl; rfl; intro w9 hk9 hg9))
  refine bodyPost_ret (results_cell2D rfl _ _ _ rfl _ (loadBlkT hk9 30 _ Tryd.underlying30 rfl 39 infoObj objZ_size)) rfl ?_
  exact decC_no HDO.out (HW3.out.trans (below_grownBy hg9 (Nat.le_refl _) HW3.out.size))
set_option maxHeartbeats 2000000 in
theorem decode_long (w : World) (b : Value) (bs : List UInt8) (hb : Rd w b bs) (hl : 8192 < bs.length) : Calls Tryd.prog 7 #[b] w (DecC w bs) := by
  have hzo := zero_obj
  have HDO : Hid (decO bs = (48, zeroO)) := hide (by unfold decO; rw [if_pos hl])
  have A0 : Hid (Blk (w.alloc (.cells objZ 30)) w.heap.size objZ 30) := hide (Blk.made w _ _)
  have HW0 : Hid (Below w.heap.size w (w.alloc (.cells objZ 30))) := hide (below_alloc w _)
  have BdO : Hid (∀ {op : Oper} {a : Act}, op.op = .build 30 #[] → ∀ w, (execOp a.eval op).run Tryd.prog w = .ok (.value (.agg objZ)) w) := hide (fun ho w => run_buildO ho w)
  have O1z : Hid (objZ.all (·.oneCell') = true) := hide (all_oneCell_toArray (objL_one _ _ ⟨⟨_, _, _, rfl⟩, ⟨_, _, _, rfl⟩, ⟨_, _, _, rfl⟩, ⟨_, _, _, rfl⟩⟩))
  obtain ⟨ao, c, rfl, _⟩ := hb
  obtain ⟨n, hn⟩ : ∃ n, n = bs.length := ⟨_, rfl⟩
  have hnl : (8192 : Int) < (n : Int) := by omega
  rw [← hn]
  clear hn hl
  go_enter Tryd.func7, Tryd.ntmps7
  go_wp2_with (first
    | ((with_reducible refine wpList_val (.agg objZ) ?_ (BdO.out ?_ _) ?_); rfl; rfl)
    | ((with_reducible refine wpList_store_blk ?_ 30 (.tmp 2) (.tmp 10) ?_ w.heap.size 39 objZ objZ 30 objZ_size objZ_size ?_ ?_ A0.out infoObj O1z.out ?_); rfl; rfl; rfl; rfl; intro w9 hk9 hg9))
  refine bodyPost_ret (results_cell2D rfl _ _ _ rfl _ (loadBlkT hk9 30 _ Tryd.underlying30 rfl 39 infoObj objZ_size)) rfl ?_
  exact decC_no HDO.out (HW0.out.trans (below_grownBy hg9 (Nat.le_refl _) HW0.out.size))
end Go.Proofs.YtjcfndiceinkjabDoor

/- Decode: kind 1. -/
namespace Go.Proofs.YtjcfndiceinkjabDoor
set_option linter.unusedVariables false
set_option linter.unusedSimpArgs false
set_option maxRecDepth 100000
open Go.RowKit

set_option maxHeartbeats 8000000 in
theorem decode_1 (w : World) (hT8 : Tabs8 w) (b : Value) (bs : List UInt8) (hb : Rd w b bs) (hl : bs.length ≤ 8192) (hk0 : (mByte bs sZ0).1 = 1) : Calls Tryd.prog 7 #[b] w (DecC w bs) := by
  have hzo := zero_obj
  obtain ⟨W0, hW0⟩ : ∃ W, W = w.alloc (.cells objZ 30) := ⟨_, rfl⟩
  have A0 : Hid (Blk W0 w.heap.size objZ 30) := hide (by rw [hW0]; exact Blk.made w _ _)
  have HW0 : Hid (Below w.heap.size w W0) := hide (by rw [hW0]; exact below_alloc w _)
  have S0 : Hid (W0.heap.size = w.heap.size + 1) := hide (by rw [hW0]; simp)
  have HB := hide hb
  have H8 := hide hT8
  obtain ⟨n, hn⟩ : ∃ n, n = bs.length := ⟨_, rfl⟩
  have hnl : ¬ (8192 : Int) < (n : Int) := by omega
  have HL := hide hl
  have BdO : Hid (∀ {op : Oper} {a : Act}, op.op = .build 30 #[] → ∀ w, (execOp a.eval op).run Tryd.prog w = .ok (.value (.agg objZ)) w) := hide (fun ho w => run_buildO ho w)
  have O1z : Hid (objZ.all (·.oneCell') = true) := hide (all_oneCell_toArray (objL_one _ _ ⟨⟨_, _, _, rfl⟩, ⟨_, _, _, rfl⟩, ⟨_, _, _, rfl⟩, ⟨_, _, _, rfl⟩⟩))
  obtain ⟨ao, c, rfl, _⟩ := hb
  rw [← hn]
  have HN := hide hn
  rw [← hn] at hl
  clear hT8 hn hl
  go_enter Tryd.func7, Tryd.ntmps7
  go_wp2_with fail
  rw [← hW0]
  clear hW0
  rw [HN.out]
  refine (open_any W0 _ bs (HB.out.below HW0.out) (by have := HL.out; omega)).mono ?_
  rintro e W1 ⟨rfl, hd1, hb1, hs1⟩
  rw [← HN.out]
  obtain ⟨z, hz⟩ : ∃ z, z = W0.heap.size + 1 := ⟨_, rfl⟩
  rw [← hz] at hd1 ⊢
  have HZ : Hid (z = w.heap.size + 2) := hide (by rw [hz, S0.out])
  have HS1 : Hid (W1.heap.size = w.heap.size + 3) := hide (by rw [hs1, S0.out])
  have DZ := hide hd1
  have A1 := hide (A0.out.below hb1 A0.out.lt)
  have HW1 := hide (HW0.out.trans (hb1.mono HW0.out.size))
  obtain ⟨sv, hsv⟩ : ∃ x : Value, x = .slice (some ⟨W0.heap.size, 0, none⟩) bs.length bs.length := ⟨_, rfl⟩
  have SVB : Hid (∀ b, sv = .slice (some ⟨b, 0, none⟩) bs.length bs.length → b = w.heap.size + 1) := hide (fun b e => by rw [hsv] at e; cases e; exact S0.out)
  rw [← hsv] at DZ
  clear hd1 hb1 hs1 hz hsv HW0 A0
  go_wp2_with fail
  refine (take_kind W1 z sv bs sZ0 DZ.out).mono ?_
  rintro e W2 ⟨rfl, h1, h2⟩
  have HM : Hid (IntKind.u8.wrap (leNat ((mNext bs sZ0 (mPlace sZ0) 1).1.getD []) : Nat) = ((mByte bs sZ0).1 : Int)) := hide (by have := mByte_lt bs sZ0; unfold mByte at this ⊢; rw [IntKind.wrap_u8]; omega)
  rw [HM.out]
  have h1' : DecSt W2 z sv bs (mByte bs sZ0).2 := h1
  have HDO : Hid (decO bs = if (mObj bs 1 (mByte bs sZ0).2).2.code ≠ 0 ∨ (mObj bs 1 (mByte bs sZ0).2).2.p < bs.length then (49, zeroO) else if wrongO (mObj bs 1 (mByte bs sZ0).2).1 ≠ 0 then (49, zeroO) else (0, (mObj bs 1 (mByte bs sZ0).2).1)) := hide (by unfold decO; rw [if_neg (by have := HL.out; omega), if_neg (by omega), hk0])
  have HK0' := hk0
  clear hk0
  obtain ⟨k, hk⟩ : ∃ r, r = mByte bs sZ0 := ⟨_, rfl⟩
  rw [← hk] at h1' HDO HK0' ⊢
  clear hk HM h1
  obtain ⟨kd, s1⟩ := k
  have HKE : Hid (kd = 1) := hide HK0'
  clear HK0'
  have A2 := hide (A1.out.grown h2 (fun e => by have := Option.some.inj e; have := HZ.out; omega))
  have HW2 : Hid (Below w.heap.size w W2) := hide (HW1.out.trans (below_grownBy h2 (by have := HZ.out; omega) (by have := HS1.out; omega)))
  have S2 : Hid (W1.heap.size ≤ W2.heap.size) := hide h2.size
  have D2 := hide h1'
  obtain ⟨zo, hzo'⟩ : ∃ x, x = W2.heap.size := ⟨_, rfl⟩
  have HZO : Hid (w.heap.size + 3 ≤ zo) := hide (by rw [hzo', ← HS1.out]; exact S2.out)
  have ZB : Hid (Blk (W2.alloc (.cells objZ 30)) zo objZ 30) := hide (by rw [hzo']; exact Blk.made W2 _ _)
  have OZ : Hid ((objL (kindO kd) nilV).toArray.size = 39) := hide (objL_size _ _ rfl)
  have P1 : Hid ((objL (kindO kd) nilV).toArray.all (·.oneCell') = true) := hide (all_oneCell_toArray (objL_one _ _ ⟨⟨_, _, _, rfl⟩, ⟨_, _, _, rfl⟩, ⟨_, _, _, rfl⟩, ⟨_, _, _, rfl⟩⟩))
  obtain ⟨arr, harr⟩ : ∃ x, x = (objL (kindO kd) nilV).toArray := ⟨_, rfl⟩
  have BdK : Hid (∀ {op : Oper} {ev : Operand → Value} {x : Operand}, op.op = .build 30 #[(0, x)] → ev x = .int .u8 (kd : Int) → ∀ w, (execOp ev op).run Tryd.prog w = .ok (.value (.agg arr)) w) := hide (fun ho hx w => by rw [harr]; exact run_buildOK ho hx w)
  rw [← harr] at OZ P1
  have HARR := hide harr
  have HZO2 := hide hzo'
  clear h1' h2 A1 HW1 DZ harr hzo'
  go_wp2_with (first
    | ((with_reducible refine wpList_val (.agg arr) ?_ (BdK.out (x := .tmp 14) ?_ ?_ _) ?_); rfl; rfl; rfl)
    | ((with_reducible refine wpList_store_blk ?_ 30 (.tmp 5) (.tmp 15) ?_ W2.heap.size 39 objZ arr 30 OZ.out objZ_size ?_ ?_ (by rw [← HZO2.out]; exact ZB.out) infoObj P1.out ?_); rfl; rfl; rfl; rfl; intro W3 hk3 hg3; generalize hG : wpList _ _ _ _ _ _ = G))
  rw [← HZO2.out] at hk3 hg3
  have HB3 : Hid (Below W2.heap.size W2 W3) := hide ((below_alloc W2 _).trans (below_grownBy hg3 (by rw [HZO2.out]; exact Nat.le_refl _) (below_alloc W2 _).size))
  have hS3 : zo < W3.heap.size := Blk.lt hk3
  have A3 := hide (A2.out.below HB3.out A2.out.lt)
  have HW3 := hide (HW2.out.trans (HB3.out.mono HW2.out.size))
  have DS3 : Hid (DS W3 W3 z sv bs s1 zo (kindO kd) nilV) := hide ⟨by have := HZ.out; have := HZO.out; omega, hS3, fun b e => by have := SVB.out b e; have := HZO.out; omega, by have := HZ.out; have := HZO.out; omega, fun b e => by have := SVB.out b e; have := HZO.out; omega, D2.out.below HB3.out, by show Blk W3 zo (objL (kindO kd) nilV).toArray 30; rw [← HARR.out]; exact hk3, kindO_own _ _ _, Ch2.refl _ _ _⟩
  have c3 : W3.cell? ⟨zo, 0, none⟩ = some (.int .u8 (kd : Int)) := ObjAt.cKind (o := kindO kd) DS3.out.obj
  subst hG
  rw [← HZO2.out]
  clear hk3 hg3 HB3 A2 HW2 D2 ZB P1 BdK HARR HZO2 hS3 OZ
  go_wp2_with fail
  have HK0 := HKE.out
  clear HKE
  subst HK0
  refine (tk_1 W3 1 rfl).mono ?_
  rintro e W4 ⟨rfl, hw4⟩
  rw [hw4]
  clear hw4 W4 c3
  have hnf := fun w => notnil_f 45 w (by simp)
  have HFW := mObj_few bs 1 s1
  have HMO : mObj bs 1 s1 = mBlob bs s1 := rfl
  have HTX := mObj_txt bs 1 s1 (by omega)
  rw [HMO] at HDO HFW HTX
  clear HMO
  go_wp2_with fail
  refine (taker1_st W3 z sv bs s1 zo DS3.out HL.out).mono ?_
  rintro e W5 ⟨rfl, v5, h5⟩
  obtain ⟨r, hr⟩ : ∃ r, r = mBlob bs s1 := ⟨_, rfl⟩
  rw [← hr] at h5 HDO HFW HTX
  clear hr
  obtain ⟨o, s2⟩ := r
  have D5 := hide h5
  have TX : Hid (TxtSz o) := hide HTX
  have FW := hide HFW
  have B5 : Hid (Below (w.heap.size + 1) W3 W5) := hide (h5.ch.below (by have := HZ.out; omega) (by have := HZO.out; omega) (by have := A3.out.lt; omega))
  have A5 : Hid (Blk W5 w.heap.size objZ 30) := hide ((B5.out.block w.heap.size (by omega)).trans A3.out)
  have HW5 : Hid (Below w.heap.size w W5) := hide (HW3.out.trans (B5.out.mono (by omega)))
  have H85 := hide (H8.out.below HW5.out)
  have OW5 : Hid (ObjOwn (w.heap.size + 1) W5 o v5) := hide (objOwn_base h5.own (by have := A3.out.lt; omega))
  have AZ5 : Hid (Blk W5 zo (objL o v5).toArray 30) := hide h5.obj
  have OZ : Hid ((objL o v5).toArray.size = 39) := hide (objL_size o v5 h5.own.ok.t)
  have SL5 : Hid (v5.Sl) := hide (ObjRd.sl (h5.own.rd HFW.1 HFW.2.1 HFW.2.2))
  have P1 : Hid ((objL o v5).toArray.all (·.oneCell') = true) := hide (all_oneCell_toArray (objL_one o v5 SL5.out))
  clear h5 B5 HFW DS3 A3 HW3 SL5 hnf
  go_wp2_with fail
  refine (end_st W5 z sv bs s2 D5.out.dec).mono ?_
  rintro e W6 ⟨rfl, m, hw6⟩
  have HB6 : Hid (Below W5.heap.size W5 W6) := hide (by rw [hw6]; exact ⟨rfl, rfl, rfl, Nat.le_refl _, fun _ _ => rfl⟩)
  have A6 := hide (A5.out.below HB6.out A5.out.lt)
  have HW6 := hide (HW5.out.trans (HB6.out.mono HW5.out.size))
  have AZ6 := hide (AZ5.out.below HB6.out AZ5.out.lt)
  have RD6 : Hid (ObjRd W6 o v5) := hide ((OW5.out.rd FW.out.1 FW.out.2.1 FW.out.2.2).below HB6.out)
  have OW6 : Hid (ObjOwn (w.heap.size + 1) W6 o v5) := hide (OW5.out.kept (row := none) (grownBy_below HB6.out) (fun k e => by cases e))
  have H86 := hide (H85.out.below HB6.out)
  clear hw6 HB6 A5 HW5 AZ5 OW5 D5 H85
  by_cases he : s2.code ≠ 0 ∨ s2.p < bs.length
  · have HDO2 : Hid (decO bs = (49, zeroO)) := hide (by rw [HDO.out, if_pos he])
    have hev : ∃ t x, endV bs s2 = .iface t x := by
      unfold endV
      rcases he with h | h
      · rw [if_pos h]; exact ⟨_, _, rfl⟩
      · split <;> exact ⟨_, _, rfl⟩
    obtain ⟨t, x, hx⟩ := hev
    rw [hx]
    clear he HDO hx
    go_wp2_with (first
      | ((with_reducible refine wpList_val (.agg objZ) ?_ (BdO.out ?_ _) ?_); rfl; rfl)
      | ((with_reducible refine wpList_store_blk ?_ 30 (.tmp 2) (.tmp 33) ?_ w.heap.size 39 objZ objZ 30 objZ_size objZ_size ?_ ?_ A6.out infoObj O1z.out ?_); rfl; rfl; rfl; rfl; intro w9 hk9 hg9))
    refine bodyPost_ret (results_cell2D rfl _ _ _ rfl _ (loadBlkT hk9 30 _ Tryd.underlying30 rfl 39 infoObj objZ_size)) rfl ?_
    exact decC_no HDO2.out (HW6.out.trans (below_grownBy hg9 (Nat.le_refl _) HW6.out.size))
  · have HDO2 : Hid (decO bs = if wrongO o ≠ 0 then (49, zeroO) else (0, o)) := hide (by rw [HDO.out, if_neg he])
    have hev : endV bs s2 = .nilIface := by unfold endV; rw [if_neg (by omega), if_neg (by omega)]
    rw [hev]
    clear he hev HDO
    go_wp2_with (first
      | ((with_reducible refine wpList_load_obj (.tmp 5) zo (objL o v5).toArray AZ6.out OZ.out ?_ ?_ ?_ ?_); rfl; rfl; exact wanted_yes (j := 3) (b := false) (t := 28) rfl rfl rfl (by decide : (28 : Nat) < 35)))
    refine (wrong_any W6 H86.out o v5 RD6.out TX.out).mono ?_
    rintro e W7 ⟨rfl, hb7⟩
    have A7 := hide (A6.out.below hb7 A6.out.lt)
    have HW7 := hide (HW6.out.trans (hb7.mono HW6.out.size))
    have AZ7 := hide (AZ6.out.below hb7 AZ6.out.lt)
    have OW7 : Hid (ObjOwn (w.heap.size + 1) W7 o v5) := hide (OW6.out.kept (row := none) (grownBy_below hb7) (fun k e => by cases e))
    clear hb7 A6 HW6 AZ6 OW6 RD6 H86
    by_cases hw : wrongO o = 0
    · have HDO3 : Hid (decO bs = (0, o)) := hide (by rw [HDO2.out, if_neg (by simpa using hw)])
      rw [hw]
      clear hw HDO2
      go_wp2_with (first
        | ((with_reducible refine wpList_load_obj (.tmp 5) zo (objL o v5).toArray AZ7.out OZ.out ?_ ?_ ?_ ?_); rfl; rfl; rfl)
        | ((with_reducible refine wpList_store_blk ?_ 30 (.tmp 2) (.tmp 34) ?_ w.heap.size 39 objZ (objL o v5).toArray 30 OZ.out objZ_size ?_ ?_ A7.out infoObj P1.out ?_); rfl; rfl; rfl; rfl; intro w9 hk9 hg9))
      refine bodyPost_ret (results_cell2D rfl _ _ _ rfl _ (loadBlkT hk9 30 _ Tryd.underlying30 rfl 39 infoObj OZ.out)) rfl ?_
      exact decC_mk HDO3.out (objOwn_up OW7.out hg9) (HW7.out.trans (below_grownBy hg9 (Nat.le_refl _) HW7.out.size))
    · have HDO3 : Hid (decO bs = (49, zeroO)) := hide (by rw [HDO2.out, if_pos hw])
      have hwb : (wrongO o != 0) = true := by simpa using hw
      obtain ⟨wo, hwo⟩ : ∃ x, x = wrongO o := ⟨_, rfl⟩
      rw [← hwo] at hwb ⊢
      clear hw HDO2 hwo
      go_wp2_with (first
        | ((with_reducible refine wpList_val (.agg objZ) ?_ (BdO.out ?_ _) ?_); rfl; rfl)
        | ((with_reducible refine wpList_store_blk ?_ 30 (.tmp 2) (.tmp 33) ?_ w.heap.size 39 objZ objZ 30 objZ_size objZ_size ?_ ?_ A7.out infoObj O1z.out ?_); rfl; rfl; rfl; rfl; intro w9 hk9 hg9))
      refine bodyPost_ret (results_cell2D rfl _ _ _ rfl _ (loadBlkT hk9 30 _ Tryd.underlying30 rfl 39 infoObj objZ_size)) rfl ?_
      exact decC_no HDO3.out (HW7.out.trans (below_grownBy hg9 (Nat.le_refl _) HW7.out.size))
end Go.Proofs.YtjcfndiceinkjabDoor

/- Decode: kind 2. -/
namespace Go.Proofs.YtjcfndiceinkjabDoor
set_option linter.unusedVariables false
set_option linter.unusedSimpArgs false
set_option maxRecDepth 100000
open Go.RowKit

set_option maxHeartbeats 8000000 in
theorem decode_2 (w : World) (hT8 : Tabs8 w) (b : Value) (bs : List UInt8) (hb : Rd w b bs) (hl : bs.length ≤ 8192) (hk0 : (mByte bs sZ0).1 = 2) : Calls Tryd.prog 7 #[b] w (DecC w bs) := by
  have hzo := zero_obj
  obtain ⟨W0, hW0⟩ : ∃ W, W = w.alloc (.cells objZ 30) := ⟨_, rfl⟩
  have A0 : Hid (Blk W0 w.heap.size objZ 30) := hide (by rw [hW0]; exact Blk.made w _ _)
  have HW0 : Hid (Below w.heap.size w W0) := hide (by rw [hW0]; exact below_alloc w _)
  have S0 : Hid (W0.heap.size = w.heap.size + 1) := hide (by rw [hW0]; simp)
  have HB := hide hb
  have H8 := hide hT8
  obtain ⟨n, hn⟩ : ∃ n, n = bs.length := ⟨_, rfl⟩
  have hnl : ¬ (8192 : Int) < (n : Int) := by omega
  have HL := hide hl
  have BdO : Hid (∀ {op : Oper} {a : Act}, op.op = .build 30 #[] → ∀ w, (execOp a.eval op).run Tryd.prog w = .ok (.value (.agg objZ)) w) := hide (fun ho w => run_buildO ho w)
  have O1z : Hid (objZ.all (·.oneCell') = true) := hide (all_oneCell_toArray (objL_one _ _ ⟨⟨_, _, _, rfl⟩, ⟨_, _, _, rfl⟩, ⟨_, _, _, rfl⟩, ⟨_, _, _, rfl⟩⟩))
  obtain ⟨ao, c, rfl, _⟩ := hb
  rw [← hn]
  have HN := hide hn
  rw [← hn] at hl
  clear hT8 hn hl
  go_enter Tryd.func7, Tryd.ntmps7
  go_wp2_with fail
  rw [← hW0]
  clear hW0
  rw [HN.out]
  refine (open_any W0 _ bs (HB.out.below HW0.out) (by have := HL.out; omega)).mono ?_
  rintro e W1 ⟨rfl, hd1, hb1, hs1⟩
  rw [← HN.out]
  obtain ⟨z, hz⟩ : ∃ z, z = W0.heap.size + 1 := ⟨_, rfl⟩
  rw [← hz] at hd1 ⊢
  have HZ : Hid (z = w.heap.size + 2) := hide (by rw [hz, S0.out])
  have HS1 : Hid (W1.heap.size = w.heap.size + 3) := hide (by rw [hs1, S0.out])
  have DZ := hide hd1
  have A1 := hide (A0.out.below hb1 A0.out.lt)
  have HW1 := hide (HW0.out.trans (hb1.mono HW0.out.size))
  obtain ⟨sv, hsv⟩ : ∃ x : Value, x = .slice (some ⟨W0.heap.size, 0, none⟩) bs.length bs.length := ⟨_, rfl⟩
  have SVB : Hid (∀ b, sv = .slice (some ⟨b, 0, none⟩) bs.length bs.length → b = w.heap.size + 1) := hide (fun b e => by rw [hsv] at e; cases e; exact S0.out)
  rw [← hsv] at DZ
  clear hd1 hb1 hs1 hz hsv HW0 A0
  go_wp2_with fail
  refine (take_kind W1 z sv bs sZ0 DZ.out).mono ?_
  rintro e W2 ⟨rfl, h1, h2⟩
  have HM : Hid (IntKind.u8.wrap (leNat ((mNext bs sZ0 (mPlace sZ0) 1).1.getD []) : Nat) = ((mByte bs sZ0).1 : Int)) := hide (by have := mByte_lt bs sZ0; unfold mByte at this ⊢; rw [IntKind.wrap_u8]; omega)
  rw [HM.out]
  have h1' : DecSt W2 z sv bs (mByte bs sZ0).2 := h1
  have HDO : Hid (decO bs = if (mObj bs 2 (mByte bs sZ0).2).2.code ≠ 0 ∨ (mObj bs 2 (mByte bs sZ0).2).2.p < bs.length then (49, zeroO) else if wrongO (mObj bs 2 (mByte bs sZ0).2).1 ≠ 0 then (49, zeroO) else (0, (mObj bs 2 (mByte bs sZ0).2).1)) := hide (by unfold decO; rw [if_neg (by have := HL.out; omega), if_neg (by omega), hk0])
  have HK0' := hk0
  clear hk0
  obtain ⟨k, hk⟩ : ∃ r, r = mByte bs sZ0 := ⟨_, rfl⟩
  rw [← hk] at h1' HDO HK0' ⊢
  clear hk HM h1
  obtain ⟨kd, s1⟩ := k
  have HKE : Hid (kd = 2) := hide HK0'
  clear HK0'
  have A2 := hide (A1.out.grown h2 (fun e => by have := Option.some.inj e; have := HZ.out; omega))
  have HW2 : Hid (Below w.heap.size w W2) := hide (HW1.out.trans (below_grownBy h2 (by have := HZ.out; omega) (by have := HS1.out; omega)))
  have S2 : Hid (W1.heap.size ≤ W2.heap.size) := hide h2.size
  have D2 := hide h1'
  obtain ⟨zo, hzo'⟩ : ∃ x, x = W2.heap.size := ⟨_, rfl⟩
  have HZO : Hid (w.heap.size + 3 ≤ zo) := hide (by rw [hzo', ← HS1.out]; exact S2.out)
  have ZB : Hid (Blk (W2.alloc (.cells objZ 30)) zo objZ 30) := hide (by rw [hzo']; exact Blk.made W2 _ _)
  have OZ : Hid ((objL (kindO kd) nilV).toArray.size = 39) := hide (objL_size _ _ rfl)
  have P1 : Hid ((objL (kindO kd) nilV).toArray.all (·.oneCell') = true) := hide (all_oneCell_toArray (objL_one _ _ ⟨⟨_, _, _, rfl⟩, ⟨_, _, _, rfl⟩, ⟨_, _, _, rfl⟩, ⟨_, _, _, rfl⟩⟩))
  obtain ⟨arr, harr⟩ : ∃ x, x = (objL (kindO kd) nilV).toArray := ⟨_, rfl⟩
  have BdK : Hid (∀ {op : Oper} {ev : Operand → Value} {x : Operand}, op.op = .build 30 #[(0, x)] → ev x = .int .u8 (kd : Int) → ∀ w, (execOp ev op).run Tryd.prog w = .ok (.value (.agg arr)) w) := hide (fun ho hx w => by rw [harr]; exact run_buildOK ho hx w)
  rw [← harr] at OZ P1
  have HARR := hide harr
  have HZO2 := hide hzo'
  clear h1' h2 A1 HW1 DZ harr hzo'
  go_wp2_with (first
    | ((with_reducible refine wpList_val (.agg arr) ?_ (BdK.out (x := .tmp 14) ?_ ?_ _) ?_); rfl; rfl; rfl)
    | ((with_reducible refine wpList_store_blk ?_ 30 (.tmp 5) (.tmp 15) ?_ W2.heap.size 39 objZ arr 30 OZ.out objZ_size ?_ ?_ (by rw [← HZO2.out]; exact ZB.out) infoObj P1.out ?_); rfl; rfl; rfl; rfl; intro W3 hk3 hg3; generalize hG : wpList _ _ _ _ _ _ = G))
  rw [← HZO2.out] at hk3 hg3
  have HB3 : Hid (Below W2.heap.size W2 W3) := hide ((below_alloc W2 _).trans (below_grownBy hg3 (by rw [HZO2.out]; exact Nat.le_refl _) (below_alloc W2 _).size))
  have hS3 : zo < W3.heap.size := Blk.lt hk3
  have A3 := hide (A2.out.below HB3.out A2.out.lt)
  have HW3 := hide (HW2.out.trans (HB3.out.mono HW2.out.size))
  have DS3 : Hid (DS W3 W3 z sv bs s1 zo (kindO kd) nilV) := hide ⟨by have := HZ.out; have := HZO.out; omega, hS3, fun b e => by have := SVB.out b e; have := HZO.out; omega, by have := HZ.out; have := HZO.out; omega, fun b e => by have := SVB.out b e; have := HZO.out; omega, D2.out.below HB3.out, by show Blk W3 zo (objL (kindO kd) nilV).toArray 30; rw [← HARR.out]; exact hk3, kindO_own _ _ _, Ch2.refl _ _ _⟩
  have c3 : W3.cell? ⟨zo, 0, none⟩ = some (.int .u8 (kd : Int)) := ObjAt.cKind (o := kindO kd) DS3.out.obj
  subst hG
  rw [← HZO2.out]
  clear hk3 hg3 HB3 A2 HW2 D2 ZB P1 BdK HARR HZO2 hS3 OZ
  go_wp2_with fail
  have HK0 := HKE.out
  clear HKE
  subst HK0
  refine (tk_2 W3 2 rfl).mono ?_
  rintro e W4 ⟨rfl, hw4⟩
  rw [hw4]
  clear hw4 W4 c3
  have hnf := fun w => notnil_f 48 w (by simp)
  have HFW := mObj_few bs 2 s1
  have HMO : mObj bs 2 s1 = mList bs s1 := rfl
  have HTX := mObj_txt bs 2 s1 (by omega)
  rw [HMO] at HDO HFW HTX
  clear HMO
  go_wp2_with fail
  refine (taker2_st W3 z sv bs s1 zo DS3.out).mono ?_
  rintro e W5 ⟨rfl, v5, h5⟩
  obtain ⟨r, hr⟩ : ∃ r, r = mList bs s1 := ⟨_, rfl⟩
  rw [← hr] at h5 HDO HFW HTX
  clear hr
  obtain ⟨o, s2⟩ := r
  have D5 := hide h5
  have TX : Hid (TxtSz o) := hide HTX
  have FW := hide HFW
  have B5 : Hid (Below (w.heap.size + 1) W3 W5) := hide (h5.ch.below (by have := HZ.out; omega) (by have := HZO.out; omega) (by have := A3.out.lt; omega))
  have A5 : Hid (Blk W5 w.heap.size objZ 30) := hide ((B5.out.block w.heap.size (by omega)).trans A3.out)
  have HW5 : Hid (Below w.heap.size w W5) := hide (HW3.out.trans (B5.out.mono (by omega)))
  have H85 := hide (H8.out.below HW5.out)
  have OW5 : Hid (ObjOwn (w.heap.size + 1) W5 o v5) := hide (objOwn_base h5.own (by have := A3.out.lt; omega))
  have AZ5 : Hid (Blk W5 zo (objL o v5).toArray 30) := hide h5.obj
  have OZ : Hid ((objL o v5).toArray.size = 39) := hide (objL_size o v5 h5.own.ok.t)
  have SL5 : Hid (v5.Sl) := hide (ObjRd.sl (h5.own.rd HFW.1 HFW.2.1 HFW.2.2))
  have P1 : Hid ((objL o v5).toArray.all (·.oneCell') = true) := hide (all_oneCell_toArray (objL_one o v5 SL5.out))
  clear h5 B5 HFW DS3 A3 HW3 SL5 hnf
  go_wp2_with fail
  refine (end_st W5 z sv bs s2 D5.out.dec).mono ?_
  rintro e W6 ⟨rfl, m, hw6⟩
  have HB6 : Hid (Below W5.heap.size W5 W6) := hide (by rw [hw6]; exact ⟨rfl, rfl, rfl, Nat.le_refl _, fun _ _ => rfl⟩)
  have A6 := hide (A5.out.below HB6.out A5.out.lt)
  have HW6 := hide (HW5.out.trans (HB6.out.mono HW5.out.size))
  have AZ6 := hide (AZ5.out.below HB6.out AZ5.out.lt)
  have RD6 : Hid (ObjRd W6 o v5) := hide ((OW5.out.rd FW.out.1 FW.out.2.1 FW.out.2.2).below HB6.out)
  have OW6 : Hid (ObjOwn (w.heap.size + 1) W6 o v5) := hide (OW5.out.kept (row := none) (grownBy_below HB6.out) (fun k e => by cases e))
  have H86 := hide (H85.out.below HB6.out)
  clear hw6 HB6 A5 HW5 AZ5 OW5 D5 H85
  by_cases he : s2.code ≠ 0 ∨ s2.p < bs.length
  · have HDO2 : Hid (decO bs = (49, zeroO)) := hide (by rw [HDO.out, if_pos he])
    have hev : ∃ t x, endV bs s2 = .iface t x := by
      unfold endV
      rcases he with h | h
      · rw [if_pos h]; exact ⟨_, _, rfl⟩
      · split <;> exact ⟨_, _, rfl⟩
    obtain ⟨t, x, hx⟩ := hev
    rw [hx]
    clear he HDO hx
    go_wp2_with (first
      | ((with_reducible refine wpList_val (.agg objZ) ?_ (BdO.out ?_ _) ?_); rfl; rfl)
      | ((with_reducible refine wpList_store_blk ?_ 30 (.tmp 2) (.tmp 33) ?_ w.heap.size 39 objZ objZ 30 objZ_size objZ_size ?_ ?_ A6.out infoObj O1z.out ?_); rfl; rfl; rfl; rfl; intro w9 hk9 hg9))
    refine bodyPost_ret (results_cell2D rfl _ _ _ rfl _ (loadBlkT hk9 30 _ Tryd.underlying30 rfl 39 infoObj objZ_size)) rfl ?_
    exact decC_no HDO2.out (HW6.out.trans (below_grownBy hg9 (Nat.le_refl _) HW6.out.size))
  · have HDO2 : Hid (decO bs = if wrongO o ≠ 0 then (49, zeroO) else (0, o)) := hide (by rw [HDO.out, if_neg he])
    have hev : endV bs s2 = .nilIface := by unfold endV; rw [if_neg (by omega), if_neg (by omega)]
    rw [hev]
    clear he hev HDO
    go_wp2_with (first
      | ((with_reducible refine wpList_load_obj (.tmp 5) zo (objL o v5).toArray AZ6.out OZ.out ?_ ?_ ?_ ?_); rfl; rfl; exact wanted_yes (j := 3) (b := false) (t := 28) rfl rfl rfl (by decide : (28 : Nat) < 35)))
    refine (wrong_any W6 H86.out o v5 RD6.out TX.out).mono ?_
    rintro e W7 ⟨rfl, hb7⟩
    have A7 := hide (A6.out.below hb7 A6.out.lt)
    have HW7 := hide (HW6.out.trans (hb7.mono HW6.out.size))
    have AZ7 := hide (AZ6.out.below hb7 AZ6.out.lt)
    have OW7 : Hid (ObjOwn (w.heap.size + 1) W7 o v5) := hide (OW6.out.kept (row := none) (grownBy_below hb7) (fun k e => by cases e))
    clear hb7 A6 HW6 AZ6 OW6 RD6 H86
    by_cases hw : wrongO o = 0
    · have HDO3 : Hid (decO bs = (0, o)) := hide (by rw [HDO2.out, if_neg (by simpa using hw)])
      rw [hw]
      clear hw HDO2
      go_wp2_with (first
        | ((with_reducible refine wpList_load_obj (.tmp 5) zo (objL o v5).toArray AZ7.out OZ.out ?_ ?_ ?_ ?_); rfl; rfl; rfl)
        | ((with_reducible refine wpList_store_blk ?_ 30 (.tmp 2) (.tmp 34) ?_ w.heap.size 39 objZ (objL o v5).toArray 30 OZ.out objZ_size ?_ ?_ A7.out infoObj P1.out ?_); rfl; rfl; rfl; rfl; intro w9 hk9 hg9))
      refine bodyPost_ret (results_cell2D rfl _ _ _ rfl _ (loadBlkT hk9 30 _ Tryd.underlying30 rfl 39 infoObj OZ.out)) rfl ?_
      exact decC_mk HDO3.out (objOwn_up OW7.out hg9) (HW7.out.trans (below_grownBy hg9 (Nat.le_refl _) HW7.out.size))
    · have HDO3 : Hid (decO bs = (49, zeroO)) := hide (by rw [HDO2.out, if_pos hw])
      have hwb : (wrongO o != 0) = true := by simpa using hw
      obtain ⟨wo, hwo⟩ : ∃ x, x = wrongO o := ⟨_, rfl⟩
      rw [← hwo] at hwb ⊢
      clear hw HDO2 hwo
      go_wp2_with (first
        | ((with_reducible refine wpList_val (.agg objZ) ?_ (BdO.out ?_ _) ?_); rfl; rfl)
        | ((with_reducible refine wpList_store_blk ?_ 30 (.tmp 2) (.tmp 33) ?_ w.heap.size 39 objZ objZ 30 objZ_size objZ_size ?_ ?_ A7.out infoObj O1z.out ?_); rfl; rfl; rfl; rfl; intro w9 hk9 hg9))
      refine bodyPost_ret (results_cell2D rfl _ _ _ rfl _ (loadBlkT hk9 30 _ Tryd.underlying30 rfl 39 infoObj objZ_size)) rfl ?_
      exact decC_no HDO3.out (HW7.out.trans (below_grownBy hg9 (Nat.le_refl _) HW7.out.size))
end Go.Proofs.YtjcfndiceinkjabDoor

/- Decode: kind 3. -/
namespace Go.Proofs.YtjcfndiceinkjabDoor
set_option linter.unusedVariables false
set_option linter.unusedSimpArgs false
set_option maxRecDepth 100000
open Go.RowKit

set_option maxHeartbeats 8000000 in
theorem decode_3 (w : World) (hT8 : Tabs8 w) (b : Value) (bs : List UInt8) (hb : Rd w b bs) (hl : bs.length ≤ 8192) (hk0 : (mByte bs sZ0).1 = 3) : Calls Tryd.prog 7 #[b] w (DecC w bs) := by
  have hzo := zero_obj
  obtain ⟨W0, hW0⟩ : ∃ W, W = w.alloc (.cells objZ 30) := ⟨_, rfl⟩
  have A0 : Hid (Blk W0 w.heap.size objZ 30) := hide (by rw [hW0]; exact Blk.made w _ _)
  have HW0 : Hid (Below w.heap.size w W0) := hide (by rw [hW0]; exact below_alloc w _)
  have S0 : Hid (W0.heap.size = w.heap.size + 1) := hide (by rw [hW0]; simp)
  have HB := hide hb
  have H8 := hide hT8
  obtain ⟨n, hn⟩ : ∃ n, n = bs.length := ⟨_, rfl⟩
  have hnl : ¬ (8192 : Int) < (n : Int) := by omega
  have HL := hide hl
  have BdO : Hid (∀ {op : Oper} {a : Act}, op.op = .build 30 #[] → ∀ w, (execOp a.eval op).run Tryd.prog w = .ok (.value (.agg objZ)) w) := hide (fun ho w => run_buildO ho w)
  have O1z : Hid (objZ.all (·.oneCell') = true) := hide (all_oneCell_toArray (objL_one _ _ ⟨⟨_, _, _, rfl⟩, ⟨_, _, _, rfl⟩, ⟨_, _, _, rfl⟩, ⟨_, _, _, rfl⟩⟩))
  obtain ⟨ao, c, rfl, _⟩ := hb
  rw [← hn]
  have HN := hide hn
  rw [← hn] at hl
  clear hT8 hn hl
  go_enter Tryd.func7, Tryd.ntmps7
  go_wp2_with fail
  rw [← hW0]
  clear hW0
  rw [HN.out]
  refine (open_any W0 _ bs (HB.out.below HW0.out) (by have := HL.out; omega)).mono ?_
  rintro e W1 ⟨rfl, hd1, hb1, hs1⟩
  rw [← HN.out]
  obtain ⟨z, hz⟩ : ∃ z, z = W0.heap.size + 1 := ⟨_, rfl⟩
  rw [← hz] at hd1 ⊢
  have HZ : Hid (z = w.heap.size + 2) := hide (by rw [hz, S0.out])
  have HS1 : Hid (W1.heap.size = w.heap.size + 3) := hide (by rw [hs1, S0.out])
  have DZ := hide hd1
  have A1 := hide (A0.out.below hb1 A0.out.lt)
  have HW1 := hide (HW0.out.trans (hb1.mono HW0.out.size))
  obtain ⟨sv, hsv⟩ : ∃ x : Value, x = .slice (some ⟨W0.heap.size, 0, none⟩) bs.length bs.length := ⟨_, rfl⟩
  have SVB : Hid (∀ b, sv = .slice (some ⟨b, 0, none⟩) bs.length bs.length → b = w.heap.size + 1) := hide (fun b e => by rw [hsv] at e; cases e; exact S0.out)
  rw [← hsv] at DZ
  clear hd1 hb1 hs1 hz hsv HW0 A0
  go_wp2_with fail
  refine (take_kind W1 z sv bs sZ0 DZ.out).mono ?_
  rintro e W2 ⟨rfl, h1, h2⟩
  have HM : Hid (IntKind.u8.wrap (leNat ((mNext bs sZ0 (mPlace sZ0) 1).1.getD []) : Nat) = ((mByte bs sZ0).1 : Int)) := hide (by have := mByte_lt bs sZ0; unfold mByte at this ⊢; rw [IntKind.wrap_u8]; omega)
  rw [HM.out]
  have h1' : DecSt W2 z sv bs (mByte bs sZ0).2 := h1
  have HDO : Hid (decO bs = if (mObj bs 3 (mByte bs sZ0).2).2.code ≠ 0 ∨ (mObj bs 3 (mByte bs sZ0).2).2.p < bs.length then (49, zeroO) else if wrongO (mObj bs 3 (mByte bs sZ0).2).1 ≠ 0 then (49, zeroO) else (0, (mObj bs 3 (mByte bs sZ0).2).1)) := hide (by unfold decO; rw [if_neg (by have := HL.out; omega), if_neg (by omega), hk0])
  have HK0' := hk0
  clear hk0
  obtain ⟨k, hk⟩ : ∃ r, r = mByte bs sZ0 := ⟨_, rfl⟩
  rw [← hk] at h1' HDO HK0' ⊢
  clear hk HM h1
  obtain ⟨kd, s1⟩ := k
  have HKE : Hid (kd = 3) := hide HK0'
  clear HK0'
  have A2 := hide (A1.out.grown h2 (fun e => by have := Option.some.inj e; have := HZ.out; omega))
  have HW2 : Hid (Below w.heap.size w W2) := hide (HW1.out.trans (below_grownBy h2 (by have := HZ.out; omega) (by have := HS1.out; omega)))
  have S2 : Hid (W1.heap.size ≤ W2.heap.size) := hide h2.size
  have D2 := hide h1'
  obtain ⟨zo, hzo'⟩ : ∃ x, x = W2.heap.size := ⟨_, rfl⟩
  have HZO : Hid (w.heap.size + 3 ≤ zo) := hide (by rw [hzo', ← HS1.out]; exact S2.out)
  have ZB : Hid (Blk (W2.alloc (.cells objZ 30)) zo objZ 30) := hide (by rw [hzo']; exact Blk.made W2 _ _)
  have OZ : Hid ((objL (kindO kd) nilV).toArray.size = 39) := hide (objL_size _ _ rfl)
  have P1 : Hid ((objL (kindO kd) nilV).toArray.all (·.oneCell') = true) := hide (all_oneCell_toArray (objL_one _ _ ⟨⟨_, _, _, rfl⟩, ⟨_, _, _, rfl⟩, ⟨_, _, _, rfl⟩, ⟨_, _, _, rfl⟩⟩))
  obtain ⟨arr, harr⟩ : ∃ x, x = (objL (kindO kd) nilV).toArray := ⟨_, rfl⟩
  have BdK : Hid (∀ {op : Oper} {ev : Operand → Value} {x : Operand}, op.op = .build 30 #[(0, x)] → ev x = .int .u8 (kd : Int) → ∀ w, (execOp ev op).run Tryd.prog w = .ok (.value (.agg arr)) w) := hide (fun ho hx w => by rw [harr]; exact run_buildOK ho hx w)
  rw [← harr] at OZ P1
  have HARR := hide harr
  have HZO2 := hide hzo'
  clear h1' h2 A1 HW1 DZ harr hzo'
  go_wp2_with (first
    | ((with_reducible refine wpList_val (.agg arr) ?_ (BdK.out (x := .tmp 14) ?_ ?_ _) ?_); rfl; rfl; rfl)
    | ((with_reducible refine wpList_store_blk ?_ 30 (.tmp 5) (.tmp 15) ?_ W2.heap.size 39 objZ arr 30 OZ.out objZ_size ?_ ?_ (by rw [← HZO2.out]; exact ZB.out) infoObj P1.out ?_); rfl; rfl; rfl; rfl; intro W3 hk3 hg3; generalize hG : wpList _ _ _ _ _ _ = G))
  rw [← HZO2.out] at hk3 hg3
  have HB3 : Hid (Below W2.heap.size W2 W3) := hide ((below_alloc W2 _).trans (below_grownBy hg3 (by rw [HZO2.out]; exact Nat.le_refl _) (below_alloc W2 _).size))
  have hS3 : zo < W3.heap.size := Blk.lt hk3
  have A3 := hide (A2.out.below HB3.out A2.out.lt)
  have HW3 := hide (HW2.out.trans (HB3.out.mono HW2.out.size))
  have DS3 : Hid (DS W3 W3 z sv bs s1 zo (kindO kd) nilV) := hide ⟨by have := HZ.out; have := HZO.out; omega, hS3, fun b e => by have := SVB.out b e; have := HZO.out; omega, by have := HZ.out; have := HZO.out; omega, fun b e => by have := SVB.out b e; have := HZO.out; omega, D2.out.below HB3.out, by show Blk W3 zo (objL (kindO kd) nilV).toArray 30; rw [← HARR.out]; exact hk3, kindO_own _ _ _, Ch2.refl _ _ _⟩
  have c3 : W3.cell? ⟨zo, 0, none⟩ = some (.int .u8 (kd : Int)) := ObjAt.cKind (o := kindO kd) DS3.out.obj
  subst hG
  rw [← HZO2.out]
  clear hk3 hg3 HB3 A2 HW2 D2 ZB P1 BdK HARR HZO2 hS3 OZ
  go_wp2_with fail
  have HK0 := HKE.out
  clear HKE
  subst HK0
  refine (tk_3 W3 3 rfl).mono ?_
  rintro e W4 ⟨rfl, hw4⟩
  rw [hw4]
  clear hw4 W4 c3
  have hnf := fun w => notnil_f 51 w (by simp)
  have HFW := mObj_few bs 3 s1
  have HMO : mObj bs 3 s1 = mTree bs s1 := rfl
  have HTX := mObj_txt bs 3 s1 (by omega)
  rw [HMO] at HDO HFW HTX
  clear HMO
  go_wp2_with fail
  refine (taker3_st W3 z sv bs s1 zo DS3.out).mono ?_
  rintro e W5 ⟨rfl, v5, h5⟩
  obtain ⟨r, hr⟩ : ∃ r, r = mTree bs s1 := ⟨_, rfl⟩
  rw [← hr] at h5 HDO HFW HTX
  clear hr
  obtain ⟨o, s2⟩ := r
  have D5 := hide h5
  have TX : Hid (TxtSz o) := hide HTX
  have FW := hide HFW
  have B5 : Hid (Below (w.heap.size + 1) W3 W5) := hide (h5.ch.below (by have := HZ.out; omega) (by have := HZO.out; omega) (by have := A3.out.lt; omega))
  have A5 : Hid (Blk W5 w.heap.size objZ 30) := hide ((B5.out.block w.heap.size (by omega)).trans A3.out)
  have HW5 : Hid (Below w.heap.size w W5) := hide (HW3.out.trans (B5.out.mono (by omega)))
  have H85 := hide (H8.out.below HW5.out)
  have OW5 : Hid (ObjOwn (w.heap.size + 1) W5 o v5) := hide (objOwn_base h5.own (by have := A3.out.lt; omega))
  have AZ5 : Hid (Blk W5 zo (objL o v5).toArray 30) := hide h5.obj
  have OZ : Hid ((objL o v5).toArray.size = 39) := hide (objL_size o v5 h5.own.ok.t)
  have SL5 : Hid (v5.Sl) := hide (ObjRd.sl (h5.own.rd HFW.1 HFW.2.1 HFW.2.2))
  have P1 : Hid ((objL o v5).toArray.all (·.oneCell') = true) := hide (all_oneCell_toArray (objL_one o v5 SL5.out))
  clear h5 B5 HFW DS3 A3 HW3 SL5 hnf
  go_wp2_with fail
  refine (end_st W5 z sv bs s2 D5.out.dec).mono ?_
  rintro e W6 ⟨rfl, m, hw6⟩
  have HB6 : Hid (Below W5.heap.size W5 W6) := hide (by rw [hw6]; exact ⟨rfl, rfl, rfl, Nat.le_refl _, fun _ _ => rfl⟩)
  have A6 := hide (A5.out.below HB6.out A5.out.lt)
  have HW6 := hide (HW5.out.trans (HB6.out.mono HW5.out.size))
  have AZ6 := hide (AZ5.out.below HB6.out AZ5.out.lt)
  have RD6 : Hid (ObjRd W6 o v5) := hide ((OW5.out.rd FW.out.1 FW.out.2.1 FW.out.2.2).below HB6.out)
  have OW6 : Hid (ObjOwn (w.heap.size + 1) W6 o v5) := hide (OW5.out.kept (row := none) (grownBy_below HB6.out) (fun k e => by cases e))
  have H86 := hide (H85.out.below HB6.out)
  clear hw6 HB6 A5 HW5 AZ5 OW5 D5 H85
  by_cases he : s2.code ≠ 0 ∨ s2.p < bs.length
  · have HDO2 : Hid (decO bs = (49, zeroO)) := hide (by rw [HDO.out, if_pos he])
    have hev : ∃ t x, endV bs s2 = .iface t x := by
      unfold endV
      rcases he with h | h
      · rw [if_pos h]; exact ⟨_, _, rfl⟩
      · split <;> exact ⟨_, _, rfl⟩
    obtain ⟨t, x, hx⟩ := hev
    rw [hx]
    clear he HDO hx
    go_wp2_with (first
      | ((with_reducible refine wpList_val (.agg objZ) ?_ (BdO.out ?_ _) ?_); rfl; rfl)
      | ((with_reducible refine wpList_store_blk ?_ 30 (.tmp 2) (.tmp 33) ?_ w.heap.size 39 objZ objZ 30 objZ_size objZ_size ?_ ?_ A6.out infoObj O1z.out ?_); rfl; rfl; rfl; rfl; intro w9 hk9 hg9))
    refine bodyPost_ret (results_cell2D rfl _ _ _ rfl _ (loadBlkT hk9 30 _ Tryd.underlying30 rfl 39 infoObj objZ_size)) rfl ?_
    exact decC_no HDO2.out (HW6.out.trans (below_grownBy hg9 (Nat.le_refl _) HW6.out.size))
  · have HDO2 : Hid (decO bs = if wrongO o ≠ 0 then (49, zeroO) else (0, o)) := hide (by rw [HDO.out, if_neg he])
    have hev : endV bs s2 = .nilIface := by unfold endV; rw [if_neg (by omega), if_neg (by omega)]
    rw [hev]
    clear he hev HDO
    go_wp2_with (first
      | ((with_reducible refine wpList_load_obj (.tmp 5) zo (objL o v5).toArray AZ6.out OZ.out ?_ ?_ ?_ ?_); rfl; rfl; exact wanted_yes (j := 3) (b := false) (t := 28) rfl rfl rfl (by decide : (28 : Nat) < 35)))
    refine (wrong_any W6 H86.out o v5 RD6.out TX.out).mono ?_
    rintro e W7 ⟨rfl, hb7⟩
    have A7 := hide (A6.out.below hb7 A6.out.lt)
    have HW7 := hide (HW6.out.trans (hb7.mono HW6.out.size))
    have AZ7 := hide (AZ6.out.below hb7 AZ6.out.lt)
    have OW7 : Hid (ObjOwn (w.heap.size + 1) W7 o v5) := hide (OW6.out.kept (row := none) (grownBy_below hb7) (fun k e => by cases e))
    clear hb7 A6 HW6 AZ6 OW6 RD6 H86
    by_cases hw : wrongO o = 0
    · have HDO3 : Hid (decO bs = (0, o)) := hide (by rw [HDO2.out, if_neg (by simpa using hw)])
      rw [hw]
      clear hw HDO2
      go_wp2_with (first
        | ((with_reducible refine wpList_load_obj (.tmp 5) zo (objL o v5).toArray AZ7.out OZ.out ?_ ?_ ?_ ?_); rfl; rfl; rfl)
        | ((with_reducible refine wpList_store_blk ?_ 30 (.tmp 2) (.tmp 34) ?_ w.heap.size 39 objZ (objL o v5).toArray 30 OZ.out objZ_size ?_ ?_ A7.out infoObj P1.out ?_); rfl; rfl; rfl; rfl; intro w9 hk9 hg9))
      refine bodyPost_ret (results_cell2D rfl _ _ _ rfl _ (loadBlkT hk9 30 _ Tryd.underlying30 rfl 39 infoObj OZ.out)) rfl ?_
      exact decC_mk HDO3.out (objOwn_up OW7.out hg9) (HW7.out.trans (below_grownBy hg9 (Nat.le_refl _) HW7.out.size))
    · have HDO3 : Hid (decO bs = (49, zeroO)) := hide (by rw [HDO2.out, if_pos hw])
      have hwb : (wrongO o != 0) = true := by simpa using hw
      obtain ⟨wo, hwo⟩ : ∃ x, x = wrongO o := ⟨_, rfl⟩
      rw [← hwo] at hwb ⊢
      clear hw HDO2 hwo
      go_wp2_with (first
        | ((with_reducible refine wpList_val (.agg objZ) ?_ (BdO.out ?_ _) ?_); rfl; rfl)
        | ((with_reducible refine wpList_store_blk ?_ 30 (.tmp 2) (.tmp 33) ?_ w.heap.size 39 objZ objZ 30 objZ_size objZ_size ?_ ?_ A7.out infoObj O1z.out ?_); rfl; rfl; rfl; rfl; intro w9 hk9 hg9))
      refine bodyPost_ret (results_cell2D rfl _ _ _ rfl _ (loadBlkT hk9 30 _ Tryd.underlying30 rfl 39 infoObj objZ_size)) rfl ?_
      exact decC_no HDO3.out (HW7.out.trans (below_grownBy hg9 (Nat.le_refl _) HW7.out.size))
end Go.Proofs.YtjcfndiceinkjabDoor

/- Decode: kind 4. -/
namespace Go.Proofs.YtjcfndiceinkjabDoor
set_option linter.unusedVariables false
set_option linter.unusedSimpArgs false
set_option maxRecDepth 100000
open Go.RowKit

set_option maxHeartbeats 8000000 in
theorem decode_4 (w : World) (hT8 : Tabs8 w) (b : Value) (bs : List UInt8) (hb : Rd w b bs) (hl : bs.length ≤ 8192) (hk0 : (mByte bs sZ0).1 = 4) : Calls Tryd.prog 7 #[b] w (DecC w bs) := by
  have hzo := zero_obj
  obtain ⟨W0, hW0⟩ : ∃ W, W = w.alloc (.cells objZ 30) := ⟨_, rfl⟩
  have A0 : Hid (Blk W0 w.heap.size objZ 30) := hide (by rw [hW0]; exact Blk.made w _ _)
  have HW0 : Hid (Below w.heap.size w W0) := hide (by rw [hW0]; exact below_alloc w _)
  have S0 : Hid (W0.heap.size = w.heap.size + 1) := hide (by rw [hW0]; simp)
  have HB := hide hb
  have H8 := hide hT8
  obtain ⟨n, hn⟩ : ∃ n, n = bs.length := ⟨_, rfl⟩
  have hnl : ¬ (8192 : Int) < (n : Int) := by omega
  have HL := hide hl
  have BdO : Hid (∀ {op : Oper} {a : Act}, op.op = .build 30 #[] → ∀ w, (execOp a.eval op).run Tryd.prog w = .ok (.value (.agg objZ)) w) := hide (fun ho w => run_buildO ho w)
  have O1z : Hid (objZ.all (·.oneCell') = true) := hide (all_oneCell_toArray (objL_one _ _ ⟨⟨_, _, _, rfl⟩, ⟨_, _, _, rfl⟩, ⟨_, _, _, rfl⟩, ⟨_, _, _, rfl⟩⟩))
  obtain ⟨ao, c, rfl, _⟩ := hb
  rw [← hn]
  have HN := hide hn
  rw [← hn] at hl
  clear hT8 hn hl
  go_enter Tryd.func7, Tryd.ntmps7
  go_wp2_with fail
  rw [← hW0]
  clear hW0
  rw [HN.out]
  refine (open_any W0 _ bs (HB.out.below HW0.out) (by have := HL.out; omega)).mono ?_
  rintro e W1 ⟨rfl, hd1, hb1, hs1⟩
  rw [← HN.out]
  obtain ⟨z, hz⟩ : ∃ z, z = W0.heap.size + 1 := ⟨_, rfl⟩
  rw [← hz] at hd1 ⊢
  have HZ : Hid (z = w.heap.size + 2) := hide (by rw [hz, S0.out])
  have HS1 : Hid (W1.heap.size = w.heap.size + 3) := hide (by rw [hs1, S0.out])
  have DZ := hide hd1
  have A1 := hide (A0.out.below hb1 A0.out.lt)
  have HW1 := hide (HW0.out.trans (hb1.mono HW0.out.size))
  obtain ⟨sv, hsv⟩ : ∃ x : Value, x = .slice (some ⟨W0.heap.size, 0, none⟩) bs.length bs.length := ⟨_, rfl⟩
  have SVB : Hid (∀ b, sv = .slice (some ⟨b, 0, none⟩) bs.length bs.length → b = w.heap.size + 1) := hide (fun b e => by rw [hsv] at e; cases e; exact S0.out)
  rw [← hsv] at DZ
  clear hd1 hb1 hs1 hz hsv HW0 A0
  go_wp2_with fail
  refine (take_kind W1 z sv bs sZ0 DZ.out).mono ?_
  rintro e W2 ⟨rfl, h1, h2⟩
  have HM : Hid (IntKind.u8.wrap (leNat ((mNext bs sZ0 (mPlace sZ0) 1).1.getD []) : Nat) = ((mByte bs sZ0).1 : Int)) := hide (by have := mByte_lt bs sZ0; unfold mByte at this ⊢; rw [IntKind.wrap_u8]; omega)
  rw [HM.out]
  have h1' : DecSt W2 z sv bs (mByte bs sZ0).2 := h1
  have HDO : Hid (decO bs = if (mObj bs 4 (mByte bs sZ0).2).2.code ≠ 0 ∨ (mObj bs 4 (mByte bs sZ0).2).2.p < bs.length then (49, zeroO) else if wrongO (mObj bs 4 (mByte bs sZ0).2).1 ≠ 0 then (49, zeroO) else (0, (mObj bs 4 (mByte bs sZ0).2).1)) := hide (by unfold decO; rw [if_neg (by have := HL.out; omega), if_neg (by omega), hk0])
  have HK0' := hk0
  clear hk0
  obtain ⟨k, hk⟩ : ∃ r, r = mByte bs sZ0 := ⟨_, rfl⟩
  rw [← hk] at h1' HDO HK0' ⊢
  clear hk HM h1
  obtain ⟨kd, s1⟩ := k
  have HKE : Hid (kd = 4) := hide HK0'
  clear HK0'
  have A2 := hide (A1.out.grown h2 (fun e => by have := Option.some.inj e; have := HZ.out; omega))
  have HW2 : Hid (Below w.heap.size w W2) := hide (HW1.out.trans (below_grownBy h2 (by have := HZ.out; omega) (by have := HS1.out; omega)))
  have S2 : Hid (W1.heap.size ≤ W2.heap.size) := hide h2.size
  have D2 := hide h1'
  obtain ⟨zo, hzo'⟩ : ∃ x, x = W2.heap.size := ⟨_, rfl⟩
  have HZO : Hid (w.heap.size + 3 ≤ zo) := hide (by rw [hzo', ← HS1.out]; exact S2.out)
  have ZB : Hid (Blk (W2.alloc (.cells objZ 30)) zo objZ 30) := hide (by rw [hzo']; exact Blk.made W2 _ _)
  have OZ : Hid ((objL (kindO kd) nilV).toArray.size = 39) := hide (objL_size _ _ rfl)
  have P1 : Hid ((objL (kindO kd) nilV).toArray.all (·.oneCell') = true) := hide (all_oneCell_toArray (objL_one _ _ ⟨⟨_, _, _, rfl⟩, ⟨_, _, _, rfl⟩, ⟨_, _, _, rfl⟩, ⟨_, _, _, rfl⟩⟩))
  obtain ⟨arr, harr⟩ : ∃ x, x = (objL (kindO kd) nilV).toArray := ⟨_, rfl⟩
  have BdK : Hid (∀ {op : Oper} {ev : Operand → Value} {x : Operand}, op.op = .build 30 #[(0, x)] → ev x = .int .u8 (kd : Int) → ∀ w, (execOp ev op).run Tryd.prog w = .ok (.value (.agg arr)) w) := hide (fun ho hx w => by rw [harr]; exact run_buildOK ho hx w)
  rw [← harr] at OZ P1
  have HARR := hide harr
  have HZO2 := hide hzo'
  clear h1' h2 A1 HW1 DZ harr hzo'
  go_wp2_with (first
    | ((with_reducible refine wpList_val (.agg arr) ?_ (BdK.out (x := .tmp 14) ?_ ?_ _) ?_); rfl; rfl; rfl)
    | ((with_reducible refine wpList_store_blk ?_ 30 (.tmp 5) (.tmp 15) ?_ W2.heap.size 39 objZ arr 30 OZ.out objZ_size ?_ ?_ (by rw [← HZO2.out]; exact ZB.out) infoObj P1.out ?_); rfl; rfl; rfl; rfl; intro W3 hk3 hg3; generalize hG : wpList _ _ _ _ _ _ = G))
  rw [← HZO2.out] at hk3 hg3
  have HB3 : Hid (Below W2.heap.size W2 W3) := hide ((below_alloc W2 _).trans (below_grownBy hg3 (by rw [HZO2.out]; exact Nat.le_refl _) (below_alloc W2 _).size))
  have hS3 : zo < W3.heap.size := Blk.lt hk3
  have A3 := hide (A2.out.below HB3.out A2.out.lt)
  have HW3 := hide (HW2.out.trans (HB3.out.mono HW2.out.size))
  have DS3 : Hid (DS W3 W3 z sv bs s1 zo (kindO kd) nilV) := hide ⟨by have := HZ.out; have := HZO.out; omega, hS3, fun b e => by have := SVB.out b e; have := HZO.out; omega, by have := HZ.out; have := HZO.out; omega, fun b e => by have := SVB.out b e; have := HZO.out; omega, D2.out.below HB3.out, by show Blk W3 zo (objL (kindO kd) nilV).toArray 30; rw [← HARR.out]; exact hk3, kindO_own _ _ _, Ch2.refl _ _ _⟩
  have c3 : W3.cell? ⟨zo, 0, none⟩ = some (.int .u8 (kd : Int)) := ObjAt.cKind (o := kindO kd) DS3.out.obj
  subst hG
  rw [← HZO2.out]
  clear hk3 hg3 HB3 A2 HW2 D2 ZB P1 BdK HARR HZO2 hS3 OZ
  go_wp2_with fail
  have HK0 := HKE.out
  clear HKE
  subst HK0
  refine (tk_4 W3 4 rfl).mono ?_
  rintro e W4 ⟨rfl, hw4⟩
  rw [hw4]
  clear hw4 W4 c3
  have hnf := fun w => notnil_f 54 w (by simp)
  have HFW := mObj_few bs 4 s1
  have HMO : mObj bs 4 s1 = mSnap bs s1 := rfl
  have HTX := mObj_txt bs 4 s1 (by omega)
  rw [HMO] at HDO HFW HTX
  clear HMO
  go_wp2_with fail
  refine (taker4_st W3 z sv bs s1 zo DS3.out).mono ?_
  rintro e W5 ⟨rfl, v5, h5⟩
  obtain ⟨r, hr⟩ : ∃ r, r = mSnap bs s1 := ⟨_, rfl⟩
  rw [← hr] at h5 HDO HFW HTX
  clear hr
  obtain ⟨o, s2⟩ := r
  have D5 := hide h5
  have TX : Hid (TxtSz o) := hide HTX
  have FW := hide HFW
  have B5 : Hid (Below (w.heap.size + 1) W3 W5) := hide (h5.ch.below (by have := HZ.out; omega) (by have := HZO.out; omega) (by have := A3.out.lt; omega))
  have A5 : Hid (Blk W5 w.heap.size objZ 30) := hide ((B5.out.block w.heap.size (by omega)).trans A3.out)
  have HW5 : Hid (Below w.heap.size w W5) := hide (HW3.out.trans (B5.out.mono (by omega)))
  have H85 := hide (H8.out.below HW5.out)
  have OW5 : Hid (ObjOwn (w.heap.size + 1) W5 o v5) := hide (objOwn_base h5.own (by have := A3.out.lt; omega))
  have AZ5 : Hid (Blk W5 zo (objL o v5).toArray 30) := hide h5.obj
  have OZ : Hid ((objL o v5).toArray.size = 39) := hide (objL_size o v5 h5.own.ok.t)
  have SL5 : Hid (v5.Sl) := hide (ObjRd.sl (h5.own.rd HFW.1 HFW.2.1 HFW.2.2))
  have P1 : Hid ((objL o v5).toArray.all (·.oneCell') = true) := hide (all_oneCell_toArray (objL_one o v5 SL5.out))
  clear h5 B5 HFW DS3 A3 HW3 SL5 hnf
  go_wp2_with fail
  refine (end_st W5 z sv bs s2 D5.out.dec).mono ?_
  rintro e W6 ⟨rfl, m, hw6⟩
  have HB6 : Hid (Below W5.heap.size W5 W6) := hide (by rw [hw6]; exact ⟨rfl, rfl, rfl, Nat.le_refl _, fun _ _ => rfl⟩)
  have A6 := hide (A5.out.below HB6.out A5.out.lt)
  have HW6 := hide (HW5.out.trans (HB6.out.mono HW5.out.size))
  have AZ6 := hide (AZ5.out.below HB6.out AZ5.out.lt)
  have RD6 : Hid (ObjRd W6 o v5) := hide ((OW5.out.rd FW.out.1 FW.out.2.1 FW.out.2.2).below HB6.out)
  have OW6 : Hid (ObjOwn (w.heap.size + 1) W6 o v5) := hide (OW5.out.kept (row := none) (grownBy_below HB6.out) (fun k e => by cases e))
  have H86 := hide (H85.out.below HB6.out)
  clear hw6 HB6 A5 HW5 AZ5 OW5 D5 H85
  by_cases he : s2.code ≠ 0 ∨ s2.p < bs.length
  · have HDO2 : Hid (decO bs = (49, zeroO)) := hide (by rw [HDO.out, if_pos he])
    have hev : ∃ t x, endV bs s2 = .iface t x := by
      unfold endV
      rcases he with h | h
      · rw [if_pos h]; exact ⟨_, _, rfl⟩
      · split <;> exact ⟨_, _, rfl⟩
    obtain ⟨t, x, hx⟩ := hev
    rw [hx]
    clear he HDO hx
    go_wp2_with (first
      | ((with_reducible refine wpList_val (.agg objZ) ?_ (BdO.out ?_ _) ?_); rfl; rfl)
      | ((with_reducible refine wpList_store_blk ?_ 30 (.tmp 2) (.tmp 33) ?_ w.heap.size 39 objZ objZ 30 objZ_size objZ_size ?_ ?_ A6.out infoObj O1z.out ?_); rfl; rfl; rfl; rfl; intro w9 hk9 hg9))
    refine bodyPost_ret (results_cell2D rfl _ _ _ rfl _ (loadBlkT hk9 30 _ Tryd.underlying30 rfl 39 infoObj objZ_size)) rfl ?_
    exact decC_no HDO2.out (HW6.out.trans (below_grownBy hg9 (Nat.le_refl _) HW6.out.size))
  · have HDO2 : Hid (decO bs = if wrongO o ≠ 0 then (49, zeroO) else (0, o)) := hide (by rw [HDO.out, if_neg he])
    have hev : endV bs s2 = .nilIface := by unfold endV; rw [if_neg (by omega), if_neg (by omega)]
    rw [hev]
    clear he hev HDO
    go_wp2_with (first
      | ((with_reducible refine wpList_load_obj (.tmp 5) zo (objL o v5).toArray AZ6.out OZ.out ?_ ?_ ?_ ?_); rfl; rfl; exact wanted_yes (j := 3) (b := false) (t := 28) rfl rfl rfl (by decide : (28 : Nat) < 35)))
    refine (wrong_any W6 H86.out o v5 RD6.out TX.out).mono ?_
    rintro e W7 ⟨rfl, hb7⟩
    have A7 := hide (A6.out.below hb7 A6.out.lt)
    have HW7 := hide (HW6.out.trans (hb7.mono HW6.out.size))
    have AZ7 := hide (AZ6.out.below hb7 AZ6.out.lt)
    have OW7 : Hid (ObjOwn (w.heap.size + 1) W7 o v5) := hide (OW6.out.kept (row := none) (grownBy_below hb7) (fun k e => by cases e))
    clear hb7 A6 HW6 AZ6 OW6 RD6 H86
    by_cases hw : wrongO o = 0
    · have HDO3 : Hid (decO bs = (0, o)) := hide (by rw [HDO2.out, if_neg (by simpa using hw)])
      rw [hw]
      clear hw HDO2
      go_wp2_with (first
        | ((with_reducible refine wpList_load_obj (.tmp 5) zo (objL o v5).toArray AZ7.out OZ.out ?_ ?_ ?_ ?_); rfl; rfl; rfl)
        | ((with_reducible refine wpList_store_blk ?_ 30 (.tmp 2) (.tmp 34) ?_ w.heap.size 39 objZ (objL o v5).toArray 30 OZ.out objZ_size ?_ ?_ A7.out infoObj P1.out ?_); rfl; rfl; rfl; rfl; intro w9 hk9 hg9))
      refine bodyPost_ret (results_cell2D rfl _ _ _ rfl _ (loadBlkT hk9 30 _ Tryd.underlying30 rfl 39 infoObj OZ.out)) rfl ?_
      exact decC_mk HDO3.out (objOwn_up OW7.out hg9) (HW7.out.trans (below_grownBy hg9 (Nat.le_refl _) HW7.out.size))
    · have HDO3 : Hid (decO bs = (49, zeroO)) := hide (by rw [HDO2.out, if_pos hw])
      have hwb : (wrongO o != 0) = true := by simpa using hw
      obtain ⟨wo, hwo⟩ : ∃ x, x = wrongO o := ⟨_, rfl⟩
      rw [← hwo] at hwb ⊢
      clear hw HDO2 hwo
      go_wp2_with (first
        | ((with_reducible refine wpList_val (.agg objZ) ?_ (BdO.out ?_ _) ?_); rfl; rfl)
        | ((with_reducible refine wpList_store_blk ?_ 30 (.tmp 2) (.tmp 33) ?_ w.heap.size 39 objZ objZ 30 objZ_size objZ_size ?_ ?_ A7.out infoObj O1z.out ?_); rfl; rfl; rfl; rfl; intro w9 hk9 hg9))
      refine bodyPost_ret (results_cell2D rfl _ _ _ rfl _ (loadBlkT hk9 30 _ Tryd.underlying30 rfl 39 infoObj objZ_size)) rfl ?_
      exact decC_no HDO3.out (HW7.out.trans (below_grownBy hg9 (Nat.le_refl _) HW7.out.size))
end Go.Proofs.YtjcfndiceinkjabDoor

/- Decode, of any bytes. -/
namespace Go.Proofs.YtjcfndiceinkjabDoor
set_option linter.unusedVariables false
set_option linter.unusedSimpArgs false
set_option maxRecDepth 100000
open Go.RowKit

theorem decode_any (w : World) (hT8 : Tabs8 w) (b : Value) (bs : List UInt8) (hb : Rd w b bs) : Calls Tryd.prog 7 #[b] w (DecC w bs) := by
  by_cases hl : 8192 < bs.length
  · exact decode_long w b bs hb hl
  by_cases k0 : (mByte bs sZ0).1 < 1 ∨ 4 < (mByte bs sZ0).1
  · exact decode_0 w hT8 b bs hb (by omega) k0
  rcases (show (mByte bs sZ0).1 = 1 ∨ (mByte bs sZ0).1 = 2 ∨ (mByte bs sZ0).1 = 3 ∨ (mByte bs sZ0).1 = 4 by omega) with e | e | e | e
  · exact decode_1 w hT8 b bs hb (by omega) e
  · exact decode_2 w hT8 b bs hb (by omega) e
  · exact decode_3 w hT8 b bs hb (by omega) e
  · exact decode_4 w hT8 b bs hb (by omega) e

end Go.Proofs.YtjcfndiceinkjabDoor
