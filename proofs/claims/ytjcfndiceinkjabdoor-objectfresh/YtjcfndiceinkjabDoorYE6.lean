/- Decode of bytes that came in, whatever their address. -/
import Derived.Test.YtjcfndiceinkjabDoorYem
namespace Go.Proofs.YtjcfndiceinkjabDoor
set_option linter.unusedVariables false
set_option linter.unusedSimpArgs false
set_option maxRecDepth 100000
open Go.RowKit

theorem copy_madeA (w : World) (v : Value) (xs : List UInt8) (h : RdA w v xs) (ty : TypeId) :
    (Builtin.copy_ #[23, 23] ty #[.slice (some ⟨w.heap.size, 0, none⟩) xs.length xs.length, v]).run Tryd.prog (w.alloc (.cells (madeCells #[.int .u8 0] xs.length) 5)) =
      .ok (goInt xs.length) (w.alloc (.cells (xs.map u8c).toArray 5)) := by
  rcases h with h | ⟨a, rfl, rfl⟩
  · exact copy_made w v xs h ty
  · have := run_copy_none (P := Tryd.prog) (w.alloc (.cells (madeCells #[.int .u8 0] 0) 5)) 23 23 ty 5 (some ⟨w.heap.size, 0, none⟩) (some a) 0 0 0 0 Tryd.underlying23 infoU8s rfl
    have e : madeCells #[Value.int .u8 0] 0 = #[] := Array.eq_empty_of_size_eq_zero (size_madeCells _ _)
    rw [e] at this
    simpa [e] using this
set_option maxRecDepth 20000 in
theorem open_arg (w : World) (v : Value) (xs : List UInt8) (h : RdA w v xs) (hlen : xs.length ≤ 140737488355000) :
    Calls Tryd.prog 23 #[v] w fun e w' => e = .returned (.pointer (some ⟨w.heap.size + 1, 0, none⟩)) ∧ DecSt w' (w.heap.size + 1) (.slice (some ⟨w.heap.size, 0, none⟩) xs.length xs.length) xs sZ0 ∧ Below w.heap.size w w' ∧ w'.heap.size = w.heap.size + 2 := by
  have hmk := make_u8 xs.length (by omega)
  have hcp := copy_madeA w v xs h
  obtain ⟨ao, c, hv, hrest⟩ := h.slice
  clear hrest
  subst hv
  go_enter Tryd.func23, Tryd.ntmps23
  go_wp2
  go_ret
  refine ⟨rfl, ⟨⟨by unfold maxLen; omega, .inr ⟨w.heap.size, rfl, by omega, (Blk.made w _ _).alloc _⟩⟩, Nat.zero_le _, ?_⟩, ((Below.refl _ _).alloc (Nat.le_refl _) _).alloc (by simp) _, by simp⟩
  have := Blk.made (w.alloc (.cells (xs.map u8c).toArray 5)) #[.slice (some ⟨w.heap.size, 0, none⟩) xs.length xs.length, .int .i64 0, .int .i64 0, .int .i64 0] 90
  rw [World.size_alloc] at this
  exact this

set_option maxHeartbeats 8000000 in
theorem decode_0A (w : World) (hT8 : Tabs8 w) (b : Value) (bs : List UInt8) (hb : RdA w b bs) (hl : bs.length ≤ 8192) (hk0 : (mByte bs sZ0).1 < 1 ∨ 4 < (mByte bs sZ0).1) : Calls Tryd.prog 7 #[b] w (DecC w bs) := by
  have hzo := zero_obj
  obtain ⟨W0, hW0⟩ : ∃ W, W = w.alloc (.cells objZ 30) := ⟨_, rfl⟩
  have A0 : Hid (Blk W0 w.heap.size objZ 30) := hide (by rw [hW0]; exact Blk.made w _ _)
  have HW0 : Hid (Below w.heap.size w W0) := hide (by rw [hW0]; exact below_alloc w _)
  have S0 : Hid (W0.heap.size = w.heap.size + 1) := hide (by rw [hW0]; simp)
  have HB := hide hb
  have H8 := hide hT8
  obtain ⟨n, hn⟩ : ∃ n, n = bs.length := ⟨_, rfl⟩
  have hnl : ¬ (8192 : Int) < (n : Int) := by omega
  have HL := hide hl
  have BdO : Hid (∀ {op : Oper} {a : Act}, op.op = .build 30 #[] → ∀ w, (execOp a.eval op).run Tryd.prog w = .ok (.value (.agg objZ)) w) := hide (fun ho w => run_buildO ho w)
  have O1z : Hid (objZ.all (·.oneCell') = true) := hide (all_oneCell_toArray (objL_one _ _ ⟨⟨_, _, _, rfl⟩, ⟨_, _, _, rfl⟩, ⟨_, _, _, rfl⟩, ⟨_, _, _, rfl⟩⟩))
  obtain ⟨ao, c, rfl, _⟩ := hb.slice
  rw [← hn]
  have HN := hide hn
  rw [← hn] at hl
  clear hT8 hn hl
  go_enter Tryd.func7, Tryd.ntmps7
  go_wp2_with fail
  rw [← hW0]
  clear hW0
  rw [HN.out]
  refine (open_arg W0 _ bs (HB.out.below HW0.out) (by have := HL.out; omega)).mono ?_
  rintro e W1 ⟨rfl, hd1, hb1, hs1⟩
  rw [← HN.out]
  obtain ⟨z, hz⟩ : ∃ z, z = W0.heap.size + 1 := ⟨_, rfl⟩
  rw [← hz] at hd1 ⊢
  have HZ : Hid (z = w.heap.size + 2) := hide (by rw [hz, S0.out])
  have HS1 : Hid (W1.heap.size = w.heap.size + 3) := hide (by rw [hs1, S0.out])
  have DZ := hide hd1
  have A1 := hide (A0.out.below hb1 A0.out.lt)
  have HW1 := hide (HW0.out.trans (hb1.mono HW0.out.size))
  obtain ⟨sv, hsv⟩ : ∃ x : Value, x = .slice (some ⟨W0.heap.size, 0, none⟩) bs.length bs.length := ⟨_, rfl⟩
  have SVB : Hid (∀ b, sv = .slice (some ⟨b, 0, none⟩) bs.length bs.length → b = w.heap.size + 1) := hide (fun b e => by rw [hsv] at e; cases e; exact S0.out)
  rw [← hsv] at DZ
  clear hd1 hb1 hs1 hz hsv HW0 A0
  go_wp2_with fail
  refine (take_kind W1 z sv bs sZ0 DZ.out).mono ?_
  rintro e W2 ⟨rfl, h1, h2⟩
  have HM : Hid (IntKind.u8.wrap (leNat ((mNext bs sZ0 (mPlace sZ0) 1).1.getD []) : Nat) = ((mByte bs sZ0).1 : Int)) := hide (by have := mByte_lt bs sZ0; unfold mByte at this ⊢; rw [IntKind.wrap_u8]; omega)
  rw [HM.out]
  have h1' : DecSt W2 z sv bs (mByte bs sZ0).2 := h1
  have HDO : Hid (decO bs = (49, zeroO)) := hide (by unfold decO; rw [if_neg (by have := HL.out; omega), if_pos hk0])
  have HK0' := hk0
  clear hk0
  obtain ⟨k, hk⟩ : ∃ r, r = mByte bs sZ0 := ⟨_, rfl⟩
  rw [← hk] at h1' HK0' ⊢
  clear hk HM h1
  obtain ⟨kd, s1⟩ := k
  have HK0 : Hid (kd < 1 ∨ 4 < kd) := hide HK0'
  clear HK0'
  have A2 := hide (A1.out.grown h2 (fun e => by have := Option.some.inj e; have := HZ.out; omega))
  have HW2 : Hid (Below w.heap.size w W2) := hide (HW1.out.trans (below_grownBy h2 (by have := HZ.out; omega) (by have := HS1.out; omega)))
  have S2 : Hid (W1.heap.size ≤ W2.heap.size) := hide h2.size
  have D2 := hide h1'
  obtain ⟨zo, hzo'⟩ : ∃ x, x = W2.heap.size := ⟨_, rfl⟩
  have HZO : Hid (w.heap.size + 3 ≤ zo) := hide (by rw [hzo', ← HS1.out]; exact S2.out)
  have ZB : Hid (Blk (W2.alloc (.cells objZ 30)) zo objZ 30) := hide (by rw [hzo']; exact Blk.made W2 _ _)
  have OZ : Hid ((objL (kindO kd) nilV).toArray.size = 39) := hide (objL_size _ _ rfl)
  have P1 : Hid ((objL (kindO kd) nilV).toArray.all (·.oneCell') = true) := hide (all_oneCell_toArray (objL_one _ _ ⟨⟨_, _, _, rfl⟩, ⟨_, _, _, rfl⟩, ⟨_, _, _, rfl⟩, ⟨_, _, _, rfl⟩⟩))
  obtain ⟨arr, harr⟩ : ∃ x, x = (objL (kindO kd) nilV).toArray := ⟨_, rfl⟩
  have BdK : Hid (∀ {op : Oper} {ev : Operand → Value} {x : Operand}, op.op = .build 30 #[(0, x)] → ev x = .int .u8 (kd : Int) → ∀ w, (execOp ev op).run Tryd.prog w = .ok (.value (.agg arr)) w) := hide (fun ho hx w => by rw [harr]; exact run_buildOK ho hx w)
  rw [← harr] at OZ P1
  have HARR := hide harr
  have HZO2 := hide hzo'
  clear h1' h2 A1 HW1 DZ harr hzo'
  go_wp2_with (first
    | ((with_reducible refine wpList_val (.agg arr) ?_ (BdK.out (x := .tmp 14) ?_ ?_ _) ?_); rfl; rfl; rfl)
    | ((with_reducible refine wpList_store_blk ?_ 30 (.tmp 5) (.tmp 15) ?_ W2.heap.size 39 objZ arr 30 OZ.out objZ_size ?_ ?_ (by rw [← HZO2.out]; exact ZB.out) infoObj P1.out ?_); rfl; rfl; rfl; rfl; intro W3 hk3 hg3; generalize hG : wpList _ _ _ _ _ _ = G))
  rw [← HZO2.out] at hk3 hg3
  have HB3 : Hid (Below W2.heap.size W2 W3) := hide ((below_alloc W2 _).trans (below_grownBy hg3 (by rw [HZO2.out]; exact Nat.le_refl _) (below_alloc W2 _).size))
  have hS3 : zo < W3.heap.size := Blk.lt hk3
  have A3 := hide (A2.out.below HB3.out A2.out.lt)
  have HW3 := hide (HW2.out.trans (HB3.out.mono HW2.out.size))
  have DS3 : Hid (DS W3 W3 z sv bs s1 zo (kindO kd) nilV) := hide ⟨by have := HZ.out; have := HZO.out; omega, hS3, fun b e => by have := SVB.out b e; have := HZO.out; omega, by have := HZ.out; have := HZO.out; omega, fun b e => by have := SVB.out b e; have := HZO.out; omega, D2.out.below HB3.out, by show Blk W3 zo (objL (kindO kd) nilV).toArray 30; rw [← HARR.out]; exact hk3, kindO_own _ _ _, Ch2.refl _ _ _⟩
  have c3 : W3.cell? ⟨zo, 0, none⟩ = some (.int .u8 (kd : Int)) := ObjAt.cKind (o := kindO kd) DS3.out.obj
  subst hG
  rw [← HZO2.out]
  clear hk3 hg3 HB3 A2 HW2 D2 ZB P1 BdK HARR HZO2 hS3 OZ
  go_wp2_with fail
  refine (tk_0 W3 kd (by have := HK0.out; omega) (by have := HK0.out; omega) (by have := HK0.out; omega) (by have := HK0.out; omega)).mono ?_
  rintro e W4 ⟨rfl, hw4⟩
  rw [hw4]
  clear hw4 W4 c3
  have ZS := objZ_size
  have HNF := isnil_f W3
  go_wp2_with (first
    | ((with_reducible refine wpList_val (.agg objZ) ?_ (BdO.out ?_ _) ?_); rfl; rfl)
    | ((with_reducible refine wpList_store_blk ?_ 30 (.tmp 2) (.tmp 21) ?_ w.heap.size 39 objZ objZ 30 objZ_size objZ_size ?_ ?_ A3.out infoObj O1z.out ?_); rfl; rfl; rfl; rfl; intro w9 hk9 hg9))
  refine bodyPost_ret (results_cell2D rfl _ _ _ rfl _ (loadBlkT hk9 30 _ Tryd.underlying30 rfl 39 infoObj objZ_size)) rfl ?_
  exact decC_no HDO.out (HW3.out.trans (below_grownBy hg9 (Nat.le_refl _) HW3.out.size))
theorem decode_arg (w : World) (hT8 : Tabs8 w) (b : Value) (bs : List UInt8) (hb : RdA w b bs) : Calls Tryd.prog 7 #[b] w (DecC w bs) := by
  rcases hb with hb | ⟨a, rfl, rfl⟩
  · exact decode_any w hT8 b bs hb
  · exact decode_0A w hT8 _ [] (.inr ⟨a, rfl, rfl⟩) (by simp) (by decide)
end Go.Proofs.YtjcfndiceinkjabDoor
