/- ObjectBack, walked. -/
import Derived.Test.YtjcfndiceinkjabDoorOX2
import Derived.Test.YtjcfndiceinkjabDoorYE6
import Derived.Lib.SlBytesConst
namespace Go.Proofs.YtjcfndiceinkjabDoor
set_option linter.unusedVariables false
set_option linter.unusedSimpArgs false
set_option maxRecDepth 100000
open Go.RowKit

theorem name_world {P : Program} {c : Code} {Q : Exit → Act → World → Prop} {a : Act} {w : World} (R : World → Prop) (h : R w) (k : ∀ W, R W → c.wp P Q a W) : c.wp P Q a w := k w h
/-- What is kept from call to call. -/
structure BkS (w W : World) (o : ObjR) (va : ObjV) (rw : Value) (rs : List UInt8) : Prop where
  old : Below w.heap.size w W
  A : Blk W w.heap.size (objL o va).toArray 30
  RA : ObjRd W o va
  R : RdA W rw rs
  T8 : Tabs8 W
  T : Tabs W
theorem BkS.below {w W W' : World} {o : ObjR} {va : ObjV} {rw : Value} {rs : List UInt8} (h : BkS w W o va rw rs) (hb : Below W.heap.size W W') : BkS w W' o va rw rs :=
  ⟨h.old.trans (hb.mono h.old.size), h.A.below hb h.A.lt, h.RA.below hb, h.R.below hb, h.T8.below hb, h.T.below hb⟩
theorem Rd_const (w : World) (xs : List UInt8) (n : Nat) (hn : xs.length = n) (hm : n ≤ maxLen) : RdA (w.alloc (.cells (xs.map u8c).toArray 5 (n, n + 1))) (.slice (some ⟨w.heap.size, 0, none⟩) n n) xs := by
  refine .inl ⟨_, n, by rw [hn], by omega, hm, .inr ⟨w.heap.size, 0, rfl, fun i hi => ?_⟩⟩
  rw [Nat.zero_add, World.cell?_alloc_mark]
  simp [hi]
def hiO : ObjR := ⟨1, [104, 105], [], [], zero32, [], 0, []⟩
theorem hi_check : checkO hiO = 0 := by decide +kernel
theorem hi_enc : encO hiO = [1, 104, 105] := by decide +kernel
theorem hi_ok : ObjOk hiO := ⟨rfl, by simp [hiO], by simp [hiO], by simp [hiO]⟩
theorem hi_txt : TxtSz hiO := ⟨by simp [hiO], by simp [hiO], by simp [hiO], by simp [hiO], by decide⟩
theorem hi_dec : decO [1, 104, 105] = (0, hiO) := by
  have h := dec_lay hi_check hi_ok hi_txt
  have e : layO hiO = [1, 104, 105] := by have := hi_enc; unfold encO at this; rwa [if_pos hi_check] at this
  rwa [e] at h
theorem run_buildHi {op : Oper} {ev : Operand → Value} {x : Operand} {a : Option Addr} {n c : Nat} (ho : op.op = .build 30 #[(0, .const (.int .u8 1)), (1, x)]) (hx : ev x = .slice a n c) (hc : ev (.const (.int .u8 1)) = .int .u8 1) (w : World) : (execOp ev op).run Tryd.prog w = .ok (.value (.agg (objL hiO ⟨.slice a n c, .slice none 0 0, .slice none 0 0, .slice none 0 0⟩).toArray)) w := by
  simp only [execOp, ho]
  simp only [List.map_toArray, List.map_cons, List.map_nil, hx, hc]
  kernel_rfl
/-- An object that was decoded, stored into a variable of its own. -/
structure DcS (W : World) (z : Nat) (o : ObjR) (v : ObjV) : Prop where
  at' : Blk W z (objL o v).toArray 30
  rd : ObjRd W o v
theorem DcS.below {W W' : World} {z : Nat} {o : ObjR} {v : ObjV} (h : DcS W z o v) (hb : Below W.heap.size W W') : DcS W' z o v := ⟨h.at'.below hb h.at'.lt, h.rd.below hb⟩
theorem dec_few (bs : List UInt8) : (decO bs).2.parts.length ≤ 128 ∧ (decO bs).2.items.length ≤ 128 ∧ (decO bs).2.parents.length ≤ 128 := by
  have hz : zeroO.parts.length ≤ 128 ∧ zeroO.items.length ≤ 128 ∧ zeroO.parents.length ≤ 128 := by decide
  unfold decO
  split
  · exact hz
  split
  · exact hz
  split
  · exact hz
  split
  · exact hz
  · exact mObj_few bs _ _
theorem dec_txt (bs : List UInt8) : TxtSz (decO bs).2 := by
  have hz0 : (Lit.int .i64 0).wf = true := by decide
  have hz : TxtSz zeroO := ⟨by simp [zeroO], by simp [zeroO], by simp [zeroO], by simp [zeroO], hz0⟩
  unfold decO
  split
  · exact hz
  split
  · exact hz
  split
  · exact hz
  split
  · exact hz
  · unfold mObj
    split
    · exact ⟨by simp [mBlob, kindO, zeroO], by simp [mBlob, kindO, zeroO], by simp [mBlob, kindO, zeroO], by simp [mBlob, kindO], hz0⟩
    split
    · exact ⟨by simp [mList, kindO, zeroO], by simp [mList, kindO, zeroO], mEachT_ok (mPart bs) (fun p => p.2 ≤ 18446744073709551615) (fun s => Nat.le_trans (mNum_ok_le bs _ _) (by decide)) bs _ 128, by simp [mList, kindO], hz0⟩
    split
    · exact ⟨mEachT_ok (mItem bs) (fun p => p.2.1 ≤ 255) (fun s => by have := mByte_lt bs (mText bs s 64).2; show (mByte bs (mText bs s 64).2).1 ≤ 255; omega) bs _ 128, mEachT_ok (mItem bs) (fun p => p.2.2.1 ≤ 18446744073709551615) (fun s => mNum_ok_le bs _ _) bs _ 128, by simp [mTree, kindO, zeroO], by simp [mTree, kindO], hz0⟩
    · exact ⟨by simp [mSnap, kindO, zeroO], by simp [mSnap, kindO, zeroO], by simp [mSnap, kindO, zeroO], by simp [mSnap, kindO], time_ok _⟩
theorem key_ok (w : World) (hT8 : Tabs8 w) (hT : Tabs w) (o : ObjR) (v : ObjV) (hr : ObjRd w o v) (hs : TxtSz o) (kb : List UInt8) (hc : checkO o = 0) (hk : keyO o = kb) : Calls Tryd.prog 12 #[.agg (objL o v).toArray] w fun e w' => ∃ ks, e = .returned (.tuple #[.agg ks, .int .i64 0]) ∧ ks = (kb.map u8c).toArray ∧ ks.size = 32 ∧ ks.all (·.oneCell') = true ∧ Below w.heap.size w w' := by
  refine (keyOf_any w hT8 hT o v hr hs).mono ?_
  rintro e w' ⟨rfl, h⟩
  have hl : kb.length = 32 := by rw [← hk]; exact keyO_len o
  exact ⟨_, by rw [hc, hk]; rfl, rfl, by simp [hl], all_oneCell_toArray (u8c_one _), h⟩
theorem own_spare {w : World} {g base : Nat} {xs : List UInt8} (hb : base ≤ g) (h : Blk w g ((spL xs).map u8c).toArray 5) (hl : xs.length ≤ 140737488353000) : w.ownsRow base 5 1 (.slice (some ⟨g, 0, none⟩) xs.length (xs.length + 70)) xs.length (xs.map u8c) := by
  refine ⟨by simp, .inr ⟨g, xs.length + 70, ((spL xs).map u8c).toArray, rfl, hb, h, by omega, by unfold maxLen; omega, by simp [spL_len], ?_⟩⟩
  simp only [Nat.mul_one]
  apply List.ext_getElem?
  intro i
  rcases Nat.lt_or_ge i xs.length with hi | hi
  · rw [List.getElem?_take_of_lt hi]
    simp only [List.getElem?_map, spL_at xs i (by omega), Option.map_some]
    unfold spAt
    simp [List.getElem?_eq_getElem hi]
  · rw [List.getElem?_eq_none (by simp; omega), List.getElem?_eq_none (by simpa using hi)]
/-- Encode, where it may be; where it may not be. -/
theorem enc_ok (w : World) (hT8 : Tabs8 w) (o : ObjR) (v : ObjV) (hr : ObjRd w o v) (hs : TxtSz o) (L : List UInt8) (hc : checkO o = 0) (hL : layO o = L) : Calls Tryd.prog 6 #[.agg (objL o v).toArray] w fun e w' => ∃ ao c, e = .returned (.tuple #[.slice ao L.length c, .int .i64 0]) ∧ Rd w' (.slice ao L.length c) L ∧ Below w.heap.size w w' := by
  refine (encode_any w hT8 o v hr hs).mono ?_
  rintro e w' ⟨v', rfl, h1, h2⟩
  have he : encO o = L := by unfold encO; rw [if_pos hc, hL]
  rw [he] at h1
  have h3 := Rd_owned h1
  obtain ⟨ao, c, hv, _⟩ := h3
  subst hv
  exact ⟨ao, c, by rw [hc], Rd_owned h1, h2⟩
theorem enc_no (w : World) (hT8 : Tabs8 w) (o : ObjR) (v : ObjV) (hr : ObjRd w o v) (hs : TxtSz o) (k : Int) (hc : checkO o = k) : Calls Tryd.prog 6 #[.agg (objL o v).toArray] w fun e w' => ∃ ao n c, e = .returned (.tuple #[.slice ao n c, .int .i64 k]) ∧ Below w.heap.size w w' := by
  refine (encode_any w hT8 o v hr hs).mono ?_
  rintro e w' ⟨v', rfl, h1, h2⟩
  obtain ⟨ao, c, rfl⟩ := own_sl h1
  exact ⟨ao, _, c, by rw [hc], h2⟩
theorem dec_is (w : World) (hT8 : Tabs8 w) (b : Value) (bs : List UInt8) (hb : RdA w b bs) (k : Int) (q : ObjR) (hd : decO bs = (k, q)) : Calls Tryd.prog 7 #[b] w fun e w' => ∃ v' cs, e = .returned (.tuple #[.agg cs, .int .i64 k]) ∧ cs = (objL q v').toArray ∧ cs.size = 39 ∧ cs.all (·.oneCell') = true ∧ ObjRd w' q v' ∧ Below w.heap.size w w' := by
  refine (decode_arg w hT8 b bs hb).mono ?_
  rintro e w' ⟨v', rfl, h1, h2⟩
  have hf := dec_few bs
  rw [hd] at h1 hf ⊢
  have hrd : ObjRd w' q v' := h1.rd hf.1 hf.2.1 hf.2.2
  exact ⟨v', _, rfl, rfl, objL_size q v' hrd.ok.t, all_oneCell_toArray (objL_one q v' hrd.sl), hrd, h2⟩
set_option maxRecDepth 20000 in
set_option maxHeartbeats 8000000 in
theorem back_law (w : World) (hT8 : Tabs8 w) (hT : Tabs w) (o : ObjR) (va : ObjV) (ho : ObjRd w o va) (tx : TxtSz o) (sz : ObjSz o) (hkl : (kidsO o).length ≤ 9223372036854775807) (raw : Value) (rs : List UInt8) (hr : RdA w raw rs) :
    Calls Tryd.prog 3 #[.agg (objL o va).toArray, raw] w (BoolC w true) := by
  have hzo := zero_obj
  obtain ⟨ar, cr, rfl, _⟩ := hr.slice
  have E0 : Hid (BkS w (w.alloc (.cells (objL o va).toArray 30)) o va (.slice ar rs.length cr) rs) := hide ⟨below_alloc w _, Blk.made w _ _, ho.below (below_alloc w _), hr.below (below_alloc w _), hT8.below (below_alloc w _), hT.below (below_alloc w _)⟩
  have OZ : Hid ((objL o va).toArray.size = 39) := hide (objL_size o va ho.ok.t)
  have TX := hide tx
  have SZ := hide sz
  have HKL := hide hkl
  have OKo := hide ho.ok
  obtain ⟨arr, harr⟩ : ∃ x, x = (objL o va).toArray := ⟨_, rfl⟩
  have HAR := hide harr
  rw [← harr] at E0 OZ ⊢
  clear hr hT8 hT ho tx sz hkl harr
  generalize hn : rs.length = nr at E0 ⊢
  have HNR := hide hn
  clear hn
  go_enter Tryd.func3, Tryd.ntmps3
  go_upto_region 1 with fail
  refine name_world (fun W => BkS w W o va (.slice ar nr cr) rs) E0.out ?_
  intro W0 hE
  have E := hide hE
  clear hE E0
  have H1 : Hid (RdA (W0.alloc (.cells #[.int .u8 104, .int .u8 105] 5 (2, 3))) (.slice (some ⟨W0.heap.size, 0, none⟩) 2 2) [104, 105]) := hide (Rd_const W0 [104, 105] 2 rfl (by decide))
  have HEN := hide (enc_ok (W0.alloc (.cells #[.int .u8 104, .int .u8 105] 5 (2, 3))) (E.out.T8.below (below_alloc _ _)) hiO ⟨.slice (some ⟨W0.heap.size, 0, none⟩) 2 2, .slice none 0 0, .slice none 0 0, .slice none 0 0⟩ ⟨hi_ok, H1.out, rowR_nil _ 33, rowR_nil _ 35, rowR_nil _ 32⟩ hi_txt [1, 104, 105] hi_check (by have := hi_enc; unfold encO at this; rwa [if_pos hi_check] at this))
  obtain ⟨hiA, hhiA⟩ : ∃ x, x = (objL hiO ⟨.slice (some ⟨W0.heap.size, 0, none⟩) 2 2, .slice none 0 0, .slice none 0 0, .slice none 0 0⟩).toArray := ⟨_, rfl⟩
  have BdH : Hid (∀ {op : Oper} {ev : Operand → Value} {x : Operand}, op.op = .build 30 #[(0, .const (.int .u8 1)), (1, x)] → ev x = .slice (some ⟨W0.heap.size, 0, none⟩) 2 2 → ev (.const (.int .u8 1)) = .int .u8 1 → ∀ w, (execOp ev op).run Tryd.prog w = .ok (.value (.agg hiA)) w) := hide (fun ho hx hc w => by rw [hhiA]; exact run_buildHi ho hx hc w)
  rw [← hhiA] at HEN
  clear hhiA H1
  have kc := fun (w : World) (C : Array Value) (n c : Nat) => Lib.run_convert_bytes_const (P := Tryd.prog) w 23 5 C n c Tryd.underlying23 Tryd.underlying5
  go_upto_region 2 with (first
    | ((with_reducible refine wpList_val (.agg hiA) ?_ (BdH.out (x := .tmp 20) ?_ ?_ ?_ _) ?_); rfl; rfl; rfl; rfl)
    | (go_at_call 6; refine HEN.out.mono ?_; rintro e W1 ⟨a1, c1, rfl, hr1, hb1⟩; have E1 := hide ((E.out.below (below_alloc _ _)).below hb1); have R1 := hide hr1; clear hr1 hb1))
  clear HEN BdH E kc
  go_upto_region 3 with (first
    | (go_at_call 7; refine (dec_is _ E1.out.T8 _ _ (.inl R1.out) 0 hiO hi_dec).mono ?_; rintro e W2 ⟨v2, cs2, rfl, hcs, hsz, hone, hrd, hbx⟩; have HCS := hide hcs; have HSZ := hide hsz; have HON := hide hone; have HRD := hide hrd; have HBX := hide hbx; have ZB := hide (Blk.made W2 objZ 30); clear hcs hsz hone hrd hbx)
    | ((with_reducible refine wpList_store_blk ?_ 30 (.tmp 7) (.tmp 28) ?_ W2.heap.size 39 objZ cs2 30 HSZ.out objZ_size ?_ ?_ ZB.out infoObj HON.out ?_); rfl; rfl; rfl; rfl; intro WY hky hgy; have HKY := hide hky; have HGY := hide hgy; clear hky hgy))
  refine name_world (fun W => BkS w W o va (.slice ar nr cr) rs ∧ ∃ z, z = W2.heap.size ∧ DcS W z hiO v2 ∧ Below W2.heap.size W2 W) ?_ ?_
  · have hbw : Below W2.heap.size W2 WY := (below_alloc W2 _).trans (below_grownBy HGY.out (Nat.le_refl _) (below_alloc W2 _).size)
    exact ⟨(E1.out.below HBX.out).below hbw, _, rfl, ⟨by rw [← HCS.out]; exact HKY.out, HRD.out.below hbw⟩, hbw⟩
  rintro W2n ⟨hE, z7, hz, hD, hbn⟩
  have E3 := hide hE
  have Dz7 := hide hD
  have Bz7 := hide (HBX.out.trans (hbn.mono HBX.out.size))
  rw [← hz]
  clear hE hD hz hbn HCS HSZ HON HRD HBX ZB HKY HGY
  have hS2 := (DcS.rd Dz7.out).sl.d
  obtain ⟨ad, nd, cd, hvd⟩ := hS2
  have hcA : (convert 23 9 (.slice a1 3 c1)).run Tryd.prog W2n = .ok (.string ⟨#[1, 104, 105]⟩) W2n := conv_rdA W2n _ [1, 104, 105] ((RdA.below (.inl R1.out) Bz7.out : RdA W2n _ [1, 104, 105]))
  have hcB : (convert 23 9 v2.d).run Tryd.prog W2n = .ok (.string ⟨#[104, 105]⟩) W2n := conv_rdA W2n v2.d [104, 105] (DcS.rd Dz7.out).d
  have hcC : W2n.cell? ⟨z7, 1, none⟩ = some v2.d := ObjAt.cD (Dz7.out.at')
  rw [hvd] at hcB hcC
  clear hvd
  go_upto_region 5 with fail
  clear hcA hcB hcC Dz7 Bz7 R1 E1
  have AA3 : Hid (Blk W2n w.heap.size arr 30) := hide (by rw [HAR.out]; exact E3.out.A)
  by_cases hck : checkO o = 0
  · skip
    have CK := hide hck
    have HDL : Hid (decO (layO o) = (0, o)) := hide (dec_lay hck OKo.out TX.out)
    have HLG : Hid (1 < o.kind → (decO (layO o ++ [0])).1 ≠ 0) := hide (fun h => dec_longer hck OKo.out TX.out h)
    have LL : Hid ((layO o).length ≤ 8192) := hide (lay_le hck).1
    have HEN := hide (enc_ok W2n E3.out.T8 o va E3.out.RA TX.out (layO o) hck rfl)
    have HKY0 : Hid (keyO o = shaOf (layO o)) := hide (by unfold keyO; rw [if_pos hck])
    rw [← HAR.out] at HEN
    clear hck
    generalize layO o = L at HDL HLG LL HEN HKY0
    obtain ⟨nl, hnl⟩ : ∃ n, n = L.length := ⟨_, rfl⟩
    rw [← hnl] at HEN LL
    have HNL := hide hnl
    clear hnl
    go_upto_region 7 with (first
      | ((with_reducible refine wpList_load_obj (.tmp 2) w.heap.size arr AA3.out OZ.out ?_ ?_ ?_ ?_); rfl; rfl; rfl)
      | (go_at_call 6; refine HEN.out.mono ?_; rintro e W4 ⟨a4, c4, rfl, hr4, hb4⟩; have E4 := hide (E3.out.below hb4); have R4 := hide hr4; clear hr4 hb4))
    clear HEN AA3
    go_upto_region 8 with (first
      | (go_at_call 7; refine (dec_is _ E4.out.T8 _ _ (.inl R4.out) 0 o HDL.out).mono ?_; rintro e W5 ⟨v5, cs5, rfl, hcs, hsz, hone, hrd, hbx⟩; have HCS := hide hcs; have HSZ := hide hsz; have HON := hide hone; have HRD := hide hrd; have HBX := hide hbx; have ZB := hide (Blk.made W5 objZ 30); clear hcs hsz hone hrd hbx)
      | ((with_reducible refine wpList_store_blk ?_ 30 (.tmp 10) (.tmp 57) ?_ W5.heap.size 39 objZ cs5 30 HSZ.out objZ_size ?_ ?_ ZB.out infoObj HON.out ?_); rfl; rfl; rfl; rfl; intro WY hky hgy; have HKY := hide hky; have HGY := hide hgy; clear hky hgy))
    refine name_world (fun W => BkS w W o va (.slice ar nr cr) rs ∧ ∃ z, z = W5.heap.size ∧ DcS W z o v5 ∧ Below W5.heap.size W5 W) ?_ ?_
    · have hbw : Below W5.heap.size W5 WY := (below_alloc W5 _).trans (below_grownBy HGY.out (Nat.le_refl _) (below_alloc W5 _).size)
      exact ⟨(E4.out.below HBX.out).below hbw, _, rfl, ⟨by rw [← HCS.out]; exact HKY.out, HRD.out.below hbw⟩, hbw⟩
    rintro W5n ⟨hE, z10, hz, hD, hbn⟩
    have E5 := hide hE
    have Dz10 := hide hD
    have Bz10 := hide (HBX.out.trans (hbn.mono HBX.out.size))
    rw [← hz]
    clear hE hD hz hbn HCS HSZ HON HRD HBX ZB HKY HGY
    clear E4 E3
    have R5 : Hid (RdA W5n (.slice a4 nl c4) L) := hide (RdA.below (.inl R4.out) Bz10.out)
    refine b8_walk _ (fun _ _ _ _ _ h => h) _ w.heap.size z10 o va v5 ⟨E5.out.A, Dz10.out.at', E5.out.RA, Dz10.out.rd⟩ E5.out.T8 TX.out SZ.out CK.out HKL.out _ (Nat.lt_of_sub_pos (by exact Nat.succ_pos _)) rfl rfl rfl ?_
    intro k1 k2 w9 hb9 _
    have E9 := hide (E5.out.below hb9)
    have D9 := hide (Dz10.out.below hb9)
    have R9 := hide (R5.out.below hb9)
    clear hb9 E5 Dz10 Bz10 R5 R4
    simp only [Act.put, List.setIfInBounds_toArray, List.set_cons_zero, List.set_cons_succ]
    have CB : Hid (∃ c, c = (objL o v5).toArray) := hide ⟨_, rfl⟩
    obtain ⟨cb, hcb⟩ := CB.out
    have HCB := hide hcb
    have D9b : Hid (Blk w9 z10 cb 30) := hide (by rw [hcb]; exact D9.out.at')
    have S9 : Hid (cb.size = 39) := hide (by rw [hcb]; exact objL_size o v5 D9.out.rd.ok.t)
    obtain ⟨kb, hkb⟩ : ∃ k, k = shaOf L := ⟨_, rfl⟩
    have HKB := hide hkb
    have KL : Hid (kb.length = 32) := hide (by rw [hkb]; exact shaOf_len _)
    have HKO := hide (key_ok w9 E9.out.T8 E9.out.T o v5 D9.out.rd TX.out kb CK.out (by rw [hkb]; exact HKY0.out))
    rw [← HCB.out] at HKO
    have hzk := zero_key
    have ZS : Hid (keyZ.size = 32) := hide rfl
    clear hcb CB hkb HKY0
    go_upto_region 11 with (first
      | ((with_reducible refine wpList_load_obj (.tmp 10) z10 cb D9b.out S9.out ?_ ?_ ?_ ?_); rfl; rfl; rfl)
      | (go_at_call 12; refine HKO.out.mono ?_; rintro e WA ⟨ks, rfl, hks, hsz, hone, hbA⟩; have HKS := hide hks; have HSZ := hide hsz; have HON := hide hone; have HBA := hide hbA; have ZB := hide (Blk.made WA keyZ 27); clear hks hsz hone hbA)
      | ((with_reducible refine wpList_store_blk ?_ 27 (.tmp 12) (.tmp 83) ?_ WA.heap.size 32 keyZ ks 27 HSZ.out ZS.out ?_ ?_ ZB.out infoKey HON.out ?_); rfl; rfl; rfl; rfl; intro WY hky hgy; have HKY := hide hky; have HGY := hide hgy; clear hky hgy))
    refine name_world (fun W => BkS w W o va (.slice ar nr cr) rs ∧ ∃ z, z = WA.heap.size ∧ Blk W z (kb.map u8c).toArray 27 ∧ RdA W (.slice a4 nl c4) L) ?_ ?_
    · have hbw : Below WA.heap.size WA WY := (below_alloc WA _).trans (below_grownBy HGY.out (Nat.le_refl _) (below_alloc WA _).size)
      exact ⟨(E9.out.below HBA.out).below hbw, _, rfl, by rw [← HKS.out]; exact HKY.out, (R9.out.below HBA.out).below hbw⟩
    rintro WB ⟨hE, z12, hz, hK, hR⟩
    have EB := hide hE
    have KB12 := hide hK
    have RB := hide hR
    rw [← hz]
    clear hE hK hz hR HKS HSZ HON HBA ZB HKY HGY HKO D9 D9b S9 HCB E9 R9
    refine b11_walk _ (fun _ _ _ _ _ h => h) _ z12 kb L (.slice a4 nl c4) KB12.out RB.out EB.out.T KL.out HKB.out (by have := LL.out; have := HNL.out; omega) _ (Nat.lt_of_sub_pos (by exact Nat.succ_pos _)) rfl rfl rfl ?_
    intro wC hbC
    have EC := hide (EB.out.below hbC)
    have RC := hide (RB.out.below hbC)
    clear hbC EB RB KB12
    simp only [Act.put, List.setIfInBounds_toArray, List.set_cons_zero, List.set_cons_succ]
    have HSP := hide (spare_any wC _ L RC.out (by have := LL.out; have := HNL.out; omega))
    go_upto_region 14 with (first
      | (go_at_call 14; refine HSP.out.mono ?_; rintro e WD ⟨rfl, hkD, hbD⟩; rw [← HNL.out]; have OWD : Hid (∀ W, Below WD.heap.size WD W → W.ownsRow wC.heap.size 5 1 (.slice (some ⟨wC.heap.size, 0, none⟩) nl (nl + 70)) L.length (L.map u8c)) := hide (fun W hb => (by rw [HNL.out]; exact own_spare (Nat.le_refl _) (hkD.below hb hkD.lt) (by have := LL.out; have := HNL.out; omega))); have ED := hide (EC.out.below hbD); have OWA := hide (OWD.out _ (below_alloc WD (.cells #[.int .u8 0] 5))); have RD0 : Hid (RdA (WD.alloc (.cells #[.int .u8 0] 5)) (.slice (some ⟨WD.heap.size, 0, none⟩) 1 1) [0]) := hide (.inl (Rd_owned (owns_made WD [0] (by decide) WD.heap.size (Nat.le_refl _)))); have LN0 : Hid (L.length + ([0] : List UInt8).length ≤ 140737488355000) := hide (by have := LL.out; have := HNL.out; simp; omega); have BS0 : Hid (wC.heap.size ≤ (WD.alloc (.cells #[.int .u8 0] 5)).heap.size) := hide (by have := hbD.size; simp; omega); have HBD := hide hbD; clear hkD hbD OWD)
      | ((with_reducible refine wpList_append_rdX ?_ (.tmp 94) (.tmp 95) ?_ wC.heap.size (.slice (some ⟨wC.heap.size, 0, none⟩) nl (nl + 70)) (.slice (some ⟨WD.heap.size, 0, none⟩) 1 1) L [0] ?_ OWA.out ?_ RD0.out LN0.out BS0.out ?_); rfl; rfl; rfl; rfl; intro vL WL hoL hgL hlL; clear hlL))
    have EL : Hid (BkS w WL o va (.slice ar nr cr) rs) := hide (EC.out.below ((HBD.out.alloc HBD.out.size _).trans (below_grownBy hgL.out (Nat.le_refl _) BS0.out)))
    have RL : Hid (RdA WL vL (L ++ [0])) := hide (.inl (Rd_owned hoL.out))
    obtain ⟨aL, cL, hvL, _⟩ := own_formB hoL.out
    subst hvL
    generalize (L ++ [0]).length = mL at *
    obtain ⟨d2, hd2⟩ : ∃ d, d = decO (L ++ [0]) := ⟨_, rfl⟩
    rw [← hd2] at HLG
    obtain ⟨kL, qL⟩ := d2
    have HD2 := hide hd2.symm
    clear hd2 hoL hgL ED HBD LN0 BS0 OWA RD0 HSP RC EC
    go_upto_region 15 with (go_at_call 7; refine (dec_is _ EL.out.T8 _ _ RL.out kL qL HD2.out).mono ?_; rintro e WM ⟨vM, csM, rfl, _, _, _, _, hbM⟩; have EM := hide (EL.out.below hbM); clear hbM)
    have cKd : WM.cell? ⟨w.heap.size, 0, none⟩ = some (.int .u8 (o.kind : Int)) := ObjAt.cKind EM.out.A
    clear EL RL HD2
    by_cases hk1 : 1 < o.kind
    · have hk1i : (1 : Int) < (o.kind : Int) := by omega
      have hkL : (kL == 0) = false := beq_eq_false_iff_ne.2 (HLG.out hk1)
      clear hk1 HLG
      go_upto_region 17 with fail
      clear cKd
      obtain ⟨dr, hdr⟩ : ∃ d, d = decO rs := ⟨_, rfl⟩
      obtain ⟨kr, q⟩ := dr
      have HDR := hide hdr.symm
      have TQ : Hid (TxtSz q) := hide (by have := dec_txt rs; rw [← hdr] at this; exact this)
      have BQ : Hid (kr = 0 → checkO q = 0 ∧ layO q = rs) := hide (fun e => by have h0 : (decO rs).1 = 0 := (by rw [← hdr]; exact e); have := dec_back h0; rw [← hdr] at this; exact this)
      clear hdr
      go_upto_region 18 with (first
        | (go_at_call 7; refine (dec_is _ EM.out.T8 _ _ EM.out.R kr q HDR.out).mono ?_; rintro e W6 ⟨v6, cs6, rfl, hcs, hsz, hone, hrd, hbx⟩; have HCS := hide hcs; have HSZ := hide hsz; have HON := hide hone; have HRD := hide hrd; have HBX := hide hbx; have ZB := hide (Blk.made W6 objZ 30); clear hcs hsz hone hrd hbx)
        | ((with_reducible refine wpList_store_blk ?_ 30 (.tmp 15) (.tmp 112) ?_ W6.heap.size 39 objZ cs6 30 HSZ.out objZ_size ?_ ?_ ZB.out infoObj HON.out ?_); rfl; rfl; rfl; rfl; intro WY hky hgy; have HKY := hide hky; have HGY := hide hgy; clear hky hgy))
      refine name_world (fun W => BkS w W o va (.slice ar nr cr) rs ∧ ∃ z, z = W6.heap.size ∧ DcS W z q v6 ∧ Below W6.heap.size W6 W) ?_ ?_
      · have hbw : Below W6.heap.size W6 WY := (below_alloc W6 _).trans (below_grownBy HGY.out (Nat.le_refl _) (below_alloc W6 _).size)
        exact ⟨(EM.out.below HBX.out).below hbw, _, rfl, ⟨by rw [← HCS.out]; exact HKY.out, HRD.out.below hbw⟩, hbw⟩
      rintro W6n ⟨hE, z15, hz, hD, hbn⟩
      have E7 := hide hE
      have Dz15 := hide hD
      have Bz15 := hide (HBX.out.trans (hbn.mono HBX.out.size))
      rw [← hz]
      clear hE hD hz hbn HCS HSZ HON HRD HBX ZB HKY HGY
      have AZ : Hid (∃ c, c = (objL q v6).toArray) := hide ⟨_, rfl⟩
      obtain ⟨cq, hcq⟩ := AZ.out
      have HCQ := hide hcq
      have DQ : Hid (Blk W6n z15 cq 30) := hide (by rw [hcq]; exact Dz15.out.at')
      have SQ : Hid (cq.size = 39) := hide (by rw [hcq]; exact objL_size q v6 Dz15.out.rd.ok.t)
      clear hcq AZ
      by_cases hkr : kr = 0
      · have CQ := hide (BQ.out hkr)
        subst hkr
        have HEQ := hide (enc_ok W6n E7.out.T8 q v6 Dz15.out.rd TQ.out rs CQ.out.1 CQ.out.2)
        rw [← HCQ.out, HNR.out] at HEQ
        clear BQ
        go_upto_region 21 with (first
          | ((with_reducible refine wpList_load_obj (.tmp 15) z15 cq DQ.out SQ.out ?_ ?_ ?_ ?_); rfl; rfl; rfl)
          | (go_at_call 6; refine HEQ.out.mono ?_; rintro e W8 ⟨a8, c8, rfl, hr8, hb8⟩; have E8 := hide (E7.out.below hb8); have R8 := hide hr8; have D8 := hide (DQ.out.below hb8 DQ.out.lt); have Q8 := hide (Dz15.out.rd.below hb8); clear hr8 hb8))
        have hcE : (convert 23 9 (.slice a8 nr c8)).run Tryd.prog W8 = .ok (.string ⟨rs.toArray⟩) W8 := conv_rdA W8 _ rs (.inl R8.out)
        have hcR : (convert 23 9 (.slice ar nr cr)).run Tryd.prog W8 = .ok (.string ⟨rs.toArray⟩) W8 := conv_rdA W8 _ rs E8.out.R
        have HCK := hide (check_any W8 E8.out.T8 q v6 Q8.out TQ.out)
        rw [← HCQ.out] at HCK
        go_wp2_with (first
          | ((with_reducible refine wpList_load_obj (.tmp 15) z15 cq D8.out SQ.out ?_ ?_ ?_ ?_); rfl; rfl; exact wanted_yes (j := 9) (b := true) (t := 130) rfl rfl rfl (by decide : (130 : Nat) < 135))
          | (go_at_call 11; refine HCK.out.mono ?_; rintro e W9 ⟨rfl, hb9⟩; rw [CQ.out.1]; have E9 := hide (E8.out.below hb9); clear hb9))
        go_ret
        exact ⟨rfl, E9.out.old⟩
      · have hkb : (kr != 0) = true := by simpa using hkr
        clear hkr
        go_wp2
        go_ret
        exact ⟨rfl, E7.out.old⟩
    · have hk1i : ¬ (1 : Int) < (o.kind : Int) := by omega
      clear hk1 HLG
      go_upto_region 17 with fail
      clear cKd
      obtain ⟨dr, hdr⟩ : ∃ d, d = decO rs := ⟨_, rfl⟩
      obtain ⟨kr, q⟩ := dr
      have HDR := hide hdr.symm
      have TQ : Hid (TxtSz q) := hide (by have := dec_txt rs; rw [← hdr] at this; exact this)
      have BQ : Hid (kr = 0 → checkO q = 0 ∧ layO q = rs) := hide (fun e => by have h0 : (decO rs).1 = 0 := (by rw [← hdr]; exact e); have := dec_back h0; rw [← hdr] at this; exact this)
      clear hdr
      go_upto_region 18 with (first
        | (go_at_call 7; refine (dec_is _ EM.out.T8 _ _ EM.out.R kr q HDR.out).mono ?_; rintro e W6 ⟨v6, cs6, rfl, hcs, hsz, hone, hrd, hbx⟩; have HCS := hide hcs; have HSZ := hide hsz; have HON := hide hone; have HRD := hide hrd; have HBX := hide hbx; have ZB := hide (Blk.made W6 objZ 30); clear hcs hsz hone hrd hbx)
        | ((with_reducible refine wpList_store_blk ?_ 30 (.tmp 15) (.tmp 112) ?_ W6.heap.size 39 objZ cs6 30 HSZ.out objZ_size ?_ ?_ ZB.out infoObj HON.out ?_); rfl; rfl; rfl; rfl; intro WY hky hgy; have HKY := hide hky; have HGY := hide hgy; clear hky hgy))
      refine name_world (fun W => BkS w W o va (.slice ar nr cr) rs ∧ ∃ z, z = W6.heap.size ∧ DcS W z q v6 ∧ Below W6.heap.size W6 W) ?_ ?_
      · have hbw : Below W6.heap.size W6 WY := (below_alloc W6 _).trans (below_grownBy HGY.out (Nat.le_refl _) (below_alloc W6 _).size)
        exact ⟨(EM.out.below HBX.out).below hbw, _, rfl, ⟨by rw [← HCS.out]; exact HKY.out, HRD.out.below hbw⟩, hbw⟩
      rintro W6n ⟨hE, z15, hz, hD, hbn⟩
      have E7 := hide hE
      have Dz15 := hide hD
      have Bz15 := hide (HBX.out.trans (hbn.mono HBX.out.size))
      rw [← hz]
      clear hE hD hz hbn HCS HSZ HON HRD HBX ZB HKY HGY
      have AZ : Hid (∃ c, c = (objL q v6).toArray) := hide ⟨_, rfl⟩
      obtain ⟨cq, hcq⟩ := AZ.out
      have HCQ := hide hcq
      have DQ : Hid (Blk W6n z15 cq 30) := hide (by rw [hcq]; exact Dz15.out.at')
      have SQ : Hid (cq.size = 39) := hide (by rw [hcq]; exact objL_size q v6 Dz15.out.rd.ok.t)
      clear hcq AZ
      by_cases hkr : kr = 0
      · have CQ := hide (BQ.out hkr)
        subst hkr
        have HEQ := hide (enc_ok W6n E7.out.T8 q v6 Dz15.out.rd TQ.out rs CQ.out.1 CQ.out.2)
        rw [← HCQ.out, HNR.out] at HEQ
        clear BQ
        go_upto_region 21 with (first
          | ((with_reducible refine wpList_load_obj (.tmp 15) z15 cq DQ.out SQ.out ?_ ?_ ?_ ?_); rfl; rfl; rfl)
          | (go_at_call 6; refine HEQ.out.mono ?_; rintro e W8 ⟨a8, c8, rfl, hr8, hb8⟩; have E8 := hide (E7.out.below hb8); have R8 := hide hr8; have D8 := hide (DQ.out.below hb8 DQ.out.lt); have Q8 := hide (Dz15.out.rd.below hb8); clear hr8 hb8))
        have hcE : (convert 23 9 (.slice a8 nr c8)).run Tryd.prog W8 = .ok (.string ⟨rs.toArray⟩) W8 := conv_rdA W8 _ rs (.inl R8.out)
        have hcR : (convert 23 9 (.slice ar nr cr)).run Tryd.prog W8 = .ok (.string ⟨rs.toArray⟩) W8 := conv_rdA W8 _ rs E8.out.R
        have HCK := hide (check_any W8 E8.out.T8 q v6 Q8.out TQ.out)
        rw [← HCQ.out] at HCK
        go_wp2_with (first
          | ((with_reducible refine wpList_load_obj (.tmp 15) z15 cq D8.out SQ.out ?_ ?_ ?_ ?_); rfl; rfl; exact wanted_yes (j := 9) (b := true) (t := 130) rfl rfl rfl (by decide : (130 : Nat) < 135))
          | (go_at_call 11; refine HCK.out.mono ?_; rintro e W9 ⟨rfl, hb9⟩; rw [CQ.out.1]; have E9 := hide (E8.out.below hb9); clear hb9))
        go_ret
        exact ⟨rfl, E9.out.old⟩
      · have hkb : (kr != 0) = true := by simpa using hkr
        clear hkr
        go_wp2
        go_ret
        exact ⟨rfl, E7.out.old⟩
  · skip
    obtain ⟨kc, hkc⟩ : ∃ k, k = checkO o := ⟨_, rfl⟩
    have hkn : (kc == 0) = false := beq_eq_false_iff_ne.2 (by rw [hkc]; exact hck)
    have HEN := hide (enc_no W2n E3.out.T8 o va E3.out.RA TX.out kc hkc.symm)
    rw [← HAR.out] at HEN
    clear hck hkc
    go_upto_region 17 with (first
      | ((with_reducible refine wpList_load_obj (.tmp 2) w.heap.size arr AA3.out OZ.out ?_ ?_ ?_ ?_); rfl; rfl; rfl)
      | (go_at_call 6; refine HEN.out.mono ?_; rintro e W4 ⟨a4, n4, c4, rfl, hb4⟩; have E4 := hide (E3.out.below hb4); clear hb4))
    clear HEN AA3 hkn
    obtain ⟨dr, hdr⟩ : ∃ d, d = decO rs := ⟨_, rfl⟩
    obtain ⟨kr, q⟩ := dr
    have HDR := hide hdr.symm
    have TQ : Hid (TxtSz q) := hide (by have := dec_txt rs; rw [← hdr] at this; exact this)
    have BQ : Hid (kr = 0 → checkO q = 0 ∧ layO q = rs) := hide (fun e => by have h0 : (decO rs).1 = 0 := (by rw [← hdr]; exact e); have := dec_back h0; rw [← hdr] at this; exact this)
    clear hdr
    go_upto_region 18 with (first
      | (go_at_call 7; refine (dec_is _ E4.out.T8 _ _ E4.out.R kr q HDR.out).mono ?_; rintro e W6 ⟨v6, cs6, rfl, hcs, hsz, hone, hrd, hbx⟩; have HCS := hide hcs; have HSZ := hide hsz; have HON := hide hone; have HRD := hide hrd; have HBX := hide hbx; have ZB := hide (Blk.made W6 objZ 30); clear hcs hsz hone hrd hbx)
      | ((with_reducible refine wpList_store_blk ?_ 30 (.tmp 15) (.tmp 112) ?_ W6.heap.size 39 objZ cs6 30 HSZ.out objZ_size ?_ ?_ ZB.out infoObj HON.out ?_); rfl; rfl; rfl; rfl; intro WY hky hgy; have HKY := hide hky; have HGY := hide hgy; clear hky hgy))
    refine name_world (fun W => BkS w W o va (.slice ar nr cr) rs ∧ ∃ z, z = W6.heap.size ∧ DcS W z q v6 ∧ Below W6.heap.size W6 W) ?_ ?_
    · have hbw : Below W6.heap.size W6 WY := (below_alloc W6 _).trans (below_grownBy HGY.out (Nat.le_refl _) (below_alloc W6 _).size)
      exact ⟨(E4.out.below HBX.out).below hbw, _, rfl, ⟨by rw [← HCS.out]; exact HKY.out, HRD.out.below hbw⟩, hbw⟩
    rintro W6n ⟨hE, z15, hz, hD, hbn⟩
    have E7 := hide hE
    have Dz15 := hide hD
    have Bz15 := hide (HBX.out.trans (hbn.mono HBX.out.size))
    rw [← hz]
    clear hE hD hz hbn HCS HSZ HON HRD HBX ZB HKY HGY
    have AZ : Hid (∃ c, c = (objL q v6).toArray) := hide ⟨_, rfl⟩
    obtain ⟨cq, hcq⟩ := AZ.out
    have HCQ := hide hcq
    have DQ : Hid (Blk W6n z15 cq 30) := hide (by rw [hcq]; exact Dz15.out.at')
    have SQ : Hid (cq.size = 39) := hide (by rw [hcq]; exact objL_size q v6 Dz15.out.rd.ok.t)
    clear hcq AZ
    by_cases hkr : kr = 0
    · have CQ := hide (BQ.out hkr)
      subst hkr
      have HEQ := hide (enc_ok W6n E7.out.T8 q v6 Dz15.out.rd TQ.out rs CQ.out.1 CQ.out.2)
      rw [← HCQ.out, HNR.out] at HEQ
      clear BQ
      go_upto_region 21 with (first
        | ((with_reducible refine wpList_load_obj (.tmp 15) z15 cq DQ.out SQ.out ?_ ?_ ?_ ?_); rfl; rfl; rfl)
        | (go_at_call 6; refine HEQ.out.mono ?_; rintro e W8 ⟨a8, c8, rfl, hr8, hb8⟩; have E8 := hide (E7.out.below hb8); have R8 := hide hr8; have D8 := hide (DQ.out.below hb8 DQ.out.lt); have Q8 := hide (Dz15.out.rd.below hb8); clear hr8 hb8))
      have hcE : (convert 23 9 (.slice a8 nr c8)).run Tryd.prog W8 = .ok (.string ⟨rs.toArray⟩) W8 := conv_rdA W8 _ rs (.inl R8.out)
      have hcR : (convert 23 9 (.slice ar nr cr)).run Tryd.prog W8 = .ok (.string ⟨rs.toArray⟩) W8 := conv_rdA W8 _ rs E8.out.R
      have HCK := hide (check_any W8 E8.out.T8 q v6 Q8.out TQ.out)
      rw [← HCQ.out] at HCK
      go_wp2_with (first
        | ((with_reducible refine wpList_load_obj (.tmp 15) z15 cq D8.out SQ.out ?_ ?_ ?_ ?_); rfl; rfl; exact wanted_yes (j := 9) (b := true) (t := 130) rfl rfl rfl (by decide : (130 : Nat) < 135))
        | (go_at_call 11; refine HCK.out.mono ?_; rintro e W9 ⟨rfl, hb9⟩; rw [CQ.out.1]; have E9 := hide (E8.out.below hb9); clear hb9))
      go_ret
      exact ⟨rfl, E9.out.old⟩
    · have hkb : (kr != 0) = true := by simpa using hkr
      clear hkr
      go_wp2
      go_ret
      exact ⟨rfl, E7.out.old⟩
end Go.Proofs.YtjcfndiceinkjabDoor
