/- The document's read: what lies where, and what it reads, purely. -/
import Derived.Test.YtjcfndiceinkjaaDoorYrm
import Derived.Test.YtjcfndiceinkjaaDoorYE4
namespace Go.Proofs.YtjcfndiceinkjaaDoor
set_option linter.unusedVariables false
set_option linter.unusedSimpArgs false
set_option maxRecDepth 100000
open Go.RowKit

def rItem (bs : List UInt8) (s : S) : ItemR × S :=
  let t := rText bs s 64
  let m := mByte bs t.2
  let q := mNum bs m.2 18446744073709551615
  let k := mKeyT bs q.2.2
  ((t.1, m.1, q.1, k.1), k.2)
def rEach {α : Type} (T : S → α × S) (bs : List UInt8) (s : S) (most : Nat) : List α × S := eachT T (mNum bs s most).1 (mNum bs s most).2.2 []
def rList (bs : List UInt8) (s : S) : ObjR × S := ({ kindO 2 with parts := (rEach (mPart bs) bs s 128).1 }, (rEach (mPart bs) bs s 128).2)
def rTree (bs : List UInt8) (s : S) : ObjR × S := ({ kindO 3 with items := (rEach (rItem bs) bs s 128).1 }, (rEach (rItem bs) bs s 128).2)
def rSnap (bs : List UInt8) (s : S) : ObjR × S :=
  let t := mKeyT bs s
  let k := rEach (mKeyT bs) bs t.2 128
  let m := mI64 bs k.2
  let n := rText bs m.2 1024
  ({ kindO 4 with tree := t.1, parents := k.1, time := m.1, note := n.1 }, n.2)
def rObj (bs : List UInt8) (s : S) : ObjR × S :=
  if (mByte bs s).1 = 1 then mBlob bs (mByte bs s).2 else if (mByte bs s).1 = 2 then rList bs (mByte bs s).2 else if (mByte bs s).1 = 3 then rTree bs (mByte bs s).2 else if (mByte bs s).1 = 4 then rSnap bs (mByte bs s).2 else (kindO (mByte bs s).1, (mByte bs s).2)
theorem gB {w W W' : World} {y : Nat} (h : w.grownBy W (some y)) (hb : Below w.heap.size W W') : w.grownBy W' (some y) :=
  ⟨hb.os.trans h.os, hb.tape.trans h.tape, hb.output.trans h.output, Nat.le_trans h.size hb.size, fun k hk hne => (hb.block k hk).trans (h.block k hk hne)⟩
theorem gN {W W' : World} {N : Nat} {row : Option Nat} (hg : W.grownBy W' row) (hN : N ≤ W.heap.size) (hr : ∀ k, row = some k → N ≤ k) : Below N W W' :=
  ⟨hg.os, hg.tape, hg.output, hg.size, fun k hk => hg.block k (by omega) (fun e => by have := hr k e.symm; omega)⟩
/-- The document's Dec, the object that it reads into, and the place of the answer. -/
structure RS (w W : World) (y : Nat) (rv : Value) (bs : List UInt8) (s : S) (zr zo : Nat) (o : ObjR) (v : ObjV) : Prop where
  yl : y < w.heap.size
  bl : ∀ b cap, rv = .slice (some ⟨b, 0, none⟩) bs.length cap → b < w.heap.size
  zl : w.heap.size ≤ zr
  zol : zr < zo
  dec : RefSt W y rv bs s
  res : Blk W zr objZ 30
  obj : ObjAt W zo o v
  own : ObjOwn (zo + 1) W o v
  g : w.grownBy W (some y)
theorem RS.take {w W W' : World} {y : Nat} {rv : Value} {bs : List UInt8} {s s' : S} {zr zo : Nat} {o : ObjR} {v : ObjV} (h : RS w W y rv bs s zr zo o v) (h1 : RefSt W' y rv bs s') (h2 : W.grownBy W' (some y)) : RS w W' y rv bs s' zr zo o v :=
  ⟨h.yl, h.bl, h.zl, h.zol, h1, h.res.grown h2 (fun e => by have := Option.some.inj e; have := h.yl; have := h.zl; omega), Blk.grown h.obj h2 (fun e => by have := Option.some.inj e; have := h.yl; have := h.zl; have := h.zol; omega), h.own.kept h2 (fun k e => by cases e; have := h.yl; have := h.zl; have := h.zol; omega), grownBy_trans h.g h2⟩
theorem RS.size {w W : World} {y : Nat} {rv : Value} {bs : List UInt8} {s : S} {zr zo : Nat} {o : ObjR} {v : ObjV} (h : RS w W y rv bs s zr zo o v) : zo < W.heap.size := Blk.lt h.obj
theorem ObjOwn.below {N : Nat} {W W' : World} {o : ObjR} {v : ObjV} (h : ObjOwn N W o v) (hb : Below W.heap.size W W') : ObjOwn N W' o v :=
  ⟨h.ok, ownsRow_belowK h.d hb, ownsRow_belowK h.p hb, ownsRow_belowK h.i hb, ownsRow_belowK h.k hb⟩
theorem RS.below {w W W' : World} {y : Nat} {rv : Value} {bs : List UInt8} {s : S} {zr zo : Nat} {o : ObjR} {v : ObjV} (h : RS w W y rv bs s zr zo o v) (hb : Below W.heap.size W W') : RS w W' y rv bs s zr zo o v :=
  ⟨h.yl, h.bl, h.zl, h.zol, h.dec.below hb, h.res.below hb h.res.lt, ObjAt.below h.obj hb, h.own.below hb, gB h.g (hb.mono h.g.size)⟩
theorem RS.alloc {w W : World} {y : Nat} {rv : Value} {bs : List UInt8} {s : S} {zr zo : Nat} {o : ObjR} {v : ObjV} (h : RS w W y rv bs s zr zo o v) (x : Obj) : RS w (W.alloc x) y rv bs s zr zo o v := h.below (below_alloc W x)
/-- A row grew, and the field that holds it was stored. -/
theorem RS.step {w W W5 W6 : World} {y : Nat} {rv : Value} {bs : List UInt8} {s : S} {zr zo : Nat} {o o' : ObjR} {v v' : ObjV} {row : Option Nat} (h : RS w W y rv bs s zr zo o v) (hg : W.grownBy W5 row) (hr : ∀ k, row = some k → zo + 1 ≤ k) (hg2 : W5.grownBy W6 (some zo)) (hobj : ObjAt W6 zo o' v') (hown : ObjOwn (zo + 1) W6 o' v') : RS w W6 y rv bs s zr zo o' v' := by
  have hz := h.size
  have h1 := h.yl
  have h2 := h.zl
  have h3 := h.zol
  have d5 : RefSt W5 y rv bs s := h.dec.grown hg (fun e => by have := hr y e.symm; omega) (fun b cap e e1 => by have := hr b e1.symm; have := h.bl b cap e; omega)
  have r5 := h.res.grown hg (fun e => by have := hr zr e.symm; omega)
  have g5 := gB h.g (gN hg h.g.size (fun k e => by have := hr k e; omega))
  exact ⟨h.yl, h.bl, h.zl, h.zol, d5.grown hg2 (fun e => by have := Option.some.inj e; omega) (fun b cap e e1 => by have := Option.some.inj e1; have := h.bl b cap e; omega), r5.grown hg2 (fun e => by have := Option.some.inj e; omega), hobj, hown, gB g5 (gN hg2 g5.size (fun k e => by cases e; omega))⟩
theorem RS.put {w W W6 : World} {y : Nat} {rv : Value} {bs : List UInt8} {s : S} {zr zo : Nat} {o o' : ObjR} {v v' : ObjV} (h : RS w W y rv bs s zr zo o v) (hg2 : W.grownBy W6 (some zo)) (hobj : ObjAt W6 zo o' v') (hown : ObjOwn (zo + 1) W6 o' v') : RS w W6 y rv bs s zr zo o' v' :=
  h.step (row := none) (World.grownBy.refl _ _) (fun k e => nomatch e) hg2 hobj hown
/-- What read tells. -/
def ReadC (w : World) (y : Nat) (rv : Value) (bs : List UInt8) (r : ObjR × S) (e : Ending) (w' : World) : Prop := ∃ v', e = .returned (.agg (objL r.1 v').toArray) ∧ ObjOwn w.heap.size w' r.1 v' ∧ RefSt w' y rv bs r.2 ∧ w.grownBy w' (some y)
theorem RS.fin {w W W' : World} {y : Nat} {rv : Value} {bs : List UInt8} {s : S} {zr zo : Nat} {o : ObjR} {v : ObjV} (h : RS w W y rv bs s zr zo o v) (hg : W.grownBy W' (some zr)) : ReadC w y rv bs (o, s) (.returned (.agg (objL o v).toArray)) W' := by
  have h1 := h.yl
  have h2 := h.zl
  have h3 := h.zol
  exact ⟨v, rfl, objOwn_base (h.own.kept hg (fun k e => by cases e; omega)) (by omega), h.dec.grown hg (fun e => by have := Option.some.inj e; omega) (fun b cap e e1 => by have := Option.some.inj e1; have := h.bl b cap e; omega), gB h.g (gN hg h.g.size (fun k e => by cases e; omega))⟩
theorem run_buildPt {op : Oper} {ev : Operand → Value} {x z : Operand} {w : World} (kb : List UInt8) (q : Nat) (hk : okK kb) (ho : op.op = .build 47 #[(0, x), (1, z)]) (hx : ev x = keyV kb) (hz : ev z = .int .u64 (q : Int)) : (execOp ev op).run Tryd.prog w = .ok (.value (.agg (partC (kb, q)).toArray)) w := by
  simp only [execOp, ho]
  simp only [List.map_toArray, List.map_cons, List.map_nil, hx, hz]
  obtain ⟨c0, c1, c2, c3, c4, c5, c6, c7, c8, c9, c10, c11, c12, c13, c14, c15, c16, c17, c18, c19, c20, c21, c22, c23, c24, c25, c26, c27, c28, c29, c30, c31, rfl⟩ := list32 kb hk
  kernel_rfl
theorem run_buildIt {op : Oper} {ev : Operand → Value} {x1 x2 x3 x4 : Operand} {w : World} (nm : List UInt8) (mo q : Nat) (kb : List UInt8) (hk : okK kb) (ho : op.op = .build 50 #[(0, x1), (1, x2), (2, x3), (3, x4)]) (h1 : ev x1 = .string ⟨nm.toArray⟩) (h2 : ev x2 = .int .u8 (mo : Int)) (h3 : ev x3 = .int .u64 (q : Int)) (h4 : ev x4 = keyV kb) : (execOp ev op).run Tryd.prog w = .ok (.value (.agg (itemC (nm, mo, q, kb)).toArray)) w := by
  simp only [execOp, ho]
  simp only [List.map_toArray, List.map_cons, List.map_nil, h1, h2, h3, h4]
  obtain ⟨c0, c1, c2, c3, c4, c5, c6, c7, c8, c9, c10, c11, c12, c13, c14, c15, c16, c17, c18, c19, c20, c21, c22, c23, c24, c25, c26, c27, c28, c29, c30, c31, rfl⟩ := list32 kb hk
  kernel_rfl
theorem rkeyT_st (w : World) (y : Nat) (rv : Value) (bs : List UInt8) (s : S) (h : RefSt w y rv bs s) (hlen : bs.length ≤ 8192) :
    Calls Tryd.prog 83 #[.pointer (some ⟨y, 0, none⟩)] w (fun e w' => e = .returned (keyV (mKeyT bs s).1) ∧ RefSt w' y rv bs (mKeyT bs s).2 ∧ w.grownBy w' (some y)) := by
  refine (rkey_st w y rv bs s h (by omega)).mono ?_
  rintro e w' ⟨rfl, h1, h2⟩
  exact ⟨by rw [keyCells_eq]; rfl, h1, h2⟩
end Go.Proofs.YtjcfndiceinkjaaDoor

/- The document's read, kind 1. -/
namespace Go.Proofs.YtjcfndiceinkjaaDoor
set_option linter.unusedVariables false
set_option linter.unusedSimpArgs false
set_option maxRecDepth 100000
open Go.RowKit

set_option maxHeartbeats 8000000 in
theorem read_1 (w : World) (y : Nat) (rv : Value) (bs : List UInt8) (s : S) (h : RefSt w y rv bs s) (hl : bs.length ≤ 8192) (hk0 : (mByte bs s).1 = 1) : Calls Tryd.prog 39 #[.pointer (some ⟨y, 0, none⟩)] w (ReadC w y rv bs (rObj bs s)) := by
  have hzo := zero_obj
  obtain ⟨W0, hW0⟩ : ∃ W, W = w.alloc (.cells objZ 30) := ⟨_, rfl⟩
  have A0 : Hid (Blk W0 w.heap.size objZ 30) := hide (by rw [hW0]; exact Blk.made w _ _)
  have R0 : Hid (RefSt W0 y rv bs s) := hide (by rw [hW0]; exact h.below (below_alloc w _))
  have G0 : Hid (w.grownBy W0 (some y)) := hide (by rw [hW0]; exact World.grownBy_alloc _ _ _)
  have S0 : Hid (W0.heap.size = w.heap.size + 1) := hide (by rw [hW0]; simp)
  have YL : Hid (y < w.heap.size) := hide h.lt
  have BL : Hid (∀ b cap, rv = .slice (some ⟨b, 0, none⟩) bs.length cap → b < w.heap.size) := hide (fun b cap e => h.1.blk e)
  have HL := hide hl
  have HRO : Hid (rObj bs s = mBlob bs (mByte bs s).2) := hide (by unfold rObj; rw [hk0]; rfl)
  have hkb : leNat ((mNext bs s (mPlace s) 1).1.getD []) = 1 := hk0
  obtain ⟨s1, hs1⟩ : ∃ s1, s1 = (mByte bs s).2 := ⟨_, rfl⟩
  have hs1' : s1 = (mNext bs s (mPlace s) 1).2 := hs1
  rw [← hs1] at HRO
  have HS1 := hide hs1'
  have HKB := hide hkb
  clear h hl hk0 hs1 hs1' hkb
  go_enter Tryd.func39, Tryd.ntmps39
  go_wp2_with fail
  rw [← hW0]
  clear hW0
  refine (rfixed_st W0 y rv bs s 1 R0.out (by have := HL.out; omega) (by omega)).mono ?_
  rintro e W1 ⟨rfl, h1, h2⟩
  rw [HKB.out, show (((1 : Nat)) : Int) = 1 from rfl]
  rw [← HS1.out] at h1
  have A1 := hide (A0.out.grown h2 (fun e => by have := Option.some.inj e; have := YL.out; omega))
  have G1 := hide (grownBy_trans G0.out h2)
  have Z1 : Hid (w.heap.size + 1 ≤ W1.heap.size) := hide (by have := h2.size; have := S0.out; omega)
  have D1 := hide h1
  obtain ⟨zo, hzo'⟩ : ∃ x, x = W1.heap.size := ⟨_, rfl⟩
  have HZO : Hid (w.heap.size < zo) := hide (by have := Z1.out; omega)
  have ZB : Hid (Blk (W1.alloc (.cells objZ 30)) zo objZ 30) := hide (by rw [hzo']; exact Blk.made W1 _ _)
  have OZ : Hid ((objL (kindO 1) nilV).toArray.size = 39) := hide (objL_size _ _ rfl)
  have P1 : Hid ((objL (kindO 1) nilV).toArray.all (·.oneCell') = true) := hide (all_oneCell_toArray (objL_one _ _ ⟨⟨_, _, _, rfl⟩, ⟨_, _, _, rfl⟩, ⟨_, _, _, rfl⟩, ⟨_, _, _, rfl⟩⟩))
  obtain ⟨arr, harr⟩ : ∃ x, x = (objL (kindO 1) nilV).toArray := ⟨_, rfl⟩
  have BdK : Hid (∀ {op : Oper} {ev : Operand → Value} {x : Operand}, op.op = .build 30 #[(0, x)] → ev x = .int .u8 1 → ∀ w, (execOp ev op).run Tryd.prog w = .ok (.value (.agg arr)) w) := hide (fun ho hx w => by rw [harr]; exact run_buildOK (k := 1) ho hx w)
  rw [← harr] at OZ P1
  have HARR := hide harr
  have HZO2 := hide hzo'
  clear h1 h2 A0 R0 G0 S0 harr hzo' HKB HS1
  go_wp2_with (first
    | ((with_reducible refine wpList_val (.agg arr) ?_ (BdK.out (x := .tmp 19) ?_ ?_ _) ?_); rfl; rfl; rfl)
    | ((with_reducible refine wpList_store_blk ?_ 30 (.tmp 3) (.tmp 20) ?_ W1.heap.size 39 objZ arr 30 OZ.out objZ_size ?_ ?_ (by rw [← HZO2.out]; exact ZB.out) infoObj P1.out ?_); rfl; rfl; rfl; rfl; intro W2 hk2 hg2; generalize hG : wpList _ _ _ _ _ _ = G))
  rw [← HZO2.out] at hk2 hg2
  have Q2 : Hid (RS w W2 y rv bs s1 w.heap.size zo (kindO 1) nilV) := hide (by
    have hb : Below W1.heap.size W1 W2 := (below_alloc W1 _).trans (below_grownBy hg2 (by rw [HZO2.out]; exact Nat.le_refl _) (below_alloc W1 _).size)
    exact ⟨YL.out, BL.out, Nat.le_refl _, HZO.out, D1.out.below hb, A1.out.below hb A1.out.lt, by show Blk W2 zo (objL (kindO 1) nilV).toArray 30; rw [← HARR.out]; exact hk2, kindO_own _ _ _, gB G1.out (hb.mono G1.out.size)⟩)
  have c2 : W2.cell? ⟨zo, 0, none⟩ = some (.int .u8 1) := ObjAt.cKind (o := kindO 1) Q2.out.obj
  subst hG
  rw [← HZO2.out]
  clear hk2 hg2 A1 G1 D1 ZB P1 BdK HARR HZO2 OZ Z1
  go_wp2_with fail
  clear c2
  have hml : mLeft bs s1 ≤ bs.length := by unfold mLeft; split <;> omega
  have HR : Hid (rObj bs s = ({ kindO 1 with data := (mNext bs s1 (mPlace s1) (mLeft bs s1)).1.getD [] }, (mNext bs s1 (mPlace s1) (mLeft bs s1)).2)) := hide HRO.out
  have HLF := hide (rleft_st W2 y rv bs s1 Q2.out.dec)
  obtain ⟨n, hn⟩ : ∃ n, n = mLeft bs s1 := ⟨_, rfl⟩
  rw [← hn] at HR HLF hml
  have HML := hide hml
  clear hn HRO hml
  refine HLF.out.mono ?_
  rintro e W3 ⟨rfl, m, hw3⟩
  have Q3 : Hid (RS w W3 y rv bs s1 w.heap.size zo (kindO 1) nilV) := hide (by rw [hw3]; exact Q2.out.take (Q2.out.dec.drewN m) (grownBy_drewN W2 m _))
  clear hw3 HLF Q2
  go_wp2_with fail
  refine (rraw_st W3 y rv bs s1 n Q3.out.dec (by have := HL.out; omega)).mono ?_
  rintro e W4 ⟨⟨x, rfl, o4⟩, h1, h2⟩
  rw [show ((n : Int)).toNat = n from rfl] at o4 h1
  obtain ⟨r, hr⟩ : ∃ r, r = mNext bs s1 (mPlace s1) n := ⟨_, rfl⟩
  rw [← hr] at o4 h1 HR
  clear hr
  have Q4 := hide (Q3.out.take h1 h2)
  have O4 : Hid (W4.ownsRow (zo + 1) 5 1 x (r.1.getD []).length ((r.1.getD []).map u8c)) := hide (ownsRow_baseK o4 Q3.out.size)
  obtain ⟨dl, hdl⟩ : ∃ d, d = r.1.getD [] := ⟨_, rfl⟩
  rw [← hdl] at O4 HR o4
  obtain ⟨ax, cx, rfl⟩ := own_form o4
  have c1 : W4.cell? ⟨zo, 1, none⟩ = some (.slice none 0 0) := Q4.out.obj.cD
  have f1 : W4.frozen? ⟨zo, 1, none⟩ = false := Blk.frozen Q4.out.obj 1
  have Q5 : Hid (RS w (W4.setCell ⟨zo, 1, none⟩ (.slice ax dl.length cx)) y rv bs r.2 w.heap.size zo { kindO 1 with data := dl } ⟨.slice ax dl.length cx, .slice none 0 0, .slice none 0 0, .slice none 0 0⟩) := hide (by
    have hg := grownBy_set W4 zo 1 (.slice ax dl.length cx)
    refine Q4.out.put hg ?_ ?_
    · have hA : Blk W4 zo (objL (kindO 1) nilV).toArray 30 := Q4.out.obj
      have := hA.set 1 (.slice ax dl.length cx)
      rw [objL_setD] at this
      exact this
    · exact ⟨⟨rfl, by simp [kindO, zeroO], by simp [kindO, zeroO], by simp [kindO, zeroO]⟩, O4.out.kept hg (owns_apart O4.out (fun q e => by cases e; omega)), World.ownsRow_nil _ _ _ _, World.ownsRow_nil _ _ _ _, World.ownsRow_nil _ _ _ _⟩)
  clear h1 h2 o4 hdl Q3 Q4 O4
  obtain ⟨a9, ha9⟩ : ∃ x, x = (objL { kindO 1 with data := dl } ⟨.slice ax dl.length cx, .slice none 0 0, .slice none 0 0, .slice none 0 0⟩).toArray := ⟨_, rfl⟩
  have Z9 : Hid (a9.size = 39) := hide (by rw [ha9]; exact objL_size _ _ rfl)
  have P9 : Hid (a9.all (·.oneCell') = true) := hide (by rw [ha9]; exact all_oneCell_toArray (objL_one _ _ ⟨⟨_, _, _, rfl⟩, ⟨_, _, _, rfl⟩, ⟨_, _, _, rfl⟩, ⟨_, _, _, rfl⟩⟩))
  have B9 := hide Q5.out.obj
  unfold ObjAt at B9
  rw [← ha9] at B9
  have R9 := hide Q5.out.res
  have HA9 := hide ha9
  clear ha9
  go_wp2_with (first
    | ((with_reducible refine wpList_load_obj (.tmp 3) zo a9 B9.out Z9.out ?_ ?_ ?_ ?_); rfl; rfl; rfl)
    | ((with_reducible refine wpList_store_blk ?_ 30 (.tmp 2) (.tmp 127) ?_ w.heap.size 39 objZ a9 30 Z9.out objZ_size ?_ ?_ R9.out infoObj P9.out ?_); rfl; rfl; rfl; rfl; intro w9 hk9 hg9))
  refine bodyPost_ret (results_cell rfl _ _ _ rfl _ (loadBlkT hk9 30 _ Tryd.underlying30 rfl 39 infoObj Z9.out)) rfl ?_
  rw [HR.out, HA9.out]
  exact Q5.out.fin hg9
end Go.Proofs.YtjcfndiceinkjaaDoor

/- The document's read, kind 2. -/
namespace Go.Proofs.YtjcfndiceinkjaaDoor
set_option linter.unusedVariables false
set_option linter.unusedSimpArgs false
set_option maxRecDepth 100000
open Go.RowKit

set_option maxHeartbeats 8000000 in
theorem read_2 (w : World) (y : Nat) (rv : Value) (bs : List UInt8) (s : S) (h : RefSt w y rv bs s) (hl : bs.length ≤ 8192) (hk0 : (mByte bs s).1 = 2) : Calls Tryd.prog 39 #[.pointer (some ⟨y, 0, none⟩)] w (ReadC w y rv bs (rObj bs s)) := by
  have hzo := zero_obj
  obtain ⟨W0, hW0⟩ : ∃ W, W = w.alloc (.cells objZ 30) := ⟨_, rfl⟩
  have A0 : Hid (Blk W0 w.heap.size objZ 30) := hide (by rw [hW0]; exact Blk.made w _ _)
  have R0 : Hid (RefSt W0 y rv bs s) := hide (by rw [hW0]; exact h.below (below_alloc w _))
  have G0 : Hid (w.grownBy W0 (some y)) := hide (by rw [hW0]; exact World.grownBy_alloc _ _ _)
  have S0 : Hid (W0.heap.size = w.heap.size + 1) := hide (by rw [hW0]; simp)
  have YL : Hid (y < w.heap.size) := hide h.lt
  have BL : Hid (∀ b cap, rv = .slice (some ⟨b, 0, none⟩) bs.length cap → b < w.heap.size) := hide (fun b cap e => h.1.blk e)
  have HL := hide hl
  have HRO : Hid (rObj bs s = rList bs (mByte bs s).2) := hide (by unfold rObj; rw [hk0]; rfl)
  have hkb : leNat ((mNext bs s (mPlace s) 1).1.getD []) = 2 := hk0
  obtain ⟨s1, hs1⟩ : ∃ s1, s1 = (mByte bs s).2 := ⟨_, rfl⟩
  have hs1' : s1 = (mNext bs s (mPlace s) 1).2 := hs1
  rw [← hs1] at HRO
  have HS1 := hide hs1'
  have HKB := hide hkb
  clear h hl hk0 hs1 hs1' hkb
  go_enter Tryd.func39, Tryd.ntmps39
  go_wp2_with fail
  rw [← hW0]
  clear hW0
  refine (rfixed_st W0 y rv bs s 1 R0.out (by have := HL.out; omega) (by omega)).mono ?_
  rintro e W1 ⟨rfl, h1, h2⟩
  rw [HKB.out, show (((2 : Nat)) : Int) = 2 from rfl]
  rw [← HS1.out] at h1
  have A1 := hide (A0.out.grown h2 (fun e => by have := Option.some.inj e; have := YL.out; omega))
  have G1 := hide (grownBy_trans G0.out h2)
  have Z1 : Hid (w.heap.size + 1 ≤ W1.heap.size) := hide (by have := h2.size; have := S0.out; omega)
  have D1 := hide h1
  obtain ⟨zo, hzo'⟩ : ∃ x, x = W1.heap.size := ⟨_, rfl⟩
  have HZO : Hid (w.heap.size < zo) := hide (by have := Z1.out; omega)
  have ZB : Hid (Blk (W1.alloc (.cells objZ 30)) zo objZ 30) := hide (by rw [hzo']; exact Blk.made W1 _ _)
  have OZ : Hid ((objL (kindO 2) nilV).toArray.size = 39) := hide (objL_size _ _ rfl)
  have P1 : Hid ((objL (kindO 2) nilV).toArray.all (·.oneCell') = true) := hide (all_oneCell_toArray (objL_one _ _ ⟨⟨_, _, _, rfl⟩, ⟨_, _, _, rfl⟩, ⟨_, _, _, rfl⟩, ⟨_, _, _, rfl⟩⟩))
  obtain ⟨arr, harr⟩ : ∃ x, x = (objL (kindO 2) nilV).toArray := ⟨_, rfl⟩
  have BdK : Hid (∀ {op : Oper} {ev : Operand → Value} {x : Operand}, op.op = .build 30 #[(0, x)] → ev x = .int .u8 2 → ∀ w, (execOp ev op).run Tryd.prog w = .ok (.value (.agg arr)) w) := hide (fun ho hx w => by rw [harr]; exact run_buildOK (k := 2) ho hx w)
  rw [← harr] at OZ P1
  have HARR := hide harr
  have HZO2 := hide hzo'
  clear h1 h2 A0 R0 G0 S0 harr hzo' HKB HS1
  go_wp2_with (first
    | ((with_reducible refine wpList_val (.agg arr) ?_ (BdK.out (x := .tmp 19) ?_ ?_ _) ?_); rfl; rfl; rfl)
    | ((with_reducible refine wpList_store_blk ?_ 30 (.tmp 3) (.tmp 20) ?_ W1.heap.size 39 objZ arr 30 OZ.out objZ_size ?_ ?_ (by rw [← HZO2.out]; exact ZB.out) infoObj P1.out ?_); rfl; rfl; rfl; rfl; intro W2 hk2 hg2; generalize hG : wpList _ _ _ _ _ _ = G))
  rw [← HZO2.out] at hk2 hg2
  have Q2 : Hid (RS w W2 y rv bs s1 w.heap.size zo (kindO 2) nilV) := hide (by
    have hb : Below W1.heap.size W1 W2 := (below_alloc W1 _).trans (below_grownBy hg2 (by rw [HZO2.out]; exact Nat.le_refl _) (below_alloc W1 _).size)
    exact ⟨YL.out, BL.out, Nat.le_refl _, HZO.out, D1.out.below hb, A1.out.below hb A1.out.lt, by show Blk W2 zo (objL (kindO 2) nilV).toArray 30; rw [← HARR.out]; exact hk2, kindO_own _ _ _, gB G1.out (hb.mono G1.out.size)⟩)
  have c2 : W2.cell? ⟨zo, 0, none⟩ = some (.int .u8 2) := ObjAt.cKind (o := kindO 2) Q2.out.obj
  subst hG
  rw [← HZO2.out]
  clear hk2 hg2 A1 G1 D1 ZB P1 BdK HARR HZO2 OZ Z1
  go_wp2_with fail
  clear c2
  refine (rvar_st W2 y rv bs s1 128 Q2.out.dec).mono ?_
  rintro e W3 ⟨rfl, h1, h2⟩
  have hle := mNum_ok_le bs s1 128
  obtain ⟨r, hr⟩ : ∃ r, r = mNum bs s1 128 := ⟨_, rfl⟩
  have HR : Hid (rObj bs s = ({ kindO 2 with parts := (eachT (mPart bs) r.1 r.2.2 []).1 }, (eachT (mPart bs) r.1 r.2.2 []).2)) := hide (by rw [HRO.out, hr]; rfl)
  rw [← hr] at h1 hle ⊢
  clear hr HRO
  obtain ⟨n, ok, s2⟩ := r
  have hn : n ≤ 128 := hle
  have Q3 : Hid (RS w W3 y rv bs s2 w.heap.size zo (kindO 2) nilV) := hide (Q2.out.take h1 h2)
  clear hle h1 h2 Q2
  have hzk := zero_key
  go_wp2_with fail
  go_loopw [5] (fun c wr => ∃ (k : Nat) (acc : List PartR) (s' : S) (va : Value), c = .int .u64 k ∧ k ≤ n ∧ acc.length = k ∧ RS w wr y rv bs s' w.heap.size zo { kindO 2 with parts := acc } ⟨.slice none 0 0, va, .slice none 0 0, .slice none 0 0⟩ ∧ eachT (mPart bs) n s2 [] = eachT (mPart bs) (n - k) s' acc) (fun c _ => n - (intOf c).toNat)
  case atStart => exact ⟨0, [], s2, .slice none 0 0, rfl, by omega, rfl, Q3.out, rfl⟩
  case round =>
    obtain ⟨k, acc, s', va, rfl, hkn, hak, hQ, heq⟩ := hrel
    have HE := hide heq
    have HAK := hide hak
    clear hak
    obtain ⟨ax, cx, rfl⟩ := own_form (v := va) hQ.own.p
    have HQ := hide hQ
    have c2 := Blk.cell HQ.out.dec.2.2 2
    clear heq hQ Q3
    by_cases hk : k < n
    · by_cases hc : s'.code = 0
      · have hd : decide (s'.code ≠ 0) = false := by simp [hc]
        have c2' : wr.cell? ⟨y, 2, none⟩ = some (.bool false) := by rw [c2]; simp [hd]
        have HG := hide (eachT_more (mPart bs) (n - k) s' acc hc (by omega))
        clear c2 hc hd
        go_wp2_with fail
        refine (rkeyT_st wr y rv bs s' HQ.out.dec HL.out).mono ?_
        rintro e W4 ⟨rfl, h1, h2⟩
        have KL0 := mKeyT_len bs s'
        have HP : Hid (mPart bs s' = (((mKeyT bs s').1, (mNum bs (mKeyT bs s').2 9223372036854775807).1), (mNum bs (mKeyT bs s').2 9223372036854775807).2.2)) := hide rfl
        obtain ⟨kt, hkt⟩ : ∃ r, r = mKeyT bs s' := ⟨_, rfl⟩
        rw [← hkt] at h1 KL0 HP ⊢
        clear hkt
        obtain ⟨kb, s3⟩ := kt
        have KL : Hid (kb.length = 32) := hide KL0
        have Q4 := hide (HQ.out.take h1 h2)
        clear h1 h2 KL0 c2'
        go_wp2_with (first
          | ((with_reducible refine wpList_put_key ?_ (.tmp 6) (.tmp 47) ?_ W4.heap.size ?_ W4 ?_ ?_ kb KL.out ?_ ?_); rfl; rfl; rfl; rfl; rfl; rfl; intro W5 hk5 hb5; generalize hG : wpList _ _ _ _ _ _ = G))
        have Q5 := hide (Q4.out.below hb5)
        obtain ⟨zk, hzk'⟩ : ∃ x, x = W4.heap.size := ⟨_, rfl⟩
        have HZK : Hid (zo < zk) := hide (by rw [hzk']; exact Q4.out.size)
        rw [← hzk'] at hk5
        subst hG
        rw [← hzk']
        clear hb5 hzk' Q4
        go_wp2_with fail
        refine (rvar_st W5 y rv bs s3 9223372036854775807 Q5.out.dec).mono ?_
        rintro e W6 ⟨rfl, h1, h2⟩
        have HP2 : Hid (mPart bs s' = ((kb, (mNum bs s3 9223372036854775807).1), (mNum bs s3 9223372036854775807).2.2)) := hide HP.out
        obtain ⟨q, hq⟩ : ∃ r, r = mNum bs s3 9223372036854775807 := ⟨_, rfl⟩
        rw [← hq] at h1 HP2 ⊢
        clear hq HP
        obtain ⟨qv, qo, s4⟩ := q
        have HG2 : Hid (eachT (mPart bs) (n - k) s' acc = eachT (mPart bs) (n - k - 1) s4 (acc ++ [(kb, qv)])) := hide (by rw [HG.out, HP2.out])
        have Q6 := hide (Q5.out.take h1 h2)
        have K6 : Hid (KeyAt W6 zk kb) := hide ⟨hk5.out.1.grown h2 (fun e => by have := Option.some.inj e; have := HZK.out; have := Q6.out.yl; have := Q6.out.zl; have := Q6.out.zol; omega), KL.out⟩
        clear h1 h2 Q5 hk5 HG HP2
        have OPp : Hid (okP (kb, qv)) := hide KL.out
        have KO : Hid (okK kb) := hide KL.out
        have CL : Hid ((partC (kb, qv)).length = 33) := hide (partC_len _ OPp.out)
        have Q7 : Hid (RS w (W6.alloc (.cells (partC (kb, qv)).toArray 47)) y rv bs s4 w.heap.size zo { kindO 2 with parts := acc } ⟨.slice none 0 0, .slice ax acc.length cx, .slice none 0 0, .slice none 0 0⟩) := hide (Q6.out.alloc _)
        have RW : Hid (RowR (W6.alloc (.cells (partC (kb, qv)).toArray 47)) (.slice (some ⟨W6.heap.size, 0, none⟩) 1 1) 33 [partC (kb, qv)]) := hide (row_oneN CL.out)
        have LK : Hid (acc.length + [partC (kb, qv)].length ≤ 9223372036854775807) := hide (by rw [List.length_singleton]; have := HAK.out; omega)
        have BK : Hid ((acc.length + [partC (kb, qv)].length) * 40 ≤ 140737488355328) := hide (by rw [List.length_singleton]; have := HAK.out; omega)
        have HSZ : Hid (zo + 1 ≤ (W6.alloc (.cells (partC (kb, qv)).toArray 47)).heap.size) := hide Q7.out.size
        have OW7 : Hid ((W6.alloc (.cells (partC (kb, qv)).toArray 47)).ownsRow (zo + 1) 47 33 (.slice ax acc.length cx) acc.length (acc.map partC).flatten) := hide Q7.out.own.p
        have c6 : W6.cell? ⟨zo, 2, none⟩ = some (.slice ax acc.length cx) := Q6.out.obj.cP
        go_wp2_with (first
          | ((with_reducible refine wpList_key (.tmp 6) zk kb K6.out ?_ ?_ ?_ ?_); rfl; rfl; rfl)
          | ((with_reducible refine wpList_val (.agg (partC (kb, qv)).toArray) ?_ (run_buildPt (x := .tmp 52) (z := .tmp 53) kb qv KO.out ?_ ?_ ?_) ?_); rfl; rfl; rfl; rfl)
          | ((with_reducible refine wpList_runW (.slice (some ⟨W6.heap.size, 0, none⟩) 1 1) (W6.alloc (.cells (partC (kb, qv)).toArray 47)) ?_ (run_bs1P (x := .tmp 54) (kb, qv) OPp.out ?_ ?_) ?_); rfl; rfl; rfl)
          | ((with_reducible refine wpList_append_row elemP ?_ (.tmp 51) (.tmp 55) ?_ (zo + 1) (.slice ax acc.length cx) (.slice (some ⟨W6.heap.size, 0, none⟩) 1 1) acc.length (acc.map partC).flatten [partC (kb, qv)] ?_ OW7.out ?_ RW.out (by simp [CL.out]) (by simpa using partC_one (kb, qv)) LK.out BK.out HSZ.out ?_); rfl; rfl; rfl; rfl; intro v5 w5 O5 G5 E5; generalize hG : wpList _ _ _ _ _ _ = G))
        have HRW : Hid (∀ j, (Value.slice ax acc.length cx).ownBlock = some j → zo + 1 ≤ j) := hide (fun j e => (Q7.out.own.p.lt j e).1)
        have hB7 : Blk w5 zo (objL { kindO 2 with parts := acc } ⟨.slice none 0 0, .slice ax acc.length cx, .slice none 0 0, .slice none 0 0⟩).toArray 30 := Blk.grown Q7.out.obj G5.out (fun e => by have := HRW.out zo e.symm; omega)
        have c7 : w5.cell? ⟨zo, 2, none⟩ = some (.slice ax acc.length cx) := ObjAt.cP (o := { kindO 2 with parts := acc }) (v := ⟨.slice none 0 0, .slice ax acc.length cx, .slice none 0 0, .slice none 0 0⟩) hB7
        have f7 : w5.frozen? ⟨zo, 2, none⟩ = false := Blk.frozen hB7 2
        have HB7 := hide hB7
        have O5' : w5.ownsRow (zo + 1) 47 33 v5 (acc ++ [(kb, qv)]).length ((acc ++ [(kb, qv)]).map partC).flatten := by rw [List.map_append, List.flatten_append, List.length_append]; exact O5.out
        obtain ⟨bx, dx, rfl⟩ := own_form O5'
        have HO5 := hide O5'
        subst hG
        clear hB7 O5' O5 c6
        go_wp2
        rw [show acc.length + 1 = (acc ++ [(kb, qv)]).length by simp]
        refine ⟨⟨k + 1, acc ++ [(kb, qv)], s4, .slice bx (acc ++ [(kb, qv)]).length dx, by go_num, by omega, by simp [HAK.out], ?_, by rw [HE.out, HG2.out]; congr 1⟩, by simp [intOf]; omega⟩
        have hg := grownBy_set w5 zo 2 (.slice bx (acc ++ [(kb, qv)]).length dx)
        refine Q7.out.step G5.out HRW.out hg ?_ ?_
        · have := HB7.out.set 2 (.slice bx (acc ++ [(kb, qv)]).length dx)
          rw [objL_setP] at this
          exact this
        · exact ⟨⟨rfl, fun p hp => by
            rcases List.mem_append.1 hp with hp | hp
            · exact Q7.out.own.ok.p p hp
            · rw [List.mem_singleton.1 hp]; exact OPp.out, by simp [kindO, zeroO], by simp [kindO, zeroO]⟩, World.ownsRow_nil _ _ _ _, HO5.out.kept hg (owns_apart HO5.out (fun q e => by cases e; omega)), World.ownsRow_nil _ _ _ _, World.ownsRow_nil _ _ _ _⟩
      · have hd : decide (s'.code ≠ 0) = true := by simp [hc]
        have c2' : wr.cell? ⟨y, 2, none⟩ = some (.bool true) := by rw [c2]; simp [hd]
        have HR9 : Hid (rObj bs s = ({ kindO 2 with parts := acc }, s')) := hide (by rw [HR.out]; show ({ kindO 2 with parts := (eachT (mPart bs) n s2 []).1 }, (eachT (mPart bs) n s2 []).2) = _; rw [HE.out, eachT_stop _ _ _ _ hc])
        clear c2 hc hd HR HE
        obtain ⟨a9, ha9⟩ : ∃ x, x = (objL { kindO 2 with parts := acc } ⟨.slice none 0 0, .slice ax acc.length cx, .slice none 0 0, .slice none 0 0⟩).toArray := ⟨_, rfl⟩
        have Z9 : Hid (a9.size = 39) := hide (by rw [ha9]; exact objL_size _ _ rfl)
        have P9 : Hid (a9.all (·.oneCell') = true) := hide (by rw [ha9]; exact all_oneCell_toArray (objL_one _ _ ⟨⟨_, _, _, rfl⟩, ⟨_, _, _, rfl⟩, ⟨_, _, _, rfl⟩, ⟨_, _, _, rfl⟩⟩))
        have B9 := hide HQ.out.obj
        unfold ObjAt at B9
        rw [← ha9] at B9
        have R9 := hide HQ.out.res
        have HA9 := hide ha9
        clear ha9
        go_wp2_with (first
          | ((with_reducible refine wpList_load_obj (.tmp 3) zo a9 B9.out Z9.out ?_ ?_ ?_ ?_); rfl; rfl; rfl)
          | ((with_reducible refine wpList_store_blk ?_ 30 (.tmp 2) (.tmp 127) ?_ w.heap.size 39 objZ a9 30 Z9.out objZ_size ?_ ?_ R9.out infoObj P9.out ?_); rfl; rfl; rfl; rfl; intro w9 hk9 hg9))
        refine bodyPost_ret (results_cell rfl _ _ _ rfl _ (loadBlkT hk9 30 _ Tryd.underlying30 rfl 39 infoObj Z9.out)) rfl ?_
        rw [HR9.out, HA9.out]
        exact HQ.out.fin hg9
    · obtain rfl : k = n := by omega
      have HR9 : Hid (rObj bs s = ({ kindO 2 with parts := acc }, s')) := hide (by rw [HR.out]; show ({ kindO 2 with parts := (eachT (mPart bs) k s2 []).1 }, (eachT (mPart bs) k s2 []).2) = _; rw [HE.out, Nat.sub_self]; rfl)
      clear c2 HR HE
      obtain ⟨a9, ha9⟩ : ∃ x, x = (objL { kindO 2 with parts := acc } ⟨.slice none 0 0, .slice ax acc.length cx, .slice none 0 0, .slice none 0 0⟩).toArray := ⟨_, rfl⟩
      have Z9 : Hid (a9.size = 39) := hide (by rw [ha9]; exact objL_size _ _ rfl)
      have P9 : Hid (a9.all (·.oneCell') = true) := hide (by rw [ha9]; exact all_oneCell_toArray (objL_one _ _ ⟨⟨_, _, _, rfl⟩, ⟨_, _, _, rfl⟩, ⟨_, _, _, rfl⟩, ⟨_, _, _, rfl⟩⟩))
      have B9 := hide HQ.out.obj
      unfold ObjAt at B9
      rw [← ha9] at B9
      have R9 := hide HQ.out.res
      have HA9 := hide ha9
      clear ha9
      go_wp2_with (first
        | ((with_reducible refine wpList_load_obj (.tmp 3) zo a9 B9.out Z9.out ?_ ?_ ?_ ?_); rfl; rfl; rfl)
        | ((with_reducible refine wpList_store_blk ?_ 30 (.tmp 2) (.tmp 127) ?_ w.heap.size 39 objZ a9 30 Z9.out objZ_size ?_ ?_ R9.out infoObj P9.out ?_); rfl; rfl; rfl; rfl; intro w9 hk9 hg9))
      refine bodyPost_ret (results_cell rfl _ _ _ rfl _ (loadBlkT hk9 30 _ Tryd.underlying30 rfl 39 infoObj Z9.out)) rfl ?_
      rw [HR9.out, HA9.out]
      exact HQ.out.fin hg9
end Go.Proofs.YtjcfndiceinkjaaDoor

/- The document's read, kind 3. -/
namespace Go.Proofs.YtjcfndiceinkjaaDoor
set_option linter.unusedVariables false
set_option linter.unusedSimpArgs false
set_option maxRecDepth 100000
open Go.RowKit

set_option maxHeartbeats 8000000 in
theorem read_3 (w : World) (y : Nat) (rv : Value) (bs : List UInt8) (s : S) (h : RefSt w y rv bs s) (hl : bs.length ≤ 8192) (hk0 : (mByte bs s).1 = 3) : Calls Tryd.prog 39 #[.pointer (some ⟨y, 0, none⟩)] w (ReadC w y rv bs (rObj bs s)) := by
  have hzo := zero_obj
  obtain ⟨W0, hW0⟩ : ∃ W, W = w.alloc (.cells objZ 30) := ⟨_, rfl⟩
  have A0 : Hid (Blk W0 w.heap.size objZ 30) := hide (by rw [hW0]; exact Blk.made w _ _)
  have R0 : Hid (RefSt W0 y rv bs s) := hide (by rw [hW0]; exact h.below (below_alloc w _))
  have G0 : Hid (w.grownBy W0 (some y)) := hide (by rw [hW0]; exact World.grownBy_alloc _ _ _)
  have S0 : Hid (W0.heap.size = w.heap.size + 1) := hide (by rw [hW0]; simp)
  have YL : Hid (y < w.heap.size) := hide h.lt
  have BL : Hid (∀ b cap, rv = .slice (some ⟨b, 0, none⟩) bs.length cap → b < w.heap.size) := hide (fun b cap e => h.1.blk e)
  have HL := hide hl
  have HRO : Hid (rObj bs s = rTree bs (mByte bs s).2) := hide (by unfold rObj; rw [hk0]; rfl)
  have hkb : leNat ((mNext bs s (mPlace s) 1).1.getD []) = 3 := hk0
  obtain ⟨s1, hs1⟩ : ∃ s1, s1 = (mByte bs s).2 := ⟨_, rfl⟩
  have hs1' : s1 = (mNext bs s (mPlace s) 1).2 := hs1
  rw [← hs1] at HRO
  have HS1 := hide hs1'
  have HKB := hide hkb
  clear h hl hk0 hs1 hs1' hkb
  go_enter Tryd.func39, Tryd.ntmps39
  go_wp2_with fail
  rw [← hW0]
  clear hW0
  refine (rfixed_st W0 y rv bs s 1 R0.out (by have := HL.out; omega) (by omega)).mono ?_
  rintro e W1 ⟨rfl, h1, h2⟩
  rw [HKB.out, show (((3 : Nat)) : Int) = 3 from rfl]
  rw [← HS1.out] at h1
  have A1 := hide (A0.out.grown h2 (fun e => by have := Option.some.inj e; have := YL.out; omega))
  have G1 := hide (grownBy_trans G0.out h2)
  have Z1 : Hid (w.heap.size + 1 ≤ W1.heap.size) := hide (by have := h2.size; have := S0.out; omega)
  have D1 := hide h1
  obtain ⟨zo, hzo'⟩ : ∃ x, x = W1.heap.size := ⟨_, rfl⟩
  have HZO : Hid (w.heap.size < zo) := hide (by have := Z1.out; omega)
  have ZB : Hid (Blk (W1.alloc (.cells objZ 30)) zo objZ 30) := hide (by rw [hzo']; exact Blk.made W1 _ _)
  have OZ : Hid ((objL (kindO 3) nilV).toArray.size = 39) := hide (objL_size _ _ rfl)
  have P1 : Hid ((objL (kindO 3) nilV).toArray.all (·.oneCell') = true) := hide (all_oneCell_toArray (objL_one _ _ ⟨⟨_, _, _, rfl⟩, ⟨_, _, _, rfl⟩, ⟨_, _, _, rfl⟩, ⟨_, _, _, rfl⟩⟩))
  obtain ⟨arr, harr⟩ : ∃ x, x = (objL (kindO 3) nilV).toArray := ⟨_, rfl⟩
  have BdK : Hid (∀ {op : Oper} {ev : Operand → Value} {x : Operand}, op.op = .build 30 #[(0, x)] → ev x = .int .u8 3 → ∀ w, (execOp ev op).run Tryd.prog w = .ok (.value (.agg arr)) w) := hide (fun ho hx w => by rw [harr]; exact run_buildOK (k := 3) ho hx w)
  rw [← harr] at OZ P1
  have HARR := hide harr
  have HZO2 := hide hzo'
  clear h1 h2 A0 R0 G0 S0 harr hzo' HKB HS1
  go_wp2_with (first
    | ((with_reducible refine wpList_val (.agg arr) ?_ (BdK.out (x := .tmp 19) ?_ ?_ _) ?_); rfl; rfl; rfl)
    | ((with_reducible refine wpList_store_blk ?_ 30 (.tmp 3) (.tmp 20) ?_ W1.heap.size 39 objZ arr 30 OZ.out objZ_size ?_ ?_ (by rw [← HZO2.out]; exact ZB.out) infoObj P1.out ?_); rfl; rfl; rfl; rfl; intro W2 hk2 hg2; generalize hG : wpList _ _ _ _ _ _ = G))
  rw [← HZO2.out] at hk2 hg2
  have Q2 : Hid (RS w W2 y rv bs s1 w.heap.size zo (kindO 3) nilV) := hide (by
    have hb : Below W1.heap.size W1 W2 := (below_alloc W1 _).trans (below_grownBy hg2 (by rw [HZO2.out]; exact Nat.le_refl _) (below_alloc W1 _).size)
    exact ⟨YL.out, BL.out, Nat.le_refl _, HZO.out, D1.out.below hb, A1.out.below hb A1.out.lt, by show Blk W2 zo (objL (kindO 3) nilV).toArray 30; rw [← HARR.out]; exact hk2, kindO_own _ _ _, gB G1.out (hb.mono G1.out.size)⟩)
  have c2 : W2.cell? ⟨zo, 0, none⟩ = some (.int .u8 3) := ObjAt.cKind (o := kindO 3) Q2.out.obj
  subst hG
  rw [← HZO2.out]
  clear hk2 hg2 A1 G1 D1 ZB P1 BdK HARR HZO2 OZ Z1
  go_wp2_with fail
  clear c2
  refine (rvar_st W2 y rv bs s1 128 Q2.out.dec).mono ?_
  rintro e W3 ⟨rfl, h1, h2⟩
  have hle := mNum_ok_le bs s1 128
  obtain ⟨r, hr⟩ : ∃ r, r = mNum bs s1 128 := ⟨_, rfl⟩
  have HR : Hid (rObj bs s = ({ kindO 3 with items := (eachT (rItem bs) r.1 r.2.2 []).1 }, (eachT (rItem bs) r.1 r.2.2 []).2)) := hide (by rw [HRO.out, hr]; rfl)
  rw [← hr] at h1 hle ⊢
  clear hr HRO
  obtain ⟨n, ok, s2⟩ := r
  have hn : n ≤ 128 := hle
  have Q3 : Hid (RS w W3 y rv bs s2 w.heap.size zo (kindO 3) nilV) := hide (Q2.out.take h1 h2)
  clear hle h1 h2 Q2
  have hzk := zero_key
  go_wp2_with fail
  go_loopw [9] (fun c wr => ∃ (k : Nat) (acc : List ItemR) (s' : S) (va : Value), c = .int .u64 k ∧ k ≤ n ∧ acc.length = k ∧ RS w wr y rv bs s' w.heap.size zo { kindO 3 with items := acc } ⟨.slice none 0 0, .slice none 0 0, va, .slice none 0 0⟩ ∧ eachT (rItem bs) n s2 [] = eachT (rItem bs) (n - k) s' acc) (fun c _ => n - (intOf c).toNat)
  case atStart => exact ⟨0, [], s2, .slice none 0 0, rfl, by omega, rfl, Q3.out, rfl⟩
  case round =>
    obtain ⟨k, acc, s', va, rfl, hkn, hak, hQ, heq⟩ := hrel
    have HE := hide heq
    have HAK := hide hak
    clear hak
    obtain ⟨ax, cx, rfl⟩ := own_form (v := va) hQ.own.i
    have HQ := hide hQ
    have c2 := Blk.cell HQ.out.dec.2.2 2
    clear heq hQ Q3
    by_cases hk : k < n
    · by_cases hc : s'.code = 0
      · have hd : decide (s'.code ≠ 0) = false := by simp [hc]
        have c2' : wr.cell? ⟨y, 2, none⟩ = some (.bool false) := by rw [c2]; simp [hd]
        have HG := hide (eachT_more (rItem bs) (n - k) s' acc hc (by omega))
        clear c2 hc hd
        go_wp2_with fail
        refine (rtext_st wr y rv bs s' 64 (by decide) (by decide) HQ.out.dec (by have := HL.out; omega)).mono ?_
        rintro e V1 ⟨rfl, h1, h2⟩
        rw [show ((64 : Int).toNat) = 64 from rfl] at h1 ⊢
        have HP : Hid (rItem bs s' = (((rText bs s' 64).1, (mByte bs (rText bs s' 64).2).1, (mNum bs (mByte bs (rText bs s' 64).2).2 18446744073709551615).1, (mKeyT bs (mNum bs (mByte bs (rText bs s' 64).2).2 18446744073709551615).2.2).1), (mKeyT bs (mNum bs (mByte bs (rText bs s' 64).2).2 18446744073709551615).2.2).2)) := hide rfl
        obtain ⟨t, ht⟩ : ∃ r, r = rText bs s' 64 := ⟨_, rfl⟩
        rw [← ht] at h1 HP ⊢
        clear ht
        obtain ⟨nm, t1⟩ := t
        have E1 := hide (HQ.out.take h1 h2)
        clear h1 h2 c2'
        go_wp2_with fail
        refine (rfixed_st V1 y rv bs t1 1 E1.out.dec (by have := HL.out; omega) (by omega)).mono ?_
        rintro e V2 ⟨rfl, h1, h2⟩
        have hmo0 := mByte_lt bs t1
        rw [show leNat ((mNext bs t1 (mPlace t1) 1).1.getD []) = (mByte bs t1).1 from rfl]
        have h1' : RefSt V2 y rv bs (mByte bs t1).2 := h1
        have HP1 : Hid (rItem bs s' = ((nm, (mByte bs t1).1, (mNum bs (mByte bs t1).2 18446744073709551615).1, (mKeyT bs (mNum bs (mByte bs t1).2 18446744073709551615).2.2).1), (mKeyT bs (mNum bs (mByte bs t1).2 18446744073709551615).2.2).2)) := hide HP.out
        obtain ⟨m, hm⟩ : ∃ r, r = mByte bs t1 := ⟨_, rfl⟩
        rw [← hm] at h1' hmo0 HP1 ⊢
        clear hm h1 HP
        obtain ⟨mo, t2⟩ := m
        have hwr : IntKind.u8.wrap (mo : Int) = (mo : Int) := by rw [IntKind.wrap_u8]; have : mo < 256 := hmo0; omega
        have E2 := hide (E1.out.take h1' h2)
        clear h1' h2 hmo0 E1
        go_wp2_with fail
        refine (rvar_st V2 y rv bs t2 18446744073709551615 E2.out.dec).mono ?_
        rintro e V3 ⟨rfl, h1, h2⟩
        have HP2 : Hid (rItem bs s' = ((nm, mo, (mNum bs t2 18446744073709551615).1, (mKeyT bs (mNum bs t2 18446744073709551615).2.2).1), (mKeyT bs (mNum bs t2 18446744073709551615).2.2).2)) := hide HP1.out
        obtain ⟨q, hq⟩ : ∃ r, r = mNum bs t2 18446744073709551615 := ⟨_, rfl⟩
        rw [← hq] at h1 HP2 ⊢
        clear hq HP1 hwr
        obtain ⟨qv, qo, t3⟩ := q
        have E3 := hide (E2.out.take h1 h2)
        clear h1 h2 E2
        go_wp2_with fail
        refine (rkeyT_st V3 y rv bs t3 E3.out.dec HL.out).mono ?_
        rintro e W4 ⟨rfl, h1, h2⟩
        have KL0 := mKeyT_len bs t3
        have HP3 : Hid (rItem bs s' = ((nm, mo, qv, (mKeyT bs t3).1), (mKeyT bs t3).2)) := hide HP2.out
        obtain ⟨kt, hkt⟩ : ∃ r, r = mKeyT bs t3 := ⟨_, rfl⟩
        rw [← hkt] at h1 KL0 HP3 ⊢
        clear hkt HP2
        obtain ⟨kb, s4⟩ := kt
        have KL : Hid (kb.length = 32) := hide KL0
        have HG2 : Hid (eachT (rItem bs) (n - k) s' acc = eachT (rItem bs) (n - k - 1) s4 (acc ++ [(nm, mo, qv, kb)])) := hide (by rw [HG.out, HP3.out])
        have Q4 := hide (E3.out.take h1 h2)
        clear h1 h2 KL0 E3 HP3 HG
        go_wp2_with (first
          | ((with_reducible refine wpList_put_key ?_ (.tmp 13) (.tmp 82) ?_ W4.heap.size ?_ W4 ?_ ?_ kb KL.out ?_ ?_); rfl; rfl; rfl; rfl; rfl; rfl; intro W6 hk5 hb5; generalize hG : wpList _ _ _ _ _ _ = G))
        have Q6 := hide (Q4.out.below hb5)
        obtain ⟨zk, hzk'⟩ : ∃ x, x = W4.heap.size := ⟨_, rfl⟩
        have HZK : Hid (zo < zk) := hide (by rw [hzk']; exact Q4.out.size)
        rw [← hzk'] at hk5
        have K6 : Hid (KeyAt W6 zk kb) := hk5
        subst hG
        rw [← hzk']
        clear hb5 hzk' Q4 hk5
        have OPp : Hid (okI (nm, mo, qv, kb)) := hide KL.out
        have KO : Hid (okK kb) := hide KL.out
        have CL : Hid ((itemC (nm, mo, qv, kb)).length = 35) := hide (itemC_len _ OPp.out)
        have Q7 : Hid (RS w (W6.alloc (.cells (itemC (nm, mo, qv, kb)).toArray 50)) y rv bs s4 w.heap.size zo { kindO 3 with items := acc } ⟨.slice none 0 0, .slice none 0 0, .slice ax acc.length cx, .slice none 0 0⟩) := hide (Q6.out.alloc _)
        have RW : Hid (RowR (W6.alloc (.cells (itemC (nm, mo, qv, kb)).toArray 50)) (.slice (some ⟨W6.heap.size, 0, none⟩) 1 1) 35 [itemC (nm, mo, qv, kb)]) := hide (row_oneN CL.out)
        have LK : Hid (acc.length + [itemC (nm, mo, qv, kb)].length ≤ 9223372036854775807) := hide (by rw [List.length_singleton]; have := HAK.out; omega)
        have BK : Hid ((acc.length + [itemC (nm, mo, qv, kb)].length) * 64 ≤ 140737488355328) := hide (by rw [List.length_singleton]; have := HAK.out; omega)
        have HSZ : Hid (zo + 1 ≤ (W6.alloc (.cells (itemC (nm, mo, qv, kb)).toArray 50)).heap.size) := hide Q7.out.size
        have OW7 : Hid ((W6.alloc (.cells (itemC (nm, mo, qv, kb)).toArray 50)).ownsRow (zo + 1) 50 35 (.slice ax acc.length cx) acc.length (acc.map itemC).flatten) := hide Q7.out.own.i
        have c6 : W6.cell? ⟨zo, 3, none⟩ = some (.slice ax acc.length cx) := Q6.out.obj.cI
        go_wp2_with (first
          | ((with_reducible refine wpList_key (.tmp 13) zk kb K6.out ?_ ?_ ?_ ?_); rfl; rfl; rfl)
          | ((with_reducible refine wpList_val (.agg (itemC (nm, mo, qv, kb)).toArray) ?_ (run_buildIt (x1 := .tmp 85) (x2 := .tmp 86) (x3 := .tmp 87) (x4 := .tmp 88) nm mo qv kb KO.out ?_ ?_ ?_ ?_ ?_) ?_); rfl; rfl; rfl; rfl; rfl; rfl)
          | ((with_reducible refine wpList_runW (.slice (some ⟨W6.heap.size, 0, none⟩) 1 1) (W6.alloc (.cells (itemC (nm, mo, qv, kb)).toArray 50)) ?_ (run_bs1I (x := .tmp 89) (nm, mo, qv, kb) OPp.out ?_ ?_) ?_); rfl; rfl; rfl)
          | ((with_reducible refine wpList_append_row elemI ?_ (.tmp 84) (.tmp 90) ?_ (zo + 1) (.slice ax acc.length cx) (.slice (some ⟨W6.heap.size, 0, none⟩) 1 1) acc.length (acc.map itemC).flatten [itemC (nm, mo, qv, kb)] ?_ OW7.out ?_ RW.out (by simp [CL.out]) (by simpa using itemC_one (nm, mo, qv, kb)) LK.out BK.out HSZ.out ?_); rfl; rfl; rfl; rfl; intro v5 w5 O5 G5 E5; generalize hG : wpList _ _ _ _ _ _ = G))
        have HRW : Hid (∀ j, (Value.slice ax acc.length cx).ownBlock = some j → zo + 1 ≤ j) := hide (fun j e => (Q7.out.own.i.lt j e).1)
        have hB7 : Blk w5 zo (objL { kindO 3 with items := acc } ⟨.slice none 0 0, .slice none 0 0, .slice ax acc.length cx, .slice none 0 0⟩).toArray 30 := Blk.grown Q7.out.obj G5.out (fun e => by have := HRW.out zo e.symm; omega)
        have c7 : w5.cell? ⟨zo, 3, none⟩ = some (.slice ax acc.length cx) := ObjAt.cI (o := { kindO 3 with items := acc }) (v := ⟨.slice none 0 0, .slice none 0 0, .slice ax acc.length cx, .slice none 0 0⟩) hB7
        have f7 : w5.frozen? ⟨zo, 3, none⟩ = false := Blk.frozen hB7 3
        have HB7 := hide hB7
        have O5' : w5.ownsRow (zo + 1) 50 35 v5 (acc ++ [(nm, mo, qv, kb)]).length ((acc ++ [(nm, mo, qv, kb)]).map itemC).flatten := by rw [List.map_append, List.flatten_append, List.length_append]; exact O5.out
        obtain ⟨bx, dx, rfl⟩ := own_form O5'
        have HO5 := hide O5'
        subst hG
        clear hB7 O5' O5 c6
        go_wp2
        rw [show acc.length + 1 = (acc ++ [(nm, mo, qv, kb)]).length by simp]
        refine ⟨⟨k + 1, acc ++ [(nm, mo, qv, kb)], s4, .slice bx (acc ++ [(nm, mo, qv, kb)]).length dx, by go_num, by omega, by simp [HAK.out], ?_, by rw [HE.out, HG2.out]; congr 1⟩, by simp [intOf]; omega⟩
        have hg := grownBy_set w5 zo 3 (.slice bx (acc ++ [(nm, mo, qv, kb)]).length dx)
        refine Q7.out.step G5.out HRW.out hg ?_ ?_
        · have := HB7.out.set 3 (.slice bx (acc ++ [(nm, mo, qv, kb)]).length dx)
          rw [objL_setI] at this
          exact this
        · exact ⟨⟨rfl, by simp [kindO, zeroO], fun p hp => by
            rcases List.mem_append.1 hp with hp | hp
            · exact Q7.out.own.ok.i p hp
            · rw [List.mem_singleton.1 hp]; exact OPp.out, by simp [kindO, zeroO]⟩, World.ownsRow_nil _ _ _ _, World.ownsRow_nil _ _ _ _, HO5.out.kept hg (owns_apart HO5.out (fun q e => by cases e; omega)), World.ownsRow_nil _ _ _ _⟩
      · have hd : decide (s'.code ≠ 0) = true := by simp [hc]
        have c2' : wr.cell? ⟨y, 2, none⟩ = some (.bool true) := by rw [c2]; simp [hd]
        have HR9 : Hid (rObj bs s = ({ kindO 3 with items := acc }, s')) := hide (by rw [HR.out]; show ({ kindO 3 with items := (eachT (rItem bs) n s2 []).1 }, (eachT (rItem bs) n s2 []).2) = _; rw [HE.out, eachT_stop _ _ _ _ hc])
        clear c2 hc hd HR HE
        obtain ⟨a9, ha9⟩ : ∃ x, x = (objL { kindO 3 with items := acc } ⟨.slice none 0 0, .slice none 0 0, .slice ax acc.length cx, .slice none 0 0⟩).toArray := ⟨_, rfl⟩
        have Z9 : Hid (a9.size = 39) := hide (by rw [ha9]; exact objL_size _ _ rfl)
        have P9 : Hid (a9.all (·.oneCell') = true) := hide (by rw [ha9]; exact all_oneCell_toArray (objL_one _ _ ⟨⟨_, _, _, rfl⟩, ⟨_, _, _, rfl⟩, ⟨_, _, _, rfl⟩, ⟨_, _, _, rfl⟩⟩))
        have B9 := hide HQ.out.obj
        unfold ObjAt at B9
        rw [← ha9] at B9
        have R9 := hide HQ.out.res
        have HA9 := hide ha9
        clear ha9
        go_wp2_with (first
          | ((with_reducible refine wpList_load_obj (.tmp 3) zo a9 B9.out Z9.out ?_ ?_ ?_ ?_); rfl; rfl; rfl)
          | ((with_reducible refine wpList_store_blk ?_ 30 (.tmp 2) (.tmp 127) ?_ w.heap.size 39 objZ a9 30 Z9.out objZ_size ?_ ?_ R9.out infoObj P9.out ?_); rfl; rfl; rfl; rfl; intro w9 hk9 hg9))
        refine bodyPost_ret (results_cell rfl _ _ _ rfl _ (loadBlkT hk9 30 _ Tryd.underlying30 rfl 39 infoObj Z9.out)) rfl ?_
        rw [HR9.out, HA9.out]
        exact HQ.out.fin hg9
    · obtain rfl : k = n := by omega
      have HR9 : Hid (rObj bs s = ({ kindO 3 with items := acc }, s')) := hide (by rw [HR.out]; show ({ kindO 3 with items := (eachT (rItem bs) k s2 []).1 }, (eachT (rItem bs) k s2 []).2) = _; rw [HE.out, Nat.sub_self]; rfl)
      clear c2 HR HE
      obtain ⟨a9, ha9⟩ : ∃ x, x = (objL { kindO 3 with items := acc } ⟨.slice none 0 0, .slice none 0 0, .slice ax acc.length cx, .slice none 0 0⟩).toArray := ⟨_, rfl⟩
      have Z9 : Hid (a9.size = 39) := hide (by rw [ha9]; exact objL_size _ _ rfl)
      have P9 : Hid (a9.all (·.oneCell') = true) := hide (by rw [ha9]; exact all_oneCell_toArray (objL_one _ _ ⟨⟨_, _, _, rfl⟩, ⟨_, _, _, rfl⟩, ⟨_, _, _, rfl⟩, ⟨_, _, _, rfl⟩⟩))
      have B9 := hide HQ.out.obj
      unfold ObjAt at B9
      rw [← ha9] at B9
      have R9 := hide HQ.out.res
      have HA9 := hide ha9
      clear ha9
      go_wp2_with (first
        | ((with_reducible refine wpList_load_obj (.tmp 3) zo a9 B9.out Z9.out ?_ ?_ ?_ ?_); rfl; rfl; rfl)
        | ((with_reducible refine wpList_store_blk ?_ 30 (.tmp 2) (.tmp 127) ?_ w.heap.size 39 objZ a9 30 Z9.out objZ_size ?_ ?_ R9.out infoObj P9.out ?_); rfl; rfl; rfl; rfl; intro w9 hk9 hg9))
      refine bodyPost_ret (results_cell rfl _ _ _ rfl _ (loadBlkT hk9 30 _ Tryd.underlying30 rfl 39 infoObj Z9.out)) rfl ?_
      rw [HR9.out, HA9.out]
      exact HQ.out.fin hg9
end Go.Proofs.YtjcfndiceinkjaaDoor

/- The document's read, kind 4. -/
namespace Go.Proofs.YtjcfndiceinkjaaDoor
set_option linter.unusedVariables false
set_option linter.unusedSimpArgs false
set_option maxRecDepth 100000
open Go.RowKit

set_option maxHeartbeats 8000000 in
theorem read_4 (w : World) (y : Nat) (rv : Value) (bs : List UInt8) (s : S) (h : RefSt w y rv bs s) (hl : bs.length ≤ 8192) (hk0 : (mByte bs s).1 = 4) : Calls Tryd.prog 39 #[.pointer (some ⟨y, 0, none⟩)] w (ReadC w y rv bs (rObj bs s)) := by
  have hzo := zero_obj
  obtain ⟨W0, hW0⟩ : ∃ W, W = w.alloc (.cells objZ 30) := ⟨_, rfl⟩
  have A0 : Hid (Blk W0 w.heap.size objZ 30) := hide (by rw [hW0]; exact Blk.made w _ _)
  have R0 : Hid (RefSt W0 y rv bs s) := hide (by rw [hW0]; exact h.below (below_alloc w _))
  have G0 : Hid (w.grownBy W0 (some y)) := hide (by rw [hW0]; exact World.grownBy_alloc _ _ _)
  have S0 : Hid (W0.heap.size = w.heap.size + 1) := hide (by rw [hW0]; simp)
  have YL : Hid (y < w.heap.size) := hide h.lt
  have BL : Hid (∀ b cap, rv = .slice (some ⟨b, 0, none⟩) bs.length cap → b < w.heap.size) := hide (fun b cap e => h.1.blk e)
  have HL := hide hl
  have HRO : Hid (rObj bs s = rSnap bs (mByte bs s).2) := hide (by unfold rObj; rw [hk0]; rfl)
  have hkb : leNat ((mNext bs s (mPlace s) 1).1.getD []) = 4 := hk0
  obtain ⟨s1, hs1⟩ : ∃ s1, s1 = (mByte bs s).2 := ⟨_, rfl⟩
  have hs1' : s1 = (mNext bs s (mPlace s) 1).2 := hs1
  rw [← hs1] at HRO
  have HS1 := hide hs1'
  have HKB := hide hkb
  clear h hl hk0 hs1 hs1' hkb
  go_enter Tryd.func39, Tryd.ntmps39
  go_wp2_with fail
  rw [← hW0]
  clear hW0
  refine (rfixed_st W0 y rv bs s 1 R0.out (by have := HL.out; omega) (by omega)).mono ?_
  rintro e W1 ⟨rfl, h1, h2⟩
  rw [HKB.out, show (((4 : Nat)) : Int) = 4 from rfl]
  rw [← HS1.out] at h1
  have A1 := hide (A0.out.grown h2 (fun e => by have := Option.some.inj e; have := YL.out; omega))
  have G1 := hide (grownBy_trans G0.out h2)
  have Z1 : Hid (w.heap.size + 1 ≤ W1.heap.size) := hide (by have := h2.size; have := S0.out; omega)
  have D1 := hide h1
  obtain ⟨zo, hzo'⟩ : ∃ x, x = W1.heap.size := ⟨_, rfl⟩
  have HZO : Hid (w.heap.size < zo) := hide (by have := Z1.out; omega)
  have ZB : Hid (Blk (W1.alloc (.cells objZ 30)) zo objZ 30) := hide (by rw [hzo']; exact Blk.made W1 _ _)
  have OZ : Hid ((objL (kindO 4) nilV).toArray.size = 39) := hide (objL_size _ _ rfl)
  have P1 : Hid ((objL (kindO 4) nilV).toArray.all (·.oneCell') = true) := hide (all_oneCell_toArray (objL_one _ _ ⟨⟨_, _, _, rfl⟩, ⟨_, _, _, rfl⟩, ⟨_, _, _, rfl⟩, ⟨_, _, _, rfl⟩⟩))
  obtain ⟨arr, harr⟩ : ∃ x, x = (objL (kindO 4) nilV).toArray := ⟨_, rfl⟩
  have BdK : Hid (∀ {op : Oper} {ev : Operand → Value} {x : Operand}, op.op = .build 30 #[(0, x)] → ev x = .int .u8 4 → ∀ w, (execOp ev op).run Tryd.prog w = .ok (.value (.agg arr)) w) := hide (fun ho hx w => by rw [harr]; exact run_buildOK (k := 4) ho hx w)
  rw [← harr] at OZ P1
  have HARR := hide harr
  have HZO2 := hide hzo'
  clear h1 h2 A0 R0 G0 S0 harr hzo' HKB HS1
  go_wp2_with (first
    | ((with_reducible refine wpList_val (.agg arr) ?_ (BdK.out (x := .tmp 19) ?_ ?_ _) ?_); rfl; rfl; rfl)
    | ((with_reducible refine wpList_store_blk ?_ 30 (.tmp 3) (.tmp 20) ?_ W1.heap.size 39 objZ arr 30 OZ.out objZ_size ?_ ?_ (by rw [← HZO2.out]; exact ZB.out) infoObj P1.out ?_); rfl; rfl; rfl; rfl; intro W2 hk2 hg2; generalize hG : wpList _ _ _ _ _ _ = G))
  rw [← HZO2.out] at hk2 hg2
  have Q2 : Hid (RS w W2 y rv bs s1 w.heap.size zo (kindO 4) nilV) := hide (by
    have hb : Below W1.heap.size W1 W2 := (below_alloc W1 _).trans (below_grownBy hg2 (by rw [HZO2.out]; exact Nat.le_refl _) (below_alloc W1 _).size)
    exact ⟨YL.out, BL.out, Nat.le_refl _, HZO.out, D1.out.below hb, A1.out.below hb A1.out.lt, by show Blk W2 zo (objL (kindO 4) nilV).toArray 30; rw [← HARR.out]; exact hk2, kindO_own _ _ _, gB G1.out (hb.mono G1.out.size)⟩)
  have c2 : W2.cell? ⟨zo, 0, none⟩ = some (.int .u8 4) := ObjAt.cKind (o := kindO 4) Q2.out.obj
  subst hG
  rw [← HZO2.out]
  clear hk2 hg2 A1 G1 D1 ZB P1 BdK HARR HZO2 OZ Z1
  go_wp2_with fail
  clear c2
  refine (rkeyT_st W2 y rv bs s1 Q2.out.dec HL.out).mono ?_
  rintro e V1 ⟨rfl, h1, h2⟩
  have KT0 := mKeyT_len bs s1
  have HR0 : Hid (rObj bs s = ({ kindO 4 with tree := (mKeyT bs s1).1, parents := (rEach (mKeyT bs) bs (mKeyT bs s1).2 128).1, time := (mI64 bs (rEach (mKeyT bs) bs (mKeyT bs s1).2 128).2).1, note := (rText bs (mI64 bs (rEach (mKeyT bs) bs (mKeyT bs s1).2 128).2).2 1024).1 }, (rText bs (mI64 bs (rEach (mKeyT bs) bs (mKeyT bs s1).2 128).2).2 1024).2)) := hide HRO.out
  obtain ⟨kt, hkt⟩ : ∃ r, r = mKeyT bs s1 := ⟨_, rfl⟩
  rw [← hkt] at h1 KT0 HR0 ⊢
  clear hkt HRO
  obtain ⟨tk, v1⟩ := kt
  have KT : Hid (tk.length = 32) := hide KT0
  have K1 : Hid ((keyC tk).toArray.all (·.oneCell') = true) := hide (all_oneCell_toArray (keyC_one _))
  have KS : Hid ((keyC tk).toArray.size = 32) := hide (by have := KT.out; simp [keyC]; exact this)
  have V1Q := hide (Q2.out.take h1 h2)
  have B1 : Hid (Blk V1 zo (objL (kindO 4) nilV).toArray 30) := hide V1Q.out.obj
  have OS : Hid (4 + 32 ≤ (objL (kindO 4) nilV).toArray.size) := hide (by rw [objL_size (kindO 4) nilV rfl]; omega)
  clear h1 h2 KT0 Q2
  go_wp2_with (first
    | ((with_reducible refine wpList_store_midB ?_ 27 (.tmp 97) (.tmp 96) ?_ zo 4 32 (objL (kindO 4) nilV).toArray (keyC tk).toArray 30 KS.out OS.out ?_ ?_ B1.out infoKey K1.out ?_); rfl; rfl; rfl; rfl; intro V2 hk2 hg2; generalize hG : wpList _ _ _ _ _ _ = G))
  rw [objL_setTree (kindO 4) nilV rfl tk KT.out] at hk2
  have V2Q : Hid (RS w V2 y rv bs v1 w.heap.size zo { kindO 4 with tree := tk } nilV) := hide (V1Q.out.put hg2 hk2 (by have hk := V1Q.out.own.kept hg2 (fun q e => by cases e; omega); exact ⟨⟨KT.out, hk.ok.p, hk.ok.i, hk.ok.k⟩, hk.d, hk.p, hk.i, hk.k⟩))
  clear hk2 hg2 V1Q B1 K1 KS OS
  subst hG
  go_wp2_with fail
  refine (rvar_st V2 y rv bs v1 128 V2Q.out.dec).mono ?_
  rintro e W3 ⟨rfl, h1, h2⟩
  have hle := mNum_ok_le bs v1 128
  obtain ⟨r, hr⟩ : ∃ r, r = mNum bs v1 128 := ⟨_, rfl⟩
  have HR : Hid (rObj bs s = ({ kindO 4 with tree := tk, parents := (eachT (mKeyT bs) r.1 r.2.2 []).1, time := (mI64 bs (eachT (mKeyT bs) r.1 r.2.2 []).2).1, note := (rText bs (mI64 bs (eachT (mKeyT bs) r.1 r.2.2 []).2).2 1024).1 }, (rText bs (mI64 bs (eachT (mKeyT bs) r.1 r.2.2 []).2).2 1024).2)) := hide (by rw [HR0.out, hr]; rfl)
  rw [← hr] at h1 hle ⊢
  clear hr HR0
  obtain ⟨n, ok, s2⟩ := r
  have hn : n ≤ 128 := hle
  have Q3 : Hid (RS w W3 y rv bs s2 w.heap.size zo { kindO 4 with tree := tk } nilV) := hide (V2Q.out.take h1 h2)
  clear hle h1 h2 V2Q
  have hzk := zero_key
  go_wp2_with fail
  go_loopw [15] (fun c wr => ∃ (k : Nat) (acc : List (List UInt8)) (s' : S) (va : Value), c = .int .u64 k ∧ k ≤ n ∧ acc.length = k ∧ RS w wr y rv bs s' w.heap.size zo { kindO 4 with tree := tk, parents := acc } ⟨.slice none 0 0, .slice none 0 0, .slice none 0 0, va⟩ ∧ eachT (mKeyT bs) n s2 [] = eachT (mKeyT bs) (n - k) s' acc) (fun c _ => n - (intOf c).toNat)
  case atStart => exact ⟨0, [], s2, .slice none 0 0, rfl, by omega, rfl, Q3.out, rfl⟩
  case round =>
    obtain ⟨k, acc, s', va, rfl, hkn, hak, hQ, heq⟩ := hrel
    have HE := hide heq
    have HAK := hide hak
    clear hak
    obtain ⟨ax, cx, rfl⟩ := own_form (v := va) hQ.own.k
    have HQ := hide hQ
    have c2 := Blk.cell HQ.out.dec.2.2 2
    clear heq hQ Q3
    by_cases hk : k < n
    · by_cases hc : s'.code = 0
      · have hd : decide (s'.code ≠ 0) = false := by simp [hc]
        have c2' : wr.cell? ⟨y, 2, none⟩ = some (.bool false) := by rw [c2]; simp [hd]
        have HG := hide (eachT_more (mKeyT bs) (n - k) s' acc hc (by omega))
        clear c2 hc hd
        go_wp2_with fail
        refine (rkeyT_st wr y rv bs s' HQ.out.dec HL.out).mono ?_
        rintro e W4 ⟨rfl, h1, h2⟩
        have KL0 := mKeyT_len bs s'
        obtain ⟨kt, hkt⟩ : ∃ r, r = mKeyT bs s' := ⟨_, rfl⟩
        rw [← hkt] at h1 KL0 HG ⊢
        clear hkt
        obtain ⟨kb, s4⟩ := kt
        have KL : Hid (kb.length = 32) := hide KL0
        have HG2 : Hid (eachT (mKeyT bs) (n - k) s' acc = eachT (mKeyT bs) (n - k - 1) s4 (acc ++ [kb])) := hide HG.out
        have Q4 := hide (HQ.out.take h1 h2)
        clear h1 h2 KL0 c2' HG
        go_wp2_with (first
          | ((with_reducible refine wpList_put_key ?_ (.tmp 16) (.tmp 113) ?_ W4.heap.size ?_ W4 ?_ ?_ kb KL.out ?_ ?_); rfl; rfl; rfl; rfl; rfl; rfl; intro W6 hk5 hb5; generalize hG : wpList _ _ _ _ _ _ = G))
        have Q6 := hide (Q4.out.below hb5)
        obtain ⟨zk, hzk'⟩ : ∃ x, x = W4.heap.size := ⟨_, rfl⟩
        have HZK : Hid (zo < zk) := hide (by rw [hzk']; exact Q4.out.size)
        rw [← hzk'] at hk5
        have K6 : Hid (KeyAt W6 zk kb) := hk5
        subst hG
        rw [← hzk']
        clear hb5 hzk' Q4 hk5
        have KO : Hid (okK kb) := hide KL.out
        have CL : Hid ((keyC kb).length = 32) := hide (by have := KL.out; simp [keyC]; exact this)
        have Q7 : Hid (RS w (W6.alloc (.cells (keyC kb).toArray 27)) y rv bs s4 w.heap.size zo { kindO 4 with tree := tk, parents := acc } ⟨.slice none 0 0, .slice none 0 0, .slice none 0 0, .slice ax acc.length cx⟩) := hide (Q6.out.alloc _)
        have RW : Hid (RowR (W6.alloc (.cells (keyC kb).toArray 27)) (.slice (some ⟨W6.heap.size, 0, none⟩) 1 1) 32 [keyC kb]) := hide (row_oneN CL.out)
        have LK : Hid (acc.length + [keyC kb].length ≤ 9223372036854775807) := hide (by rw [List.length_singleton]; have := HAK.out; omega)
        have BK : Hid ((acc.length + [keyC kb].length) * 32 ≤ 140737488355328) := hide (by rw [List.length_singleton]; have := HAK.out; omega)
        have HSZ : Hid (zo + 1 ≤ (W6.alloc (.cells (keyC kb).toArray 27)).heap.size) := hide Q7.out.size
        have OW7 : Hid ((W6.alloc (.cells (keyC kb).toArray 27)).ownsRow (zo + 1) 27 32 (.slice ax acc.length cx) acc.length (acc.map keyC).flatten) := hide Q7.out.own.k
        have c6 : W6.cell? ⟨zo, 36, none⟩ = some (.slice ax acc.length cx) := ObjAt.cK (o := { kindO 4 with tree := tk, parents := acc }) Q6.out.obj KT.out
        go_wp2_with (first
          | ((with_reducible refine wpList_key (.tmp 16) zk kb K6.out ?_ ?_ ?_ ?_); rfl; rfl; rfl)
          | ((with_reducible refine wpList_runW (.slice (some ⟨W6.heap.size, 0, none⟩) 1 1) (W6.alloc (.cells (keyC kb).toArray 27)) ?_ (run_bs1K (x := .tmp 116) kb KO.out ?_ ?_) ?_); rfl; rfl; rfl)
          | ((with_reducible refine wpList_append_row elemK ?_ (.tmp 115) (.tmp 117) ?_ (zo + 1) (.slice ax acc.length cx) (.slice (some ⟨W6.heap.size, 0, none⟩) 1 1) acc.length (acc.map keyC).flatten [keyC kb] ?_ OW7.out ?_ RW.out (by simp [CL.out]) (by simpa using keyC_one kb) LK.out BK.out HSZ.out ?_); rfl; rfl; rfl; rfl; intro v5 w5 O5 G5 E5; generalize hG : wpList _ _ _ _ _ _ = G))
        have HRW : Hid (∀ j, (Value.slice ax acc.length cx).ownBlock = some j → zo + 1 ≤ j) := hide (fun j e => (Q7.out.own.k.lt j e).1)
        have hB7 : Blk w5 zo (objL { kindO 4 with tree := tk, parents := acc } ⟨.slice none 0 0, .slice none 0 0, .slice none 0 0, .slice ax acc.length cx⟩).toArray 30 := Blk.grown Q7.out.obj G5.out (fun e => by have := HRW.out zo e.symm; omega)
        have c7 : w5.cell? ⟨zo, 36, none⟩ = some (.slice ax acc.length cx) := ObjAt.cK (o := { kindO 4 with tree := tk, parents := acc }) (v := ⟨.slice none 0 0, .slice none 0 0, .slice none 0 0, .slice ax acc.length cx⟩) hB7 KT.out
        have f7 : w5.frozen? ⟨zo, 36, none⟩ = false := Blk.frozen hB7 36
        have HB7 := hide hB7
        have O5' : w5.ownsRow (zo + 1) 27 32 v5 (acc ++ [kb]).length ((acc ++ [kb]).map keyC).flatten := by rw [List.map_append, List.flatten_append, List.length_append]; exact O5.out
        obtain ⟨bx, dx, rfl⟩ := own_form O5'
        have HO5 := hide O5'
        subst hG
        clear hB7 O5' O5 c6
        go_wp2
        rw [show acc.length + 1 = (acc ++ [kb]).length by simp]
        refine ⟨⟨k + 1, acc ++ [kb], s4, .slice bx (acc ++ [kb]).length dx, by go_num, by omega, by simp [HAK.out], ?_, by rw [HE.out, HG2.out]; congr 1⟩, by simp [intOf]; omega⟩
        have hg := grownBy_set w5 zo 36 (.slice bx (acc ++ [kb]).length dx)
        refine Q7.out.step G5.out HRW.out hg ?_ ?_
        · have := HB7.out.set 36 (.slice bx (acc ++ [kb]).length dx)
          rw [objL_setK _ _ _ KT.out] at this
          exact this
        · exact ⟨⟨KT.out, by simp [kindO, zeroO], by simp [kindO, zeroO], fun p hp => by
            rcases List.mem_append.1 hp with hp | hp
            · exact Q7.out.own.ok.k p hp
            · rw [List.mem_singleton.1 hp]; exact KO.out⟩, World.ownsRow_nil _ _ _ _, World.ownsRow_nil _ _ _ _, World.ownsRow_nil _ _ _ _, HO5.out.kept hg (owns_apart HO5.out (fun q e => by cases e; omega))⟩
      · have hd : decide (s'.code ≠ 0) = true := by simp [hc]
        have c2' : wr.cell? ⟨y, 2, none⟩ = some (.bool true) := by rw [c2]; simp [hd]
        have HR8 : Hid (rObj bs s = ({ kindO 4 with tree := tk, parents := acc, time := (mI64 bs s').1, note := (rText bs (mI64 bs s').2 1024).1 }, (rText bs (mI64 bs s').2 1024).2)) := hide (by
          have e : eachT (mKeyT bs) n s2 [] = (acc, s') := by rw [HE.out, eachT_stop _ _ _ _ hc]
          have := HR.out; simp only [e] at this; exact this)
        clear c2 hc hd HR HE
        go_wp2_with fail
        refine (rfixed_st wr y rv bs s' 8 HQ.out.dec (by have := HL.out; omega) (by omega)).mono ?_
        rintro e X1 ⟨rfl, h1, h2⟩
        have h1' : RefSt X1 y rv bs (mI64 bs s').2 := h1
        have hcv : IntKind.i64.wrap ((leNat ((mNext bs s' (mPlace s') 8).1.getD []) : Nat) : Int) = (mI64 bs s').1 := rfl
        obtain ⟨lv, hlv⟩ : ∃ x, x = leNat ((mNext bs s' (mPlace s') 8).1.getD []) := ⟨_, rfl⟩
        rw [← hlv] at hcv ⊢
        obtain ⟨m, hm⟩ : ∃ r, r = mI64 bs s' := ⟨_, rfl⟩
        rw [← hm] at h1' HR8 hcv
        clear hm h1 hlv
        obtain ⟨tm, u1⟩ := m
        have hcv' : IntKind.i64.wrap (lv : Int) = tm := hcv
        have X1Q := hide (HQ.out.take h1' h2)
        have c5 : X1.cell? ⟨zo, 37, none⟩ = some (.int .i64 0) := ObjAt.cTime (o := { kindO 4 with tree := tk, parents := acc }) X1Q.out.obj KT.out
        have f5 : X1.frozen? ⟨zo, 37, none⟩ = false := Blk.frozen X1Q.out.obj 37
        obtain ⟨X2, hX2⟩ : ∃ W, W = X1.setCell ⟨zo, 37, none⟩ (.int .i64 tm) := ⟨_, rfl⟩
        have X2Q : Hid (RS w X2 y rv bs u1 w.heap.size zo { kindO 4 with tree := tk, parents := acc, time := tm } ⟨.slice none 0 0, .slice none 0 0, .slice none 0 0, .slice ax acc.length cx⟩) := hide (by
          rw [hX2]
          have hg := grownBy_set X1 zo 37 (.int .i64 tm)
          refine X1Q.out.put hg ?_ ?_
          · have hA : Blk X1 zo (objL { kindO 4 with tree := tk, parents := acc } ⟨.slice none 0 0, .slice none 0 0, .slice none 0 0, .slice ax acc.length cx⟩).toArray 30 := X1Q.out.obj
            have := hA.set 37 (.int .i64 tm)
            rw [objL_setTime { kindO 4 with tree := tk, parents := acc } _ KT.out] at this
            exact this
          · have hk := X1Q.out.own.kept hg (fun q e => by cases e; omega)
            exact ⟨⟨hk.ok.t, hk.ok.p, hk.ok.i, hk.ok.k⟩, hk.d, hk.p, hk.i, hk.k⟩)
        have HX2 := hide hX2
        clear h1' h2 hcv hX2 X1Q HQ
        go_wp2_with fail
        rw [← HX2.out]
        clear c5 f5 HX2 hcv'
        refine (rtext_st X2 y rv bs u1 1024 (by decide) (by decide) X2Q.out.dec (by have := HL.out; omega)).mono ?_
        rintro e X3 ⟨rfl, h1, h2⟩
        rw [show ((1024 : Int).toNat) = 1024 from rfl] at h1 ⊢
        have HR9 : Hid (rObj bs s = ({ kindO 4 with tree := tk, parents := acc, time := tm, note := (rText bs u1 1024).1 }, (rText bs u1 1024).2)) := hide HR8.out
        obtain ⟨t, ht⟩ : ∃ r, r = rText bs u1 1024 := ⟨_, rfl⟩
        rw [← ht] at h1 HR9 ⊢
        clear ht HR8
        obtain ⟨nt, u2⟩ := t
        have X3Q := hide (X2Q.out.take h1 h2)
        have c7 : X3.cell? ⟨zo, 38, none⟩ = some (.string { data := #[] }) := ObjAt.cNote (o := { kindO 4 with tree := tk, parents := acc, time := tm }) X3Q.out.obj KT.out
        have f7 : X3.frozen? ⟨zo, 38, none⟩ = false := Blk.frozen X3Q.out.obj 38
        have X4Q : Hid (RS w (X3.setCell ⟨zo, 38, none⟩ (.string ⟨nt.toArray⟩)) y rv bs u2 w.heap.size zo { kindO 4 with tree := tk, parents := acc, time := tm, note := nt } ⟨.slice none 0 0, .slice none 0 0, .slice none 0 0, .slice ax acc.length cx⟩) := hide (by
          have hg := grownBy_set X3 zo 38 (.string ⟨nt.toArray⟩)
          refine X3Q.out.put hg ?_ ?_
          · have hA : Blk X3 zo (objL { kindO 4 with tree := tk, parents := acc, time := tm } ⟨.slice none 0 0, .slice none 0 0, .slice none 0 0, .slice ax acc.length cx⟩).toArray 30 := X3Q.out.obj
            have := hA.set 38 (.string ⟨nt.toArray⟩)
            rw [objL_setNoteL { kindO 4 with tree := tk, parents := acc, time := tm } _ KT.out] at this
            exact this
          · have hk := X3Q.out.own.kept hg (fun q e => by cases e; omega)
            exact ⟨⟨hk.ok.t, hk.ok.p, hk.ok.i, hk.ok.k⟩, hk.d, hk.p, hk.i, hk.k⟩)
        clear h1 h2 X2Q X3Q
        obtain ⟨a9, ha9⟩ : ∃ x, x = (objL { kindO 4 with tree := tk, parents := acc, time := tm, note := nt } ⟨.slice none 0 0, .slice none 0 0, .slice none 0 0, .slice ax acc.length cx⟩).toArray := ⟨_, rfl⟩
        have Z9 : Hid (a9.size = 39) := hide (by rw [ha9]; exact objL_size _ _ KT.out)
        have P9 : Hid (a9.all (·.oneCell') = true) := hide (by rw [ha9]; exact all_oneCell_toArray (objL_one _ _ ⟨⟨_, _, _, rfl⟩, ⟨_, _, _, rfl⟩, ⟨_, _, _, rfl⟩, ⟨_, _, _, rfl⟩⟩))
        have B9 := hide X4Q.out.obj
        unfold ObjAt at B9
        rw [← ha9] at B9
        have R9 := hide X4Q.out.res
        have HA9 := hide ha9
        clear ha9
        go_wp2_with (first
          | ((with_reducible refine wpList_load_obj (.tmp 3) zo a9 B9.out Z9.out ?_ ?_ ?_ ?_); rfl; rfl; rfl)
          | ((with_reducible refine wpList_store_blk ?_ 30 (.tmp 2) (.tmp 127) ?_ w.heap.size 39 objZ a9 30 Z9.out objZ_size ?_ ?_ R9.out infoObj P9.out ?_); rfl; rfl; rfl; rfl; intro w9 hk9 hg9))
        refine bodyPost_ret (results_cell rfl _ _ _ rfl _ (loadBlkT hk9 30 _ Tryd.underlying30 rfl 39 infoObj Z9.out)) rfl ?_
        rw [HR9.out, HA9.out]
        exact X4Q.out.fin hg9
    · obtain rfl : k = n := by omega
      have HR8 : Hid (rObj bs s = ({ kindO 4 with tree := tk, parents := acc, time := (mI64 bs s').1, note := (rText bs (mI64 bs s').2 1024).1 }, (rText bs (mI64 bs s').2 1024).2)) := hide (by
          have e : eachT (mKeyT bs) k s2 [] = (acc, s') := by rw [HE.out, Nat.sub_self]; rfl
          have := HR.out; simp only [e] at this; exact this)
      clear c2 HR HE
      go_wp2_with fail
      refine (rfixed_st wr y rv bs s' 8 HQ.out.dec (by have := HL.out; omega) (by omega)).mono ?_
      rintro e X1 ⟨rfl, h1, h2⟩
      have h1' : RefSt X1 y rv bs (mI64 bs s').2 := h1
      have hcv : IntKind.i64.wrap ((leNat ((mNext bs s' (mPlace s') 8).1.getD []) : Nat) : Int) = (mI64 bs s').1 := rfl
      obtain ⟨lv, hlv⟩ : ∃ x, x = leNat ((mNext bs s' (mPlace s') 8).1.getD []) := ⟨_, rfl⟩
      rw [← hlv] at hcv ⊢
      obtain ⟨m, hm⟩ : ∃ r, r = mI64 bs s' := ⟨_, rfl⟩
      rw [← hm] at h1' HR8 hcv
      clear hm h1 hlv
      obtain ⟨tm, u1⟩ := m
      have hcv' : IntKind.i64.wrap (lv : Int) = tm := hcv
      have X1Q := hide (HQ.out.take h1' h2)
      have c5 : X1.cell? ⟨zo, 37, none⟩ = some (.int .i64 0) := ObjAt.cTime (o := { kindO 4 with tree := tk, parents := acc }) X1Q.out.obj KT.out
      have f5 : X1.frozen? ⟨zo, 37, none⟩ = false := Blk.frozen X1Q.out.obj 37
      obtain ⟨X2, hX2⟩ : ∃ W, W = X1.setCell ⟨zo, 37, none⟩ (.int .i64 tm) := ⟨_, rfl⟩
      have X2Q : Hid (RS w X2 y rv bs u1 w.heap.size zo { kindO 4 with tree := tk, parents := acc, time := tm } ⟨.slice none 0 0, .slice none 0 0, .slice none 0 0, .slice ax acc.length cx⟩) := hide (by
        rw [hX2]
        have hg := grownBy_set X1 zo 37 (.int .i64 tm)
        refine X1Q.out.put hg ?_ ?_
        · have hA : Blk X1 zo (objL { kindO 4 with tree := tk, parents := acc } ⟨.slice none 0 0, .slice none 0 0, .slice none 0 0, .slice ax acc.length cx⟩).toArray 30 := X1Q.out.obj
          have := hA.set 37 (.int .i64 tm)
          rw [objL_setTime { kindO 4 with tree := tk, parents := acc } _ KT.out] at this
          exact this
        · have hk := X1Q.out.own.kept hg (fun q e => by cases e; omega)
          exact ⟨⟨hk.ok.t, hk.ok.p, hk.ok.i, hk.ok.k⟩, hk.d, hk.p, hk.i, hk.k⟩)
      have HX2 := hide hX2
      clear h1' h2 hcv hX2 X1Q HQ
      go_wp2_with fail
      rw [← HX2.out]
      clear c5 f5 HX2 hcv'
      refine (rtext_st X2 y rv bs u1 1024 (by decide) (by decide) X2Q.out.dec (by have := HL.out; omega)).mono ?_
      rintro e X3 ⟨rfl, h1, h2⟩
      rw [show ((1024 : Int).toNat) = 1024 from rfl] at h1 ⊢
      have HR9 : Hid (rObj bs s = ({ kindO 4 with tree := tk, parents := acc, time := tm, note := (rText bs u1 1024).1 }, (rText bs u1 1024).2)) := hide HR8.out
      obtain ⟨t, ht⟩ : ∃ r, r = rText bs u1 1024 := ⟨_, rfl⟩
      rw [← ht] at h1 HR9 ⊢
      clear ht HR8
      obtain ⟨nt, u2⟩ := t
      have X3Q := hide (X2Q.out.take h1 h2)
      have c7 : X3.cell? ⟨zo, 38, none⟩ = some (.string { data := #[] }) := ObjAt.cNote (o := { kindO 4 with tree := tk, parents := acc, time := tm }) X3Q.out.obj KT.out
      have f7 : X3.frozen? ⟨zo, 38, none⟩ = false := Blk.frozen X3Q.out.obj 38
      have X4Q : Hid (RS w (X3.setCell ⟨zo, 38, none⟩ (.string ⟨nt.toArray⟩)) y rv bs u2 w.heap.size zo { kindO 4 with tree := tk, parents := acc, time := tm, note := nt } ⟨.slice none 0 0, .slice none 0 0, .slice none 0 0, .slice ax acc.length cx⟩) := hide (by
        have hg := grownBy_set X3 zo 38 (.string ⟨nt.toArray⟩)
        refine X3Q.out.put hg ?_ ?_
        · have hA : Blk X3 zo (objL { kindO 4 with tree := tk, parents := acc, time := tm } ⟨.slice none 0 0, .slice none 0 0, .slice none 0 0, .slice ax acc.length cx⟩).toArray 30 := X3Q.out.obj
          have := hA.set 38 (.string ⟨nt.toArray⟩)
          rw [objL_setNoteL { kindO 4 with tree := tk, parents := acc, time := tm } _ KT.out] at this
          exact this
        · have hk := X3Q.out.own.kept hg (fun q e => by cases e; omega)
          exact ⟨⟨hk.ok.t, hk.ok.p, hk.ok.i, hk.ok.k⟩, hk.d, hk.p, hk.i, hk.k⟩)
      clear h1 h2 X2Q X3Q
      obtain ⟨a9, ha9⟩ : ∃ x, x = (objL { kindO 4 with tree := tk, parents := acc, time := tm, note := nt } ⟨.slice none 0 0, .slice none 0 0, .slice none 0 0, .slice ax acc.length cx⟩).toArray := ⟨_, rfl⟩
      have Z9 : Hid (a9.size = 39) := hide (by rw [ha9]; exact objL_size _ _ KT.out)
      have P9 : Hid (a9.all (·.oneCell') = true) := hide (by rw [ha9]; exact all_oneCell_toArray (objL_one _ _ ⟨⟨_, _, _, rfl⟩, ⟨_, _, _, rfl⟩, ⟨_, _, _, rfl⟩, ⟨_, _, _, rfl⟩⟩))
      have B9 := hide X4Q.out.obj
      unfold ObjAt at B9
      rw [← ha9] at B9
      have R9 := hide X4Q.out.res
      have HA9 := hide ha9
      clear ha9
      go_wp2_with (first
        | ((with_reducible refine wpList_load_obj (.tmp 3) zo a9 B9.out Z9.out ?_ ?_ ?_ ?_); rfl; rfl; rfl)
        | ((with_reducible refine wpList_store_blk ?_ 30 (.tmp 2) (.tmp 127) ?_ w.heap.size 39 objZ a9 30 Z9.out objZ_size ?_ ?_ R9.out infoObj P9.out ?_); rfl; rfl; rfl; rfl; intro w9 hk9 hg9))
      refine bodyPost_ret (results_cell rfl _ _ _ rfl _ (loadBlkT hk9 30 _ Tryd.underlying30 rfl 39 infoObj Z9.out)) rfl ?_
      rw [HR9.out, HA9.out]
      exact X4Q.out.fin hg9
end Go.Proofs.YtjcfndiceinkjaaDoor

/- The document's read, another kind. -/
namespace Go.Proofs.YtjcfndiceinkjaaDoor
set_option linter.unusedVariables false
set_option linter.unusedSimpArgs false
set_option maxRecDepth 100000
open Go.RowKit

set_option maxHeartbeats 8000000 in
theorem read_0 (kd : Nat) (hkd : kd < 256) (h1n : ¬ kd = 1) (h2n : ¬ kd = 2) (h3n : ¬ kd = 3) (h4n : ¬ kd = 4) (w : World) (y : Nat) (rv : Value) (bs : List UInt8) (s : S) (h : RefSt w y rv bs s) (hl : bs.length ≤ 8192) (hk0 : (mByte bs s).1 = kd) : Calls Tryd.prog 39 #[.pointer (some ⟨y, 0, none⟩)] w (ReadC w y rv bs (rObj bs s)) := by
  have hzo := zero_obj
  obtain ⟨W0, hW0⟩ : ∃ W, W = w.alloc (.cells objZ 30) := ⟨_, rfl⟩
  have A0 : Hid (Blk W0 w.heap.size objZ 30) := hide (by rw [hW0]; exact Blk.made w _ _)
  have R0 : Hid (RefSt W0 y rv bs s) := hide (by rw [hW0]; exact h.below (below_alloc w _))
  have G0 : Hid (w.grownBy W0 (some y)) := hide (by rw [hW0]; exact World.grownBy_alloc _ _ _)
  have S0 : Hid (W0.heap.size = w.heap.size + 1) := hide (by rw [hW0]; simp)
  have YL : Hid (y < w.heap.size) := hide h.lt
  have BL : Hid (∀ b cap, rv = .slice (some ⟨b, 0, none⟩) bs.length cap → b < w.heap.size) := hide (fun b cap e => h.1.blk e)
  have HL := hide hl
  have HRO : Hid (rObj bs s = (kindO kd, (mByte bs s).2)) := hide (by unfold rObj; rw [hk0, if_neg h1n, if_neg h2n, if_neg h3n, if_neg h4n])
  have hwr : IntKind.u8.wrap (kd : Int) = (kd : Int) := by rw [IntKind.wrap_u8]; omega
  have hkb : leNat ((mNext bs s (mPlace s) 1).1.getD []) = kd := hk0
  obtain ⟨s1, hs1⟩ : ∃ s1, s1 = (mByte bs s).2 := ⟨_, rfl⟩
  have hs1' : s1 = (mNext bs s (mPlace s) 1).2 := hs1
  rw [← hs1] at HRO
  have HS1 := hide hs1'
  have HKB := hide hkb
  clear h hl hk0 hs1 hs1' hkb
  go_enter Tryd.func39, Tryd.ntmps39
  go_wp2_with fail
  rw [← hW0]
  clear hW0
  refine (rfixed_st W0 y rv bs s 1 R0.out (by have := HL.out; omega) (by omega)).mono ?_
  rintro e W1 ⟨rfl, h1, h2⟩
  rw [HKB.out]
  rw [← HS1.out] at h1
  have A1 := hide (A0.out.grown h2 (fun e => by have := Option.some.inj e; have := YL.out; omega))
  have G1 := hide (grownBy_trans G0.out h2)
  have Z1 : Hid (w.heap.size + 1 ≤ W1.heap.size) := hide (by have := h2.size; have := S0.out; omega)
  have D1 := hide h1
  obtain ⟨zo, hzo'⟩ : ∃ x, x = W1.heap.size := ⟨_, rfl⟩
  have HZO : Hid (w.heap.size < zo) := hide (by have := Z1.out; omega)
  have ZB : Hid (Blk (W1.alloc (.cells objZ 30)) zo objZ 30) := hide (by rw [hzo']; exact Blk.made W1 _ _)
  have OZ : Hid ((objL (kindO kd) nilV).toArray.size = 39) := hide (objL_size _ _ rfl)
  have P1 : Hid ((objL (kindO kd) nilV).toArray.all (·.oneCell') = true) := hide (all_oneCell_toArray (objL_one _ _ ⟨⟨_, _, _, rfl⟩, ⟨_, _, _, rfl⟩, ⟨_, _, _, rfl⟩, ⟨_, _, _, rfl⟩⟩))
  obtain ⟨arr, harr⟩ : ∃ x, x = (objL (kindO kd) nilV).toArray := ⟨_, rfl⟩
  have BdK : Hid (∀ {op : Oper} {ev : Operand → Value} {x : Operand}, op.op = .build 30 #[(0, x)] → ev x = .int .u8 (kd : Int) → ∀ w, (execOp ev op).run Tryd.prog w = .ok (.value (.agg arr)) w) := hide (fun ho hx w => by rw [harr]; exact run_buildOK (k := kd) ho hx w)
  rw [← harr] at OZ P1
  have HARR := hide harr
  have HZO2 := hide hzo'
  clear h1 h2 A0 R0 G0 S0 harr hzo' HKB HS1
  go_wp2_with (first
    | ((with_reducible refine wpList_val (.agg arr) ?_ (BdK.out (x := .tmp 19) ?_ ?_ _) ?_); rfl; rfl; rfl)
    | ((with_reducible refine wpList_store_blk ?_ 30 (.tmp 3) (.tmp 20) ?_ W1.heap.size 39 objZ arr 30 OZ.out objZ_size ?_ ?_ (by rw [← HZO2.out]; exact ZB.out) infoObj P1.out ?_); rfl; rfl; rfl; rfl; intro W2 hk2 hg2; generalize hG : wpList _ _ _ _ _ _ = G))
  rw [← HZO2.out] at hk2 hg2
  have Q2 : Hid (RS w W2 y rv bs s1 w.heap.size zo (kindO kd) nilV) := hide (by
    have hb : Below W1.heap.size W1 W2 := (below_alloc W1 _).trans (below_grownBy hg2 (by rw [HZO2.out]; exact Nat.le_refl _) (below_alloc W1 _).size)
    exact ⟨YL.out, BL.out, Nat.le_refl _, HZO.out, D1.out.below hb, A1.out.below hb A1.out.lt, by show Blk W2 zo (objL (kindO kd) nilV).toArray 30; rw [← HARR.out]; exact hk2, kindO_own _ _ _, gB G1.out (hb.mono G1.out.size)⟩)
  have c2 : W2.cell? ⟨zo, 0, none⟩ = some (.int .u8 (kd : Int)) := ObjAt.cKind (o := kindO kd) Q2.out.obj
  subst hG
  rw [← HZO2.out]
  clear hk2 hg2 A1 G1 D1 ZB P1 BdK HARR HZO2 OZ Z1
  obtain ⟨a9, ha9⟩ : ∃ x, x = (objL (kindO kd) nilV).toArray := ⟨_, rfl⟩
  have Z9 : Hid (a9.size = 39) := hide (by rw [ha9]; exact objL_size _ _ rfl)
  have P9 : Hid (a9.all (·.oneCell') = true) := hide (by rw [ha9]; exact all_oneCell_toArray (objL_one _ _ ⟨⟨_, _, _, rfl⟩, ⟨_, _, _, rfl⟩, ⟨_, _, _, rfl⟩, ⟨_, _, _, rfl⟩⟩))
  have B9 := hide Q2.out.obj
  unfold ObjAt at B9
  rw [← ha9] at B9
  have R9 := hide Q2.out.res
  have HA9 := hide ha9
  clear ha9
  go_wp2_with (first
    | ((with_reducible refine wpList_load_obj (.tmp 3) zo a9 B9.out Z9.out ?_ ?_ ?_ ?_); rfl; rfl; rfl)
    | ((with_reducible refine wpList_store_blk ?_ 30 (.tmp 2) (.tmp 127) ?_ w.heap.size 39 objZ a9 30 Z9.out objZ_size ?_ ?_ R9.out infoObj P9.out ?_); rfl; rfl; rfl; rfl; intro w9 hk9 hg9))
  refine bodyPost_ret (results_cell rfl _ _ _ rfl _ (loadBlkT hk9 30 _ Tryd.underlying30 rfl 39 infoObj Z9.out)) rfl ?_
  rw [HRO.out, HA9.out]
  exact Q2.out.fin hg9
end Go.Proofs.YtjcfndiceinkjaaDoor

/- The document's read, of any kind; its Decode, purely. -/
namespace Go.Proofs.YtjcfndiceinkjaaDoor
set_option linter.unusedVariables false
set_option linter.unusedSimpArgs false
set_option maxRecDepth 100000
open Go.RowKit

theorem read_any (w : World) (y : Nat) (rv : Value) (bs : List UInt8) (s : S) (h : RefSt w y rv bs s) (hl : bs.length ≤ 8192) : Calls Tryd.prog 39 #[.pointer (some ⟨y, 0, none⟩)] w (ReadC w y rv bs (rObj bs s)) := by
  by_cases h1 : (mByte bs s).1 = 1
  · exact read_1 w y rv bs s h hl h1
  by_cases h2 : (mByte bs s).1 = 2
  · exact read_2 w y rv bs s h hl h2
  by_cases h3 : (mByte bs s).1 = 3
  · exact read_3 w y rv bs s h hl h3
  by_cases h4 : (mByte bs s).1 = 4
  · exact read_4 w y rv bs s h hl h4
  exact read_0 _ (mByte_lt bs s) h1 h2 h3 h4 w y rv bs s h hl rfl
theorem rEach_len {α : Type} (T : S → α × S) (bs : List UInt8) (s : S) (m : Nat) : (rEach T bs s m).1.length ≤ m := by
  have h1 := eachT_len T (mNum bs s m).1 (mNum bs s m).2.2 []
  have h2 := mNum_ok_le bs s m
  unfold rEach
  simp at h1
  omega
theorem rEach_ok {α : Type} (T : S → α × S) (P : α → Prop) (hT : ∀ s, P (T s).1) (bs : List UInt8) (s : S) (m : Nat) : ∀ p ∈ (rEach T bs s m).1, P p :=
  eachT_ok T P hT _ _ [] (by simp)
theorem rObj_few (bs : List UInt8) (s : S) : (rObj bs s).1.parts.length ≤ 128 ∧ (rObj bs s).1.items.length ≤ 128 ∧ (rObj bs s).1.parents.length ≤ 128 := by
  unfold rObj
  split
  · exact ⟨by simp [mBlob, kindO, zeroO], by simp [mBlob, kindO, zeroO], by simp [mBlob, kindO, zeroO]⟩
  split
  · exact ⟨rEach_len _ _ _ _, by simp [rList, kindO, zeroO], by simp [rList, kindO, zeroO]⟩
  split
  · exact ⟨by simp [rTree, kindO, zeroO], rEach_len _ _ _ _, by simp [rTree, kindO, zeroO]⟩
  split
  · exact ⟨by simp [rSnap, kindO, zeroO], by simp [rSnap, kindO, zeroO], rEach_len _ _ _ _⟩
  · exact ⟨by simp [kindO, zeroO], by simp [kindO, zeroO], by simp [kindO, zeroO]⟩
theorem rObj_txt (bs : List UInt8) (s : S) : TxtSz (rObj bs s).1 := by
  have hz : (Lit.int .i64 0).wf = true := by decide
  have hb := mByte_lt bs s
  unfold rObj
  split
  · exact ⟨by simp [mBlob, kindO, zeroO], by simp [mBlob, kindO, zeroO], by simp [mBlob, kindO, zeroO], by simp [mBlob, kindO], hz⟩
  split
  · exact ⟨by simp [rList, kindO, zeroO], by simp [rList, kindO, zeroO], rEach_ok (mPart bs) (fun p => p.2 ≤ 18446744073709551615) (fun s => Nat.le_trans (mNum_ok_le bs _ _) (by decide)) bs _ 128, by simp [rList, kindO], hz⟩
  split
  · exact ⟨rEach_ok (rItem bs) (fun p => p.2.1 ≤ 255) (fun s => by have := mByte_lt bs (rText bs s 64).2; show (mByte bs (rText bs s 64).2).1 ≤ 255; omega) bs _ 128, rEach_ok (rItem bs) (fun p => p.2.2.1 ≤ 18446744073709551615) (fun s => mNum_ok_le bs _ _) bs _ 128, by simp [rTree, kindO, zeroO], by simp [rTree, kindO], hz⟩
  split
  · exact ⟨by simp [rSnap, kindO, zeroO], by simp [rSnap, kindO, zeroO], by simp [rSnap, kindO, zeroO], by simp [rSnap, kindO], time_ok _⟩
  · exact ⟨by simp [kindO, zeroO], by simp [kindO, zeroO], by simp [kindO, zeroO], by simp [kindO]; omega, hz⟩
/-- What the document's Decode tells. -/
def rdecO (bs : List UInt8) : Int × ObjR :=
  if 8192 < bs.length then (48, zeroO)
  else if (rObj bs s0).2.code ≠ 0 ∨ (rObj bs s0).2.p < bs.length then (49, zeroO)
  else if checkO (rObj bs s0).1 ≠ 0 then (49, zeroO)
  else if encO (rObj bs s0).1 ≠ bs then (49, zeroO)
  else (0, (rObj bs s0).1)
def RDecC (w : World) (bs : List UInt8) (e : Ending) (w' : World) : Prop := ∃ v', e = .returned (.tuple #[.agg (objL (rdecO bs).2 v').toArray, .int .i64 (rdecO bs).1]) ∧ ObjOwn w.heap.size w' (rdecO bs).2 v' ∧ Below w.heap.size w w'
theorem rdecC_mk {w w' : World} {bs : List UInt8} {o : ObjR} {v' : ObjV} {c : Int} (h : rdecO bs = (c, o)) (h1 : ObjOwn w.heap.size w' o v') (hb : Below w.heap.size w w') : RDecC w bs (.returned (.tuple #[.agg (objL o v').toArray, .int .i64 c])) w' := by
  refine ⟨v', ?_, ?_, hb⟩
  · rw [h]
  · rw [h]; exact h1
theorem rdecC_no {w w' : World} {bs : List UInt8} {c : Int} (h : rdecO bs = (c, zeroO)) (hb : Below w.heap.size w w') : RDecC w bs (.returned (.tuple #[.agg objZ, .int .i64 c])) w' := rdecC_mk (v' := nilV) h (kindO_own _ _ 0) hb
theorem run_convD {op : Oper} {ev : Operand → Value} {x : Operand} {v : Value} {xs : List UInt8} {w : World} (ho : op.op = .convert 23 9 x) (hx : ev x = v) (h : RdA w v xs) : (execOp ev op).run Tryd.prog w = .ok (.value (.string ⟨xs.toArray⟩)) w := by
  simp only [execOp, ho, hx, Sem.run_bind, conv_rdA w v xs h, Result.andThen_ok, Sem.run_pure]
end Go.Proofs.YtjcfndiceinkjaaDoor

/- The document's Decode. -/
namespace Go.Proofs.YtjcfndiceinkjaaDoor
set_option linter.unusedVariables false
set_option linter.unusedSimpArgs false
set_option maxRecDepth 100000
open Go.RowKit

set_option maxHeartbeats 8000000 in
theorem rdecode_in (w : World) (b : Value) (bs : List UInt8) (hb : RdA w b bs) (hl : bs.length ≤ 8192) : Calls Tryd.prog 18 #[b] w (RDecC w bs) := by
  have hzo := zero_obj
  obtain ⟨W0, hW0⟩ : ∃ W, W = w.alloc (.cells objZ 30) := ⟨_, rfl⟩
  have A0 : Hid (Blk W0 w.heap.size objZ 30) := hide (by rw [hW0]; exact Blk.made w _ _)
  have HW0 : Hid (Below w.heap.size w W0) := hide (by rw [hW0]; exact below_alloc w _)
  have S0 : Hid (W0.heap.size = w.heap.size + 1) := hide (by rw [hW0]; simp)
  have HB := hide hb
  obtain ⟨n, hn⟩ : ∃ n, n = bs.length := ⟨_, rfl⟩
  have hnl : ¬ (8192 : Int) < (n : Int) := by omega
  have HL := hide hl
  have BdO : Hid (∀ {op : Oper} {a : Act}, op.op = .build 30 #[] → ∀ w, (execOp a.eval op).run Tryd.prog w = .ok (.value (.agg objZ)) w) := hide (fun ho w => run_buildO ho w)
  have O1z : Hid (objZ.all (·.oneCell') = true) := hide (all_oneCell_toArray (objL_one _ _ ⟨⟨_, _, _, rfl⟩, ⟨_, _, _, rfl⟩, ⟨_, _, _, rfl⟩, ⟨_, _, _, rfl⟩⟩))
  have HDO : Hid (rdecO bs = if (rObj bs s0).2.code ≠ 0 ∨ (rObj bs s0).2.p < bs.length then (49, zeroO) else if checkO (rObj bs s0).1 ≠ 0 then (49, zeroO) else if encO (rObj bs s0).1 ≠ bs then (49, zeroO) else (0, (rObj bs s0).1)) := hide (by unfold rdecO; rw [if_neg (by omega)])
  obtain ⟨ao, c, rfl, _⟩ := hb.slice
  rw [← hn]
  have HN := hide hn
  clear hb hn hl
  go_enter Tryd.func18, Tryd.ntmps18
  go_wp2_with fail
  rw [← hW0]
  clear hW0
  rw [HN.out]
  refine (ropen_arg W0 _ bs (HB.out.below HW0.out) (by have := HL.out; omega)).mono ?_
  rintro e W1 ⟨rv, rfl, hd1, hb1, hbl⟩
  rw [← HN.out]
  obtain ⟨y, hy⟩ : ∃ z, z = W0.heap.size := ⟨_, rfl⟩
  rw [← hy] at hd1 ⊢
  have HY : Hid (y = w.heap.size + 1) := hide (by rw [hy, S0.out])
  have D1 := hide hd1
  have A1 := hide (A0.out.below hb1 A0.out.lt)
  have HW1 := hide (HW0.out.trans (hb1.mono HW0.out.size))
  have S1 : Hid (w.heap.size + 1 ≤ W1.heap.size) := hide (by have := hb1.size; have := S0.out; omega)
  clear hd1 hb1 hbl hy HW0 A0 S0
  go_wp2_with fail
  refine (read_any W1 y rv bs s0 D1.out HL.out).mono ?_
  rintro e W2 ⟨v2, rfl, own2, dec2, g2⟩
  have TX0 := rObj_txt bs s0
  have FW0 := rObj_few bs s0
  obtain ⟨r, hr⟩ : ∃ r, r = rObj bs s0 := ⟨_, rfl⟩
  rw [← hr] at own2 dec2 HDO TX0 FW0 ⊢
  clear hr
  obtain ⟨o, s2⟩ := r
  have TX : Hid (TxtSz o) := hide TX0
  have FW : Hid (o.parts.length ≤ 128 ∧ o.items.length ≤ 128 ∧ o.parents.length ≤ 128) := hide FW0
  have OW2 : Hid (ObjOwn W1.heap.size W2 o v2) := hide own2
  have D2 : Hid (RefSt W2 y rv bs s2) := hide dec2
  have A2 := hide (A1.out.grown g2 (fun e => by have := Option.some.inj e; have := HY.out; omega))
  have HW2 : Hid (Below w.heap.size w W2) := hide (HW1.out.trans (below_grownBy g2 (by have := HY.out; omega) HW1.out.size))
  have RD2 : Hid (ObjRd W2 o v2) := hide (own2.rd FW0.1 FW0.2.1 FW0.2.2)
  have OZ : Hid ((objL o v2).toArray.size = 39) := hide (objL_size _ _ OW2.out.ok.t)
  have P1 : Hid ((objL o v2).toArray.all (·.oneCell') = true) := hide (all_oneCell_toArray (objL_one o v2 RD2.out.sl))
  obtain ⟨arr, harr⟩ : ∃ x, x = (objL o v2).toArray := ⟨_, rfl⟩
  have HARR := hide harr
  rw [← harr] at OZ P1
  rw [show (objL (o, s2).1 v2).toArray = arr from harr.symm]
  have ZB : Hid (Blk (W2.alloc (.cells objZ 30)) W2.heap.size objZ 30) := hide (Blk.made W2 _ _)
  clear own2 dec2 g2 TX0 FW0 harr D1 A1 HW1
  go_wp2_with (first
    | ((with_reducible refine wpList_store_blk ?_ 30 (.tmp 5) (.tmp 17) ?_ W2.heap.size 39 objZ arr 30 OZ.out objZ_size ?_ ?_ ZB.out infoObj P1.out ?_); rfl; rfl; rfl; rfl; intro W3 hk3 hg3; generalize hG : wpList _ _ _ _ _ _ = G))
  have HB3 : Hid (Below W2.heap.size W2 W3) := hide ((below_alloc W2 _).trans (below_grownBy hg3 (Nat.le_refl _) (below_alloc W2 _).size))
  obtain ⟨zo, hzo'⟩ : ∃ x, x = W2.heap.size := ⟨_, rfl⟩
  rw [← hzo'] at hk3
  have AZ3 := hide hk3
  have A3 := hide (A2.out.below HB3.out A2.out.lt)
  have HW3 := hide (HW2.out.trans (HB3.out.mono HW2.out.size))
  have OW3 := hide (OW2.out.below HB3.out)
  have D3 := hide (D2.out.below HB3.out)
  have RD3 := hide (RD2.out.below HB3.out)
  subst hG
  rw [← hzo']
  clear hk3 hg3 hzo' HB3 A2 HW2 OW2 D2 RD2 ZB
  go_wp2_with fail
  refine (rend_st W3 y rv bs s2 D3.out).mono ?_
  rintro e W4 ⟨rfl, m, hw4⟩
  have HB4 : Hid (Below W3.heap.size W3 W4) := hide (by rw [hw4]; exact ⟨rfl, rfl, rfl, Nat.le_refl _, fun _ _ => rfl⟩)
  have AZ4 := hide (AZ3.out.below HB4.out AZ3.out.lt)
  have A4 := hide (A3.out.below HB4.out A3.out.lt)
  have HW4 := hide (HW3.out.trans (HB4.out.mono HW3.out.size))
  have OW4 := hide (OW3.out.below HB4.out)
  have RD4 := hide (RD3.out.below HB4.out)
  clear hw4 HB4 AZ3 A3 HW3 OW3 D3 RD3
  by_cases he : s2.code ≠ 0 ∨ s2.p < bs.length
  · have HDO2 : Hid (rdecO bs = (49, zeroO)) := hide (by rw [HDO.out, if_pos he])
    have hne : (rEndV bs s2).2 ≠ 0 := by
      unfold rEndV
      rcases he with h | h
      · rw [if_pos h]; exact h
      · split
        · assumption
        · exact (by decide : (13 : Nat) ≠ 0)
    obtain ⟨e1, he1⟩ : ∃ x : Int, x = ((rEndV bs s2).1 : Int) := ⟨_, rfl⟩
    obtain ⟨ei, hei⟩ : ∃ x : Int, x = ((rEndV bs s2).2 : Int) := ⟨_, rfl⟩
    have hwb : (ei != 0) = true := by rw [hei]; simpa using hne
    rw [← hei, ← he1]
    clear he HDO hne hei he1
    go_wp2_with (first
      | ((with_reducible refine wpList_val (.agg objZ) ?_ (BdO.out ?_ _) ?_); rfl; rfl)
      | ((with_reducible refine wpList_store_blk ?_ 30 (.tmp 2) (.tmp 25) ?_ w.heap.size 39 objZ objZ 30 objZ_size objZ_size ?_ ?_ A4.out infoObj O1z.out ?_); rfl; rfl; rfl; rfl; intro w9 hk9 hg9))
    refine bodyPost_ret (results_cell2D rfl _ _ _ rfl _ (loadBlkT hk9 30 _ Tryd.underlying30 rfl 39 infoObj objZ_size)) rfl ?_
    exact rdecC_no HDO2.out (HW4.out.trans (below_grownBy hg9 (Nat.le_refl _) HW4.out.size))
  · have HDO2 : Hid (rdecO bs = if checkO o ≠ 0 then (49, zeroO) else if encO o ≠ bs then (49, zeroO) else (0, o)) := hide (by rw [HDO.out, if_neg he])
    have hev : rEndV bs s2 = (0, 0) := by unfold rEndV; rw [if_neg (by omega), if_neg (by omega)]
    rw [hev]
    clear he hev HDO
    go_wp2_with (first
      | ((with_reducible refine wpList_load_obj (.tmp 5) zo arr AZ4.out OZ.out ?_ ?_ ?_ ?_); rfl; rfl; rfl))
    rw [HARR.out]
    refine (rencode_any W4 o v2 RD4.out TX.out (by have := FW.out; omega)).mono ?_
    rintro e W5 ⟨x1, rfl, o1, hb5⟩
    rw [← HARR.out]
    have X5 : Hid (RdA W5 x1 (encO o)) := hide (.inl (Rd_owned o1))
    obtain ⟨ax, cx, rfl⟩ := own_form o1
    have AZ5 := hide (AZ4.out.below hb5 AZ4.out.lt)
    have A5 := hide (A4.out.below hb5 A4.out.lt)
    have HW5 := hide (HW4.out.trans (hb5.mono HW4.out.size))
    have OW5 : Hid (ObjOwn (w.heap.size + 1) W5 o v2) := hide (objOwn_base (OW4.out.below hb5) S1.out)
    have Y5 : Hid (RdA W5 (.slice ao n c) bs) := hide (by rw [HN.out]; exact HB.out.below HW5.out)
    obtain ⟨eo, heo⟩ : ∃ x, x = encO o := ⟨_, rfl⟩
    rw [← heo] at X5 HDO2 ⊢
    clear o1 hb5 AZ4 A4 HW4 OW4 RD4 heo HB
    by_cases hc : checkO o = 0
    · rw [hc]
      by_cases hq : eo = bs
      · have HDO3 : Hid (rdecO bs = (0, o)) := hide (by rw [HDO2.out, if_neg (by simpa using hc), if_neg (by simpa using hq)])
        subst hq
        clear hc HDO2
        go_wp2_with (first
          | ((with_reducible refine wpList_val (.string ⟨eo.toArray⟩) ?_ (run_convD (x := .tmp 34) ?_ ?_ X5.out) ?_); exact wanted_yes (j := 2) (b := false) (t := 33) rfl rfl rfl (by decide : (33 : Nat) < 42); rfl; rfl)
          | ((with_reducible refine wpList_val (.string ⟨eo.toArray⟩) ?_ (run_convD (x := .tmp 36) ?_ ?_ Y5.out) ?_); exact wanted_yes (j := 2) (b := false) (t := 33) rfl rfl rfl (by decide : (33 : Nat) < 42); rfl; rfl)
          | ((with_reducible refine wpList_load_obj (.tmp 5) zo arr AZ5.out OZ.out ?_ ?_ ?_ ?_); rfl; rfl; rfl)
          | ((with_reducible refine wpList_store_blk ?_ 30 (.tmp 2) (.tmp 41) ?_ w.heap.size 39 objZ arr 30 OZ.out objZ_size ?_ ?_ A5.out infoObj P1.out ?_); rfl; rfl; rfl; rfl; intro w9 hk9 hg9))
        refine bodyPost_ret (results_cell2D rfl _ _ _ rfl _ (loadBlkT hk9 30 _ Tryd.underlying30 rfl 39 infoObj OZ.out)) rfl ?_
        rw [HARR.out]
        exact rdecC_mk HDO3.out (objOwn_up OW5.out hg9) (HW5.out.trans (below_grownBy hg9 (Nat.le_refl _) HW5.out.size))
      · have HDO3 : Hid (rdecO bs = (49, zeroO)) := hide (by rw [HDO2.out, if_neg (by simpa using hc), if_pos hq])
        have hqb : (eo == bs) = false := by simpa using hq
        clear hc HDO2 hq
        go_wp2_with (first
          | ((with_reducible refine wpList_val (.string ⟨eo.toArray⟩) ?_ (run_convD (x := .tmp 34) ?_ ?_ X5.out) ?_); exact wanted_yes (j := 2) (b := false) (t := 33) rfl rfl rfl (by decide : (33 : Nat) < 42); rfl; rfl)
          | ((with_reducible refine wpList_val (.string ⟨bs.toArray⟩) ?_ (run_convD (x := .tmp 36) ?_ ?_ Y5.out) ?_); exact wanted_yes (j := 2) (b := false) (t := 33) rfl rfl rfl (by decide : (33 : Nat) < 42); rfl; rfl)
          | ((with_reducible refine wpList_val (.agg objZ) ?_ (BdO.out ?_ _) ?_); rfl; rfl)
          | ((with_reducible refine wpList_store_blk ?_ 30 (.tmp 2) (.tmp 40) ?_ w.heap.size 39 objZ objZ 30 objZ_size objZ_size ?_ ?_ A5.out infoObj O1z.out ?_); rfl; rfl; rfl; rfl; intro w9 hk9 hg9))
        refine bodyPost_ret (results_cell2D rfl _ _ _ rfl _ (loadBlkT hk9 30 _ Tryd.underlying30 rfl 39 infoObj objZ_size)) rfl ?_
        exact rdecC_no HDO3.out (HW5.out.trans (below_grownBy hg9 (Nat.le_refl _) HW5.out.size))
    · have HDO3 : Hid (rdecO bs = (49, zeroO)) := hide (by rw [HDO2.out, if_pos hc])
      have hwb : (checkO o != 0) = true := by simpa using hc
      obtain ⟨wo, hwo⟩ : ∃ x, x = checkO o := ⟨_, rfl⟩
      rw [← hwo] at hwb ⊢
      clear hc HDO2 hwo
      go_wp2_with (first
        | ((with_reducible refine wpList_val (.agg objZ) ?_ (BdO.out ?_ _) ?_); rfl; rfl)
        | ((with_reducible refine wpList_store_blk ?_ 30 (.tmp 2) (.tmp 40) ?_ w.heap.size 39 objZ objZ 30 objZ_size objZ_size ?_ ?_ A5.out infoObj O1z.out ?_); rfl; rfl; rfl; rfl; intro w9 hk9 hg9))
      refine bodyPost_ret (results_cell2D rfl _ _ _ rfl _ (loadBlkT hk9 30 _ Tryd.underlying30 rfl 39 infoObj objZ_size)) rfl ?_
      exact rdecC_no HDO3.out (HW5.out.trans (below_grownBy hg9 (Nat.le_refl _) HW5.out.size))
set_option maxHeartbeats 4000000 in
theorem rdecode_long (w : World) (b : Value) (bs : List UInt8) (hb : RdA w b bs) (hl : 8192 < bs.length) : Calls Tryd.prog 18 #[b] w (RDecC w bs) := by
  have hzo := zero_obj
  obtain ⟨W0, hW0⟩ : ∃ W, W = w.alloc (.cells objZ 30) := ⟨_, rfl⟩
  have A0 : Hid (Blk (w.alloc (.cells objZ 30)) w.heap.size objZ 30) := hide (Blk.made w _ _)
  have HW0 : Hid (Below w.heap.size w (w.alloc (.cells objZ 30))) := hide (below_alloc w _)
  obtain ⟨n, hn⟩ : ∃ n, n = bs.length := ⟨_, rfl⟩
  have hnl : (8192 : Int) < (n : Int) := by omega
  have BdO : Hid (∀ {op : Oper} {a : Act}, op.op = .build 30 #[] → ∀ w, (execOp a.eval op).run Tryd.prog w = .ok (.value (.agg objZ)) w) := hide (fun ho w => run_buildO ho w)
  have O1z : Hid (objZ.all (·.oneCell') = true) := hide (all_oneCell_toArray (objL_one _ _ ⟨⟨_, _, _, rfl⟩, ⟨_, _, _, rfl⟩, ⟨_, _, _, rfl⟩, ⟨_, _, _, rfl⟩⟩))
  have HDO : Hid (rdecO bs = (48, zeroO)) := hide (by unfold rdecO; rw [if_pos hl])
  obtain ⟨ao, c, rfl, _⟩ := hb.slice
  rw [← hn]
  clear hb hn hl hW0
  go_enter Tryd.func18, Tryd.ntmps18
  go_wp2_with (first
    | ((with_reducible refine wpList_val (.agg objZ) ?_ (BdO.out ?_ _) ?_); rfl; rfl)
    | ((with_reducible refine wpList_store_blk ?_ 30 (.tmp 2) (.tmp 13) ?_ w.heap.size 39 objZ objZ 30 objZ_size objZ_size ?_ ?_ A0.out infoObj O1z.out ?_); rfl; rfl; rfl; rfl; intro w9 hk9 hg9))
  refine bodyPost_ret (results_cell2D rfl _ _ _ rfl _ (loadBlkT hk9 30 _ Tryd.underlying30 rfl 39 infoObj objZ_size)) rfl ?_
  exact rdecC_no HDO.out (HW0.out.trans (below_grownBy hg9 (Nat.le_refl _) HW0.out.size))
theorem rdecode_any (w : World) (b : Value) (bs : List UInt8) (hb : RdA w b bs) : Calls Tryd.prog 18 #[b] w (RDecC w bs) := by
  by_cases h : 8192 < bs.length
  · exact rdecode_long w b bs hb h
  · exact rdecode_in w b bs hb (by omega)
end Go.Proofs.YtjcfndiceinkjaaDoor
