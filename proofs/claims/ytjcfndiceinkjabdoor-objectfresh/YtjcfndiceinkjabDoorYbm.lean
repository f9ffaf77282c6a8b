/- Taking an object by the plain machine; what stays. -/
import Derived.Test.YtjcfndiceinkjabDoorYam
namespace Go.Proofs.YtjcfndiceinkjabDoor
set_option linter.unusedVariables false
set_option linter.unusedSimpArgs false
set_option maxRecDepth 100000
open Go.RowKit

def keyBytes (r : Option (List UInt8)) : List UInt8 := r.getD (List.replicate 32 0)
theorem keyCells_eq (r : Option (List UInt8)) : keyCells r = ((keyBytes r).map u8c).toArray := by
  cases r with
  | none => rfl
  | some xs => rfl
theorem keyBytes_len (bs : List UInt8) (s : S) (a : Nat) : (keyBytes (mNext bs s a 32).1).length = 32 := by
  unfold keyBytes
  cases h : (mNext bs s a 32).1 with
  | none => simp
  | some xs => simpa using mNext_whole bs s a 32 xs h
def mKeyT (bs : List UInt8) (s : S) : List UInt8 × S := (keyBytes (mNext bs s (mPlace s) 32).1, (mNext bs s (mPlace s) 32).2)
def mPart (bs : List UInt8) (s : S) : PartR × S := (((mKeyT bs s).1, (mNum bs (mKeyT bs s).2 9223372036854775807).1), (mNum bs (mKeyT bs s).2 9223372036854775807).2.2)
def mByte (bs : List UInt8) (s : S) : Nat × S := (leNat ((mNext bs s (mPlace s) 1).1.getD []), (mNext bs s (mPlace s) 1).2)
def mItem (bs : List UInt8) (s : S) : ItemR × S :=
  let t := mText bs s 64
  let m := mByte bs t.2
  let q := mNum bs m.2 18446744073709551615
  let k := mKeyT bs q.2.2
  ((t.1, m.1, q.1, k.1), k.2)
def eachT {α : Type} (T : S → α × S) : Nat → S → List α → List α × S
  | 0, s, acc => (acc, s)
  | n + 1, s, acc => if s.code ≠ 0 then (acc, s) else eachT T n (T s).2 (acc ++ [(T s).1])
def mEachT {α : Type} (T : S → α × S) (bs : List UInt8) (s : S) (most : Nat) : List α × S :=
  if (eachT T (mNum bs s most).1 (mNum bs s most).2.2 []).2.code ≠ 0 then ([], (eachT T (mNum bs s most).1 (mNum bs s most).2.2 []).2) else eachT T (mNum bs s most).1 (mNum bs s most).2.2 []
theorem eachT_stop {α : Type} (T : S → α × S) (n : Nat) (s : S) (acc : List α) (h : s.code ≠ 0) : eachT T n s acc = (acc, s) := by
  cases n with
  | zero => rfl
  | succ n => rw [eachT, if_pos h]
theorem eachT_more {α : Type} (T : S → α × S) (n : Nat) (s : S) (acc : List α) (h : s.code = 0) (hn : 0 < n) : eachT T n s acc = eachT T (n - 1) (T s).2 (acc ++ [(T s).1]) := by
  cases n with
  | zero => omega
  | succ n => rw [eachT, if_neg (by omega)]; rfl
theorem Bts.blk {w : World} {z : Nat} {sv : Value} {bs : List UInt8} (h : Bts w z sv bs) {b : Nat} (e : sv = .slice (some ⟨b, 0, none⟩) bs.length bs.length) : b < w.heap.size := by
  rcases h.2 with ⟨e1, _⟩ | ⟨b', e1, _, hB⟩
  · rw [e1] at e; cases e
  · rw [e1] at e; cases e; exact hB.lt
/-- A Dec that was there ahead of world w's end, and what has changed since: it alone, and new memory. -/
structure TS (w W : World) (z : Nat) (sv : Value) (bs : List UInt8) (s : S) : Prop where
  zlt : z < w.heap.size
  blk : ∀ b, sv = .slice (some ⟨b, 0, none⟩) bs.length bs.length → b < w.heap.size
  dec : DecSt W z sv bs s
  g : w.grownBy W (some z)
theorem TS.start {w : World} {z : Nat} {sv : Value} {bs : List UInt8} {s : S} (h : DecSt w z sv bs s) : TS w w z sv bs s :=
  ⟨h.lt, fun b e => h.1.blk e, h, ⟨rfl, rfl, rfl, Nat.le_refl _, fun _ _ _ => rfl⟩⟩
theorem TS.call {w W W' : World} {z : Nat} {sv : Value} {bs : List UInt8} {s s' : S} (h : TS w W z sv bs s) (h1 : DecSt W' z sv bs s') (h2 : W.grownBy W' (some z)) : TS w W' z sv bs s' :=
  ⟨h.zlt, h.blk, h1, grownBy_trans h.g h2⟩
theorem TS.below {w W W' : World} {z : Nat} {sv : Value} {bs : List UInt8} {s : S} (h : TS w W z sv bs s) (hb : Below w.heap.size W W') : TS w W' z sv bs s := by
  refine ⟨h.zlt, h.blk, ⟨⟨h.dec.1.1, ?_⟩, h.dec.2.1, (hb.block z h.zlt).trans h.dec.2.2⟩, ⟨hb.os.trans h.g.os, hb.tape.trans h.g.tape, hb.output.trans h.g.output, Nat.le_trans h.g.size hb.size, fun k hk hne => (hb.block k hk).trans (h.g.block k hk hne)⟩⟩
  rcases h.dec.1.2 with e | ⟨b, e, hne, hB⟩
  · exact .inl e
  · exact .inr ⟨b, e, hne, (hb.block b (h.blk b e)).trans hB⟩
theorem TS.alloc {w W : World} {z : Nat} {sv : Value} {bs : List UInt8} {s : S} (h : TS w W z sv bs s) (o : Obj) : TS w (W.alloc o) z sv bs s := h.below ((below_alloc W o).mono h.g.size)
/-- A call that takes one. -/
def OneC {α : Type} (C : α → List Value) (w : World) (z : Nat) (sv : Value) (bs : List UInt8) (r : α × S) (e : Ending) (w' : World) : Prop := e = .returned (.agg (C r.1).toArray) ∧ DecSt w' z sv bs r.2 ∧ w.grownBy w' (some z)
theorem mText_few (bs : List UInt8) (s : S) (most : Nat) : (mText bs s most).1.length ≤ bs.length := by
  unfold mText
  split
  · exact mNext_len bs _ _ _
  · simp
theorem keyT_st (w : World) (z : Nat) (sv : Value) (bs : List UInt8) (s : S) (h : DecSt w z sv bs s) : Calls Tryd.prog 55 #[.pointer (some ⟨z, 0, none⟩)] w (OneC keyC w z sv bs (mKeyT bs s)) := by
  refine (key_st w z sv bs s h).mono ?_
  rintro e w' ⟨rfl, h1, h2⟩
  exact ⟨by rw [keyCells_eq]; rfl, h1, h2⟩
theorem mKeyT_len (bs : List UInt8) (s : S) : (mKeyT bs s).1.length = 32 := keyBytes_len bs s _
theorem mByte_lt (bs : List UInt8) (s : S) : (mByte bs s).1 < 256 := leNat_lt _ 1 (mNext_few bs s _ 1)
end Go.Proofs.YtjcfndiceinkjabDoor

/- takePart, takeItem. -/
namespace Go.Proofs.YtjcfndiceinkjabDoor
set_option linter.unusedVariables false
set_option linter.unusedSimpArgs false
set_option maxRecDepth 100000
open Go.RowKit

set_option maxHeartbeats 4000000 in
theorem part_mid (kb : List UInt8) (hk : okK kb) : setMid zP 0 (keyC kb) = (partC (kb, 0)).toArray := by
  obtain ⟨c0, c1, c2, c3, c4, c5, c6, c7, c8, c9, c10, c11, c12, c13, c14, c15, c16, c17, c18, c19, c20, c21, c22, c23, c24, c25, c26, c27, c28, c29, c30, c31, rfl⟩ := list32 kb hk
  kernel_rfl
set_option maxHeartbeats 4000000 in
theorem part_set (kb : List UInt8) (hk : okK kb) (q : Nat) : (partC (kb, 0)).toArray.setIfInBounds 32 (.int .u64 (q : Int)) = (partC (kb, q)).toArray := by
  obtain ⟨c0, c1, c2, c3, c4, c5, c6, c7, c8, c9, c10, c11, c12, c13, c14, c15, c16, c17, c18, c19, c20, c21, c22, c23, c24, c25, c26, c27, c28, c29, c30, c31, rfl⟩ := list32 kb hk
  kernel_rfl
set_option maxHeartbeats 4000000 in
theorem item_mid (nm : List UInt8) (mo sz : Nat) (kb : List UInt8) (hk : okK kb) : setMid (itemC (nm, mo, sz, zero32)).toArray 3 (keyC kb) = (itemC (nm, mo, sz, kb)).toArray := by
  obtain ⟨c0, c1, c2, c3, c4, c5, c6, c7, c8, c9, c10, c11, c12, c13, c14, c15, c16, c17, c18, c19, c20, c21, c22, c23, c24, c25, c26, c27, c28, c29, c30, c31, rfl⟩ := list32 kb hk
  kernel_rfl
set_option maxHeartbeats 2000000 in
theorem takePart_st (w : World) (z : Nat) (sv : Value) (bs : List UInt8) (s : S) (h : DecSt w z sv bs s) : Calls Tryd.prog 50 #[.pointer (some ⟨z, 0, none⟩)] w (OneC partC w z sv bs (mPart bs s)) := by
  have hzp := zero_part
  obtain ⟨W0, hW0⟩ : ∃ W, W = (w.alloc (.cells zP 49)).alloc (.cells zP 49) := ⟨_, rfl⟩
  have T0 : Hid (TS w W0 z sv bs s) := hide (by rw [hW0]; exact ((TS.start h).alloc _).alloc _)
  have A0 : Hid (Blk W0 w.heap.size zP 49) := hide (by rw [hW0]; exact (Blk.made w _ _).below (below_alloc _ _) (by simp))
  have B0 : Hid (Blk W0 (w.heap.size + 1) zP 49) := hide (by rw [hW0]; have := Blk.made (w.alloc (.cells zP 49)) zP 49; simpa using this)
  have HZ : Hid (z < w.heap.size) := hide h.lt
  obtain ⟨kt, hkt⟩ : ∃ r, r = mKeyT bs s := ⟨_, rfl⟩
  have KL : Hid (kt.1.length = 32) := hide (by rw [hkt]; exact mKeyT_len bs s)
  have HR : Hid (mPart bs s = ((kt.1, (mNum bs kt.2 9223372036854775807).1), (mNum bs kt.2 9223372036854775807).2.2)) := hide (by unfold mPart; rw [hkt])
  have HKT := hide hkt
  clear h hkt
  obtain ⟨kb, s1⟩ := kt
  have K1 : Hid ((keyC kb).toArray.all (·.oneCell') = true) := hide (all_oneCell_toArray (keyC_one _))
  have KS : Hid ((keyC kb).toArray.size = 32) := hide (by have := KL.out; simp [keyC]; exact this)
  go_enter Tryd.func50, Tryd.ntmps50
  go_wp2_with fail
  rw [← hW0]
  clear hW0
  refine (keyT_st W0 z sv bs s T0.out.dec).mono ?_
  rintro e W1 ⟨rfl, h1, h2⟩
  rw [← HKT.out] at h1 ⊢
  have T1 := hide (T0.out.call h1 h2)
  have A1 := hide (A0.out.grown h2 (fun e => by have := Option.some.inj e; have := HZ.out; omega))
  have B1 := hide (B0.out.grown h2 (fun e => by have := Option.some.inj e; have := HZ.out; omega))
  have ZP : Hid (0 + 32 ≤ zP.size) := hide (by decide)
  clear h1 h2 T0 A0 B0 HKT
  go_wp2_with (first
    | ((with_reducible refine wpList_store_midB ?_ 27 (.tmp 6) (.tmp 5) ?_ (w.heap.size + 1) 0 32 zP (keyC kb).toArray 49 KS.out ZP.out ?_ ?_ B1.out infoKey K1.out ?_); rfl; rfl; rfl; rfl; intro W2 hk2 hg2; generalize hG : wpList _ _ _ _ _ _ = G))
  rw [part_mid kb KL.out] at hk2
  have BW : Hid (Below w.heap.size W1 W2) := hide (below_grownBy hg2 (by omega) T1.out.g.size)
  have T2 := hide (T1.out.below BW.out)
  have A2 := hide (A1.out.grown hg2 (fun e => by have := Option.some.inj e; omega))
  have B2 := hide hk2
  clear hk2 hg2 BW T1 A1 B1
  subst hG
  go_wp2_with fail
  refine (var_st W2 z sv bs s1 9223372036854775807 T2.out.dec).mono ?_
  rintro e W3 ⟨rfl, h1, h2⟩
  have HQ : Hid (mPart bs s = ((kb, (mNum bs s1 9223372036854775807).1), (mNum bs s1 9223372036854775807).2.2)) := hide HR.out
  obtain ⟨q, hq⟩ : ∃ r, r = mNum bs s1 9223372036854775807 := ⟨_, rfl⟩
  rw [← hq] at h1 HQ ⊢
  clear hq HR
  obtain ⟨qv, qo, s2⟩ := q
  have T3 := hide (T2.out.call h1 h2)
  have A3 := hide (A2.out.grown h2 (fun e => by have := Option.some.inj e; have := HZ.out; omega))
  have hB3 := B2.out.grown h2 (fun e => by have := Option.some.inj e; have := HZ.out; omega)
  have c3 : W3.cell? ⟨w.heap.size + 1, 32, none⟩ = some (.int .u64 0) := (partC_cells (p := (kb, 0)) KL.out hB3).2
  have f3 : W3.frozen? ⟨w.heap.size + 1, 32, none⟩ = false := Blk.frozen hB3 32
  have hB4 := hB3.set 32 (.int .u64 (qv : Int))
  rw [part_set kb KL.out] at hB4
  have OPp : Hid (okP (kb, qv)) := hide KL.out
  have R4 : Hid ((W3.setCell ⟨w.heap.size + 1, 32, none⟩ (.int .u64 (qv : Int))).rangeAt (w.heap.size + 1) 0 (partC (kb, qv))) := hide (range_blk (cs := (partC (kb, qv)).toArray) hB4)
  have A4 : Hid (Blk (W3.setCell ⟨w.heap.size + 1, 32, none⟩ (.int .u64 (qv : Int))) w.heap.size zP 49) := hide (A3.out.setOther _ _ (by show w.heap.size ≠ w.heap.size + 1; omega))
  have T4 : Hid (TS w (W3.setCell ⟨w.heap.size + 1, 32, none⟩ (.int .u64 (qv : Int))) z sv bs s2) := hide (T3.out.below ((Below.refl _ _).setCell (p := ⟨w.heap.size + 1, 32, none⟩) (by show w.heap.size ≤ w.heap.size + 1; omega) _))
  have PS : Hid ((partC (kb, qv)).toArray.size = 33) := hide (by simp [partC_len _ OPp.out])
  have ZS : Hid (zP.size = 33) := hide rfl
  have P1 := hide (all_oneCell_toArray (partC_one (kb, qv)))
  clear h1 h2 hB3 hB4 T2 A2 B2 T3 A3
  go_wp2_with (first
    | ((with_reducible refine wpList_load_partAt (.tmp 3) (w.heap.size + 1) 0 (kb, qv) OPp.out R4.out ?_ ?_ ?_ ?_); rfl; rfl; rfl)
    | ((with_reducible refine wpList_store_blk ?_ 49 (.tmp 2) (.tmp 10) ?_ w.heap.size 33 zP (partC (kb, qv)).toArray 49 PS.out ZS.out ?_ ?_ A4.out infoPart P1.out ?_); rfl; rfl; rfl; rfl; intro w9 hk9 hg9))
  refine bodyPost_ret (results_cell rfl _ _ _ rfl _ (loadBlkT hk9 49 _ Tryd.underlying49 rfl 33 infoPart PS.out)) rfl ?_
  have T9 := T4.out.below (below_grownBy hg9 (Nat.le_refl _) T4.out.g.size)
  exact ⟨by rw [HQ.out], by rw [HQ.out]; exact T9.dec, T9.g⟩
set_option maxHeartbeats 4000000 in
theorem takeItem_st (w : World) (z : Nat) (sv : Value) (bs : List UInt8) (s : S) (h : DecSt w z sv bs s) : Calls Tryd.prog 53 #[.pointer (some ⟨z, 0, none⟩)] w (OneC itemC w z sv bs (mItem bs s)) := by
  have hzi := zero_item
  obtain ⟨W0, hW0⟩ : ∃ W, W = (w.alloc (.cells zI 52)).alloc (.cells zI 52) := ⟨_, rfl⟩
  have T0 : Hid (TS w W0 z sv bs s) := hide (by rw [hW0]; exact ((TS.start h).alloc _).alloc _)
  have A0 : Hid (Blk W0 w.heap.size zI 52) := hide (by rw [hW0]; exact (Blk.made w _ _).below (below_alloc _ _) (by simp))
  have B0 : Hid (Blk W0 (w.heap.size + 1) (itemC ([], 0, 0, zero32)).toArray 52) := hide (by rw [hW0]; have e : Blk ((w.alloc (.cells zI 52)).alloc (.cells zI 52)) (w.heap.size + 1) zI 52 := (by have := Blk.made (w.alloc (.cells zI 52)) zI 52; simpa using this); exact e)
  have HZ : Hid (z < w.heap.size) := hide h.lt
  have HR0 : Hid (mItem bs s = mItem bs s) := hide rfl
  clear h
  go_enter Tryd.func53, Tryd.ntmps53
  go_wp2_with fail
  rw [← hW0]
  clear hW0
  refine (text_st W0 z sv bs s 64 (by decide) (by decide) T0.out.dec).mono ?_
  rintro e W1 ⟨rfl, h1, h2⟩
  have HR1 : Hid (mItem bs s = (((mText bs s 64).1, (mByte bs (mText bs s 64).2).1, (mNum bs (mByte bs (mText bs s 64).2).2 18446744073709551615).1, (mKeyT bs (mNum bs (mByte bs (mText bs s 64).2).2 18446744073709551615).2.2).1), (mKeyT bs (mNum bs (mByte bs (mText bs s 64).2).2 18446744073709551615).2.2).2)) := hide rfl
  rw [show ((64 : Int).toNat) = 64 from rfl] at h1 ⊢
  obtain ⟨t, ht⟩ : ∃ r, r = mText bs s 64 := ⟨_, rfl⟩
  rw [← ht] at h1 HR1 ⊢
  clear ht HR0
  obtain ⟨nm, s1⟩ := t
  have T1 := hide (T0.out.call h1 h2)
  have A1 := hide (A0.out.grown h2 (fun e => by have := Option.some.inj e; have := HZ.out; omega))
  have hB1 := B0.out.grown h2 (fun e => by have := Option.some.inj e; have := HZ.out; omega)
  have c1 := (itemC_name hB1).1
  have f1 : W1.frozen? ⟨w.heap.size + 1, 0, none⟩ = false := Blk.frozen hB1 0
  have hB2 := hB1.set 0 (.string ⟨nm.toArray⟩)
  have e2 : (itemC ([], 0, 0, zero32)).toArray.setIfInBounds 0 (.string ⟨nm.toArray⟩) = (itemC (nm, 0, 0, zero32)).toArray := by simp [itemC]
  rw [e2] at hB2
  obtain ⟨W2, hW2⟩ : ∃ W, W = W1.setCell ⟨w.heap.size + 1, 0, none⟩ (.string ⟨nm.toArray⟩) := ⟨_, rfl⟩
  have HW2 := hide hW2
  rw [← hW2] at hB2
  have B2 := hide hB2
  have T2 : Hid (TS w W2 z sv bs s1) := hide (by rw [hW2]; exact T1.out.below ((Below.refl _ _).setCell (p := ⟨w.heap.size + 1, 0, none⟩) (by show w.heap.size ≤ w.heap.size + 1; omega) _))
  have A2 : Hid (Blk W2 w.heap.size zI 52) := hide (by rw [hW2]; exact A1.out.setOther _ _ (by show w.heap.size ≠ w.heap.size + 1; omega))
  clear h1 h2 hB1 hB2 T0 A0 B0 T1 A1 e2 hW2
  go_wp2_with fail
  rw [← HW2.out]
  clear c1 f1 HW2
  refine (take_mode W2 z sv bs s1 T2.out.dec).mono ?_
  rintro e W3 ⟨rfl, h1, h2⟩
  have HM : Hid (IntKind.u8.wrap (leNat ((mNext bs s1 (mPlace s1) 1).1.getD []) : Nat) = ((mByte bs s1).1 : Int)) := hide (by have := mByte_lt bs s1; unfold mByte at this ⊢; rw [IntKind.wrap_u8]; omega)
  rw [HM.out]
  have h1' : DecSt W3 z sv bs (mByte bs s1).2 := h1
  have HR2 : Hid (mItem bs s = ((nm, (mByte bs s1).1, (mNum bs (mByte bs s1).2 18446744073709551615).1, (mKeyT bs (mNum bs (mByte bs s1).2 18446744073709551615).2.2).1), (mKeyT bs (mNum bs (mByte bs s1).2 18446744073709551615).2.2).2)) := hide HR1.out
  obtain ⟨m, hm⟩ : ∃ r, r = mByte bs s1 := ⟨_, rfl⟩
  rw [← hm] at h1' HR2 ⊢
  clear hm HM HR1 h1
  obtain ⟨mo, s2⟩ := m
  have T3 := hide (T2.out.call h1' h2)
  have A3 := hide (A2.out.grown h2 (fun e => by have := Option.some.inj e; have := HZ.out; omega))
  have hB3 := B2.out.grown h2 (fun e => by have := Option.some.inj e; have := HZ.out; omega)
  have c3 := (itemC_name hB3).2.1
  have f3 : W3.frozen? ⟨w.heap.size + 1, 1, none⟩ = false := Blk.frozen hB3 1
  have hB4 := hB3.set 1 (.int .u8 (mo : Int))
  have e4 : (itemC (nm, 0, 0, zero32)).toArray.setIfInBounds 1 (.int .u8 (mo : Int)) = (itemC (nm, mo, 0, zero32)).toArray := by simp [itemC]
  rw [e4] at hB4
  obtain ⟨W4, hW4⟩ : ∃ W, W = W3.setCell ⟨w.heap.size + 1, 1, none⟩ (.int .u8 (mo : Int)) := ⟨_, rfl⟩
  have HW4 := hide hW4
  rw [← hW4] at hB4
  have B4 := hide hB4
  have T4 : Hid (TS w W4 z sv bs s2) := hide (by rw [hW4]; exact T3.out.below ((Below.refl _ _).setCell (p := ⟨w.heap.size + 1, 1, none⟩) (by show w.heap.size ≤ w.heap.size + 1; omega) _))
  have A4 : Hid (Blk W4 w.heap.size zI 52) := hide (by rw [hW4]; exact A3.out.setOther _ _ (by show w.heap.size ≠ w.heap.size + 1; omega))
  clear h1' h2 hB3 hB4 T2 A2 B2 T3 A3 e4 hW4
  go_wp2_with fail
  rw [← HW4.out]
  clear c3 f3 HW4
  refine (var_st W4 z sv bs s2 18446744073709551615 T4.out.dec).mono ?_
  rintro e W5 ⟨rfl, h1, h2⟩
  have HR3 : Hid (mItem bs s = ((nm, mo, (mNum bs s2 18446744073709551615).1, (mKeyT bs (mNum bs s2 18446744073709551615).2.2).1), (mKeyT bs (mNum bs s2 18446744073709551615).2.2).2)) := hide HR2.out
  obtain ⟨q, hq⟩ : ∃ r, r = mNum bs s2 18446744073709551615 := ⟨_, rfl⟩
  rw [← hq] at h1 HR3 ⊢
  clear hq HR2
  obtain ⟨qv, qo, s3⟩ := q
  have T5 := hide (T4.out.call h1 h2)
  have A5 := hide (A4.out.grown h2 (fun e => by have := Option.some.inj e; have := HZ.out; omega))
  have hB5 := B4.out.grown h2 (fun e => by have := Option.some.inj e; have := HZ.out; omega)
  have c5 := (itemC_name hB5).2.2
  have f5 : W5.frozen? ⟨w.heap.size + 1, 2, none⟩ = false := Blk.frozen hB5 2
  have hB6 := hB5.set 2 (.int .u64 (qv : Int))
  have e6 : (itemC (nm, mo, 0, zero32)).toArray.setIfInBounds 2 (.int .u64 (qv : Int)) = (itemC (nm, mo, qv, zero32)).toArray := by simp [itemC]
  rw [e6] at hB6
  obtain ⟨W6, hW6⟩ : ∃ W, W = W5.setCell ⟨w.heap.size + 1, 2, none⟩ (.int .u64 (qv : Int)) := ⟨_, rfl⟩
  have HW6 := hide hW6
  rw [← hW6] at hB6
  have B6 := hide hB6
  have T6 : Hid (TS w W6 z sv bs s3) := hide (by rw [hW6]; exact T5.out.below ((Below.refl _ _).setCell (p := ⟨w.heap.size + 1, 2, none⟩) (by show w.heap.size ≤ w.heap.size + 1; omega) _))
  have A6 : Hid (Blk W6 w.heap.size zI 52) := hide (by rw [hW6]; exact A5.out.setOther _ _ (by show w.heap.size ≠ w.heap.size + 1; omega))
  clear h1 h2 hB5 hB6 T4 A4 B4 T5 A5 e6 hW6
  go_wp2_with fail
  rw [← HW6.out]
  clear c5 f5 HW6
  refine (keyT_st W6 z sv bs s3 T6.out.dec).mono ?_
  rintro e W7 ⟨rfl, h1, h2⟩
  have HR4 : Hid (mItem bs s = ((nm, mo, qv, (mKeyT bs s3).1), (mKeyT bs s3).2)) := hide HR3.out
  have KL0 := mKeyT_len bs s3
  obtain ⟨kt, hkt⟩ : ∃ r, r = mKeyT bs s3 := ⟨_, rfl⟩
  rw [← hkt] at h1 HR4 KL0 ⊢
  clear hkt HR3
  obtain ⟨kb, s4⟩ := kt
  have KL : Hid (kb.length = 32) := hide KL0
  have K1 : Hid ((keyC kb).toArray.all (·.oneCell') = true) := hide (all_oneCell_toArray (keyC_one _))
  have KS : Hid ((keyC kb).toArray.size = 32) := hide (by have := KL.out; simp [keyC]; exact this)
  have T7 := hide (T6.out.call h1 h2)
  have A7 := hide (A6.out.grown h2 (fun e => by have := Option.some.inj e; have := HZ.out; omega))
  have B7 := hide (B6.out.grown h2 (fun e => by have := Option.some.inj e; have := HZ.out; omega))
  have OS : Hid (3 + 32 ≤ (itemC (nm, mo, qv, zero32)).toArray.size) := hide (by simp [itemC, zero32])
  clear h1 h2 T6 A6 B6 KL0
  go_wp2_with (first
    | ((with_reducible refine wpList_store_midB ?_ 27 (.tmp 15) (.tmp 14) ?_ (w.heap.size + 1) 3 32 (itemC (nm, mo, qv, zero32)).toArray (keyC kb).toArray 52 KS.out OS.out ?_ ?_ B7.out infoKey K1.out ?_); rfl; rfl; rfl; rfl; intro W8 hk8 hg8; generalize hG : wpList _ _ _ _ _ _ = G))
  rw [item_mid nm mo qv kb KL.out] at hk8
  have T8 := hide (T7.out.below (below_grownBy hg8 (by omega) T7.out.g.size))
  have A8 := hide (A7.out.grown hg8 (fun e => by have := Option.some.inj e; omega))
  have OPp : Hid (okI (nm, mo, qv, kb)) := hide KL.out
  have R8 : Hid (W8.rangeAt (w.heap.size + 1) 0 (itemC (nm, mo, qv, kb))) := hide (range_blk (cs := (itemC (nm, mo, qv, kb)).toArray) hk8)
  have PS : Hid ((itemC (nm, mo, qv, kb)).toArray.size = 35) := hide (by simp [itemC_len _ OPp.out])
  have ZS : Hid (zI.size = 35) := hide rfl
  have P1 := hide (all_oneCell_toArray (itemC_one (nm, mo, qv, kb)))
  clear hk8 hg8 T7 A7 B7
  subst hG
  go_wp2_with (first
    | ((with_reducible refine wpList_load_itemAt (.tmp 3) (w.heap.size + 1) 0 (nm, mo, qv, kb) OPp.out R8.out ?_ ?_ ?_ ?_); rfl; rfl; rfl)
    | ((with_reducible refine wpList_store_blk ?_ 52 (.tmp 2) (.tmp 16) ?_ w.heap.size 35 zI (itemC (nm, mo, qv, kb)).toArray 52 PS.out ZS.out ?_ ?_ A8.out infoItem P1.out ?_); rfl; rfl; rfl; rfl; intro w9 hk9 hg9))
  refine bodyPost_ret (results_cell rfl _ _ _ rfl _ (loadBlkT hk9 52 _ Tryd.underlying52 rfl 35 infoItem PS.out)) rfl ?_
  have T9 := T8.out.below (below_grownBy hg9 (Nat.le_refl _) T8.out.g.size)
  exact ⟨by rw [HR4.out], by rw [HR4.out]; exact T9.dec, T9.g⟩
end Go.Proofs.YtjcfndiceinkjabDoor

/- Each, of parts, items and keys. -/
namespace Go.Proofs.YtjcfndiceinkjabDoor
set_option linter.unusedVariables false
set_option linter.unusedSimpArgs false
set_option maxRecDepth 100000
open Go.RowKit

theorem row_oneN {w : World} {c : List Value} {k : Nat} {t : TypeId} (hc : c.length = k) : RowR (w.alloc (.cells c.toArray t)) (.slice (some ⟨w.heap.size, 0, none⟩) 1 1) k [c] := by
  have hB : Blk (w.alloc (.cells c.toArray t)) w.heap.size c.toArray t := Blk.made w _ _
  have hr : (w.alloc (.cells c.toArray t)).rangeAt w.heap.size 0 [c].flatten := by
    have := range_blk hB
    simpa using this
  exact ⟨_, 1, rfl, by simp, (fun e => nomatch e), .inr ⟨_, 0, rfl, rangeAt_each k [c] 0 (by simp [hc]) hr⟩⟩
theorem eachT_len {α : Type} (T : S → α × S) : ∀ (n : Nat) (s : S) (acc : List α), (eachT T n s acc).1.length ≤ acc.length + n
  | 0, s, acc => by simp [eachT]
  | n + 1, s, acc => by
    rw [eachT]
    split
    · simp
    · have := eachT_len T n (T s).2 (acc ++ [(T s).1])
      rw [List.length_append] at this
      simp at this ⊢
      omega
/-- A list of what was taken, in new memory. -/
def EachTC {α : Type} (C : α → List Value) (te : TypeId) (k : Nat) (w : World) (z : Nat) (sv : Value) (bs : List UInt8) (r : List α × S) (e : Ending) (w' : World) : Prop :=
  (∃ v, e = .returned v ∧ w'.ownsRow w.heap.size te k v r.1.length (r.1.map C).flatten) ∧ DecSt w' z sv bs r.2 ∧ w.grownBy w' (some z)
theorem ownsRow_ne {w W : World} {z : Nat} {e : TypeId} {k n : Nat} {v : Value} {ys : List Value} (ho : W.ownsRow w.heap.size e k v n ys) (hz : z < w.heap.size) : v.ownBlock = none ∨ v.ownBlock ≠ some z := by
  right
  intro e
  have := (ho.lt z e).1
  omega
theorem below_own {w W W' : World} {e : TypeId} {k n : Nat} {v : Value} {ys : List Value} (hs : w.heap.size ≤ W.heap.size) (ho : W.ownsRow w.heap.size e k v n ys) (hg : W.grownBy W' v.ownBlock) : Below w.heap.size W W' :=
  (Below.refl _ _).grown hg hs (fun j hj => (ho.lt j hj).1)
theorem run_bs1P {op : Oper} {ev : Operand → Value} {x : Operand} {w : World} (p : PartR) (hk : okP p) (ho : op.op = .buildSlice 24 1 #[(0, x)]) (hx : ev x = .agg (partC p).toArray) : (execOp ev op).run Tryd.prog w = .ok (.value (.slice (some ⟨w.heap.size, 0, none⟩) 1 1)) (w.alloc (.cells (partC p).toArray 49)) := by
  simp only [execOp, ho]
  simp only [List.map_toArray, List.map_cons, List.map_nil, hx]
  obtain ⟨kb, q⟩ := p
  obtain ⟨c0, c1, c2, c3, c4, c5, c6, c7, c8, c9, c10, c11, c12, c13, c14, c15, c16, c17, c18, c19, c20, c21, c22, c23, c24, c25, c26, c27, c28, c29, c30, c31, rfl⟩ := list32 kb hk
  kernel_rfl
theorem run_bs1I {op : Oper} {ev : Operand → Value} {x : Operand} {w : World} (p : ItemR) (hk : okI p) (ho : op.op = .buildSlice 25 1 #[(0, x)]) (hx : ev x = .agg (itemC p).toArray) : (execOp ev op).run Tryd.prog w = .ok (.value (.slice (some ⟨w.heap.size, 0, none⟩) 1 1)) (w.alloc (.cells (itemC p).toArray 52)) := by
  simp only [execOp, ho]
  simp only [List.map_toArray, List.map_cons, List.map_nil, hx]
  obtain ⟨nm, mo, sz, kb⟩ := p
  obtain ⟨c0, c1, c2, c3, c4, c5, c6, c7, c8, c9, c10, c11, c12, c13, c14, c15, c16, c17, c18, c19, c20, c21, c22, c23, c24, c25, c26, c27, c28, c29, c30, c31, rfl⟩ := list32 kb hk
  kernel_rfl
theorem run_bs1K {op : Oper} {ev : Operand → Value} {x : Operand} {w : World} (p : (List UInt8)) (hk : okK p) (ho : op.op = .buildSlice 28 1 #[(0, x)]) (hx : ev x = .agg (keyC p).toArray) : (execOp ev op).run Tryd.prog w = .ok (.value (.slice (some ⟨w.heap.size, 0, none⟩) 1 1)) (w.alloc (.cells (keyC p).toArray 27)) := by
  simp only [execOp, ho]
  simp only [List.map_toArray, List.map_cons, List.map_nil, hx]
  obtain ⟨c0, c1, c2, c3, c4, c5, c6, c7, c8, c9, c10, c11, c12, c13, c14, c15, c16, c17, c18, c19, c20, c21, c22, c23, c24, c25, c26, c27, c28, c29, c30, c31, rfl⟩ := list32 p hk
  kernel_rfl
theorem one_notnilP (w : World) : (binOp BinOp.eql 95 (.func (.func 50) #[] #[]) .nilFunc).run Tryd.prog w = .ok (.bool false) w := by kernel_rfl
set_option maxHeartbeats 4000000 in
theorem eachP_st (w : World) (z : Nat) (sv : Value) (bs : List UInt8) (s : S) (m : Nat) (hm : m ≤ 128) (h : DecSt w z sv bs s) : Calls Tryd.prog 49 #[.pointer (some ⟨z, 0, none⟩), .int .i64 m, .func (.func 50) #[] #[]] w (EachTC partC 49 33 w z sv bs (mEachT (mPart bs) bs s m)) := by
  have HB := hide (fun w => bound_any w m (by omega) (by omega))
  have HV := hide (fun w h => var_st w z sv bs s m h)
  have hle := mNum_ok_le bs s m
  obtain ⟨r, hr⟩ : ∃ r, r = mNum bs s m := ⟨_, rfl⟩
  obtain ⟨R, hR⟩ : ∃ R, R = mEachT (mPart bs) bs s m := ⟨_, rfl⟩
  have HR : Hid (R = if (eachT (mPart bs) r.1 r.2.2 []).2.code ≠ 0 then ([], (eachT (mPart bs) r.1 r.2.2 []).2) else eachT (mPart bs) r.1 r.2.2 []) := hide (by rw [hR, hr]; rfl)
  rw [← hR]
  rw [← hr] at HV hle
  clear hR hr
  obtain ⟨v, ok, s1⟩ := r
  have hv : v ≤ 128 := by have : v ≤ m := hle; omega
  have T0 := hide (TS.start h)
  have HZ : Hid (z < w.heap.size) := hide h.lt
  have hnn := one_notnilP
  clear hle h
  go_enter Tryd.func49, Tryd.ntmps49
  go_wp2_with fail
  refine (HB.out _).mono ?_
  rintro e w' ⟨rfl, hw'⟩
  rw [hw']
  clear hw' w'
  rw [show ((m : Int)).toNat = m from rfl]
  go_wp2_with fail
  refine (HV.out _ T0.out.dec).mono ?_
  rintro e w1 ⟨rfl, h1, h2⟩
  have T1 : Hid (TS w w1 z sv bs s1) := hide (T0.out.call h1 h2)
  clear HV HB h1 h2 T0
  go_wp2_with fail
  go_loopw [7, 8] (fun l c wr => ∃ (k : Nat) (acc : List PartR) (s' : S) (va : Value), va = l ∧ c = .int .u64 k ∧ k + acc.length ≤ 128 ∧ (∀ p ∈ acc, okP p) ∧ wr.ownsRow w.heap.size 49 33 va acc.length (acc.map partC).flatten ∧ TS w wr z sv bs s' ∧ eachT (mPart bs) v s1 [] = eachT (mPart bs) k s' acc) (fun _ c _ => (intOf c).toNat)
  case atStart => exact ⟨v, [], s1, _, rfl, rfl, by simpa using hv, by simp, World.ownsRow_nil _ _ _ _, T1.out, rfl⟩
  case round =>
    obtain ⟨k, acc, s', va, hva, rfl, hk, hok, hown, hT, heq⟩ := hrel
    have HE := hide heq
    have HT := hide hT
    have HOk := hide hok
    have HOw := hide hown
    clear heq hT hok hown T1
    have HO := hide (fun w h => over_st w z sv bs s' h)
    by_cases hk0 : 0 < k
    · have hkn : ¬ k = 0 := by omega
      by_cases hc : s'.code = 0
      · have hdc : decide (s'.code ≠ 0) = false := by simp [hc]
        have HG := hide (eachT_more (mPart bs) k s' acc hc hk0)
        have HOn := hide (fun w h => takePart_st w z sv bs s' h)
        have HOkp : Hid (okP (mPart bs s').1) := hide (mKeyT_len bs s')
        clear hc
        obtain ⟨rr, hrr⟩ : ∃ r, r = mPart bs s' := ⟨_, rfl⟩
        rw [← hrr] at HG HOn HOkp
        clear hrr
        obtain ⟨p, s2⟩ := rr
        have CL : Hid ((partC p).length = 33) := hide (partC_len p HOkp.out)
        go_wp2_with fail
        refine (HO.out _ HT.out.dec).mono ?_
        rintro e w2 ⟨rfl, hw2⟩
        rw [hw2, hdc]
        clear hw2 w2
        go_wp2_with fail
        refine (HOn.out _ HT.out.dec).mono ?_
        rintro e w3 ⟨rfl, h1, h2⟩
        have T3 := hide (HT.out.call h1 h2)
        have HO3 : Hid (w3.ownsRow w.heap.size 49 33 va acc.length (acc.map partC).flatten) := hide (HOw.out.kept h2 (ownsRow_ne HOw.out HZ.out))
        have HO4 : Hid ((w3.alloc (.cells (partC p).toArray 49)).ownsRow w.heap.size 49 33 va acc.length (acc.map partC).flatten) := hide (ownsRow_belowK HO3.out (below_alloc w3 _))
        have T4 : Hid (TS w (w3.alloc (.cells (partC p).toArray 49)) z sv bs s2) := hide (T3.out.alloc _)
        have RW : Hid (RowR (w3.alloc (.cells (partC p).toArray 49)) (.slice (some ⟨w3.heap.size, 0, none⟩) 1 1) 33 [partC p]) := hide (row_oneN CL.out)
        have LK : Hid (acc.length + [partC p].length ≤ 9223372036854775807) := hide (by rw [List.length_singleton]; omega)
        have BK : Hid ((acc.length + [partC p].length) * 40 ≤ 140737488355328) := hide (by rw [List.length_singleton]; omega)
        have HSZ : Hid (w.heap.size ≤ (w3.alloc (.cells (partC p).toArray 49)).heap.size) := hide T4.out.g.size
        clear h1 h2
        subst hva
        go_wp2_with (first
          | ((with_reducible refine wpList_runW (.slice (some ⟨w3.heap.size, 0, none⟩) 1 1) (w3.alloc (.cells (partC p).toArray 49)) ?_ (run_bs1P (x := .tmp 31) p HOkp.out ?_ ?_) ?_); rfl; rfl; rfl)
          | ((with_reducible refine wpList_append_row elemP ?_ (.tmp 28) (.tmp 32) ?_ w.heap.size _ (.slice (some ⟨w3.heap.size, 0, none⟩) 1 1) acc.length (acc.map partC).flatten [partC p] ?_ HO4.out ?_ RW.out (by simp [CL.out]) (by simpa using partC_one p) LK.out BK.out HSZ.out ?_); rfl; rfl; rfl; rfl; intro v5 w5 O5 G5 E5))
        have T5 := T4.out.below (below_own (T4.out.g.size) HO4.out G5.out)
        refine ⟨⟨k - 1, acc ++ [p], s2, v5, rfl, by go_num, by rw [List.length_append, List.length_singleton]; omega, fun q hq => by
            rcases List.mem_append.1 hq with hq | hq
            · exact HOk.out q hq
            · rw [List.mem_singleton.1 hq]; exact HOkp.out, by rw [List.map_append, List.flatten_append, List.length_append]; exact O5.out, T5, by rw [HE.out, HG.out]⟩, by simp [intOf]; omega⟩
      · have hdc : decide (s'.code ≠ 0) = true := by simp [hc]
        have HC := hide hc
        clear hc
        have HE2 : Hid (R = ([], s')) := hide (by rw [HR.out, show eachT (mPart bs) (v, ok, s1).1 (v, ok, s1).2.2 [] = (acc, s') from HE.out.trans (eachT_stop _ _ _ _ HC.out), if_pos HC.out])
        go_wp2_with fail
        refine (HO.out _ HT.out.dec).mono ?_
        rintro e w2 ⟨rfl, hw2⟩
        rw [hw2, hdc]
        clear hw2 w2
        go_wp2_with fail
        refine (HO.out _ HT.out.dec).mono ?_
        rintro e w2 ⟨rfl, hw2⟩
        rw [hw2, hdc]
        clear hw2 w2
        go_wp2
        go_ret
        rw [HE2.out]
        exact ⟨⟨_, rfl, World.ownsRow_nil _ _ _ _⟩, HT.out.dec, HT.out.g⟩
    · obtain rfl : k = 0 := by omega
      have HE1 : Hid (eachT (mPart bs) v s1 [] = (acc, s')) := hide HE.out
      by_cases hc : s'.code = 0
      · have hdc : decide (s'.code ≠ 0) = false := by simp [hc]
        have HE2 : Hid (R = (acc, s')) := hide (by rw [HR.out, show eachT (mPart bs) (v, ok, s1).1 (v, ok, s1).2.2 [] = (acc, s') from HE1.out, if_neg (by simpa using hc)])
        clear hc HE
        subst hva
        go_wp2_with fail
        refine (HO.out _ HT.out.dec).mono ?_
        rintro e w2 ⟨rfl, hw2⟩
        rw [hw2, hdc]
        clear hw2 w2
        go_wp2
        go_ret
        rw [HE2.out]
        exact ⟨⟨_, rfl, HOw.out⟩, HT.out.dec, HT.out.g⟩
      · have hdc : decide (s'.code ≠ 0) = true := by simp [hc]
        have HE2 : Hid (R = ([], s')) := hide (by rw [HR.out, show eachT (mPart bs) (v, ok, s1).1 (v, ok, s1).2.2 [] = (acc, s') from HE1.out, if_pos hc])
        clear hc HE
        go_wp2_with fail
        refine (HO.out _ HT.out.dec).mono ?_
        rintro e w2 ⟨rfl, hw2⟩
        rw [hw2, hdc]
        clear hw2 w2
        go_wp2
        go_ret
        rw [HE2.out]
        exact ⟨⟨_, rfl, World.ownsRow_nil _ _ _ _⟩, HT.out.dec, HT.out.g⟩
theorem one_notnilI (w : World) : (binOp BinOp.eql 97 (.func (.func 53) #[] #[]) .nilFunc).run Tryd.prog w = .ok (.bool false) w := by kernel_rfl
set_option maxHeartbeats 4000000 in
theorem eachI_st (w : World) (z : Nat) (sv : Value) (bs : List UInt8) (s : S) (m : Nat) (hm : m ≤ 128) (h : DecSt w z sv bs s) : Calls Tryd.prog 52 #[.pointer (some ⟨z, 0, none⟩), .int .i64 m, .func (.func 53) #[] #[]] w (EachTC itemC 52 35 w z sv bs (mEachT (mItem bs) bs s m)) := by
  have HB := hide (fun w => bound_any w m (by omega) (by omega))
  have HV := hide (fun w h => var_st w z sv bs s m h)
  have hle := mNum_ok_le bs s m
  obtain ⟨r, hr⟩ : ∃ r, r = mNum bs s m := ⟨_, rfl⟩
  obtain ⟨R, hR⟩ : ∃ R, R = mEachT (mItem bs) bs s m := ⟨_, rfl⟩
  have HR : Hid (R = if (eachT (mItem bs) r.1 r.2.2 []).2.code ≠ 0 then ([], (eachT (mItem bs) r.1 r.2.2 []).2) else eachT (mItem bs) r.1 r.2.2 []) := hide (by rw [hR, hr]; rfl)
  rw [← hR]
  rw [← hr] at HV hle
  clear hR hr
  obtain ⟨v, ok, s1⟩ := r
  have hv : v ≤ 128 := by have : v ≤ m := hle; omega
  have T0 := hide (TS.start h)
  have HZ : Hid (z < w.heap.size) := hide h.lt
  have hnn := one_notnilI
  clear hle h
  go_enter Tryd.func52, Tryd.ntmps52
  go_wp2_with fail
  refine (HB.out _).mono ?_
  rintro e w' ⟨rfl, hw'⟩
  rw [hw']
  clear hw' w'
  rw [show ((m : Int)).toNat = m from rfl]
  go_wp2_with fail
  refine (HV.out _ T0.out.dec).mono ?_
  rintro e w1 ⟨rfl, h1, h2⟩
  have T1 : Hid (TS w w1 z sv bs s1) := hide (T0.out.call h1 h2)
  clear HV HB h1 h2 T0
  go_wp2_with fail
  go_loopw [7, 8] (fun l c wr => ∃ (k : Nat) (acc : List ItemR) (s' : S) (va : Value), va = l ∧ c = .int .u64 k ∧ k + acc.length ≤ 128 ∧ (∀ p ∈ acc, okI p) ∧ wr.ownsRow w.heap.size 52 35 va acc.length (acc.map itemC).flatten ∧ TS w wr z sv bs s' ∧ eachT (mItem bs) v s1 [] = eachT (mItem bs) k s' acc) (fun _ c _ => (intOf c).toNat)
  case atStart => exact ⟨v, [], s1, _, rfl, rfl, by simpa using hv, by simp, World.ownsRow_nil _ _ _ _, T1.out, rfl⟩
  case round =>
    obtain ⟨k, acc, s', va, hva, rfl, hk, hok, hown, hT, heq⟩ := hrel
    have HE := hide heq
    have HT := hide hT
    have HOk := hide hok
    have HOw := hide hown
    clear heq hT hok hown T1
    have HO := hide (fun w h => over_st w z sv bs s' h)
    by_cases hk0 : 0 < k
    · have hkn : ¬ k = 0 := by omega
      by_cases hc : s'.code = 0
      · have hdc : decide (s'.code ≠ 0) = false := by simp [hc]
        have HG := hide (eachT_more (mItem bs) k s' acc hc hk0)
        have HOn := hide (fun w h => takeItem_st w z sv bs s' h)
        have HOkp : Hid (okI (mItem bs s').1) := hide (mKeyT_len bs _)
        clear hc
        obtain ⟨rr, hrr⟩ : ∃ r, r = mItem bs s' := ⟨_, rfl⟩
        rw [← hrr] at HG HOn HOkp
        clear hrr
        obtain ⟨p, s2⟩ := rr
        have CL : Hid ((itemC p).length = 35) := hide (itemC_len p HOkp.out)
        go_wp2_with fail
        refine (HO.out _ HT.out.dec).mono ?_
        rintro e w2 ⟨rfl, hw2⟩
        rw [hw2, hdc]
        clear hw2 w2
        go_wp2_with fail
        refine (HOn.out _ HT.out.dec).mono ?_
        rintro e w3 ⟨rfl, h1, h2⟩
        have T3 := hide (HT.out.call h1 h2)
        have HO3 : Hid (w3.ownsRow w.heap.size 52 35 va acc.length (acc.map itemC).flatten) := hide (HOw.out.kept h2 (ownsRow_ne HOw.out HZ.out))
        have HO4 : Hid ((w3.alloc (.cells (itemC p).toArray 52)).ownsRow w.heap.size 52 35 va acc.length (acc.map itemC).flatten) := hide (ownsRow_belowK HO3.out (below_alloc w3 _))
        have T4 : Hid (TS w (w3.alloc (.cells (itemC p).toArray 52)) z sv bs s2) := hide (T3.out.alloc _)
        have RW : Hid (RowR (w3.alloc (.cells (itemC p).toArray 52)) (.slice (some ⟨w3.heap.size, 0, none⟩) 1 1) 35 [itemC p]) := hide (row_oneN CL.out)
        have LK : Hid (acc.length + [itemC p].length ≤ 9223372036854775807) := hide (by rw [List.length_singleton]; omega)
        have BK : Hid ((acc.length + [itemC p].length) * 64 ≤ 140737488355328) := hide (by rw [List.length_singleton]; omega)
        have HSZ : Hid (w.heap.size ≤ (w3.alloc (.cells (itemC p).toArray 52)).heap.size) := hide T4.out.g.size
        clear h1 h2
        subst hva
        go_wp2_with (first
          | ((with_reducible refine wpList_runW (.slice (some ⟨w3.heap.size, 0, none⟩) 1 1) (w3.alloc (.cells (itemC p).toArray 52)) ?_ (run_bs1I (x := .tmp 31) p HOkp.out ?_ ?_) ?_); rfl; rfl; rfl)
          | ((with_reducible refine wpList_append_row elemI ?_ (.tmp 28) (.tmp 32) ?_ w.heap.size _ (.slice (some ⟨w3.heap.size, 0, none⟩) 1 1) acc.length (acc.map itemC).flatten [itemC p] ?_ HO4.out ?_ RW.out (by simp [CL.out]) (by simpa using itemC_one p) LK.out BK.out HSZ.out ?_); rfl; rfl; rfl; rfl; intro v5 w5 O5 G5 E5))
        have T5 := T4.out.below (below_own (T4.out.g.size) HO4.out G5.out)
        refine ⟨⟨k - 1, acc ++ [p], s2, v5, rfl, by go_num, by rw [List.length_append, List.length_singleton]; omega, fun q hq => by
            rcases List.mem_append.1 hq with hq | hq
            · exact HOk.out q hq
            · rw [List.mem_singleton.1 hq]; exact HOkp.out, by rw [List.map_append, List.flatten_append, List.length_append]; exact O5.out, T5, by rw [HE.out, HG.out]⟩, by simp [intOf]; omega⟩
      · have hdc : decide (s'.code ≠ 0) = true := by simp [hc]
        have HC := hide hc
        clear hc
        have HE2 : Hid (R = ([], s')) := hide (by rw [HR.out, show eachT (mItem bs) (v, ok, s1).1 (v, ok, s1).2.2 [] = (acc, s') from HE.out.trans (eachT_stop _ _ _ _ HC.out), if_pos HC.out])
        go_wp2_with fail
        refine (HO.out _ HT.out.dec).mono ?_
        rintro e w2 ⟨rfl, hw2⟩
        rw [hw2, hdc]
        clear hw2 w2
        go_wp2_with fail
        refine (HO.out _ HT.out.dec).mono ?_
        rintro e w2 ⟨rfl, hw2⟩
        rw [hw2, hdc]
        clear hw2 w2
        go_wp2
        go_ret
        rw [HE2.out]
        exact ⟨⟨_, rfl, World.ownsRow_nil _ _ _ _⟩, HT.out.dec, HT.out.g⟩
    · obtain rfl : k = 0 := by omega
      have HE1 : Hid (eachT (mItem bs) v s1 [] = (acc, s')) := hide HE.out
      by_cases hc : s'.code = 0
      · have hdc : decide (s'.code ≠ 0) = false := by simp [hc]
        have HE2 : Hid (R = (acc, s')) := hide (by rw [HR.out, show eachT (mItem bs) (v, ok, s1).1 (v, ok, s1).2.2 [] = (acc, s') from HE1.out, if_neg (by simpa using hc)])
        clear hc HE
        subst hva
        go_wp2_with fail
        refine (HO.out _ HT.out.dec).mono ?_
        rintro e w2 ⟨rfl, hw2⟩
        rw [hw2, hdc]
        clear hw2 w2
        go_wp2
        go_ret
        rw [HE2.out]
        exact ⟨⟨_, rfl, HOw.out⟩, HT.out.dec, HT.out.g⟩
      · have hdc : decide (s'.code ≠ 0) = true := by simp [hc]
        have HE2 : Hid (R = ([], s')) := hide (by rw [HR.out, show eachT (mItem bs) (v, ok, s1).1 (v, ok, s1).2.2 [] = (acc, s') from HE1.out, if_pos hc])
        clear hc HE
        go_wp2_with fail
        refine (HO.out _ HT.out.dec).mono ?_
        rintro e w2 ⟨rfl, hw2⟩
        rw [hw2, hdc]
        clear hw2 w2
        go_wp2
        go_ret
        rw [HE2.out]
        exact ⟨⟨_, rfl, World.ownsRow_nil _ _ _ _⟩, HT.out.dec, HT.out.g⟩
theorem one_notnilK (w : World) : (binOp BinOp.eql 100 (.func (.func 55) #[] #[]) .nilFunc).run Tryd.prog w = .ok (.bool false) w := by kernel_rfl
set_option maxHeartbeats 4000000 in
theorem eachK_st (w : World) (z : Nat) (sv : Value) (bs : List UInt8) (s : S) (m : Nat) (hm : m ≤ 128) (h : DecSt w z sv bs s) : Calls Tryd.prog 56 #[.pointer (some ⟨z, 0, none⟩), .int .i64 m, .func (.func 55) #[] #[]] w (EachTC keyC 27 32 w z sv bs (mEachT (mKeyT bs) bs s m)) := by
  have HB := hide (fun w => bound_any w m (by omega) (by omega))
  have HV := hide (fun w h => var_st w z sv bs s m h)
  have hle := mNum_ok_le bs s m
  obtain ⟨r, hr⟩ : ∃ r, r = mNum bs s m := ⟨_, rfl⟩
  obtain ⟨R, hR⟩ : ∃ R, R = mEachT (mKeyT bs) bs s m := ⟨_, rfl⟩
  have HR : Hid (R = if (eachT (mKeyT bs) r.1 r.2.2 []).2.code ≠ 0 then ([], (eachT (mKeyT bs) r.1 r.2.2 []).2) else eachT (mKeyT bs) r.1 r.2.2 []) := hide (by rw [hR, hr]; rfl)
  rw [← hR]
  rw [← hr] at HV hle
  clear hR hr
  obtain ⟨v, ok, s1⟩ := r
  have hv : v ≤ 128 := by have : v ≤ m := hle; omega
  have T0 := hide (TS.start h)
  have HZ : Hid (z < w.heap.size) := hide h.lt
  have hnn := one_notnilK
  clear hle h
  go_enter Tryd.func56, Tryd.ntmps56
  go_wp2_with fail
  refine (HB.out _).mono ?_
  rintro e w' ⟨rfl, hw'⟩
  rw [hw']
  clear hw' w'
  rw [show ((m : Int)).toNat = m from rfl]
  go_wp2_with fail
  refine (HV.out _ T0.out.dec).mono ?_
  rintro e w1 ⟨rfl, h1, h2⟩
  have T1 : Hid (TS w w1 z sv bs s1) := hide (T0.out.call h1 h2)
  clear HV HB h1 h2 T0
  go_wp2_with fail
  go_loopw [7, 8] (fun l c wr => ∃ (k : Nat) (acc : List (List UInt8)) (s' : S) (va : Value), va = l ∧ c = .int .u64 k ∧ k + acc.length ≤ 128 ∧ (∀ p ∈ acc, okK p) ∧ wr.ownsRow w.heap.size 27 32 va acc.length (acc.map keyC).flatten ∧ TS w wr z sv bs s' ∧ eachT (mKeyT bs) v s1 [] = eachT (mKeyT bs) k s' acc) (fun _ c _ => (intOf c).toNat)
  case atStart => exact ⟨v, [], s1, _, rfl, rfl, by simpa using hv, by simp, World.ownsRow_nil _ _ _ _, T1.out, rfl⟩
  case round =>
    obtain ⟨k, acc, s', va, hva, rfl, hk, hok, hown, hT, heq⟩ := hrel
    have HE := hide heq
    have HT := hide hT
    have HOk := hide hok
    have HOw := hide hown
    clear heq hT hok hown T1
    have HO := hide (fun w h => over_st w z sv bs s' h)
    by_cases hk0 : 0 < k
    · have hkn : ¬ k = 0 := by omega
      by_cases hc : s'.code = 0
      · have hdc : decide (s'.code ≠ 0) = false := by simp [hc]
        have HG := hide (eachT_more (mKeyT bs) k s' acc hc hk0)
        have HOn := hide (fun w h => keyT_st w z sv bs s' h)
        have HOkp : Hid (okK (mKeyT bs s').1) := hide (mKeyT_len bs s')
        clear hc
        obtain ⟨rr, hrr⟩ : ∃ r, r = mKeyT bs s' := ⟨_, rfl⟩
        rw [← hrr] at HG HOn HOkp
        clear hrr
        obtain ⟨p, s2⟩ := rr
        have CL : Hid ((keyC p).length = 32) := hide (keyC_len p HOkp.out)
        go_wp2_with fail
        refine (HO.out _ HT.out.dec).mono ?_
        rintro e w2 ⟨rfl, hw2⟩
        rw [hw2, hdc]
        clear hw2 w2
        go_wp2_with fail
        refine (HOn.out _ HT.out.dec).mono ?_
        rintro e w3 ⟨rfl, h1, h2⟩
        have T3 := hide (HT.out.call h1 h2)
        have HO3 : Hid (w3.ownsRow w.heap.size 27 32 va acc.length (acc.map keyC).flatten) := hide (HOw.out.kept h2 (ownsRow_ne HOw.out HZ.out))
        have HO4 : Hid ((w3.alloc (.cells (keyC p).toArray 27)).ownsRow w.heap.size 27 32 va acc.length (acc.map keyC).flatten) := hide (ownsRow_belowK HO3.out (below_alloc w3 _))
        have T4 : Hid (TS w (w3.alloc (.cells (keyC p).toArray 27)) z sv bs s2) := hide (T3.out.alloc _)
        have RW : Hid (RowR (w3.alloc (.cells (keyC p).toArray 27)) (.slice (some ⟨w3.heap.size, 0, none⟩) 1 1) 32 [keyC p]) := hide (row_oneN CL.out)
        have LK : Hid (acc.length + [keyC p].length ≤ 9223372036854775807) := hide (by rw [List.length_singleton]; omega)
        have BK : Hid ((acc.length + [keyC p].length) * 32 ≤ 140737488355328) := hide (by rw [List.length_singleton]; omega)
        have HSZ : Hid (w.heap.size ≤ (w3.alloc (.cells (keyC p).toArray 27)).heap.size) := hide T4.out.g.size
        clear h1 h2
        subst hva
        go_wp2_with (first
          | ((with_reducible refine wpList_runW (.slice (some ⟨w3.heap.size, 0, none⟩) 1 1) (w3.alloc (.cells (keyC p).toArray 27)) ?_ (run_bs1K (x := .tmp 31) p HOkp.out ?_ ?_) ?_); rfl; rfl; rfl)
          | ((with_reducible refine wpList_append_row elemK ?_ (.tmp 28) (.tmp 32) ?_ w.heap.size _ (.slice (some ⟨w3.heap.size, 0, none⟩) 1 1) acc.length (acc.map keyC).flatten [keyC p] ?_ HO4.out ?_ RW.out (by simp [CL.out]) (by simpa using keyC_one p) LK.out BK.out HSZ.out ?_); rfl; rfl; rfl; rfl; intro v5 w5 O5 G5 E5))
        have T5 := T4.out.below (below_own (T4.out.g.size) HO4.out G5.out)
        refine ⟨⟨k - 1, acc ++ [p], s2, v5, rfl, by go_num, by rw [List.length_append, List.length_singleton]; omega, fun q hq => by
            rcases List.mem_append.1 hq with hq | hq
            · exact HOk.out q hq
            · rw [List.mem_singleton.1 hq]; exact HOkp.out, by rw [List.map_append, List.flatten_append, List.length_append]; exact O5.out, T5, by rw [HE.out, HG.out]⟩, by simp [intOf]; omega⟩
      · have hdc : decide (s'.code ≠ 0) = true := by simp [hc]
        have HC := hide hc
        clear hc
        have HE2 : Hid (R = ([], s')) := hide (by rw [HR.out, show eachT (mKeyT bs) (v, ok, s1).1 (v, ok, s1).2.2 [] = (acc, s') from HE.out.trans (eachT_stop _ _ _ _ HC.out), if_pos HC.out])
        go_wp2_with fail
        refine (HO.out _ HT.out.dec).mono ?_
        rintro e w2 ⟨rfl, hw2⟩
        rw [hw2, hdc]
        clear hw2 w2
        go_wp2_with fail
        refine (HO.out _ HT.out.dec).mono ?_
        rintro e w2 ⟨rfl, hw2⟩
        rw [hw2, hdc]
        clear hw2 w2
        go_wp2
        go_ret
        rw [HE2.out]
        exact ⟨⟨_, rfl, World.ownsRow_nil _ _ _ _⟩, HT.out.dec, HT.out.g⟩
    · obtain rfl : k = 0 := by omega
      have HE1 : Hid (eachT (mKeyT bs) v s1 [] = (acc, s')) := hide HE.out
      by_cases hc : s'.code = 0
      · have hdc : decide (s'.code ≠ 0) = false := by simp [hc]
        have HE2 : Hid (R = (acc, s')) := hide (by rw [HR.out, show eachT (mKeyT bs) (v, ok, s1).1 (v, ok, s1).2.2 [] = (acc, s') from HE1.out, if_neg (by simpa using hc)])
        clear hc HE
        subst hva
        go_wp2_with fail
        refine (HO.out _ HT.out.dec).mono ?_
        rintro e w2 ⟨rfl, hw2⟩
        rw [hw2, hdc]
        clear hw2 w2
        go_wp2
        go_ret
        rw [HE2.out]
        exact ⟨⟨_, rfl, HOw.out⟩, HT.out.dec, HT.out.g⟩
      · have hdc : decide (s'.code ≠ 0) = true := by simp [hc]
        have HE2 : Hid (R = ([], s')) := hide (by rw [HR.out, show eachT (mKeyT bs) (v, ok, s1).1 (v, ok, s1).2.2 [] = (acc, s') from HE1.out, if_pos hc])
        clear hc HE
        go_wp2_with fail
        refine (HO.out _ HT.out.dec).mono ?_
        rintro e w2 ⟨rfl, hw2⟩
        rw [hw2, hdc]
        clear hw2 w2
        go_wp2
        go_ret
        rw [HE2.out]
        exact ⟨⟨_, rfl, World.ownsRow_nil _ _ _ _⟩, HT.out.dec, HT.out.g⟩
end Go.Proofs.YtjcfndiceinkjabDoor

/- The takers of each kind's fields. -/
namespace Go.Proofs.YtjcfndiceinkjabDoor
set_option linter.unusedVariables false
set_option linter.unusedSimpArgs false
set_option maxRecDepth 100000
open Go.RowKit

/-- An object whose lists lie in memory of their own. -/
structure ObjOwn (N : Nat) (w : World) (o : ObjR) (v : ObjV) : Prop where
  ok : ObjOk o
  d : w.ownsRow N 5 1 v.d o.data.length (o.data.map u8c)
  p : w.ownsRow N 49 33 v.p o.parts.length (o.parts.map partC).flatten
  i : w.ownsRow N 52 35 v.i o.items.length (o.items.map itemC).flatten
  k : w.ownsRow N 27 32 v.k o.parents.length (o.parents.map keyC).flatten
theorem own_rowR {w : World} {N : Nat} {e : TypeId} {k : Nat} {v : Value} {L : List (List Value)} (hk : ∀ c ∈ L, c.length = k) (hl : L.length ≤ 9223372036854775807) (h : w.ownsRow N e k v L.length L.flatten) : RowR w v k L := by
  obtain ⟨h0, ⟨rfl, hn⟩ | ⟨g, cap, cur, rfl, hb, hB, hc, hm, hs, ht⟩⟩ := h
  · have : L = [] := List.eq_nil_of_length_eq_zero hn
    subst this
    exact ⟨none, 0, rfl, by simp, fun _ => rfl, .inl rfl⟩
  · refine ⟨_, cap, rfl, hl, (fun e => nomatch e), .inr ⟨g, 0, rfl, rangeAt_each k L 0 hk ?_⟩⟩
    intro j q hj
    have hB' : Blk w g cur e := hB
    rw [Nat.zero_add, hB'.cell]
    have hlt : j < L.flatten.length := (List.getElem?_eq_some_iff.1 hj).1
    rw [← hj, ← ht, List.getElem?_take_of_lt (by rw [flat_len k L hk] at hlt; exact hlt), Array.getElem?_toList]
theorem ObjOwn.rd {N : Nat} {w : World} {o : ObjR} {v : ObjV} (h : ObjOwn N w o v) (hp : o.parts.length ≤ 128) (hi : o.items.length ≤ 128) (hk : o.parents.length ≤ 128) : ObjRd w o v :=
  ⟨h.ok, .inl (Rd_owned h.d), own_rowR (partsC_len o h.ok) (by rw [List.length_map]; omega) (by rw [List.length_map]; exact h.p), own_rowR (itemsC_len o h.ok) (by rw [List.length_map]; omega) (by rw [List.length_map]; exact h.i), own_rowR (keysC_len o h.ok) (by rw [List.length_map]; omega) (by rw [List.length_map]; exact h.k)⟩
/-- What has changed: two blocks, and new memory. -/
structure Ch2 (w W : World) (a b : Nat) : Prop where
  os : W.os = w.os
  tape : W.tape = w.tape
  output : W.output = w.output
  size : w.heap.size ≤ W.heap.size
  block : ∀ k, k < w.heap.size → k ≠ a → k ≠ b → W.heap[k]? = w.heap[k]?
theorem Ch2.refl (w : World) (a b : Nat) : Ch2 w w a b := ⟨rfl, rfl, rfl, Nat.le_refl _, fun _ _ _ _ => rfl⟩
theorem Ch2.grown {w W W' : World} {a b : Nat} {row : Option Nat} (h : Ch2 w W a b) (hg : W.grownBy W' row) (hr : ∀ k, row = some k → k = a ∨ k = b ∨ w.heap.size ≤ k) : Ch2 w W' a b :=
  ⟨hg.os.trans h.os, hg.tape.trans h.tape, hg.output.trans h.output, Nat.le_trans h.size hg.size, fun k hk h1 h2 => (hg.block k (Nat.lt_of_lt_of_le hk h.size) (fun e => by rcases hr k e.symm with e | e | e <;> omega)).trans (h.block k hk h1 h2)⟩
/-- A Dec and an object that is filled by it. -/
structure DS (w W : World) (z : Nat) (sv : Value) (bs : List UInt8) (s : S) (zo : Nat) (o : ObjR) (v : ObjV) : Prop where
  zl : z < w.heap.size
  zol : zo < w.heap.size
  blk : ∀ b, sv = .slice (some ⟨b, 0, none⟩) bs.length bs.length → b < w.heap.size
  ne : zo ≠ z
  nes : ∀ b, sv = .slice (some ⟨b, 0, none⟩) bs.length bs.length → b ≠ zo
  dec : DecSt W z sv bs s
  obj : ObjAt W zo o v
  own : ObjOwn w.heap.size W o v
  ch : Ch2 w W z zo
theorem owns_apart {N : Nat} {W : World} {e : TypeId} {k n : Nat} {x : Value} {ys : List Value} {row : Option Nat} (ho : W.ownsRow N e k x n ys) (hr : ∀ q, row = some q → q < N) : x.ownBlock = none ∨ x.ownBlock ≠ row := by
  cases hx : x.ownBlock with
  | none => exact .inl rfl
  | some q =>
    right
    intro e
    have := (ho.lt q hx).1
    have := hr q e.symm
    omega
theorem ObjOwn.kept {N : Nat} {W W' : World} {o : ObjR} {v : ObjV} {row : Option Nat} (h : ObjOwn N W o v) (hg : W.grownBy W' row) (hr : ∀ k, row = some k → k < N) : ObjOwn N W' o v :=
  ⟨h.ok, h.d.kept hg (owns_apart h.d hr), h.p.kept hg (owns_apart h.p hr), h.i.kept hg (owns_apart h.i hr), h.k.kept hg (owns_apart h.k hr)⟩
theorem DS.take {w W W' : World} {z : Nat} {sv : Value} {bs : List UInt8} {s s' : S} {zo : Nat} {o : ObjR} {v : ObjV} (h : DS w W z sv bs s zo o v) (h1 : DecSt W' z sv bs s') (h2 : W.grownBy W' (some z)) : DS w W' z sv bs s' zo o v :=
  ⟨h.zl, h.zol, h.blk, h.ne, h.nes, h1, Blk.grown h.obj h2 (fun e => h.ne (Option.some.inj e)), h.own.kept h2 (fun k e => by cases e; exact h.zl), h.ch.grown h2 (fun k e => by cases e; exact .inl rfl)⟩
theorem DS.drewN {w W : World} {z : Nat} {sv : Value} {bs : List UInt8} {s : S} {zo : Nat} {o : ObjR} {v : ObjV} (h : DS w W z sv bs s zo o v) (m : Nat) : DS w (W.drewN m) z sv bs s zo o v :=
  h.take (h.dec.drewN m) (grownBy_drewN W m _)
/-- A field is stored. -/
theorem DS.put {w W : World} {z : Nat} {sv : Value} {bs : List UInt8} {s : S} {zo : Nat} {o o' : ObjR} {v v' : ObjV} (h : DS w W z sv bs s zo o v) (W' : World) (hg : W.grownBy W' (some zo)) (hobj : ObjAt W' zo o' v') (hown : ObjOwn w.heap.size W' o' v') : DS w W' z sv bs s zo o' v' :=
  ⟨h.zl, h.zol, h.blk, h.ne, h.nes, h.dec.grown hg (fun e => h.ne (Option.some.inj e).symm) (fun b e1 e => h.nes b e1 (Option.some.inj e)), hobj, hown, h.ch.grown hg (fun k e => by cases e; exact .inr (.inl rfl))⟩
set_option maxHeartbeats 4000000 in
theorem objL_setNoteL (o : ObjR) (v : ObjV) (ht : okK o.tree) (l : List UInt8) : (objL o v).toArray.setIfInBounds 38 (.string ⟨l.toArray⟩) = (objL { o with note := l } v).toArray := by
  obtain ⟨kd, d, p, i, t, ps, tm, nt⟩ := o
  obtain ⟨b0, b1, b2, b3, b4, b5, b6, b7, b8, b9, b10, b11, b12, b13, b14, b15, b16, b17, b18, b19, b20, b21, b22, b23, b24, b25, b26, b27, b28, b29, b30, b31, rfl⟩ := list32 t ht
  rfl
theorem ownsRow_baseK {w : World} {base base' n k : Nat} {v : Value} {xs : List Value} {e : TypeId} (h : w.ownsRow base e k v n xs) (hb : base' ≤ base) : w.ownsRow base' e k v n xs := by
  obtain ⟨h0, h1 | ⟨g, cap, cur, e1, hg, hr⟩⟩ := h
  · exact ⟨h0, .inl h1⟩
  · exact ⟨h0, .inr ⟨g, cap, cur, e1, Nat.le_trans hb hg, hr⟩⟩
def TkC (w : World) (z : Nat) (sv : Value) (bs : List UInt8) (zo : Nat) (r : ObjR × S) (e : Ending) (w' : World) : Prop := e = .returned (.tuple #[]) ∧ ∃ v', DS w w' z sv bs r.2 zo r.1 v'
def kindO (k : Nat) : ObjR := { zeroO with kind := k }
def mBlob (bs : List UInt8) (s : S) : ObjR × S := ({ kindO 1 with data := (mNext bs s (mPlace s) (mLeft bs s)).1.getD [] }, (mNext bs s (mPlace s) (mLeft bs s)).2)
def mList (bs : List UInt8) (s : S) : ObjR × S := ({ kindO 2 with parts := (mEachT (mPart bs) bs s 128).1 }, (mEachT (mPart bs) bs s 128).2)
def mTree (bs : List UInt8) (s : S) : ObjR × S := ({ kindO 3 with items := (mEachT (mItem bs) bs s 128).1 }, (mEachT (mItem bs) bs s 128).2)
def mI64 (bs : List UInt8) (s : S) : Int × S := (IntKind.i64.wrap (leNat ((mNext bs s (mPlace s) 8).1.getD []) : Nat), (mNext bs s (mPlace s) 8).2)
def mSnap (bs : List UInt8) (s : S) : ObjR × S :=
  let t := mKeyT bs s
  let k := mEachT (mKeyT bs) bs t.2 127
  let m := mI64 bs k.2
  let n := mText bs m.2 1024
  ({ kindO 4 with tree := t.1, parents := k.1, time := m.1, note := n.1 }, n.2)
theorem kindO_own (N : Nat) (w : World) (k : Nat) : ObjOwn N w (kindO k) nilV := ⟨⟨rfl, by simp [kindO, zeroO], by simp [kindO, zeroO], by simp [kindO, zeroO]⟩, World.ownsRow_nil _ _ _ _, World.ownsRow_nil _ _ _ _, World.ownsRow_nil _ _ _ _, World.ownsRow_nil _ _ _ _⟩
theorem own_form {w : World} {base n k : Nat} {v : Value} {ys : List Value} {e : TypeId} (h : w.ownsRow base e k v n ys) : ∃ ao c, v = .slice ao n c := by
  obtain ⟨h0, ⟨rfl, hn⟩ | ⟨g, cap, cur, rfl, _⟩⟩ := h
  · exact ⟨none, 0, by rw [hn]⟩
  · exact ⟨_, _, rfl⟩
theorem eachT_ok {α : Type} (T : S → α × S) (P : α → Prop) (hT : ∀ s, P (T s).1) : ∀ (n : Nat) (s : S) (acc : List α), (∀ p ∈ acc, P p) → ∀ p ∈ (eachT T n s acc).1, P p
  | 0, s, acc, h => h
  | n + 1, s, acc, h => by
    rw [eachT]
    split
    · exact h
    · exact eachT_ok T P hT n _ _ (fun p hp => by
        rcases List.mem_append.1 hp with hp | hp
        · exact h p hp
        · rw [List.mem_singleton.1 hp]; exact hT s)
theorem mEachT_ok {α : Type} (T : S → α × S) (P : α → Prop) (hT : ∀ s, P (T s).1) (bs : List UInt8) (s : S) (m : Nat) : ∀ p ∈ (mEachT T bs s m).1, P p := by
  unfold mEachT
  split
  · simp
  · exact eachT_ok T P hT _ _ _ (by simp)
theorem mEachT_len {α : Type} (T : S → α × S) (bs : List UInt8) (s : S) (m : Nat) : (mEachT T bs s m).1.length ≤ m := by
  unfold mEachT
  split
  · simp
  · have := eachT_len T (mNum bs s m).1 (mNum bs s m).2.2 []
    have := mNum_ok_le bs s m
    simp at *
    omega
set_option maxHeartbeats 2000000 in
theorem taker1_st (w : World) (z : Nat) (sv : Value) (bs : List UInt8) (s : S) (zo : Nat) (h : DS w w z sv bs s zo (kindO 1) nilV) (hl : bs.length ≤ 8192) : Calls Tryd.prog 45 #[.pointer (some ⟨z, 0, none⟩), .pointer (some ⟨zo, 0, none⟩)] w (TkC w z sv bs zo (mBlob bs s)) := by
  have HD := hide h
  have hml : mLeft bs s ≤ bs.length := by unfold mLeft; split <;> omega
  have HR : Hid (mBlob bs s = ({ kindO 1 with data := (mNext bs s (mPlace s) (mLeft bs s)).1.getD [] }, (mNext bs s (mPlace s) (mLeft bs s)).2)) := hide rfl
  have HL := hide (left_st w z sv bs s h.dec)
  obtain ⟨n, hn⟩ : ∃ n, n = mLeft bs s := ⟨_, rfl⟩
  rw [← hn] at HR HL hml
  clear h hn
  go_enter Tryd.func45, Tryd.ntmps45
  go_wp2_with fail
  refine HL.out.mono ?_
  rintro e w1 ⟨rfl, m, hw1⟩
  have D1 : Hid (DS w w1 z sv bs s zo (kindO 1) nilV) := hide (by rw [hw1]; exact HD.out.drewN m)
  clear hw1 HL HD
  go_wp2_with fail
  refine (raw_st w1 z sv bs s n (by omega) (by omega) D1.out.dec (by omega)).mono ?_
  rintro e w2 ⟨⟨x, rfl, o2⟩, h1, h2⟩
  rw [show ((n : Int)).toNat = n from rfl] at o2 h1
  obtain ⟨r, hr⟩ : ∃ r, r = mNext bs s (mPlace s) n := ⟨_, rfl⟩
  rw [← hr] at o2 h1 HR
  clear hr
  have D2 := hide (D1.out.take h1 h2)
  have O2 : Hid (w2.ownsRow w.heap.size 5 1 x (r.1.getD []).length ((r.1.getD []).map u8c)) := hide (own_baseB o2 D1.out.ch.size)
  obtain ⟨ax, cx, rfl⟩ := own_form o2
  have c1 := D2.out.obj.cD
  have f1 : w2.frozen? ⟨zo, 1, none⟩ = false := Blk.frozen D2.out.obj 1
  clear h1 h2 o2 D1
  have hv : (nilV).d = .slice none 0 0 := rfl
  rw [hv] at c1
  clear hv
  go_wp2
  go_returns
  refine ⟨rfl, ⟨.slice ax (r.1.getD []).length cx, .slice none 0 0, .slice none 0 0, .slice none 0 0⟩, ?_⟩
  rw [HR.out]
  have hg := grownBy_set w2 zo 1 (.slice ax (r.1.getD []).length cx)
  have hz : ∀ k, some zo = some k → k < w.heap.size := fun k e => by cases e; exact D2.out.zol
  refine D2.out.put _ hg ?_ ?_
  · have hA : Blk w2 zo (objL (kindO 1) nilV).toArray 30 := D2.out.obj
    have := hA.set 1 (.slice ax (r.1.getD []).length cx)
    rw [objL_setD] at this
    exact this
  · have hk := D2.out.own.kept hg hz
    exact ⟨⟨hk.ok.t, hk.ok.p, hk.ok.i, hk.ok.k⟩, O2.out.kept hg (owns_apart O2.out hz), hk.p, hk.i, hk.k⟩
set_option maxHeartbeats 2000000 in
theorem taker2_st (w : World) (z : Nat) (sv : Value) (bs : List UInt8) (s : S) (zo : Nat) (h : DS w w z sv bs s zo (kindO 2) nilV) : Calls Tryd.prog 48 #[.pointer (some ⟨z, 0, none⟩), .pointer (some ⟨zo, 0, none⟩)] w (TkC w z sv bs zo (mList bs s)) := by
  have HD := hide h
  have HR : Hid (mList bs s = ({ kindO 2 with parts := (mEachT (mPart bs) bs s 128).1 }, (mEachT (mPart bs) bs s 128).2)) := hide rfl
  have HOk : Hid (∀ p ∈ (mEachT (mPart bs) bs s 128).1, okP p) := hide (mEachT_ok _ _ (fun s => mKeyT_len bs _) bs s 128)
  clear h
  go_enter Tryd.func48, Tryd.ntmps48
  go_wp2_with fail
  refine (eachP_st w z sv bs s 128 (by omega) HD.out.dec).mono ?_
  rintro e w2 ⟨⟨x, rfl, o2⟩, h1, h2⟩
  obtain ⟨r, hr⟩ : ∃ r, r = mEachT (mPart bs) bs s 128 := ⟨_, rfl⟩
  rw [← hr] at o2 h1 HR HOk
  clear hr
  have D2 := hide (HD.out.take h1 h2)
  have O2 := hide o2
  obtain ⟨ax, cx, rfl⟩ := own_form o2
  have c1 := D2.out.obj.cP
  have f1 : w2.frozen? ⟨zo, 2, none⟩ = false := Blk.frozen D2.out.obj 2
  clear h1 h2 o2 HD
  have hv : (nilV).p = .slice none 0 0 := rfl
  rw [hv] at c1
  clear hv
  go_wp2
  go_returns
  refine ⟨rfl, ⟨.slice none 0 0, .slice ax r.1.length cx, .slice none 0 0, .slice none 0 0⟩, ?_⟩
  rw [HR.out]
  have hg := grownBy_set w2 zo 2 (.slice ax r.1.length cx)
  have hz : ∀ k, some zo = some k → k < w.heap.size := fun k e => by cases e; exact D2.out.zol
  refine D2.out.put _ hg ?_ ?_
  · have hA : Blk w2 zo (objL (kindO 2) nilV).toArray 30 := D2.out.obj
    have := hA.set 2 (.slice ax r.1.length cx)
    rw [objL_setP] at this
    exact this
  · have hk := D2.out.own.kept hg hz
    exact ⟨⟨hk.ok.t, HOk.out, hk.ok.i, hk.ok.k⟩, hk.d, O2.out.kept hg (owns_apart O2.out hz), hk.i, hk.k⟩
set_option maxHeartbeats 2000000 in
theorem taker3_st (w : World) (z : Nat) (sv : Value) (bs : List UInt8) (s : S) (zo : Nat) (h : DS w w z sv bs s zo (kindO 3) nilV) : Calls Tryd.prog 51 #[.pointer (some ⟨z, 0, none⟩), .pointer (some ⟨zo, 0, none⟩)] w (TkC w z sv bs zo (mTree bs s)) := by
  have HD := hide h
  have HR : Hid (mTree bs s = ({ kindO 3 with items := (mEachT (mItem bs) bs s 128).1 }, (mEachT (mItem bs) bs s 128).2)) := hide rfl
  have HOk : Hid (∀ p ∈ (mEachT (mItem bs) bs s 128).1, okI p) := hide (mEachT_ok _ _ (fun s => mKeyT_len bs _) bs s 128)
  clear h
  go_enter Tryd.func51, Tryd.ntmps51
  go_wp2_with fail
  refine (eachI_st w z sv bs s 128 (by omega) HD.out.dec).mono ?_
  rintro e w2 ⟨⟨x, rfl, o2⟩, h1, h2⟩
  obtain ⟨r, hr⟩ : ∃ r, r = mEachT (mItem bs) bs s 128 := ⟨_, rfl⟩
  rw [← hr] at o2 h1 HR HOk
  clear hr
  have D2 := hide (HD.out.take h1 h2)
  have O2 := hide o2
  obtain ⟨ax, cx, rfl⟩ := own_form o2
  have c1 := D2.out.obj.cI
  have f1 : w2.frozen? ⟨zo, 3, none⟩ = false := Blk.frozen D2.out.obj 3
  clear h1 h2 o2 HD
  have hv : (nilV).i = .slice none 0 0 := rfl
  rw [hv] at c1
  clear hv
  go_wp2
  go_returns
  refine ⟨rfl, ⟨.slice none 0 0, .slice none 0 0, .slice ax r.1.length cx, .slice none 0 0⟩, ?_⟩
  rw [HR.out]
  have hg := grownBy_set w2 zo 3 (.slice ax r.1.length cx)
  have hz : ∀ k, some zo = some k → k < w.heap.size := fun k e => by cases e; exact D2.out.zol
  refine D2.out.put _ hg ?_ ?_
  · have hA : Blk w2 zo (objL (kindO 3) nilV).toArray 30 := D2.out.obj
    have := hA.set 3 (.slice ax r.1.length cx)
    rw [objL_setI] at this
    exact this
  · have hk := D2.out.own.kept hg hz
    exact ⟨⟨hk.ok.t, hk.ok.p, HOk.out, hk.ok.k⟩, hk.d, hk.p, O2.out.kept hg (owns_apart O2.out hz), hk.k⟩
set_option maxHeartbeats 4000000 in
theorem taker4_st (w : World) (z : Nat) (sv : Value) (bs : List UInt8) (s : S) (zo : Nat) (h : DS w w z sv bs s zo (kindO 4) nilV) : Calls Tryd.prog 54 #[.pointer (some ⟨z, 0, none⟩), .pointer (some ⟨zo, 0, none⟩)] w (TkC w z sv bs zo (mSnap bs s)) := by
  have HD := hide h
  have HZO : Hid (∀ k, some zo = some k → k < w.heap.size) := hide (fun k e => by cases e; exact h.zol)
  have HR : Hid (mSnap bs s = ({ kindO 4 with tree := (mKeyT bs s).1, parents := (mEachT (mKeyT bs) bs (mKeyT bs s).2 127).1, time := (mI64 bs (mEachT (mKeyT bs) bs (mKeyT bs s).2 127).2).1, note := (mText bs (mI64 bs (mEachT (mKeyT bs) bs (mKeyT bs s).2 127).2).2 1024).1 }, (mText bs (mI64 bs (mEachT (mKeyT bs) bs (mKeyT bs s).2 127).2).2 1024).2)) := hide rfl
  clear h
  go_enter Tryd.func54, Tryd.ntmps54
  go_wp2_with fail
  refine (keyT_st w z sv bs s HD.out.dec).mono ?_
  rintro e W1 ⟨rfl, h1, h2⟩
  have KL0 := mKeyT_len bs s
  obtain ⟨kt, hkt⟩ : ∃ r, r = mKeyT bs s := ⟨_, rfl⟩
  rw [← hkt] at h1 HR KL0 ⊢
  clear hkt
  obtain ⟨kb, s1⟩ := kt
  have KL : Hid (kb.length = 32) := hide KL0
  have K1 : Hid ((keyC kb).toArray.all (·.oneCell') = true) := hide (all_oneCell_toArray (keyC_one _))
  have KS : Hid ((keyC kb).toArray.size = 32) := hide (by have := KL.out; simp [keyC]; exact this)
  have D1 := hide (HD.out.take h1 h2)
  have B1 : Hid (Blk W1 zo (objL (kindO 4) nilV).toArray 30) := hide D1.out.obj
  have OS : Hid (4 + 32 ≤ (objL (kindO 4) nilV).toArray.size) := hide (by rw [objL_size (kindO 4) nilV rfl]; omega)
  clear h1 h2 HD KL0
  go_wp2_with (first
    | ((with_reducible refine wpList_store_midB ?_ 27 (.tmp 8) (.tmp 6) ?_ zo 4 32 (objL (kindO 4) nilV).toArray (keyC kb).toArray 30 KS.out OS.out ?_ ?_ B1.out infoKey K1.out ?_); rfl; rfl; rfl; rfl; intro W2 hk2 hg2; generalize hG : wpList _ _ _ _ _ _ = G))
  rw [objL_setTree (kindO 4) nilV rfl kb KL.out] at hk2
  have D2 : Hid (DS w W2 z sv bs s1 zo { kindO 4 with tree := kb } nilV) := hide (D1.out.put _ hg2 hk2 (by have hk := D1.out.own.kept hg2 HZO.out; exact ⟨⟨KL.out, hk.ok.p, hk.ok.i, hk.ok.k⟩, hk.d, hk.p, hk.i, hk.k⟩))
  clear hk2 hg2 D1 B1 K1 KS OS
  subst hG
  go_wp2_with fail
  refine (eachK_st W2 z sv bs s1 127 (by omega) D2.out.dec).mono ?_
  rintro e W3 ⟨⟨x, rfl, o3⟩, h1, h2⟩
  have HR1 : Hid (mSnap bs s = ({ kindO 4 with tree := kb, parents := (mEachT (mKeyT bs) bs s1 127).1, time := (mI64 bs (mEachT (mKeyT bs) bs s1 127).2).1, note := (mText bs (mI64 bs (mEachT (mKeyT bs) bs s1 127).2).2 1024).1 }, (mText bs (mI64 bs (mEachT (mKeyT bs) bs s1 127).2).2 1024).2)) := hide HR.out
  have HOk0 := mEachT_ok (mKeyT bs) okK (fun s => mKeyT_len bs s) bs s1 127
  obtain ⟨r, hr⟩ : ∃ r, r = mEachT (mKeyT bs) bs s1 127 := ⟨_, rfl⟩
  rw [← hr] at o3 h1 HR1 HOk0
  clear hr HR
  obtain ⟨ps, s2⟩ := r
  have HOk : Hid (∀ p ∈ ps, okK p) := hide HOk0
  have D3 := hide (D2.out.take h1 h2)
  have O3 : Hid (W3.ownsRow w.heap.size 27 32 x ps.length (ps.map keyC).flatten) := hide (ownsRow_baseK o3 D2.out.ch.size)
  obtain ⟨ax, cx, rfl⟩ := own_form o3
  have c3 : W3.cell? ⟨zo, 36, none⟩ = some (.slice none 0 0) := ObjAt.cK (v := nilV) D3.out.obj KL.out
  have f3 : W3.frozen? ⟨zo, 36, none⟩ = false := Blk.frozen D3.out.obj 36
  obtain ⟨W4, hW4⟩ : ∃ W, W = W3.setCell ⟨zo, 36, none⟩ (.slice ax ps.length cx) := ⟨_, rfl⟩
  have HW4 := hide hW4
  have D4 : Hid (DS w W4 z sv bs s2 zo { kindO 4 with tree := kb, parents := ps } ⟨.slice none 0 0, .slice none 0 0, .slice none 0 0, .slice ax ps.length cx⟩) := hide (by
    rw [hW4]
    have hg := grownBy_set W3 zo 36 (.slice ax ps.length cx)
    refine D3.out.put _ hg ?_ ?_
    · have hA : Blk W3 zo (objL { kindO 4 with tree := kb } nilV).toArray 30 := D3.out.obj
      have := hA.set 36 (.slice ax ps.length cx)
      rw [objL_setK _ _ _ KL.out] at this
      exact this
    · have hk := D3.out.own.kept hg HZO.out
      exact ⟨⟨hk.ok.t, hk.ok.p, hk.ok.i, HOk.out⟩, hk.d, hk.p, hk.i, O3.out.kept hg (owns_apart O3.out HZO.out)⟩)
  clear h1 h2 o3 D2 D3 O3 HOk HOk0 hW4
  go_wp2_with fail
  rw [← HW4.out]
  clear c3 f3 HW4
  refine (take_int64 W4 z sv bs s2 D4.out.dec).mono ?_
  rintro e W5 ⟨rfl, h1, h2⟩
  have HR2 : Hid (mSnap bs s = ({ kindO 4 with tree := kb, parents := ps, time := (mI64 bs s2).1, note := (mText bs (mI64 bs s2).2 1024).1 }, (mText bs (mI64 bs s2).2 1024).2)) := hide HR1.out
  have h1' : DecSt W5 z sv bs (mI64 bs s2).2 := h1
  have e5 : IntKind.i64.wrap (leNat ((mNext bs s2 (mPlace s2) 8).1.getD []) : Nat) = (mI64 bs s2).1 := rfl
  rw [e5]
  obtain ⟨m, hm⟩ : ∃ r, r = mI64 bs s2 := ⟨_, rfl⟩
  rw [← hm] at h1' HR2 ⊢
  clear hm HR1 h1 e5
  obtain ⟨tm, s3⟩ := m
  have D5 := hide (D4.out.take h1' h2)
  have c5 : W5.cell? ⟨zo, 37, none⟩ = some (.int .i64 0) := ObjAt.cTime (o := { kindO 4 with tree := kb, parents := ps }) D5.out.obj KL.out
  have f5 : W5.frozen? ⟨zo, 37, none⟩ = false := Blk.frozen D5.out.obj 37
  obtain ⟨W6, hW6⟩ : ∃ W, W = W5.setCell ⟨zo, 37, none⟩ (.int .i64 tm) := ⟨_, rfl⟩
  have HW6 := hide hW6
  have D6 : Hid (DS w W6 z sv bs s3 zo { kindO 4 with tree := kb, parents := ps, time := tm } ⟨.slice none 0 0, .slice none 0 0, .slice none 0 0, .slice ax ps.length cx⟩) := hide (by
    rw [hW6]
    have hg := grownBy_set W5 zo 37 (.int .i64 tm)
    refine D5.out.put _ hg ?_ ?_
    · have hA : Blk W5 zo (objL { kindO 4 with tree := kb, parents := ps } ⟨.slice none 0 0, .slice none 0 0, .slice none 0 0, .slice ax ps.length cx⟩).toArray 30 := D5.out.obj
      have := hA.set 37 (.int .i64 tm)
      rw [objL_setTime { kindO 4 with tree := kb, parents := ps } _ KL.out] at this
      exact this
    · have hk := D5.out.own.kept hg HZO.out
      exact ⟨⟨hk.ok.t, hk.ok.p, hk.ok.i, hk.ok.k⟩, hk.d, hk.p, hk.i, hk.k⟩)
  clear h1' h2 D4 D5 hW6
  go_wp2_with fail
  rw [← HW6.out]
  clear c5 f5 HW6
  refine (text_st W6 z sv bs s3 1024 (by decide) (by decide) D6.out.dec).mono ?_
  rintro e W7 ⟨rfl, h1, h2⟩
  rw [show ((1024 : Int).toNat) = 1024 from rfl] at h1 ⊢
  have HR3 : Hid (mSnap bs s = ({ kindO 4 with tree := kb, parents := ps, time := tm, note := (mText bs s3 1024).1 }, (mText bs s3 1024).2)) := hide HR2.out
  obtain ⟨t, ht⟩ : ∃ r, r = mText bs s3 1024 := ⟨_, rfl⟩
  rw [← ht] at h1 HR3 ⊢
  clear ht HR2
  obtain ⟨nt, s4⟩ := t
  have D7 := hide (D6.out.take h1 h2)
  have c7 : W7.cell? ⟨zo, 38, none⟩ = some (.string { data := #[] }) := ObjAt.cNote (o := { kindO 4 with tree := kb, parents := ps, time := tm }) D7.out.obj KL.out
  have f7 : W7.frozen? ⟨zo, 38, none⟩ = false := Blk.frozen D7.out.obj 38
  clear h1 h2 D6
  go_wp2
  go_returns
  refine ⟨rfl, ⟨.slice none 0 0, .slice none 0 0, .slice none 0 0, .slice ax ps.length cx⟩, ?_⟩
  rw [HR3.out]
  have hg := grownBy_set W7 zo 38 (.string ⟨nt.toArray⟩)
  refine D7.out.put _ hg ?_ ?_
  · have hA : Blk W7 zo (objL { kindO 4 with tree := kb, parents := ps, time := tm } ⟨.slice none 0 0, .slice none 0 0, .slice none 0 0, .slice ax ps.length cx⟩).toArray 30 := D7.out.obj
    have := hA.set 38 (.string ⟨nt.toArray⟩)
    rw [objL_setNoteL { kindO 4 with tree := kb, parents := ps, time := tm } _ KL.out] at this
    exact this
  · have hk := D7.out.own.kept hg HZO.out
    exact ⟨⟨hk.ok.t, hk.ok.p, hk.ok.i, hk.ok.k⟩, hk.d, hk.p, hk.i, hk.k⟩
end Go.Proofs.YtjcfndiceinkjabDoor
