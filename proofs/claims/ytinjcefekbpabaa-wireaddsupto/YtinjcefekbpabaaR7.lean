/- took, by the plain machine. -/
import Derived.Test.YtinjcefekbpabaaR6
import Derived.Deep.RegionWith
namespace Go.Proofs.Ytinjcefekbpabaa
set_option linter.unusedVariables false
set_option linter.unusedSimpArgs false
open Go.RowKit

def TookC (w : World) (y : Nat) (rv : Value) (bs : List UInt8) (r : Int × List UInt8 × S) (e : Ending) (w' : World) : Prop :=
  e = .returned (.agg #[.int .u64 r.1, .string ⟨r.2.1.toArray⟩]) ∧ RefSt w' y rv bs r.2.2 ∧ w.grownBy w' (some y)
theorem boxes_ref {w : World} {y : Nat} {rv : Value} {bs : List UInt8} {s : S} (h : RefSt w y rv bs s) (kind most n : Int) : RefSt (boxes w kind most n) y rv bs s :=
  h.below (((Below.refl _ _).alloc (Nat.le_refl _) _).alloc (by simp) _)
theorem took_end {w w1 : World} {y : Nat} {rv : Value} {bs : List UInt8} {s' : S} (x v : Value) (hy : y < w.heap.size) (hrv : ∀ b cap, rv = .slice (some ⟨b, 0, none⟩) bs.length cap → b < w.heap.size)
    (hd : RefSt w1 y rv bs s') (hg : w.grownBy w1 (some y)) (hk : Blk w1 (w.heap.size + 1) #[.int .u64 0, .string ⟨#[]⟩] 50) :
    (loadVar 50 ⟨w.heap.size + 1, 0, none⟩).run Try.prog ((w1.setCell ⟨w.heap.size + 1, 0, none⟩ x).setCell ⟨w.heap.size + 1, 1, none⟩ v) = .ok (.agg #[x, v]) ((w1.setCell ⟨w.heap.size + 1, 0, none⟩ x).setCell ⟨w.heap.size + 1, 1, none⟩ v) ∧
    RefSt ((w1.setCell ⟨w.heap.size + 1, 0, none⟩ x).setCell ⟨w.heap.size + 1, 1, none⟩ v) y rv bs s' ∧ w.grownBy ((w1.setCell ⟨w.heap.size + 1, 0, none⟩ x).setCell ⟨w.heap.size + 1, 1, none⟩ v) (some y) := by
  have hg2 : w1.grownBy ((w1.setCell ⟨w.heap.size + 1, 0, none⟩ x).setCell ⟨w.heap.size + 1, 1, none⟩ v) (some (w.heap.size + 1)) := grownBy_trans (grownBy_set _ _ _ _) (grownBy_set _ _ _ _)
  refine ⟨loadGot (Blk.set (Blk.set hk 0 x) 1 v), hd.grown hg2 (fun e => by have := Option.some.inj e; omega) (fun b cap e1 e => by have := Option.some.inj e; have := hrv b cap e1; omega), ?_⟩
  exact ⟨hg2.os.trans hg.os, hg2.tape.trans hg.tape, hg2.output.trans hg.output, Nat.le_trans hg.size hg2.size, fun k hk hne => (hg2.block k (Nat.lt_of_lt_of_le hk hg.size) (fun e => by have := Option.some.inj e; omega)).trans (hg.block k hk hne)⟩

set_option maxRecDepth 20000 in
set_option maxHeartbeats 1600000 in
theorem took_1 (w : World) (y : Nat) (rv : Value) (bs : List UInt8) (s : S) (most : Nat) (n : Int) (hlen : bs.length ≤ 140737488351232) (h : RefSt w y rv bs s) :
    Calls Try.prog 17 #[.pointer (some ⟨y, 0, none⟩), .agg #[.int .i64 1, .int .u64 most, .int .i64 n]] w (TookC w y rv bs ((mNum bs s most).1, [], (mNum bs s most).2.2)) := by
  have hz := h.lt
  have HSV := hide (fun b cap => h.1.blk (b := b) (cap := cap))
  have HC := hide (rvar_st (boxes w 1 most n) y rv bs s most (boxes_ref h 1 most n))
  generalize mNum bs s most = r at HC ⊢
  go_enter Try.func17, Try.ntmps17
  go_wp2_with fail
  refine (HC.out).mono ?_
  rintro e w1 ⟨rfl, hd, hg⟩
  have hk := boxes_res 1 most n hz hg
  have c0 := hk.cell 0
  have c1 := hk.cell 1
  have f0 := hk.frozen 0
  have f1 := hk.frozen 1
  go_wp2
  have he := took_end (.int .u64 r.1) (.string ⟨#[]⟩) hz HSV.out hd (boxes_grown hg) hk
  refine bodyPost_ret (results_cell rfl _ _ _ rfl _ he.1) rfl ?_
  exact ⟨rfl, he.2.1, he.2.2⟩

set_option maxRecDepth 20000 in
set_option maxHeartbeats 1600000 in
theorem took_2 (w : World) (y : Nat) (rv : Value) (bs : List UInt8) (s : S) (most : Nat) (n : Int) (h1 : -9223372036854775808 ≤ n) (h2 : n ≤ 9223372036854775807) (hlen : bs.length ≤ 140737488351232) (h : RefSt w y rv bs s) :
    Calls Try.prog 17 #[.pointer (some ⟨y, 0, none⟩), .agg #[.int .i64 2, .int .u64 most, .int .i64 n]] w (TookC w y rv bs (0, (rText bs s n.toNat).1, (rText bs s n.toNat).2)) := by
  have hz := h.lt
  have HSV := hide (fun b cap => h.1.blk (b := b) (cap := cap))
  have HC := hide (rtext_st (boxes w 2 most n) y rv bs s n h1 h2 (boxes_ref h 2 most n) (by omega))
  generalize rText bs s n.toNat = r at HC ⊢
  go_enter Try.func17, Try.ntmps17
  go_wp2_with fail
  refine (HC.out).mono ?_
  rintro e w1 ⟨rfl, hd, hg⟩
  have hk := boxes_res 2 most n hz hg
  have c0 := hk.cell 0
  have c1 := hk.cell 1
  have f0 := hk.frozen 0
  have f1 := hk.frozen 1
  go_wp2
  have he := took_end (.int .u64 0) (.string ⟨r.1.toArray⟩) hz HSV.out hd (boxes_grown hg) hk
  refine bodyPost_ret (results_cell rfl _ _ _ rfl _ he.1) rfl ?_
  exact ⟨rfl, he.2.1, he.2.2⟩

set_option maxRecDepth 20000 in
set_option maxHeartbeats 1600000 in
theorem took_3 (w : World) (y : Nat) (rv : Value) (bs : List UInt8) (s : S) (most : Nat) (n : Int) (hlen : bs.length ≤ 140737488351232) (h : RefSt w y rv bs s) :
    Calls Try.prog 17 #[.pointer (some ⟨y, 0, none⟩), .agg #[.int .i64 3, .int .u64 most, .int .i64 n]] w (TookC w y rv bs (0, (mNext bs s (mPlace s) n.toNat).1.getD [], (mNext bs s (mPlace s) n.toNat).2)) := by
  have hz := h.lt
  have HSV := hide (fun b cap => h.1.blk (b := b) (cap := cap))
  have HC := hide (rraw_st (boxes w 3 most n) y rv bs s n (boxes_ref h 3 most n) (by omega))
  generalize mNext bs s (mPlace s) n.toNat = r at HC ⊢
  go_enter Try.func17, Try.ntmps17
  go_wp2_with fail
  refine (HC.out).mono ?_
  rintro e w1 ⟨⟨v, rfl, hown⟩, hd, hg⟩
  have hcv := conv_rd w1 v _ (Rd_owned hown)
  clear hown
  have hk := boxes_res 3 most n hz hg
  have c0 := hk.cell 0
  have c1 := hk.cell 1
  have f0 := hk.frozen 0
  have f1 := hk.frozen 1
  go_wp2
  have he := took_end (.int .u64 0) (.string ⟨(r.1.getD []).toArray⟩) hz HSV.out hd (boxes_grown hg) hk
  refine bodyPost_ret (results_cell rfl _ _ _ rfl _ he.1) rfl ?_
  exact ⟨rfl, he.2.1, he.2.2⟩

set_option maxRecDepth 20000 in
set_option maxHeartbeats 1600000 in
theorem took_4 (w : World) (y : Nat) (rv : Value) (bs : List UInt8) (s : S) (most : Nat) (n : Int) (hlen : bs.length ≤ 140737488351232) (h : RefSt w y rv bs s) :
    Calls Try.prog 17 #[.pointer (some ⟨y, 0, none⟩), .agg #[.int .i64 4, .int .u64 most, .int .i64 n]] w (TookC w y rv bs (0, keyBytes (mNext bs s (mPlace s) 32).1, (mNext bs s (mPlace s) 32).2)) := by
  have hz := h.lt
  have HSV := hide (fun b cap => h.1.blk (b := b) (cap := cap))
  have HC := hide (rkey_st (boxes w 4 most n) y rv bs s (boxes_ref h 4 most n) (by omega))
  have hl := keyBytes_len bs s (mPlace s)
  have HE := hide (keyCells_eq (mNext bs s (mPlace s) 32).1)
  generalize mNext bs s (mPlace s) 32 = r at HC HE hl ⊢
  go_enter Try.func17, Try.ntmps17
  go_wp2_with fail
  refine (HC.out).mono ?_
  rintro e w1 ⟨rfl, hd, hg⟩
  rw [HE.out]
  have HO := hide (all_oneCell_toArray (u8c_one (keyBytes r.1)))
  have HL2 := hide (show ((keyBytes r.1).map u8c).toArray.size = 32 by simp [hl])
  have HL3 := hide hl
  generalize hkb : keyBytes r.1 = kb at HO HL2 HL3
  have HKB := hide hkb
  clear hkb hl HC HE
  obtain ⟨cs, hcs⟩ : ∃ cs, cs = (kb.map u8c).toArray := ⟨_, rfl⟩
  rw [← hcs] at HO HL2 ⊢
  have HCS := hide hcs
  clear hcs
  have hk := boxes_res 4 most n hz hg
  have hsz1 : w.heap.size + 1 < w1.heap.size := hk.lt
  have HKM := hide (Blk.made w1 #[.int .u8 0, .int .u8 0, .int .u8 0, .int .u8 0, .int .u8 0, .int .u8 0, .int .u8 0, .int .u8 0, .int .u8 0, .int .u8 0, .int .u8 0, .int .u8 0, .int .u8 0, .int .u8 0, .int .u8 0, .int .u8 0, .int .u8 0, .int .u8 0, .int .u8 0, .int .u8 0, .int .u8 0, .int .u8 0, .int .u8 0, .int .u8 0, .int .u8 0, .int .u8 0, .int .u8 0, .int .u8 0, .int .u8 0, .int .u8 0, .int .u8 0, .int .u8 0] 35)
  go_wp2_with ((with_reducible refine wpList_store_blk ?_ 35 (.tmp 5) (.tmp 37) ?_ w1.heap.size 32 _ cs 35 HL2.out ?_ ?_ ?_ HKM.out infoKey HO.out ?_); rfl; rfl; rfl; rfl; rfl; intro w2 hk2 hg2; rw [HCS.out] at hk2; have hcv := conv_rd w2 _ _ (Rd_blk hk2 (by rw [HL3.out]; decide) 32 HL3.out); have hkr := (hk.alloc (.cells #[.int .u8 0, .int .u8 0, .int .u8 0, .int .u8 0, .int .u8 0, .int .u8 0, .int .u8 0, .int .u8 0, .int .u8 0, .int .u8 0, .int .u8 0, .int .u8 0, .int .u8 0, .int .u8 0, .int .u8 0, .int .u8 0, .int .u8 0, .int .u8 0, .int .u8 0, .int .u8 0, .int .u8 0, .int .u8 0, .int .u8 0, .int .u8 0, .int .u8 0, .int .u8 0, .int .u8 0, .int .u8 0, .int .u8 0, .int .u8 0, .int .u8 0, .int .u8 0] 35)).grown hg2 (fun e => by have := Option.some.inj e; omega); have c0 := hkr.cell 0; have c1 := hkr.cell 1; have f0 := hkr.frozen 0; have f1 := hkr.frozen 1; clear hk2)
  have hd2 : RefSt w2 y rv bs r.2 := (hd.below ((Below.refl _ _).alloc (Nat.le_refl _) _)).grown hg2 (fun e => by have := Option.some.inj e; omega) (fun b cap e1 e => by have := Option.some.inj e; have := HSV.out b cap e1; omega)
  have hg3 : w.grownBy w2 (some y) := key_frame2 (boxes_grown hg) (by omega) hg2
  have he := took_end (.int .u64 0) (.string ⟨kb.toArray⟩) hz HSV.out hd2 hg3 hkr
  refine bodyPost_ret (results_cell rfl _ _ _ rfl _ he.1) rfl ?_
  exact ⟨by rw [HKB.out], he.2.1, he.2.2⟩

set_option maxRecDepth 20000 in
set_option maxHeartbeats 1600000 in
theorem took_6 (w : World) (y : Nat) (rv : Value) (bs : List UInt8) (s : S) (most : Nat) (n : Int) (hlen : bs.length ≤ 140737488351232) (h : RefSt w y rv bs s) :
    Calls Try.prog 17 #[.pointer (some ⟨y, 0, none⟩), .agg #[.int .i64 6, .int .u64 most, .int .i64 n]] w (TookC w y rv bs (wrapU .u8 ((mNext bs s (mPlace s) 1).1.getD []), [], (mNext bs s (mPlace s) 1).2)) := by
  have hz := h.lt
  have HSV := hide (fun b cap => h.1.blk (b := b) (cap := cap))
  have HC := hide (rfixed_st (boxes w 6 most n) y rv bs s 1 (boxes_ref h 6 most n) (by omega) (by omega))
  have hxl := mNext_few bs s (mPlace s) 1
  generalize mNext bs s (mPlace s) 1 = r at HC hxl ⊢
  have hb := leNat_lt _ 1 hxl
  rw [show (256 : Nat) ^ 1 = 256 from by decide] at hb
  have HV := hide (show wrapU .u8 (r.1.getD []) = (leNat (r.1.getD []) : Int) by unfold wrapU; rw [IntKind.wrap_u8]; omega)
  clear hb
  go_enter Try.func17, Try.ntmps17
  go_wp2_with fail
  refine (lwidth_6 _).mono ?_
  rintro e w' ⟨rfl, rfl⟩
  go_wp2_with fail
  refine (HC.out).mono ?_
  rintro e w1 ⟨rfl, hd, hg⟩
  have hk := boxes_res 6 most n hz hg
  have c0 := hk.cell 0
  have c1 := hk.cell 1
  have f0 := hk.frozen 0
  have f1 := hk.frozen 1
  go_wp2
  have he := took_end (.int .u64 (leNat (r.1.getD []) : Nat)) (.string ⟨#[]⟩) hz HSV.out hd (boxes_grown hg) hk
  refine bodyPost_ret (results_cell rfl _ _ _ rfl _ he.1) rfl ?_
  exact ⟨by rw [HV.out], he.2.1, he.2.2⟩

set_option maxRecDepth 20000 in
set_option maxHeartbeats 1600000 in
theorem took_8 (w : World) (y : Nat) (rv : Value) (bs : List UInt8) (s : S) (most : Nat) (n : Int) (hlen : bs.length ≤ 140737488351232) (h : RefSt w y rv bs s) :
    Calls Try.prog 17 #[.pointer (some ⟨y, 0, none⟩), .agg #[.int .i64 8, .int .u64 most, .int .i64 n]] w (TookC w y rv bs (wrapU .u16 ((mNext bs s (mPlace s) 2).1.getD []), [], (mNext bs s (mPlace s) 2).2)) := by
  have hz := h.lt
  have HSV := hide (fun b cap => h.1.blk (b := b) (cap := cap))
  have HC := hide (rfixed_st (boxes w 8 most n) y rv bs s 2 (boxes_ref h 8 most n) (by omega) (by omega))
  have hxl := mNext_few bs s (mPlace s) 2
  generalize mNext bs s (mPlace s) 2 = r at HC hxl ⊢
  have hb := leNat_lt _ 2 hxl
  rw [show (256 : Nat) ^ 2 = 65536 from by decide] at hb
  have HV := hide (show wrapU .u16 (r.1.getD []) = (leNat (r.1.getD []) : Int) by unfold wrapU; rw [IntKind.wrap_u16]; omega)
  clear hb
  go_enter Try.func17, Try.ntmps17
  go_wp2_with fail
  refine (lwidth_8 _).mono ?_
  rintro e w' ⟨rfl, rfl⟩
  go_wp2_with fail
  refine (HC.out).mono ?_
  rintro e w1 ⟨rfl, hd, hg⟩
  have hk := boxes_res 8 most n hz hg
  have c0 := hk.cell 0
  have c1 := hk.cell 1
  have f0 := hk.frozen 0
  have f1 := hk.frozen 1
  go_wp2
  have he := took_end (.int .u64 (leNat (r.1.getD []) : Nat)) (.string ⟨#[]⟩) hz HSV.out hd (boxes_grown hg) hk
  refine bodyPost_ret (results_cell rfl _ _ _ rfl _ he.1) rfl ?_
  exact ⟨by rw [HV.out], he.2.1, he.2.2⟩

set_option maxRecDepth 20000 in
set_option maxHeartbeats 1600000 in
theorem took_10 (w : World) (y : Nat) (rv : Value) (bs : List UInt8) (s : S) (most : Nat) (n : Int) (hlen : bs.length ≤ 140737488351232) (h : RefSt w y rv bs s) :
    Calls Try.prog 17 #[.pointer (some ⟨y, 0, none⟩), .agg #[.int .i64 10, .int .u64 most, .int .i64 n]] w (TookC w y rv bs (wrapU .u32 ((mNext bs s (mPlace s) 4).1.getD []), [], (mNext bs s (mPlace s) 4).2)) := by
  have hz := h.lt
  have HSV := hide (fun b cap => h.1.blk (b := b) (cap := cap))
  have HC := hide (rfixed_st (boxes w 10 most n) y rv bs s 4 (boxes_ref h 10 most n) (by omega) (by omega))
  have hxl := mNext_few bs s (mPlace s) 4
  generalize mNext bs s (mPlace s) 4 = r at HC hxl ⊢
  have hb := leNat_lt _ 4 hxl
  rw [show (256 : Nat) ^ 4 = 4294967296 from by decide] at hb
  have HV := hide (show wrapU .u32 (r.1.getD []) = (leNat (r.1.getD []) : Int) by unfold wrapU; rw [IntKind.wrap_u32]; omega)
  clear hb
  go_enter Try.func17, Try.ntmps17
  go_wp2_with fail
  refine (lwidth_10 _).mono ?_
  rintro e w' ⟨rfl, rfl⟩
  go_wp2_with fail
  refine (HC.out).mono ?_
  rintro e w1 ⟨rfl, hd, hg⟩
  have hk := boxes_res 10 most n hz hg
  have c0 := hk.cell 0
  have c1 := hk.cell 1
  have f0 := hk.frozen 0
  have f1 := hk.frozen 1
  go_wp2
  have he := took_end (.int .u64 (leNat (r.1.getD []) : Nat)) (.string ⟨#[]⟩) hz HSV.out hd (boxes_grown hg) hk
  refine bodyPost_ret (results_cell rfl _ _ _ rfl _ he.1) rfl ?_
  exact ⟨by rw [HV.out], he.2.1, he.2.2⟩

set_option maxRecDepth 20000 in
set_option maxHeartbeats 1600000 in
theorem took_12 (w : World) (y : Nat) (rv : Value) (bs : List UInt8) (s : S) (most : Nat) (n : Int) (hlen : bs.length ≤ 140737488351232) (h : RefSt w y rv bs s) :
    Calls Try.prog 17 #[.pointer (some ⟨y, 0, none⟩), .agg #[.int .i64 12, .int .u64 most, .int .i64 n]] w (TookC w y rv bs (wrapU .u64 ((mNext bs s (mPlace s) 8).1.getD []), [], (mNext bs s (mPlace s) 8).2)) := by
  have hz := h.lt
  have HSV := hide (fun b cap => h.1.blk (b := b) (cap := cap))
  have HC := hide (rfixed_st (boxes w 12 most n) y rv bs s 8 (boxes_ref h 12 most n) (by omega) (by omega))
  have hxl := mNext_few bs s (mPlace s) 8
  generalize mNext bs s (mPlace s) 8 = r at HC hxl ⊢
  have hb := leNat_lt _ 8 hxl
  rw [show (256 : Nat) ^ 8 = 18446744073709551616 from by decide] at hb
  have HV := hide (show wrapU .u64 (r.1.getD []) = (leNat (r.1.getD []) : Int) by unfold wrapU; rw [IntKind.wrap_u64]; omega)
  clear hb
  go_enter Try.func17, Try.ntmps17
  go_wp2_with fail
  refine (lwidth_12 _).mono ?_
  rintro e w' ⟨rfl, rfl⟩
  go_wp2_with fail
  refine (HC.out).mono ?_
  rintro e w1 ⟨rfl, hd, hg⟩
  have hk := boxes_res 12 most n hz hg
  have c0 := hk.cell 0
  have c1 := hk.cell 1
  have f0 := hk.frozen 0
  have f1 := hk.frozen 1
  go_wp2
  have he := took_end (.int .u64 (leNat (r.1.getD []) : Nat)) (.string ⟨#[]⟩) hz HSV.out hd (boxes_grown hg) hk
  refine bodyPost_ret (results_cell rfl _ _ _ rfl _ he.1) rfl ?_
  exact ⟨by rw [HV.out], he.2.1, he.2.2⟩

end Go.Proofs.Ytinjcefekbpabaa
