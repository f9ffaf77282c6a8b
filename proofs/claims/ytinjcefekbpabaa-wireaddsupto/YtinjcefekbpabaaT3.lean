/- take of a key, of no kind; take as a whole. -/
import Derived.Test.YtinjcefekbpabaaT2
namespace Go.Proofs.Ytinjcefekbpabaa
set_option linter.unusedVariables false
set_option linter.unusedSimpArgs false
open Go.RowKit

def keyBytes (r : Option (List UInt8)) : List UInt8 := r.getD (List.replicate 32 0)
theorem keyCells_eq (r : Option (List UInt8)) : keyCells r = ((keyBytes r).map u8c).toArray := by
  cases r with
  | none => rfl
  | some xs => rfl
theorem keyBytes_len (bs : List UInt8) (s : S) (a : Nat) : (keyBytes (mNext bs s a 32).1).length = 32 := by
  unfold keyBytes
  cases h : (mNext bs s a 32).1 with
  | none => simp
  | some xs => simpa using mNext_whole bs s a 32 xs h
theorem Rd_blk {w : World} {b : Nat} {xs : List UInt8} {t : TypeId} (hB : Blk w b (xs.map u8c).toArray t) (hm : xs.length ≤ maxLen) (n : Nat) (hn : xs.length = n) : Rd w (.slice (some ⟨b, 0, none⟩) n n) xs := by
  subst hn
  refine ⟨some ⟨b, 0, none⟩, xs.length, rfl, Nat.le_refl _, hm, .inr ⟨b, 0, rfl, fun i hi => ?_⟩⟩
  rw [Nat.zero_add, hB.cell]
  simp [List.getElem?_eq_getElem hi]

theorem key_frame2 {w w1 w2 : World} {z : Nat} {o : Obj} (hg : w.grownBy w1 (some z)) (hlt : w.heap.size ≤ w1.heap.size) (hg2 : (w1.alloc o).grownBy w2 (some w1.heap.size)) : w.grownBy w2 (some z) :=
  ⟨hg2.os.trans hg.os, hg2.tape.trans hg.tape, hg2.output.trans hg.output, Nat.le_trans hlt (by have := hg2.size; simp at this; omega),
    fun k hk hne => ((hg2.block k (by simp; omega) (fun e => by have := Option.some.inj e; omega)).trans (Below.heap_alloc w1 o k (by omega))).trans (hg.block k hk hne)⟩

set_option maxRecDepth 20000 in
set_option maxHeartbeats 1600000 in
theorem take_4 (w : World) (z : Nat) (sv : Value) (bs : List UInt8) (s : S) (most : Nat) (n : Int) (h : DecSt w z sv bs s) :
    Calls Try.prog 16 #[.pointer (some ⟨z, 0, none⟩), .agg #[.int .i64 4, .int .u64 most, .int .i64 n]] w (TakeC w z sv bs (0, keyBytes (mNext bs s (mPlace s) 32).1, (mNext bs s (mPlace s) 32).2)) := by
  have hz := h.lt
  have HSV := hide (fun b => h.1.blk (b := b))
  have HC := hide (key_st (boxes w 4 most n) z sv bs s (boxes_dec h 4 most n))
  have hl := keyBytes_len bs s (mPlace s)
  have HE := hide (keyCells_eq (mNext bs s (mPlace s) 32).1)
  generalize mNext bs s (mPlace s) 32 = r at HC HE hl ⊢
  go_enter Try.func16, Try.ntmps16
  go_wp2_with fail
  refine (HC.out).mono ?_
  rintro e w1 ⟨rfl, hd, hg⟩
  rw [HE.out]
  have HO := hide (all_oneCell_toArray (u8c_one (keyBytes r.1)))
  have HL2 := hide (show ((keyBytes r.1).map u8c).toArray.size = 32 by simp [hl])
  have HL3 := hide hl
  generalize hkb : keyBytes r.1 = kb at HO HL2 HL3
  have HKB := hide hkb
  clear hkb hl HC HE
  obtain ⟨cs, hcs⟩ : ∃ cs, cs = (kb.map u8c).toArray := ⟨_, rfl⟩
  rw [← hcs] at HO HL2 ⊢
  have HCS := hide hcs
  clear hcs
  have hk := boxes_res 4 most n hz hg
  have hsz1 : w.heap.size + 1 < w1.heap.size := hk.lt
  have HKM := hide (Blk.made w1 #[.int .u8 0, .int .u8 0, .int .u8 0, .int .u8 0, .int .u8 0, .int .u8 0, .int .u8 0, .int .u8 0, .int .u8 0, .int .u8 0, .int .u8 0, .int .u8 0, .int .u8 0, .int .u8 0, .int .u8 0, .int .u8 0, .int .u8 0, .int .u8 0, .int .u8 0, .int .u8 0, .int .u8 0, .int .u8 0, .int .u8 0, .int .u8 0, .int .u8 0, .int .u8 0, .int .u8 0, .int .u8 0, .int .u8 0, .int .u8 0, .int .u8 0, .int .u8 0] 35)
  go_wp2_with ((with_reducible refine wpList_store_blk ?_ 35 (.tmp 5) (.tmp 33) ?_ w1.heap.size 32 _ cs 35 HL2.out ?_ ?_ ?_ HKM.out infoKey HO.out ?_); rfl; rfl; rfl; rfl; rfl; intro w2 hk2 hg2; rw [HCS.out] at hk2; have hcv := conv_rd w2 _ _ (Rd_blk hk2 (by rw [HL3.out]; decide) 32 HL3.out); have hkr := (hk.alloc (.cells #[.int .u8 0, .int .u8 0, .int .u8 0, .int .u8 0, .int .u8 0, .int .u8 0, .int .u8 0, .int .u8 0, .int .u8 0, .int .u8 0, .int .u8 0, .int .u8 0, .int .u8 0, .int .u8 0, .int .u8 0, .int .u8 0, .int .u8 0, .int .u8 0, .int .u8 0, .int .u8 0, .int .u8 0, .int .u8 0, .int .u8 0, .int .u8 0, .int .u8 0, .int .u8 0, .int .u8 0, .int .u8 0, .int .u8 0, .int .u8 0, .int .u8 0, .int .u8 0] 35)).grown hg2 (fun e => by have := Option.some.inj e; omega); have c0 := hkr.cell 0; have c1 := hkr.cell 1; have f0 := hkr.frozen 0; have f1 := hkr.frozen 1; clear hk2)
  have hd2 : DecSt w2 z sv bs r.2 := (hd.below ((Below.refl _ _).alloc (Nat.le_refl _) _)).grown hg2 (fun e => by have := Option.some.inj e; omega) (fun b e1 e => by have := Option.some.inj e; have := HSV.out b e1; omega)
  have hg3 : w.grownBy w2 (some z) := key_frame2 (boxes_grown hg) (by omega) hg2
  have he := take_end (.int .u64 0) (.string ⟨kb.toArray⟩) hz HSV.out hd2 hg3 hkr
  refine bodyPost_ret (results_cell rfl _ _ _ rfl _ he.1) rfl ?_
  exact ⟨by rw [HKB.out], he.2.1, he.2.2⟩

set_option maxRecDepth 20000 in
set_option maxHeartbeats 1600000 in
theorem take_0 (w : World) (z : Nat) (sv : Value) (bs : List UInt8) (s : S) (kind : Int) (most : Nat) (n : Int) (h : DecSt w z sv bs s) (n1 : (kind == 1) = false) (n2 : (kind == 2) = false) (n3 : (kind == 3) = false) (n4 : (kind == 4) = false) (n5 : (kind == 5) = false) (n6 : (kind == 6) = false) (n7 : (kind == 7) = false) (n8 : (kind == 8) = false) (n9 : (kind == 9) = false) (n10 : (kind == 10) = false) (n11 : (kind == 11) = false) (n12 : (kind == 12) = false) (n13 : (kind == 13) = false) :
    Calls Try.prog 16 #[.pointer (some ⟨z, 0, none⟩), .agg #[.int .i64 kind, .int .u64 most, .int .i64 n]] w (TakeC w z sv bs (0, [], s)) := by
  have hz := h.lt
  have HSV := hide (fun b => h.1.blk (b := b))
  go_enter Try.func16, Try.ntmps16
  go_wp2
  refine bodyPost_ret (v := .agg #[.int .u64 0, .string ⟨#[]⟩]) (by simp [results, Try.results16, go_sem]) rfl ⟨rfl, boxes_dec h kind most n, ?_⟩
  exact grownBy_trans (World.grownBy_alloc _ _ _) (World.grownBy_alloc _ _ _)

def wrapU (kind : IntKind) (xs : List UInt8) : Int := kind.wrap (leNat xs : Nat)
/-- A take, by the plain machine. -/
def mTake (bs : List UInt8) (s : S) (kind : Int) (most : Nat) (n : Int) : Int × List UInt8 × S :=
  if kind = 1 then ((mNum bs s most).1, [], (mNum bs s most).2.2)
  else if kind = 2 then (0, (mText bs s n.toNat).1, (mText bs s n.toNat).2)
  else if kind = 3 then (0, (mNext bs s (mPlace s) n.toNat).1.getD [], (mNext bs s (mPlace s) n.toNat).2)
  else if kind = 4 then (0, keyBytes (mNext bs s (mPlace s) 32).1, (mNext bs s (mPlace s) 32).2)
  else if kind = 5 then (IntKind.u64.wrap (wrapU .i8 ((mNext bs s (mPlace s) 1).1.getD [])), [], (mNext bs s (mPlace s) 1).2)
  else if kind = 6 then (wrapU .u8 ((mNext bs s (mPlace s) 1).1.getD []), [], (mNext bs s (mPlace s) 1).2)
  else if kind = 7 then (IntKind.u64.wrap (wrapU .i16 ((mNext bs s (mPlace s) 2).1.getD [])), [], (mNext bs s (mPlace s) 2).2)
  else if kind = 8 then (wrapU .u16 ((mNext bs s (mPlace s) 2).1.getD []), [], (mNext bs s (mPlace s) 2).2)
  else if kind = 9 then (IntKind.u64.wrap (wrapU .i32 ((mNext bs s (mPlace s) 4).1.getD [])), [], (mNext bs s (mPlace s) 4).2)
  else if kind = 10 then (wrapU .u32 ((mNext bs s (mPlace s) 4).1.getD []), [], (mNext bs s (mPlace s) 4).2)
  else if kind = 11 then (IntKind.u64.wrap (wrapU .i64 ((mNext bs s (mPlace s) 8).1.getD [])), [], (mNext bs s (mPlace s) 8).2)
  else if kind = 12 then (wrapU .u64 ((mNext bs s (mPlace s) 8).1.getD []), [], (mNext bs s (mPlace s) 8).2)
  else if kind = 13 then (0, (mEach bs s n.toNat).1, (mEach bs s n.toNat).2)
  else (0, [], s)

theorem take_st (w : World) (z : Nat) (sv : Value) (bs : List UInt8) (s : S) (kind : Int) (most : Nat) (n : Int) (h1 : -9223372036854775808 ≤ n) (h2 : n ≤ 9223372036854775807) (hlen : bs.length ≤ 140737488351232) (h : DecSt w z sv bs s) :
    Calls Try.prog 16 #[.pointer (some ⟨z, 0, none⟩), .agg #[.int .i64 kind, .int .u64 most, .int .i64 n]] w (TakeC w z sv bs (mTake bs s kind most n)) := by
  by_cases k1 : kind = 1
  · subst k1
    exact take_1 w z sv bs s most n h
  by_cases k2 : kind = 2
  · subst k2
    exact take_2 w z sv bs s most n h1 h2 h
  by_cases k3 : kind = 3
  · subst k3
    exact take_3 w z sv bs s most n h1 h2 hlen h
  by_cases k4 : kind = 4
  · subst k4
    exact take_4 w z sv bs s most n h
  by_cases k5 : kind = 5
  · subst k5
    exact take_5 w z sv bs s most n h
  by_cases k6 : kind = 6
  · subst k6
    exact take_6 w z sv bs s most n h
  by_cases k7 : kind = 7
  · subst k7
    exact take_7 w z sv bs s most n h
  by_cases k8 : kind = 8
  · subst k8
    exact take_8 w z sv bs s most n h
  by_cases k9 : kind = 9
  · subst k9
    exact take_9 w z sv bs s most n h
  by_cases k10 : kind = 10
  · subst k10
    exact take_10 w z sv bs s most n h
  by_cases k11 : kind = 11
  · subst k11
    exact take_11 w z sv bs s most n h
  by_cases k12 : kind = 12
  · subst k12
    exact take_12 w z sv bs s most n h
  by_cases k13 : kind = 13
  · subst k13
    exact take_13 w z sv bs s most n h1 h2 hlen h
  unfold mTake
  rw [if_neg k1, if_neg k2, if_neg k3, if_neg k4, if_neg k5, if_neg k6, if_neg k7, if_neg k8, if_neg k9, if_neg k10, if_neg k11, if_neg k12, if_neg k13]
  exact take_0 w z sv bs s kind most n h (beq_eq_false_iff_ne.2 k1) (beq_eq_false_iff_ne.2 k2) (beq_eq_false_iff_ne.2 k3) (beq_eq_false_iff_ne.2 k4) (beq_eq_false_iff_ne.2 k5) (beq_eq_false_iff_ne.2 k6) (beq_eq_false_iff_ne.2 k7) (beq_eq_false_iff_ne.2 k8) (beq_eq_false_iff_ne.2 k9) (beq_eq_false_iff_ne.2 k10) (beq_eq_false_iff_ne.2 k11) (beq_eq_false_iff_ne.2 k12) (beq_eq_false_iff_ne.2 k13)

end Go.Proofs.Ytinjcefekbpabaa
