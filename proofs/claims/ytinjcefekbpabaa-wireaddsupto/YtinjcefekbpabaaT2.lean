/- take, by the plain machine. -/
import Derived.Test.YtinjcefekbpabaaQ2
namespace Go.Proofs.Ytinjcefekbpabaa
set_option linter.unusedVariables false
set_option linter.unusedSimpArgs false
open Go.RowKit

def TakeC (w : World) (z : Nat) (sv : Value) (bs : List UInt8) (r : Int × List UInt8 × S) (e : Ending) (w' : World) : Prop :=
  e = .returned (.agg #[.int .u64 r.1, .string ⟨r.2.1.toArray⟩]) ∧ DecSt w' z sv bs r.2.2 ∧ w.grownBy w' (some z)

/-- The two blocks that a take lays first, and what they become. -/
def boxes (w : World) (kind most n : Int) : World := (w.alloc (.cells #[.int .i64 kind, .int .u64 most, .int .i64 n] 53)).alloc (.cells #[.int .u64 0, .string ⟨#[]⟩] 50)
theorem boxes_dec {w : World} {z : Nat} {sv : Value} {bs : List UInt8} {s : S} (h : DecSt w z sv bs s) (kind most n : Int) : DecSt (boxes w kind most n) z sv bs s :=
  h.below (((Below.refl _ _).alloc (Nat.le_refl _) _).alloc (by simp) _)
theorem boxes_res {w w1 : World} {z : Nat} (kind most n : Int) (hz : z < w.heap.size) (hg : (boxes w kind most n).grownBy w1 (some z)) :
    Blk w1 (w.heap.size + 1) #[.int .u64 0, .string ⟨#[]⟩] 50 := by
  have h : Blk (boxes w kind most n) (w.heap.size + 1) #[.int .u64 0, .string ⟨#[]⟩] 50 := by
    have := Blk.made (w.alloc (.cells #[.int .i64 kind, .int .u64 most, .int .i64 n] 53)) #[.int .u64 0, .string ⟨#[]⟩] 50
    rw [World.size_alloc] at this
    exact this
  exact h.grown hg (fun e => by have := Option.some.inj e; omega)

theorem infoGot : (Try.prog.info? 50).map (·.size) = some 2 := by kernel_rfl
theorem loadGot {w : World} {b : Nat} {x y : Value} {t : TypeId} (hk : Blk w b #[x, y] t) : (loadVar 50 ⟨b, 0, none⟩).run Try.prog w = .ok (.agg #[x, y]) w :=
  run_loadVar_mid (P := Try.prog) w b 0 50 [x, y] _ (fun j v hj => by rw [Nat.zero_add, hk.cell, ← hj]; simp) Try.underlying50 rfl infoGot
/-- The result is stored, and read off. -/
theorem take_end {w w1 : World} {z : Nat} {sv : Value} {bs : List UInt8} {s' : S} (x y : Value) (hz : z < w.heap.size) (hsv : ∀ b, sv = .slice (some ⟨b, 0, none⟩) bs.length bs.length → b < w.heap.size)
    (hd : DecSt w1 z sv bs s') (hg : w.grownBy w1 (some z)) (hk : Blk w1 (w.heap.size + 1) #[.int .u64 0, .string ⟨#[]⟩] 50) :
    (loadVar 50 ⟨w.heap.size + 1, 0, none⟩).run Try.prog ((w1.setCell ⟨w.heap.size + 1, 0, none⟩ x).setCell ⟨w.heap.size + 1, 1, none⟩ y) = .ok (.agg #[x, y]) ((w1.setCell ⟨w.heap.size + 1, 0, none⟩ x).setCell ⟨w.heap.size + 1, 1, none⟩ y) ∧
    DecSt ((w1.setCell ⟨w.heap.size + 1, 0, none⟩ x).setCell ⟨w.heap.size + 1, 1, none⟩ y) z sv bs s' ∧ w.grownBy ((w1.setCell ⟨w.heap.size + 1, 0, none⟩ x).setCell ⟨w.heap.size + 1, 1, none⟩ y) (some z) := by
  have hg2 : w1.grownBy ((w1.setCell ⟨w.heap.size + 1, 0, none⟩ x).setCell ⟨w.heap.size + 1, 1, none⟩ y) (some (w.heap.size + 1)) := grownBy_trans (grownBy_set _ _ _ _) (grownBy_set _ _ _ _)
  refine ⟨loadGot (Blk.set (Blk.set hk 0 x) 1 y), hd.grown hg2 (fun e => by have := Option.some.inj e; omega) (fun b e1 e => by have := Option.some.inj e; have := hsv b e1; omega), ?_⟩
  exact ⟨hg2.os.trans hg.os, hg2.tape.trans hg.tape, hg2.output.trans hg.output, Nat.le_trans hg.size hg2.size, fun k hk hne => (hg2.block k (Nat.lt_of_lt_of_le hk hg.size) (fun e => by have := Option.some.inj e; omega)).trans (hg.block k hk hne)⟩
theorem spoilt_dec {w w0 w1 : World} {z : Nat} {sv : Value} {bs : List UInt8} {s s' : S} (h : DecSt w z sv bs s) (hd : DecSt w0 z sv bs s') (hg : w.grownBy w0 (some z)) (hb : Below w.heap.size w0 w1) : DecSt w1 z sv bs s' := by
  obtain ⟨⟨a0, a1⟩, a2, a3⟩ := hd
  refine ⟨⟨a0, ?_⟩, a2, a3.below hb h.lt⟩
  rcases a1 with a1 | ⟨b, e, hne, hB⟩
  · exact .inl a1
  · exact .inr ⟨b, e, hne, hB.below hb (h.1.blk e)⟩
theorem spoilt_grown {w w0 w1 : World} {z : Nat} (hg : w.grownBy w0 (some z)) (hb : Below w.heap.size w0 w1) : w.grownBy w1 (some z) :=
  ⟨hb.os.trans hg.os, hb.tape.trans hg.tape, hb.output.trans hg.output, Nat.le_trans hg.size hb.size, fun k hk hne => (hb.block k hk).trans (hg.block k hk hne)⟩
theorem eachGo_len (bs : List UInt8) : ∀ (n : Nat) (s : S) (acc : List UInt8), s.p ≤ bs.length → acc.length ≤ s.p + exS s → (eachGo bs n s acc).1.length ≤ bs.length + 1
  | 0, s, acc, hp, h => by simp only [eachGo]; unfold exS at h; split at h <;> omega
  | n + 1, s, acc, hp, h => by
    rw [eachGo]
    split
    · unfold exS at h; split at h <;> (simp only []; omega)
    · rename_i hc
      have hc : s.code = 0 := by omega
      refine eachGo_len bs n _ _ (mNext_le bs s _ 1 hp) ?_
      have h5 := mNext_code bs s (mPlace s) 1 hc
      rw [exS, if_neg (by omega)] at h
      rw [List.length_append, exS, h5]
      simp; omega
theorem mEach_len (bs : List UInt8) (s : S) (m : Nat) (hp : s.p ≤ bs.length) : (mEach bs s m).1.length ≤ bs.length + 1 := by
  have := eachGo_len bs (mNum bs s m).1 (mNum bs s m).2.2 [] (mNum_le bs s m hp) (Nat.zero_le _)
  unfold mEach
  split
  · simp
  · exact this
theorem boxes_grown {w w1 : World} {z : Nat} {kind most n : Int} (hg : (boxes w kind most n).grownBy w1 (some z)) : w.grownBy w1 (some z) :=
  grownBy_trans (grownBy_trans (World.grownBy_alloc _ _ _) (World.grownBy_alloc _ _ _)) hg

set_option maxRecDepth 20000 in
set_option maxHeartbeats 1600000 in
theorem take_1 (w : World) (z : Nat) (sv : Value) (bs : List UInt8) (s : S) (most : Nat) (n : Int) (h : DecSt w z sv bs s) :
    Calls Try.prog 16 #[.pointer (some ⟨z, 0, none⟩), .agg #[.int .i64 1, .int .u64 most, .int .i64 n]] w (TakeC w z sv bs ((mNum bs s most).1, [], (mNum bs s most).2.2)) := by
  have hz := h.lt
  have HSV := hide (fun b => h.1.blk (b := b))
  have HC := hide (var_st (boxes w 1 most n) z sv bs s most (boxes_dec h 1 most n))
  generalize mNum bs s most = r at HC ⊢
  go_enter Try.func16, Try.ntmps16
  go_wp2_with fail
  refine (HC.out).mono ?_
  rintro e w1 ⟨rfl, hd, hg⟩
  have hk := boxes_res 1 most n hz hg
  have c0 := hk.cell 0
  have c1 := hk.cell 1
  have f0 := hk.frozen 0
  have f1 := hk.frozen 1
  go_wp2
  have he := take_end (.int .u64 r.1) (.string ⟨#[]⟩) hz HSV.out hd (boxes_grown hg) hk
  refine bodyPost_ret (results_cell rfl _ _ _ rfl _ he.1) rfl ?_
  exact ⟨rfl, he.2.1, he.2.2⟩

set_option maxRecDepth 20000 in
set_option maxHeartbeats 1600000 in
theorem take_2 (w : World) (z : Nat) (sv : Value) (bs : List UInt8) (s : S) (most : Nat) (n : Int) (h1 : -9223372036854775808 ≤ n) (h2 : n ≤ 9223372036854775807) (h : DecSt w z sv bs s) :
    Calls Try.prog 16 #[.pointer (some ⟨z, 0, none⟩), .agg #[.int .i64 2, .int .u64 most, .int .i64 n]] w (TakeC w z sv bs (0, (mText bs s n.toNat).1, (mText bs s n.toNat).2)) := by
  have hz := h.lt
  have HSV := hide (fun b => h.1.blk (b := b))
  have HC := hide (text_st (boxes w 2 most n) z sv bs s n h1 h2 (boxes_dec h 2 most n))
  generalize mText bs s n.toNat = r at HC ⊢
  go_enter Try.func16, Try.ntmps16
  go_wp2_with fail
  refine (HC.out).mono ?_
  rintro e w1 ⟨rfl, hd, hg⟩
  have hk := boxes_res 2 most n hz hg
  have c0 := hk.cell 0
  have c1 := hk.cell 1
  have f0 := hk.frozen 0
  have f1 := hk.frozen 1
  go_wp2
  have he := take_end (.int .u64 0) (.string ⟨r.1.toArray⟩) hz HSV.out hd (boxes_grown hg) hk
  refine bodyPost_ret (results_cell rfl _ _ _ rfl _ he.1) rfl ?_
  exact ⟨rfl, he.2.1, he.2.2⟩

set_option maxRecDepth 20000 in
set_option maxHeartbeats 1600000 in
theorem take_3 (w : World) (z : Nat) (sv : Value) (bs : List UInt8) (s : S) (most : Nat) (n : Int) (h1 : -9223372036854775808 ≤ n) (h2 : n ≤ 9223372036854775807) (hlen : bs.length ≤ 140737488351232) (h : DecSt w z sv bs s) :
    Calls Try.prog 16 #[.pointer (some ⟨z, 0, none⟩), .agg #[.int .i64 3, .int .u64 most, .int .i64 n]] w (TakeC w z sv bs (0, (mNext bs s (mPlace s) n.toNat).1.getD [], (mNext bs s (mPlace s) n.toNat).2)) := by
  have hz := h.lt
  have HSV := hide (fun b => h.1.blk (b := b))
  have HC := hide (raw_st (boxes w 3 most n) z sv bs s n h1 h2 (boxes_dec h 3 most n) (by omega))
  have hxl := mNext_len bs s (mPlace s) n.toNat
  generalize mNext bs s (mPlace s) n.toNat = r at HC hxl ⊢
  go_enter Try.func16, Try.ntmps16
  go_wp2_with fail
  refine (HC.out).mono ?_
  rintro e w0 ⟨⟨v, rfl, hown⟩, hd0, hg0⟩
  have HS := hide (spoilt_any w0 _ v _ hown hg0.size (by omega))
  have HD0 := hide hd0
  have HG0 := hide hg0
  clear hown hd0 hg0
  go_wp2_with fail
  refine (HS.out).mono ?_
  rintro e w1 ⟨rfl, hb1⟩
  have hd := spoilt_dec (boxes_dec h 3 most n) HD0.out HG0.out hb1
  have hg := spoilt_grown HG0.out hb1
  have hk := boxes_res 3 most n hz hg
  have c0 := hk.cell 0
  have c1 := hk.cell 1
  have f0 := hk.frozen 0
  have f1 := hk.frozen 1
  clear hb1
  go_wp2
  have he := take_end (.int .u64 0) (.string ⟨(r.1.getD []).toArray⟩) hz HSV.out hd (boxes_grown hg) hk
  refine bodyPost_ret (results_cell rfl _ _ _ rfl _ he.1) rfl ?_
  exact ⟨rfl, he.2.1, he.2.2⟩

set_option maxRecDepth 20000 in
set_option maxHeartbeats 1600000 in
theorem take_13 (w : World) (z : Nat) (sv : Value) (bs : List UInt8) (s : S) (most : Nat) (n : Int) (h1 : -9223372036854775808 ≤ n) (h2 : n ≤ 9223372036854775807) (hlen : bs.length ≤ 140737488351232) (h : DecSt w z sv bs s) :
    Calls Try.prog 16 #[.pointer (some ⟨z, 0, none⟩), .agg #[.int .i64 13, .int .u64 most, .int .i64 n]] w (TakeC w z sv bs (0, (mEach bs s n.toNat).1, (mEach bs s n.toNat).2)) := by
  have hz := h.lt
  have HSV := hide (fun b => h.1.blk (b := b))
  have HC := hide (each_st (boxes w 13 most n) z sv bs s n h1 h2 (boxes_dec h 13 most n) (by omega))
  have hxl := mEach_len bs s n.toNat h.2.1
  generalize mEach bs s n.toNat = r at HC hxl ⊢
  go_enter Try.func16, Try.ntmps16
  go_wp2_with fail
  refine (HC.out).mono ?_
  rintro e w0 ⟨⟨v, rfl, hown⟩, hd0, hg0⟩
  have HS := hide (spoilt_any w0 _ v _ hown hg0.size (by omega))
  have HD0 := hide hd0
  have HG0 := hide hg0
  clear hown hd0 hg0
  go_wp2_with fail
  refine (HS.out).mono ?_
  rintro e w1 ⟨rfl, hb1⟩
  have hd := spoilt_dec (boxes_dec h 13 most n) HD0.out HG0.out hb1
  have hg := spoilt_grown HG0.out hb1
  have hk := boxes_res 13 most n hz hg
  have c0 := hk.cell 0
  have c1 := hk.cell 1
  have f0 := hk.frozen 0
  have f1 := hk.frozen 1
  clear hb1
  go_wp2
  have he := take_end (.int .u64 0) (.string ⟨r.1.toArray⟩) hz HSV.out hd (boxes_grown hg) hk
  refine bodyPost_ret (results_cell rfl _ _ _ rfl _ he.1) rfl ?_
  exact ⟨rfl, he.2.1, he.2.2⟩

set_option maxRecDepth 20000 in
set_option maxHeartbeats 1600000 in
theorem take_5 (w : World) (z : Nat) (sv : Value) (bs : List UInt8) (s : S) (most : Nat) (n : Int) (h : DecSt w z sv bs s) :
    Calls Try.prog 16 #[.pointer (some ⟨z, 0, none⟩), .agg #[.int .i64 5, .int .u64 most, .int .i64 n]] w (TakeC w z sv bs (IntKind.u64.wrap (IntKind.i8.wrap (leNat ((mNext bs s (mPlace s) 1).1.getD []) : Nat)), [], (mNext bs s (mPlace s) 1).2)) := by
  have hz := h.lt
  have HSV := hide (fun b => h.1.blk (b := b))
  have HC := hide (take_int8 (boxes w 5 most n) z sv bs s (boxes_dec h 5 most n))
  generalize mNext bs s (mPlace s) 1 = r at HC ⊢
  go_enter Try.func16, Try.ntmps16
  go_wp2_with fail
  refine (HC.out).mono ?_
  rintro e w1 ⟨rfl, hd, hg⟩
  have hk := boxes_res 5 most n hz hg
  have c0 := hk.cell 0
  have c1 := hk.cell 1
  have f0 := hk.frozen 0
  have f1 := hk.frozen 1
  generalize hY : IntKind.i8.wrap ((leNat (r.1.getD []) : Nat) : Int) = Y
  have HY := hide hY
  clear hY
  go_wp2
  have he := take_end (.int .u64 (IntKind.u64.wrap Y)) (.string ⟨#[]⟩) hz HSV.out hd (boxes_grown hg) hk
  refine bodyPost_ret (results_cell rfl _ _ _ rfl _ he.1) rfl ?_
  exact ⟨by rw [← HY.out], he.2.1, he.2.2⟩

set_option maxRecDepth 20000 in
set_option maxHeartbeats 1600000 in
theorem take_6 (w : World) (z : Nat) (sv : Value) (bs : List UInt8) (s : S) (most : Nat) (n : Int) (h : DecSt w z sv bs s) :
    Calls Try.prog 16 #[.pointer (some ⟨z, 0, none⟩), .agg #[.int .i64 6, .int .u64 most, .int .i64 n]] w (TakeC w z sv bs (IntKind.u8.wrap (leNat ((mNext bs s (mPlace s) 1).1.getD []) : Nat), [], (mNext bs s (mPlace s) 1).2)) := by
  have hz := h.lt
  have HSV := hide (fun b => h.1.blk (b := b))
  have HC := hide (take_uint8 (boxes w 6 most n) z sv bs s (boxes_dec h 6 most n))
  generalize mNext bs s (mPlace s) 1 = r at HC ⊢
  go_enter Try.func16, Try.ntmps16
  go_wp2_with fail
  refine (HC.out).mono ?_
  rintro e w1 ⟨rfl, hd, hg⟩
  have hk := boxes_res 6 most n hz hg
  have c0 := hk.cell 0
  have c1 := hk.cell 1
  have f0 := hk.frozen 0
  have f1 := hk.frozen 1
  generalize hY : IntKind.u8.wrap ((leNat (r.1.getD []) : Nat) : Int) = Y
  have HY := hide hY
  rw [IntKind.wrap_u8] at hY
  have b0 : 0 ≤ Y := by omega
  have b1 : Y < 256 := by omega
  clear hY
  go_wp2
  have he := take_end (.int .u64 Y) (.string ⟨#[]⟩) hz HSV.out hd (boxes_grown hg) hk
  refine bodyPost_ret (results_cell rfl _ _ _ rfl _ he.1) rfl ?_
  exact ⟨by rw [← HY.out], he.2.1, he.2.2⟩

set_option maxRecDepth 20000 in
set_option maxHeartbeats 1600000 in
theorem take_7 (w : World) (z : Nat) (sv : Value) (bs : List UInt8) (s : S) (most : Nat) (n : Int) (h : DecSt w z sv bs s) :
    Calls Try.prog 16 #[.pointer (some ⟨z, 0, none⟩), .agg #[.int .i64 7, .int .u64 most, .int .i64 n]] w (TakeC w z sv bs (IntKind.u64.wrap (IntKind.i16.wrap (leNat ((mNext bs s (mPlace s) 2).1.getD []) : Nat)), [], (mNext bs s (mPlace s) 2).2)) := by
  have hz := h.lt
  have HSV := hide (fun b => h.1.blk (b := b))
  have HC := hide (take_int16 (boxes w 7 most n) z sv bs s (boxes_dec h 7 most n))
  generalize mNext bs s (mPlace s) 2 = r at HC ⊢
  go_enter Try.func16, Try.ntmps16
  go_wp2_with fail
  refine (HC.out).mono ?_
  rintro e w1 ⟨rfl, hd, hg⟩
  have hk := boxes_res 7 most n hz hg
  have c0 := hk.cell 0
  have c1 := hk.cell 1
  have f0 := hk.frozen 0
  have f1 := hk.frozen 1
  generalize hY : IntKind.i16.wrap ((leNat (r.1.getD []) : Nat) : Int) = Y
  have HY := hide hY
  clear hY
  go_wp2
  have he := take_end (.int .u64 (IntKind.u64.wrap Y)) (.string ⟨#[]⟩) hz HSV.out hd (boxes_grown hg) hk
  refine bodyPost_ret (results_cell rfl _ _ _ rfl _ he.1) rfl ?_
  exact ⟨by rw [← HY.out], he.2.1, he.2.2⟩

set_option maxRecDepth 20000 in
set_option maxHeartbeats 1600000 in
theorem take_8 (w : World) (z : Nat) (sv : Value) (bs : List UInt8) (s : S) (most : Nat) (n : Int) (h : DecSt w z sv bs s) :
    Calls Try.prog 16 #[.pointer (some ⟨z, 0, none⟩), .agg #[.int .i64 8, .int .u64 most, .int .i64 n]] w (TakeC w z sv bs (IntKind.u16.wrap (leNat ((mNext bs s (mPlace s) 2).1.getD []) : Nat), [], (mNext bs s (mPlace s) 2).2)) := by
  have hz := h.lt
  have HSV := hide (fun b => h.1.blk (b := b))
  have HC := hide (take_uint16 (boxes w 8 most n) z sv bs s (boxes_dec h 8 most n))
  generalize mNext bs s (mPlace s) 2 = r at HC ⊢
  go_enter Try.func16, Try.ntmps16
  go_wp2_with fail
  refine (HC.out).mono ?_
  rintro e w1 ⟨rfl, hd, hg⟩
  have hk := boxes_res 8 most n hz hg
  have c0 := hk.cell 0
  have c1 := hk.cell 1
  have f0 := hk.frozen 0
  have f1 := hk.frozen 1
  generalize hY : IntKind.u16.wrap ((leNat (r.1.getD []) : Nat) : Int) = Y
  have HY := hide hY
  rw [IntKind.wrap_u16] at hY
  have b0 : 0 ≤ Y := by omega
  have b1 : Y < 65536 := by omega
  clear hY
  go_wp2
  have he := take_end (.int .u64 Y) (.string ⟨#[]⟩) hz HSV.out hd (boxes_grown hg) hk
  refine bodyPost_ret (results_cell rfl _ _ _ rfl _ he.1) rfl ?_
  exact ⟨by rw [← HY.out], he.2.1, he.2.2⟩

set_option maxRecDepth 20000 in
set_option maxHeartbeats 1600000 in
theorem take_9 (w : World) (z : Nat) (sv : Value) (bs : List UInt8) (s : S) (most : Nat) (n : Int) (h : DecSt w z sv bs s) :
    Calls Try.prog 16 #[.pointer (some ⟨z, 0, none⟩), .agg #[.int .i64 9, .int .u64 most, .int .i64 n]] w (TakeC w z sv bs (IntKind.u64.wrap (IntKind.i32.wrap (leNat ((mNext bs s (mPlace s) 4).1.getD []) : Nat)), [], (mNext bs s (mPlace s) 4).2)) := by
  have hz := h.lt
  have HSV := hide (fun b => h.1.blk (b := b))
  have HC := hide (take_int32 (boxes w 9 most n) z sv bs s (boxes_dec h 9 most n))
  generalize mNext bs s (mPlace s) 4 = r at HC ⊢
  go_enter Try.func16, Try.ntmps16
  go_wp2_with fail
  refine (HC.out).mono ?_
  rintro e w1 ⟨rfl, hd, hg⟩
  have hk := boxes_res 9 most n hz hg
  have c0 := hk.cell 0
  have c1 := hk.cell 1
  have f0 := hk.frozen 0
  have f1 := hk.frozen 1
  generalize hY : IntKind.i32.wrap ((leNat (r.1.getD []) : Nat) : Int) = Y
  have HY := hide hY
  clear hY
  go_wp2
  have he := take_end (.int .u64 (IntKind.u64.wrap Y)) (.string ⟨#[]⟩) hz HSV.out hd (boxes_grown hg) hk
  refine bodyPost_ret (results_cell rfl _ _ _ rfl _ he.1) rfl ?_
  exact ⟨by rw [← HY.out], he.2.1, he.2.2⟩

set_option maxRecDepth 20000 in
set_option maxHeartbeats 1600000 in
theorem take_10 (w : World) (z : Nat) (sv : Value) (bs : List UInt8) (s : S) (most : Nat) (n : Int) (h : DecSt w z sv bs s) :
    Calls Try.prog 16 #[.pointer (some ⟨z, 0, none⟩), .agg #[.int .i64 10, .int .u64 most, .int .i64 n]] w (TakeC w z sv bs (IntKind.u32.wrap (leNat ((mNext bs s (mPlace s) 4).1.getD []) : Nat), [], (mNext bs s (mPlace s) 4).2)) := by
  have hz := h.lt
  have HSV := hide (fun b => h.1.blk (b := b))
  have HC := hide (take_uint32 (boxes w 10 most n) z sv bs s (boxes_dec h 10 most n))
  generalize mNext bs s (mPlace s) 4 = r at HC ⊢
  go_enter Try.func16, Try.ntmps16
  go_wp2_with fail
  refine (HC.out).mono ?_
  rintro e w1 ⟨rfl, hd, hg⟩
  have hk := boxes_res 10 most n hz hg
  have c0 := hk.cell 0
  have c1 := hk.cell 1
  have f0 := hk.frozen 0
  have f1 := hk.frozen 1
  generalize hY : IntKind.u32.wrap ((leNat (r.1.getD []) : Nat) : Int) = Y
  have HY := hide hY
  rw [IntKind.wrap_u32] at hY
  have b0 : 0 ≤ Y := by omega
  have b1 : Y < 4294967296 := by omega
  clear hY
  go_wp2
  have he := take_end (.int .u64 Y) (.string ⟨#[]⟩) hz HSV.out hd (boxes_grown hg) hk
  refine bodyPost_ret (results_cell rfl _ _ _ rfl _ he.1) rfl ?_
  exact ⟨by rw [← HY.out], he.2.1, he.2.2⟩

set_option maxRecDepth 20000 in
set_option maxHeartbeats 1600000 in
theorem take_11 (w : World) (z : Nat) (sv : Value) (bs : List UInt8) (s : S) (most : Nat) (n : Int) (h : DecSt w z sv bs s) :
    Calls Try.prog 16 #[.pointer (some ⟨z, 0, none⟩), .agg #[.int .i64 11, .int .u64 most, .int .i64 n]] w (TakeC w z sv bs (IntKind.u64.wrap (IntKind.i64.wrap (leNat ((mNext bs s (mPlace s) 8).1.getD []) : Nat)), [], (mNext bs s (mPlace s) 8).2)) := by
  have hz := h.lt
  have HSV := hide (fun b => h.1.blk (b := b))
  have HC := hide (take_int64 (boxes w 11 most n) z sv bs s (boxes_dec h 11 most n))
  generalize mNext bs s (mPlace s) 8 = r at HC ⊢
  go_enter Try.func16, Try.ntmps16
  go_wp2_with fail
  refine (HC.out).mono ?_
  rintro e w1 ⟨rfl, hd, hg⟩
  have hk := boxes_res 11 most n hz hg
  have c0 := hk.cell 0
  have c1 := hk.cell 1
  have f0 := hk.frozen 0
  have f1 := hk.frozen 1
  generalize hY : IntKind.i64.wrap ((leNat (r.1.getD []) : Nat) : Int) = Y
  have HY := hide hY
  clear hY
  go_wp2
  have he := take_end (.int .u64 (IntKind.u64.wrap Y)) (.string ⟨#[]⟩) hz HSV.out hd (boxes_grown hg) hk
  refine bodyPost_ret (results_cell rfl _ _ _ rfl _ he.1) rfl ?_
  exact ⟨by rw [← HY.out], he.2.1, he.2.2⟩

set_option maxRecDepth 20000 in
set_option maxHeartbeats 1600000 in
theorem take_12 (w : World) (z : Nat) (sv : Value) (bs : List UInt8) (s : S) (most : Nat) (n : Int) (h : DecSt w z sv bs s) :
    Calls Try.prog 16 #[.pointer (some ⟨z, 0, none⟩), .agg #[.int .i64 12, .int .u64 most, .int .i64 n]] w (TakeC w z sv bs (IntKind.u64.wrap (leNat ((mNext bs s (mPlace s) 8).1.getD []) : Nat), [], (mNext bs s (mPlace s) 8).2)) := by
  have hz := h.lt
  have HSV := hide (fun b => h.1.blk (b := b))
  have HC := hide (take_uint64 (boxes w 12 most n) z sv bs s (boxes_dec h 12 most n))
  generalize mNext bs s (mPlace s) 8 = r at HC ⊢
  go_enter Try.func16, Try.ntmps16
  go_wp2_with fail
  refine (HC.out).mono ?_
  rintro e w1 ⟨rfl, hd, hg⟩
  have hk := boxes_res 12 most n hz hg
  have c0 := hk.cell 0
  have c1 := hk.cell 1
  have f0 := hk.frozen 0
  have f1 := hk.frozen 1
  generalize hY : IntKind.u64.wrap ((leNat (r.1.getD []) : Nat) : Int) = Y
  have HY := hide hY
  rw [IntKind.wrap_u64] at hY
  have b0 : 0 ≤ Y := by omega
  have b1 : Y < 18446744073709551616 := by omega
  clear hY
  go_wp2
  have he := take_end (.int .u64 Y) (.string ⟨#[]⟩) hz HSV.out hd (boxes_grown hg) hk
  refine bodyPost_ret (results_cell rfl _ _ _ rfl _ he.1) rfl ?_
  exact ⟨by rw [← HY.out], he.2.1, he.2.2⟩

end Go.Proofs.Ytinjcefekbpabaa
