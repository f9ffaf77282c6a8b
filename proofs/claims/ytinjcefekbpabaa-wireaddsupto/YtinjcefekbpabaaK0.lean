/- What was taken off, added again, is what stood there: the plain part. -/
import Derived.Test.YtinjcefekbpabaaH3
namespace Go.Proofs.Ytinjcefekbpabaa
set_option linter.unusedVariables false
set_option linter.unusedSimpArgs false
open Go.RowKit

theorem firstGo_inv : ∀ (xs : List UInt8) (acc i v n : Nat), firstGo acc i xs = (v, n, 0) → i ≤ 9 →
    ∃ m, v = acc + m * 128 ^ i ∧ i < n ∧ n ≤ i + xs.length ∧ xs.take (n - i) = varGo (9 - i) m ∧ (0 < i → 0 < m)
  | [], acc, i, v, n, h, _ => by simp [firstGo] at h
  | c :: r, acc, i, v, n, h, hi => by
    have hcl := c.toNat_lt
    rw [firstGo] at h
    split at h
    · simp at h
    · rename_i h9
      split at h
      · rename_i hlt
        split at h
        · simp at h
        · rename_i h0
          simp only [Prod.mk.injEq] at h
          obtain ⟨rfl, rfl, _⟩ := h
          refine ⟨c.toNat, by rw [Nat.mod_eq_of_lt hlt], by omega, by rw [List.length_cons]; omega, ?_, by omega⟩
          have e : i + 1 - i = 1 := by omega
          rw [e]
          have hc : UInt8.ofNat c.toNat = c := by simp
          cases h8 : 9 - i with
          | zero => simp [varGo]
          | succ k => rw [varGo, if_pos hlt]; simp
      · rename_i hge
        have hi9 : i ≠ 9 := by omega
        obtain ⟨m, e1, e2, e3, e4, e5⟩ := firstGo_inv r _ (i + 1) v n h (by omega)
        have hm := e5 (by omega)
        refine ⟨c.toNat % 128 + 128 * m, ?_, by omega, by simp; omega, ?_, by omega⟩
        · rw [e1, Nat.pow_succ, Nat.add_mul, Nat.mul_comm 128 m, Nat.mul_assoc, Nat.mul_comm (128 ^ i) 128]
          omega
        · have en : n - i = (n - (i + 1)) + 1 := by omega
          have e9 : 9 - i = (9 - (i + 1)) + 1 := by omega
          rw [en, List.take_succ_cons, e4, e9, varGo, if_neg (by omega)]
          have d1 : (c.toNat % 128 + 128 * m) % 128 + 128 = c.toNat := by omega
          have d2 : (c.toNat % 128 + 128 * m) / 128 = m := by omega
          rw [d1, d2]
          simp
theorem first_inv (xs : List UInt8) (v n : Nat) (h : firstGo 0 0 xs = (v, n, 0)) : n ≤ xs.length ∧ xs.take n = varB v := by
  obtain ⟨m, e1, _, e3, e4, _⟩ := firstGo_inv xs 0 0 v n h (by omega)
  have : v = m := by rw [e1]; simp
  subst this
  exact ⟨by omega, e4⟩

/-- A number that was taken: its bytes stood there. -/
theorem mNum_inv (bs : List UInt8) (s : S) (most : Nat) (hs : s.code = 0) (hp : s.p ≤ bs.length) :
    ((mNum bs s most).2.2.code ≠ 0 ∧ (mNum bs s most).1 = 0 ∧ (mNum bs s most).2.1 = false) ∨
    ((mNum bs s most).2.2.code = 0 ∧ (mNum bs s most).2.1 = true ∧ (mNum bs s most).2.2.p ≤ bs.length ∧ bs.take (mNum bs s most).2.2.p = bs.take s.p ++ varB (mNum bs s most).1 ∧ (mNum bs s most).1 < 18446744073709551616) := by
  unfold mNum
  rw [if_neg (by omega)]
  split
  · rename_i h; exact .inl ⟨h, rfl, rfl⟩
  · rename_i h
    split
    · exact .inl ⟨by simp, rfl, rfl⟩
    · right
      have hz : (firstGo 0 0 (bs.drop s.p)).2.2 = 0 := by omega
      obtain ⟨h1, h2⟩ := first_inv (bs.drop s.p) (firstGo 0 0 (bs.drop s.p)).1 (firstGo 0 0 (bs.drop s.p)).2.1 (Prod.ext rfl (Prod.ext rfl hz))
      have h1 : (firstGo 0 0 (bs.drop s.p)).2.1 ≤ bs.length - s.p := by rw [← List.length_drop]; exact h1
      have h1' : s.p + (firstGo 0 0 (bs.drop s.p)).2.1 ≤ bs.length := by omega
      refine ⟨hs, rfl, h1', ?_, firstGo_lt _ 0 0 (by simp) (by omega)⟩
      simp only []
      rw [List.take_add, h2]
theorem mNext_inv (bs : List UInt8) (s : S) (a k : Nat) (hs : s.code = 0) :
    ((mNext bs s a k).2.code ≠ 0 ∧ (mNext bs s a k).1 = none) ∨
    ((mNext bs s a k).2.code = 0 ∧ ∃ ys, (mNext bs s a k).1 = some ys ∧ ys.length = k ∧ (mNext bs s a k).2.p ≤ bs.length ∧ bs.take (mNext bs s a k).2.p = bs.take s.p ++ ys) := by
  unfold mNext
  rw [if_neg (by omega)]
  split
  · exact .inl ⟨by simp, rfl⟩
  · right
    refine ⟨hs, (bs.drop s.p).take k, rfl, by simp; omega, by simp only []; omega, ?_⟩
    simp only []
    rw [List.take_add]

theorem fixB_le : ∀ xs : List UInt8, fixB xs.length (leNat xs) = xs
  | [] => rfl
  | c :: r => by
    have hc := c.toNat_lt
    rw [List.length_cons, fixB, leNat]
    have e1 : UInt8.ofNat (c.toNat + 256 * leNat r) = c := by
      apply UInt8.toNat_inj.1
      simp
    have e2 : (c.toNat + 256 * leNat r) / 256 = leNat r := by omega
    rw [e1, e2, fixB_le r]
theorem eachGo_inv (bs : List UInt8) : ∀ (n : Nat) (s : S) (acc : List UInt8), s.code = 0 → s.p ≤ bs.length → (eachGo bs n s acc).2.code = 0 →
    ∃ ys, (eachGo bs n s acc).1 = acc ++ ys ∧ ys.length = n ∧ (eachGo bs n s acc).2.p ≤ bs.length ∧ bs.take (eachGo bs n s acc).2.p = bs.take s.p ++ ys
  | 0, s, acc, h, hp, _ => ⟨[], by simp [eachGo], rfl, by simpa [eachGo] using hp, by simp [eachGo]⟩
  | n + 1, s, acc, h, hp, hc => by
    rw [eachGo, if_neg (by omega)] at hc ⊢
    rcases mNext_inv bs s (mPlace s) 1 h with ⟨h1, h2⟩ | ⟨h1, ys, h2, h3, h4, h5⟩
    · rw [eachGo_stop bs n _ _ h1] at hc
      exact absurd hc h1
    · obtain ⟨zs, g1, g2, g3, g4⟩ := eachGo_inv bs n _ _ h1 h4 hc
      match ys, h3 with
      | [u], _ =>
        rw [h2] at g1 g3 g4 ⊢
        refine ⟨u :: zs, ?_, by simp [g2], g3, ?_⟩
        · rw [g1]; simp [hd1]
        · rw [g4, h5]; simp

theorem arith_5 (q : Nat) (h : q < 256) : (IntKind.u64.wrap (IntKind.i8.wrap (q : Int))).toNat % 256 = q ∧ 0 ≤ IntKind.u64.wrap (IntKind.i8.wrap (q : Int)) ∧ IntKind.u64.wrap (IntKind.i8.wrap (q : Int)) ≤ 18446744073709551615 := by
  simp only [IntKind.wrap_i8x, IntKind.wrap_u64]
  omega
theorem back_num_5 (ys : List UInt8) (hy : ys.length = 1) : fixB 1 (IntKind.u64.wrap (wrapU .i8 ys)).toNat = ys ∧ 0 ≤ IntKind.u64.wrap (wrapU .i8 ys) ∧ IntKind.u64.wrap (wrapU .i8 ys) ≤ 18446744073709551615 := by
  have hlt : leNat ys < 256 := leNat_lt ys 1 (by omega)
  have e : fixB 1 (leNat ys) = ys := by have := fixB_le ys; rwa [hy] at this
  obtain ⟨a1, a2, a3⟩ := arith_5 (leNat ys) hlt
  unfold wrapU
  refine ⟨?_, a2, a3⟩
  refine Eq.trans (fixB_mod 1 _ (leNat ys) ?_) e
  have e2 : (256 : Nat) ^ 1 = 256 := by decide
  rw [e2, a1, Nat.mod_eq_of_lt hlt]
theorem zero_num_5 : IntKind.u64.wrap (wrapU .i8 []) = 0 := by unfold wrapU; simp [leNat, IntKind.wrap_i8x, IntKind.wrap_u64]
theorem arith_6 (q : Nat) (h : q < 256) : (IntKind.u8.wrap (q : Int)).toNat % 256 = q ∧ 0 ≤ IntKind.u8.wrap (q : Int) ∧ IntKind.u8.wrap (q : Int) ≤ 18446744073709551615 := by
  simp only [IntKind.wrap_u8]
  omega
theorem back_num_6 (ys : List UInt8) (hy : ys.length = 1) : fixB 1 (wrapU .u8 ys).toNat = ys ∧ 0 ≤ wrapU .u8 ys ∧ wrapU .u8 ys ≤ 18446744073709551615 := by
  have hlt : leNat ys < 256 := leNat_lt ys 1 (by omega)
  have e : fixB 1 (leNat ys) = ys := by have := fixB_le ys; rwa [hy] at this
  obtain ⟨a1, a2, a3⟩ := arith_6 (leNat ys) hlt
  unfold wrapU
  refine ⟨?_, a2, a3⟩
  refine Eq.trans (fixB_mod 1 _ (leNat ys) ?_) e
  have e2 : (256 : Nat) ^ 1 = 256 := by decide
  rw [e2, a1, Nat.mod_eq_of_lt hlt]
theorem zero_num_6 : wrapU .u8 [] = 0 := by unfold wrapU; simp [leNat, IntKind.wrap_u8]
theorem arith_7 (q : Nat) (h : q < 65536) : (IntKind.u64.wrap (IntKind.i16.wrap (q : Int))).toNat % 65536 = q ∧ 0 ≤ IntKind.u64.wrap (IntKind.i16.wrap (q : Int)) ∧ IntKind.u64.wrap (IntKind.i16.wrap (q : Int)) ≤ 18446744073709551615 := by
  simp only [IntKind.wrap_i16x, IntKind.wrap_u64]
  omega
theorem back_num_7 (ys : List UInt8) (hy : ys.length = 2) : fixB 2 (IntKind.u64.wrap (wrapU .i16 ys)).toNat = ys ∧ 0 ≤ IntKind.u64.wrap (wrapU .i16 ys) ∧ IntKind.u64.wrap (wrapU .i16 ys) ≤ 18446744073709551615 := by
  have hlt : leNat ys < 65536 := leNat_lt ys 2 (by omega)
  have e : fixB 2 (leNat ys) = ys := by have := fixB_le ys; rwa [hy] at this
  obtain ⟨a1, a2, a3⟩ := arith_7 (leNat ys) hlt
  unfold wrapU
  refine ⟨?_, a2, a3⟩
  refine Eq.trans (fixB_mod 2 _ (leNat ys) ?_) e
  have e2 : (256 : Nat) ^ 2 = 65536 := by decide
  rw [e2, a1, Nat.mod_eq_of_lt hlt]
theorem zero_num_7 : IntKind.u64.wrap (wrapU .i16 []) = 0 := by unfold wrapU; simp [leNat, IntKind.wrap_i16x, IntKind.wrap_u64]
theorem arith_8 (q : Nat) (h : q < 65536) : (IntKind.u16.wrap (q : Int)).toNat % 65536 = q ∧ 0 ≤ IntKind.u16.wrap (q : Int) ∧ IntKind.u16.wrap (q : Int) ≤ 18446744073709551615 := by
  simp only [IntKind.wrap_u16]
  omega
theorem back_num_8 (ys : List UInt8) (hy : ys.length = 2) : fixB 2 (wrapU .u16 ys).toNat = ys ∧ 0 ≤ wrapU .u16 ys ∧ wrapU .u16 ys ≤ 18446744073709551615 := by
  have hlt : leNat ys < 65536 := leNat_lt ys 2 (by omega)
  have e : fixB 2 (leNat ys) = ys := by have := fixB_le ys; rwa [hy] at this
  obtain ⟨a1, a2, a3⟩ := arith_8 (leNat ys) hlt
  unfold wrapU
  refine ⟨?_, a2, a3⟩
  refine Eq.trans (fixB_mod 2 _ (leNat ys) ?_) e
  have e2 : (256 : Nat) ^ 2 = 65536 := by decide
  rw [e2, a1, Nat.mod_eq_of_lt hlt]
theorem zero_num_8 : wrapU .u16 [] = 0 := by unfold wrapU; simp [leNat, IntKind.wrap_u16]
theorem arith_9 (q : Nat) (h : q < 4294967296) : (IntKind.u64.wrap (IntKind.i32.wrap (q : Int))).toNat % 4294967296 = q ∧ 0 ≤ IntKind.u64.wrap (IntKind.i32.wrap (q : Int)) ∧ IntKind.u64.wrap (IntKind.i32.wrap (q : Int)) ≤ 18446744073709551615 := by
  simp only [IntKind.wrap_i32, IntKind.wrap_u64]
  omega
theorem back_num_9 (ys : List UInt8) (hy : ys.length = 4) : fixB 4 (IntKind.u64.wrap (wrapU .i32 ys)).toNat = ys ∧ 0 ≤ IntKind.u64.wrap (wrapU .i32 ys) ∧ IntKind.u64.wrap (wrapU .i32 ys) ≤ 18446744073709551615 := by
  have hlt : leNat ys < 4294967296 := leNat_lt ys 4 (by omega)
  have e : fixB 4 (leNat ys) = ys := by have := fixB_le ys; rwa [hy] at this
  obtain ⟨a1, a2, a3⟩ := arith_9 (leNat ys) hlt
  unfold wrapU
  refine ⟨?_, a2, a3⟩
  refine Eq.trans (fixB_mod 4 _ (leNat ys) ?_) e
  have e2 : (256 : Nat) ^ 4 = 4294967296 := by decide
  rw [e2, a1, Nat.mod_eq_of_lt hlt]
theorem zero_num_9 : IntKind.u64.wrap (wrapU .i32 []) = 0 := by unfold wrapU; simp [leNat, IntKind.wrap_i32, IntKind.wrap_u64]
theorem arith_10 (q : Nat) (h : q < 4294967296) : (IntKind.u32.wrap (q : Int)).toNat % 4294967296 = q ∧ 0 ≤ IntKind.u32.wrap (q : Int) ∧ IntKind.u32.wrap (q : Int) ≤ 18446744073709551615 := by
  simp only [IntKind.wrap_u32]
  omega
theorem back_num_10 (ys : List UInt8) (hy : ys.length = 4) : fixB 4 (wrapU .u32 ys).toNat = ys ∧ 0 ≤ wrapU .u32 ys ∧ wrapU .u32 ys ≤ 18446744073709551615 := by
  have hlt : leNat ys < 4294967296 := leNat_lt ys 4 (by omega)
  have e : fixB 4 (leNat ys) = ys := by have := fixB_le ys; rwa [hy] at this
  obtain ⟨a1, a2, a3⟩ := arith_10 (leNat ys) hlt
  unfold wrapU
  refine ⟨?_, a2, a3⟩
  refine Eq.trans (fixB_mod 4 _ (leNat ys) ?_) e
  have e2 : (256 : Nat) ^ 4 = 4294967296 := by decide
  rw [e2, a1, Nat.mod_eq_of_lt hlt]
theorem zero_num_10 : wrapU .u32 [] = 0 := by unfold wrapU; simp [leNat, IntKind.wrap_u32]
theorem arith_11 (q : Nat) (h : q < 18446744073709551616) : (IntKind.u64.wrap (IntKind.i64.wrap (q : Int))).toNat % 18446744073709551616 = q ∧ 0 ≤ IntKind.u64.wrap (IntKind.i64.wrap (q : Int)) ∧ IntKind.u64.wrap (IntKind.i64.wrap (q : Int)) ≤ 18446744073709551615 := by
  simp only [IntKind.wrap_i64, IntKind.wrap_u64]
  omega
theorem back_num_11 (ys : List UInt8) (hy : ys.length = 8) : fixB 8 (IntKind.u64.wrap (wrapU .i64 ys)).toNat = ys ∧ 0 ≤ IntKind.u64.wrap (wrapU .i64 ys) ∧ IntKind.u64.wrap (wrapU .i64 ys) ≤ 18446744073709551615 := by
  have hlt : leNat ys < 18446744073709551616 := leNat_lt ys 8 (by omega)
  have e : fixB 8 (leNat ys) = ys := by have := fixB_le ys; rwa [hy] at this
  obtain ⟨a1, a2, a3⟩ := arith_11 (leNat ys) hlt
  unfold wrapU
  refine ⟨?_, a2, a3⟩
  refine Eq.trans (fixB_mod 8 _ (leNat ys) ?_) e
  have e2 : (256 : Nat) ^ 8 = 18446744073709551616 := by decide
  rw [e2, a1, Nat.mod_eq_of_lt hlt]
theorem zero_num_11 : IntKind.u64.wrap (wrapU .i64 []) = 0 := by unfold wrapU; simp [leNat, IntKind.wrap_i64, IntKind.wrap_u64]
theorem arith_12 (q : Nat) (h : q < 18446744073709551616) : (IntKind.u64.wrap (q : Int)).toNat % 18446744073709551616 = q ∧ 0 ≤ IntKind.u64.wrap (q : Int) ∧ IntKind.u64.wrap (q : Int) ≤ 18446744073709551615 := by
  simp only [IntKind.wrap_u64]
  omega
theorem back_num_12 (ys : List UInt8) (hy : ys.length = 8) : fixB 8 (wrapU .u64 ys).toNat = ys ∧ 0 ≤ wrapU .u64 ys ∧ wrapU .u64 ys ≤ 18446744073709551615 := by
  have hlt : leNat ys < 18446744073709551616 := leNat_lt ys 8 (by omega)
  have e : fixB 8 (leNat ys) = ys := by have := fixB_le ys; rwa [hy] at this
  obtain ⟨a1, a2, a3⟩ := arith_12 (leNat ys) hlt
  unfold wrapU
  refine ⟨?_, a2, a3⟩
  refine Eq.trans (fixB_mod 8 _ (leNat ys) ?_) e
  have e2 : (256 : Nat) ^ 8 = 18446744073709551616 := by decide
  rw [e2, a1, Nat.mod_eq_of_lt hlt]
theorem zero_num_12 : wrapU .u64 [] = 0 := by unfold wrapU; simp [leNat, IntKind.wrap_u64]

theorem zero_ok : (0 : Int) ≤ 0 ∧ (0 : Int) ≤ 18446744073709551615 := by decide
/-- What a take that goes on gives, added again, is what stood there. -/
def OnlyC (bs : List UInt8) (s : S) (kind : Int) (K : List UInt8) (r : Int × List UInt8 × S) : Prop :=
  (0 ≤ r.1 ∧ r.1 ≤ 18446744073709551615) ∧ r.2.1.length ≤ bs.length + 33 ∧ (r.2.2.code = 0 → r.2.2.p ≤ bs.length ∧ bs.take r.2.2.p = bs.take s.p ++ addB ⟨kind, r.1.toNat, r.2.1, r.2.1, K⟩)
theorem only_1 (bs : List UInt8) (s : S) (most : Nat) (n : Int) (K : List UInt8) (hs : s.code = 0) (hp : s.p ≤ bs.length) : OnlyC bs s 1 K (mTake bs s 1 most n) := by
  have e : mTake bs s 1 most n = (((mNum bs s most).1 : Int), ([] : List UInt8), (mNum bs s most).2.2) := rfl
  rw [e]
  rcases mNum_inv bs s most hs hp with ⟨h1, h2, h3⟩ | ⟨h1, h2, h3, h4, h5⟩
  · refine ⟨by simp only [h2]; decide, by simp, fun h => absurd h h1⟩
  · refine ⟨⟨by simp only []; omega, by simp only []; omega⟩, by simp, fun _ => ⟨h3, ?_⟩⟩
    simp only [addB, if_pos]
    rw [h4]
    simp
theorem only_3 (bs : List UInt8) (s : S) (most : Nat) (n : Int) (K : List UInt8) (hs : s.code = 0) : OnlyC bs s 3 K (mTake bs s 3 most n) := by
  have e : mTake bs s 3 most n = (0, (mNext bs s (mPlace s) n.toNat).1.getD [], (mNext bs s (mPlace s) n.toNat).2) := rfl
  rw [e]
  rcases mNext_inv bs s (mPlace s) n.toNat hs with ⟨h1, h2⟩ | ⟨h1, ys, h2, h3, h4, h5⟩
  · exact ⟨zero_ok, by simp [h2], fun h => absurd h h1⟩
  · have hyl : ys.length ≤ bs.length := by have := congrArg List.length h5; simp at this; omega
    refine ⟨zero_ok, by simp only [h2, Option.getD_some]; omega, fun _ => ⟨h4, ?_⟩⟩
    simp only [h2, Option.getD_some]
    rw [h5]
    rfl
theorem only_4 (bs : List UInt8) (s : S) (most : Nat) (n : Int) (K : List UInt8) (hs : s.code = 0) (hK : K = (mTake bs s 4 most n).2.1) : OnlyC bs s 4 K (mTake bs s 4 most n) := by
  have e : mTake bs s 4 most n = (0, keyBytes (mNext bs s (mPlace s) 32).1, (mNext bs s (mPlace s) 32).2) := rfl
  rw [e] at hK ⊢
  subst hK
  rcases mNext_inv bs s (mPlace s) 32 hs with ⟨h1, h2⟩ | ⟨h1, ys, h2, h3, h4, h5⟩
  · exact ⟨zero_ok, by simp only [h2, keyBytes, Option.getD_none, List.length_replicate]; omega, fun h => absurd h h1⟩
  · refine ⟨zero_ok, by simp only [h2, keyBytes, Option.getD_some]; omega, fun _ => ⟨h4, ?_⟩⟩
    simp only [h2, keyBytes, Option.getD_some]
    rw [h5]
    rfl
theorem only_2 (bs : List UInt8) (s : S) (most : Nat) (n : Int) (K : List UInt8) (hs : s.code = 0) (hp : s.p ≤ bs.length) : OnlyC bs s 2 K (mTake bs s 2 most n) := by
  have e : mTake bs s 2 most n = (0, (mText bs s n.toNat).1, (mText bs s n.toNat).2) := rfl
  rw [e]
  unfold mText
  rcases mNum_inv bs s n.toNat hs hp with ⟨h1, h2, h3⟩ | ⟨h1, h2, h3, h4, h5⟩
  · rw [if_neg (by rw [h3]; decide)]
    exact ⟨zero_ok, by simp, fun h => absurd h h1⟩
  · rw [if_pos h2]
    rcases mNext_inv bs (mNum bs s n.toNat).2.2 (mPlace s) (mNum bs s n.toNat).1 h1 with ⟨g1, g2⟩ | ⟨g1, ys, g2, g3, g4, g5⟩
    · exact ⟨zero_ok, by simp [g2], fun h => absurd h g1⟩
    · have hyl : ys.length ≤ bs.length := by have := congrArg List.length g5; simp at this; omega
      refine ⟨zero_ok, by simp only [g2, Option.getD_some]; omega, fun _ => ⟨g4, ?_⟩⟩
      simp only [g2, Option.getD_some]
      rw [g5, h4, ← g3, List.append_assoc]
      rfl
theorem only_13 (bs : List UInt8) (s : S) (most : Nat) (n : Int) (K : List UInt8) (hs : s.code = 0) (hp : s.p ≤ bs.length) : OnlyC bs s 13 K (mTake bs s 13 most n) := by
  have e : mTake bs s 13 most n = (0, (mEach bs s n.toNat).1, (mEach bs s n.toNat).2) := rfl
  rw [e]
  have hml := mEach_len bs s n.toNat hp
  refine ⟨zero_ok, by simp only []; omega, fun hc => ?_⟩
  simp only [] at hc ⊢
  unfold mEach at hc ⊢
  rcases mNum_inv bs s n.toNat hs hp with ⟨h1, h2, h3⟩ | ⟨h1, h2, h3, h4, h5⟩
  · rw [eachGo_stop bs _ _ _ h1, if_pos h1] at hc
    exact absurd hc h1
  · by_cases hg : (eachGo bs (mNum bs s n.toNat).1 (mNum bs s n.toNat).2.2 []).2.code = 0
    · rw [if_neg (by omega)]
      obtain ⟨ys, g1, g2, g3, g4⟩ := eachGo_inv bs _ _ [] h1 h3 hg
      refine ⟨g3, ?_⟩
      rw [g4, h4, g1, List.nil_append, ← g2, List.append_assoc]
      rfl
    · rw [if_pos hg] at hc
      exact absurd hc hg
theorem only_5 (bs : List UInt8) (s : S) (most : Nat) (n : Int) (K : List UInt8) (hs : s.code = 0) : OnlyC bs s 5 K (mTake bs s 5 most n) := by
  have e : mTake bs s 5 most n = (IntKind.u64.wrap (wrapU .i8 ((mNext bs s (mPlace s) 1).1.getD [])), [], (mNext bs s (mPlace s) 1).2) := rfl
  rw [e]
  rcases mNext_inv bs s (mPlace s) 1 hs with ⟨h1, h2⟩ | ⟨h1, ys, h2, h3, h4, h5⟩
  · refine ⟨?_, by simp, fun h => absurd h h1⟩
    simp only [h2, Option.getD_none, zero_num_5]
    decide
  · obtain ⟨q1, q2, q3⟩ := back_num_5 ys h3
    simp only [h2, Option.getD_some]
    refine ⟨⟨q2, q3⟩, by simp, fun _ => ⟨h4, ?_⟩⟩
    have ea : ∀ N, addB ⟨5, N, [], [], K⟩ = fixB 1 N := fun N => rfl
    simp only [ea]
    rw [h5, q1]
theorem only_6 (bs : List UInt8) (s : S) (most : Nat) (n : Int) (K : List UInt8) (hs : s.code = 0) : OnlyC bs s 6 K (mTake bs s 6 most n) := by
  have e : mTake bs s 6 most n = (wrapU .u8 ((mNext bs s (mPlace s) 1).1.getD []), [], (mNext bs s (mPlace s) 1).2) := rfl
  rw [e]
  rcases mNext_inv bs s (mPlace s) 1 hs with ⟨h1, h2⟩ | ⟨h1, ys, h2, h3, h4, h5⟩
  · refine ⟨?_, by simp, fun h => absurd h h1⟩
    simp only [h2, Option.getD_none, zero_num_6]
    decide
  · obtain ⟨q1, q2, q3⟩ := back_num_6 ys h3
    simp only [h2, Option.getD_some]
    refine ⟨⟨q2, q3⟩, by simp, fun _ => ⟨h4, ?_⟩⟩
    have ea : ∀ N, addB ⟨6, N, [], [], K⟩ = fixB 1 N := fun N => rfl
    simp only [ea]
    rw [h5, q1]
theorem only_7 (bs : List UInt8) (s : S) (most : Nat) (n : Int) (K : List UInt8) (hs : s.code = 0) : OnlyC bs s 7 K (mTake bs s 7 most n) := by
  have e : mTake bs s 7 most n = (IntKind.u64.wrap (wrapU .i16 ((mNext bs s (mPlace s) 2).1.getD [])), [], (mNext bs s (mPlace s) 2).2) := rfl
  rw [e]
  rcases mNext_inv bs s (mPlace s) 2 hs with ⟨h1, h2⟩ | ⟨h1, ys, h2, h3, h4, h5⟩
  · refine ⟨?_, by simp, fun h => absurd h h1⟩
    simp only [h2, Option.getD_none, zero_num_7]
    decide
  · obtain ⟨q1, q2, q3⟩ := back_num_7 ys h3
    simp only [h2, Option.getD_some]
    refine ⟨⟨q2, q3⟩, by simp, fun _ => ⟨h4, ?_⟩⟩
    have ea : ∀ N, addB ⟨7, N, [], [], K⟩ = fixB 2 N := fun N => rfl
    simp only [ea]
    rw [h5, q1]
theorem only_8 (bs : List UInt8) (s : S) (most : Nat) (n : Int) (K : List UInt8) (hs : s.code = 0) : OnlyC bs s 8 K (mTake bs s 8 most n) := by
  have e : mTake bs s 8 most n = (wrapU .u16 ((mNext bs s (mPlace s) 2).1.getD []), [], (mNext bs s (mPlace s) 2).2) := rfl
  rw [e]
  rcases mNext_inv bs s (mPlace s) 2 hs with ⟨h1, h2⟩ | ⟨h1, ys, h2, h3, h4, h5⟩
  · refine ⟨?_, by simp, fun h => absurd h h1⟩
    simp only [h2, Option.getD_none, zero_num_8]
    decide
  · obtain ⟨q1, q2, q3⟩ := back_num_8 ys h3
    simp only [h2, Option.getD_some]
    refine ⟨⟨q2, q3⟩, by simp, fun _ => ⟨h4, ?_⟩⟩
    have ea : ∀ N, addB ⟨8, N, [], [], K⟩ = fixB 2 N := fun N => rfl
    simp only [ea]
    rw [h5, q1]
theorem only_9 (bs : List UInt8) (s : S) (most : Nat) (n : Int) (K : List UInt8) (hs : s.code = 0) : OnlyC bs s 9 K (mTake bs s 9 most n) := by
  have e : mTake bs s 9 most n = (IntKind.u64.wrap (wrapU .i32 ((mNext bs s (mPlace s) 4).1.getD [])), [], (mNext bs s (mPlace s) 4).2) := rfl
  rw [e]
  rcases mNext_inv bs s (mPlace s) 4 hs with ⟨h1, h2⟩ | ⟨h1, ys, h2, h3, h4, h5⟩
  · refine ⟨?_, by simp, fun h => absurd h h1⟩
    simp only [h2, Option.getD_none, zero_num_9]
    decide
  · obtain ⟨q1, q2, q3⟩ := back_num_9 ys h3
    simp only [h2, Option.getD_some]
    refine ⟨⟨q2, q3⟩, by simp, fun _ => ⟨h4, ?_⟩⟩
    have ea : ∀ N, addB ⟨9, N, [], [], K⟩ = fixB 4 N := fun N => rfl
    simp only [ea]
    rw [h5, q1]
theorem only_10 (bs : List UInt8) (s : S) (most : Nat) (n : Int) (K : List UInt8) (hs : s.code = 0) : OnlyC bs s 10 K (mTake bs s 10 most n) := by
  have e : mTake bs s 10 most n = (wrapU .u32 ((mNext bs s (mPlace s) 4).1.getD []), [], (mNext bs s (mPlace s) 4).2) := rfl
  rw [e]
  rcases mNext_inv bs s (mPlace s) 4 hs with ⟨h1, h2⟩ | ⟨h1, ys, h2, h3, h4, h5⟩
  · refine ⟨?_, by simp, fun h => absurd h h1⟩
    simp only [h2, Option.getD_none, zero_num_10]
    decide
  · obtain ⟨q1, q2, q3⟩ := back_num_10 ys h3
    simp only [h2, Option.getD_some]
    refine ⟨⟨q2, q3⟩, by simp, fun _ => ⟨h4, ?_⟩⟩
    have ea : ∀ N, addB ⟨10, N, [], [], K⟩ = fixB 4 N := fun N => rfl
    simp only [ea]
    rw [h5, q1]
theorem only_11 (bs : List UInt8) (s : S) (most : Nat) (n : Int) (K : List UInt8) (hs : s.code = 0) : OnlyC bs s 11 K (mTake bs s 11 most n) := by
  have e : mTake bs s 11 most n = (IntKind.u64.wrap (wrapU .i64 ((mNext bs s (mPlace s) 8).1.getD [])), [], (mNext bs s (mPlace s) 8).2) := rfl
  rw [e]
  rcases mNext_inv bs s (mPlace s) 8 hs with ⟨h1, h2⟩ | ⟨h1, ys, h2, h3, h4, h5⟩
  · refine ⟨?_, by simp, fun h => absurd h h1⟩
    simp only [h2, Option.getD_none, zero_num_11]
    decide
  · obtain ⟨q1, q2, q3⟩ := back_num_11 ys h3
    simp only [h2, Option.getD_some]
    refine ⟨⟨q2, q3⟩, by simp, fun _ => ⟨h4, ?_⟩⟩
    have ea : ∀ N, addB ⟨11, N, [], [], K⟩ = fixB 8 N := fun N => rfl
    simp only [ea]
    rw [h5, q1]
theorem only_12 (bs : List UInt8) (s : S) (most : Nat) (n : Int) (K : List UInt8) (hs : s.code = 0) : OnlyC bs s 12 K (mTake bs s 12 most n) := by
  have e : mTake bs s 12 most n = (wrapU .u64 ((mNext bs s (mPlace s) 8).1.getD []), [], (mNext bs s (mPlace s) 8).2) := rfl
  rw [e]
  rcases mNext_inv bs s (mPlace s) 8 hs with ⟨h1, h2⟩ | ⟨h1, ys, h2, h3, h4, h5⟩
  · refine ⟨?_, by simp, fun h => absurd h h1⟩
    simp only [h2, Option.getD_none, zero_num_12]
    decide
  · obtain ⟨q1, q2, q3⟩ := back_num_12 ys h3
    simp only [h2, Option.getD_some]
    refine ⟨⟨q2, q3⟩, by simp, fun _ => ⟨h4, ?_⟩⟩
    have ea : ∀ N, addB ⟨12, N, [], [], K⟩ = fixB 8 N := fun N => rfl
    simp only [ea]
    rw [h5, q1]
theorem take_only (bs : List UInt8) (s : S) (kind : Int) (most : Nat) (n : Int) (K : List UInt8) (hs : s.code = 0) (hp : s.p ≤ bs.length) (hK : kind = 4 → K = (mTake bs s kind most n).2.1) :
    OnlyC bs s kind K (mTake bs s kind most n) := by
  by_cases k1 : kind = 1
  · subst k1
    exact only_1 bs s most n K hs hp
  by_cases k2 : kind = 2
  · subst k2
    exact only_2 bs s most n K hs hp
  by_cases k3 : kind = 3
  · subst k3
    exact only_3 bs s most n K hs
  by_cases k4 : kind = 4
  · subst k4
    exact only_4 bs s most n K hs (hK rfl)
  by_cases k5 : kind = 5
  · subst k5
    exact only_5 bs s most n K hs
  by_cases k6 : kind = 6
  · subst k6
    exact only_6 bs s most n K hs
  by_cases k7 : kind = 7
  · subst k7
    exact only_7 bs s most n K hs
  by_cases k8 : kind = 8
  · subst k8
    exact only_8 bs s most n K hs
  by_cases k9 : kind = 9
  · subst k9
    exact only_9 bs s most n K hs
  by_cases k10 : kind = 10
  · subst k10
    exact only_10 bs s most n K hs
  by_cases k11 : kind = 11
  · subst k11
    exact only_11 bs s most n K hs
  by_cases k12 : kind = 12
  · subst k12
    exact only_12 bs s most n K hs
  by_cases k13 : kind = 13
  · subst k13
    exact only_13 bs s most n K hs hp
  have e : mTake bs s kind most n = (0, [], s) := by simp [mTake, k1, k2, k3, k4, k5, k6, k7, k8, k9, k10, k11, k12, k13]
  rw [e]
  refine ⟨zero_ok, by simp, fun _ => ⟨hp, ?_⟩⟩
  simp [addB, k1, k2, k3, k4, k5, k6, k7, k8, k9, k10, k11, k12, k13]
theorem take_stopped (bs : List UInt8) (s : S) (kind : Int) (most : Nat) (n : Int) (hs : s.code ≠ 0) : (mTake bs s kind most n).2.2 = s ∧ (mTake bs s kind most n).2.1.length ≤ 32 ∧ (mTake bs s kind most n).1 = 0 := by
  have hn : ∀ a k, mNext bs s a k = (none, s) := fun a k => by unfold mNext; rw [if_pos hs]
  have hm : ∀ k, mNum bs s k = (0, false, s) := fun k => by unfold mNum; rw [if_pos hs]
  have ht : ∀ k, mText bs s k = ([], s) := fun k => by unfold mText; rw [hm]; rfl
  have he : ∀ k, mEach bs s k = ([], s) := fun k => by
    have e : eachGo bs (mNum bs s k).1 (mNum bs s k).2.2 [] = ([], s) := by rw [hm]; rfl
    unfold mEach
    rw [e]
    exact if_pos hs
  by_cases k1 : kind = 1
  · subst k1
    exact ⟨by show (mNum bs s most).2.2 = s; rw [hm], by show (0 : Nat) ≤ 32; decide, by show ((mNum bs s most).1 : Int) = 0; rw [hm]; rfl⟩
  by_cases k2 : kind = 2
  · subst k2
    exact ⟨by show (mText bs s n.toNat).2 = s; rw [ht], by show (mText bs s n.toNat).1.length ≤ 32; rw [ht]; exact Nat.zero_le _, rfl⟩
  by_cases k3 : kind = 3
  · subst k3
    exact ⟨by show (mNext bs s (mPlace s) n.toNat).2 = s; rw [hn], by show ((mNext bs s (mPlace s) n.toNat).1.getD []).length ≤ 32; rw [hn]; exact Nat.zero_le _, rfl⟩
  by_cases k4 : kind = 4
  · subst k4
    exact ⟨by show (mNext bs s (mPlace s) 32).2 = s; rw [hn], by show (keyBytes (mNext bs s (mPlace s) 32).1).length ≤ 32; rw [hn]; exact Nat.le_of_eq (by simp [keyBytes]), rfl⟩
  by_cases k5 : kind = 5
  · subst k5
    exact ⟨by show (mNext bs s (mPlace s) 1).2 = s; rw [hn], by show (0 : Nat) ≤ 32; decide, by show IntKind.u64.wrap (wrapU .i8 ((mNext bs s (mPlace s) 1).1.getD [])) = 0; rw [hn]; exact zero_num_5⟩
  by_cases k6 : kind = 6
  · subst k6
    exact ⟨by show (mNext bs s (mPlace s) 1).2 = s; rw [hn], by show (0 : Nat) ≤ 32; decide, by show wrapU .u8 ((mNext bs s (mPlace s) 1).1.getD []) = 0; rw [hn]; exact zero_num_6⟩
  by_cases k7 : kind = 7
  · subst k7
    exact ⟨by show (mNext bs s (mPlace s) 2).2 = s; rw [hn], by show (0 : Nat) ≤ 32; decide, by show IntKind.u64.wrap (wrapU .i16 ((mNext bs s (mPlace s) 2).1.getD [])) = 0; rw [hn]; exact zero_num_7⟩
  by_cases k8 : kind = 8
  · subst k8
    exact ⟨by show (mNext bs s (mPlace s) 2).2 = s; rw [hn], by show (0 : Nat) ≤ 32; decide, by show wrapU .u16 ((mNext bs s (mPlace s) 2).1.getD []) = 0; rw [hn]; exact zero_num_8⟩
  by_cases k9 : kind = 9
  · subst k9
    exact ⟨by show (mNext bs s (mPlace s) 4).2 = s; rw [hn], by show (0 : Nat) ≤ 32; decide, by show IntKind.u64.wrap (wrapU .i32 ((mNext bs s (mPlace s) 4).1.getD [])) = 0; rw [hn]; exact zero_num_9⟩
  by_cases k10 : kind = 10
  · subst k10
    exact ⟨by show (mNext bs s (mPlace s) 4).2 = s; rw [hn], by show (0 : Nat) ≤ 32; decide, by show wrapU .u32 ((mNext bs s (mPlace s) 4).1.getD []) = 0; rw [hn]; exact zero_num_10⟩
  by_cases k11 : kind = 11
  · subst k11
    exact ⟨by show (mNext bs s (mPlace s) 8).2 = s; rw [hn], by show (0 : Nat) ≤ 32; decide, by show IntKind.u64.wrap (wrapU .i64 ((mNext bs s (mPlace s) 8).1.getD [])) = 0; rw [hn]; exact zero_num_11⟩
  by_cases k12 : kind = 12
  · subst k12
    exact ⟨by show (mNext bs s (mPlace s) 8).2 = s; rw [hn], by show (0 : Nat) ≤ 32; decide, by show wrapU .u64 ((mNext bs s (mPlace s) 8).1.getD []) = 0; rw [hn]; exact zero_num_12⟩
  by_cases k13 : kind = 13
  · subst k13
    exact ⟨by show (mEach bs s n.toNat).2 = s; rw [he], by show (mEach bs s n.toNat).1.length ≤ 32; rw [he]; exact Nat.zero_le _, rfl⟩
  have e : mTake bs s kind most n = (0, [], s) := by simp [mTake, k1, k2, k3, k4, k5, k6, k7, k8, k9, k10, k11, k12, k13]
  rw [e]
  exact ⟨rfl, Nat.zero_le _, rfl⟩
end Go.Proofs.Ytinjcefekbpabaa
