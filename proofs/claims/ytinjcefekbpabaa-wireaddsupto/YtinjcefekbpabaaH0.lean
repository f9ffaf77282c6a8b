/- What was added is taken off: the plain part. -/
import Derived.Test.YtinjcefekbpabaaE6
import Derived.Test.YtinjcefekbpabaaT3
namespace Go.Proofs.Ytinjcefekbpabaa
set_option linter.unusedVariables false
set_option linter.unusedSimpArgs false
open Go.RowKit

theorem firstGo_var : ∀ (n v acc i : Nat) (r : List UInt8), i + n = 9 → v * 128 ^ i ≤ 18446744073709551615 → (0 < v ∨ i = 0) → firstGo acc i (varGo n v ++ r) = (acc + v * 128 ^ i, i + (varGo n v).length, 0)
  | 0, v, acc, i, r, hi, hv, h0 => by
    obtain rfl : i = 9 := by omega
    have h9 : (128 : Nat) ^ 9 = 9223372036854775808 := by decide
    have hv1 : v ≤ 1 := by rw [h9] at hv; omega
    have hc : (UInt8.ofNat v).toNat = v := by simp; omega
    simp only [varGo, List.cons_append, List.nil_append]
    rw [first_end _ _ _ _ (by rw [hc]; intro _; exact hv1) (by rw [hc]; omega) (by rw [hc]; omega), hc, Nat.mod_eq_of_lt (by omega)]
    rfl
  | n + 1, v, acc, i, r, hi, hv, h0 => by
    rw [varGo]
    split
    · rename_i hlt
      have hc : (UInt8.ofNat v).toNat = v := by simp; omega
      simp only [List.cons_append, List.nil_append]
      rw [first_end _ _ _ _ (by omega) (by rw [hc]; omega) (by rw [hc]; omega), hc, Nat.mod_eq_of_lt hlt]
      rfl
    · rename_i hge
      have hc : (UInt8.ofNat (v % 128 + 128)).toNat = v % 128 + 128 := by simp; omega
      rw [List.cons_append, first_more _ _ _ _ (by omega) (by rw [hc]; omega), hc, firstGo_var n (v / 128) _ (i + 1) r (by omega) (pow10s v i hv) (.inl (by omega)), List.length_cons]
      have e : v % 128 * 128 ^ i + v / 128 * 128 ^ (i + 1) = v * 128 ^ i := by
        rw [Nat.pow_succ, Nat.mul_comm (128 ^ i) 128, ← Nat.mul_assoc, ← Nat.add_mul]
        congr 1
        omega
      refine Prod.ext ?_ (Prod.ext ?_ rfl)
      · simp only []
        rw [show (v % 128 + 128) % 128 = v % 128 by omega]
        omega
      · simp only []
        omega
theorem first_varB (v : Nat) (hv : v ≤ 18446744073709551615) (r : List UInt8) : firstGo 0 0 (varB v ++ r) = (v, (varB v).length, 0) := by
  unfold varB
  rw [firstGo_var 9 v 0 0 r rfl (by omega) (.inr rfl)]
  simp

def stN (n : Nat) : S := ⟨n, 0, 0⟩
theorem mNum_at (l r : List UInt8) (v most : Nat) (hv : v ≤ 18446744073709551615) (hm : v ≤ most) : mNum (l ++ (varB v ++ r)) (stN l.length) most = (v, true, stN (l.length + (varB v).length)) := by
  unfold mNum
  rw [if_neg (by simp [stN])]
  have e : (l ++ (varB v ++ r)).drop (stN l.length).p = varB v ++ r := by simp [stN]
  rw [e, first_varB v hv r, if_neg (by simp), if_neg (by simp; omega)]
  rfl
theorem mNext_at (l ys r : List UInt8) (a k : Nat) (hk : ys.length = k) : mNext (l ++ (ys ++ r)) (stN l.length) a k = (some ys, stN (l.length + k)) := by
  subst hk
  unfold mNext
  rw [if_neg (by simp [stN]), if_neg (by simp [stN])]
  simp [stN]
theorem mPlace_at (n : Nat) : mPlace (stN n) = n := by simp [mPlace, stN]
theorem mText_at (l tb r : List UInt8) (most : Nat) (hm : tb.length ≤ most) (hl : tb.length ≤ 18446744073709551615) : mText (l ++ (varB tb.length ++ (tb ++ r))) (stN l.length) most = (tb, stN (l.length + (varB tb.length).length + tb.length)) := by
  unfold mText
  rw [mNum_at l (tb ++ r) tb.length most hl hm]
  simp only [if_true]
  have := mNext_at (l ++ varB tb.length) tb r (mPlace (stN l.length)) tb.length rfl
  rw [List.append_assoc, List.length_append] at this
  rw [this]
  simp
theorem each_at : ∀ (ys : List UInt8) (l r acc : List UInt8), eachGo (l ++ (ys ++ r)) ys.length (stN l.length) acc = (acc ++ ys, stN (l.length + ys.length))
  | [], l, r, acc => by simp [eachGo, stN]
  | y :: ys, l, r, acc => by
    rw [List.length_cons, eachGo, if_neg (by simp [stN])]
    have e : l ++ (y :: ys ++ r) = l ++ ([y] ++ (ys ++ r)) := by simp
    rw [e, mNext_at l [y] (ys ++ r) _ 1 rfl]
    have := each_at ys (l ++ [y]) r (acc ++ [y])
    rw [List.append_assoc, List.length_append] at this
    simp only [List.length_singleton] at this
    simp only [hd1, Option.getD_some, List.headD_cons]
    rw [this]
    simp [Nat.add_assoc, Nat.add_comm 1]
theorem mEach_at (l tb r : List UInt8) (most : Nat) (hm : tb.length ≤ most) (hl : tb.length ≤ 18446744073709551615) : mEach (l ++ (varB tb.length ++ (tb ++ r))) (stN l.length) most = (tb, stN (l.length + (varB tb.length).length + tb.length)) := by
  unfold mEach
  rw [mNum_at l (tb ++ r) tb.length most hl hm]
  simp only []
  have := each_at tb (l ++ varB tb.length) r []
  rw [List.append_assoc, List.length_append] at this
  rw [this, if_neg (by simp [stN])]
  simp

/-- How an add is taken off: most and how many. -/
def backM (a : AddR) : Nat := if a.kind = 2 ∨ a.kind = 3 ∨ a.kind = 13 then 0 else a.N
def backN (a : AddR) : Nat := if a.kind = 2 then a.S.length else if a.kind = 3 ∨ a.kind = 13 then a.B.length else 0
/-- What is taken off then. -/
def sameN (a : AddR) : Int :=
  if a.kind = 1 ∨ a.kind = 11 ∨ a.kind = 12 then a.N else if a.kind = 5 then IntKind.u64.wrap (IntKind.i8.wrap a.N) else if a.kind = 6 then (a.N % 256 : Nat) else if a.kind = 7 then IntKind.u64.wrap (IntKind.i16.wrap a.N)
  else if a.kind = 8 then (a.N % 65536 : Nat) else if a.kind = 9 then IntKind.u64.wrap (IntKind.i32.wrap a.N) else if a.kind = 10 then (a.N % 4294967296 : Nat) else 0
def sameB (a : AddR) : List UInt8 := if a.kind = 2 then a.S else if a.kind = 3 ∨ a.kind = 13 then a.B else if a.kind = 4 then a.K else []

theorem le_fixB : ∀ (n v : Nat), leNat (fixB n v) = v % 256 ^ n
  | 0, v => by simp [fixB, leNat, Nat.mod_one]
  | n + 1, v => by
    rw [fixB, leNat, le_fixB n]
    simp only [UInt8.toNat_ofNat']
    have e : (256 : Nat) ^ (n + 1) = 256 * 256 ^ n := by rw [Nat.pow_succ, Nat.mul_comm]
    rw [e, Nat.mod_mul]

theorem take_back (l r : List UInt8) (a : AddR) (hN : a.N ≤ 18446744073709551615) (hS : a.S.length ≤ 9223372036854775807) (hB : a.B.length ≤ 9223372036854775807) (hK : a.K.length = 32) :
    mTake (l ++ (addB a ++ r)) (stN l.length) a.kind (backM a) (backN a : Int) = (sameN a, sameB a, stN (l.length + (addB a).length)) := by
  unfold mTake addB backM backN sameN sameB
  by_cases k1 : a.kind = 1
  · simp only [k1]
    simp [mNum_at l r a.N a.N hN (Nat.le_refl _)]
  by_cases k2 : a.kind = 2
  · simp only [k2]
    simp [mText_at l a.S r a.S.length (Nat.le_refl _) (by omega), Nat.add_assoc]
  by_cases k3 : a.kind = 3
  · simp only [k3]
    simp [mNext_at l a.B r _ a.B.length rfl]
  by_cases k4 : a.kind = 4
  · simp only [k4]
    simp [mNext_at l a.K r _ 32 hK, keyBytes, hK]
  by_cases k5 : a.kind = 5
  · have e : IntKind.u64.wrap (wrapU .i8 (fixB 1 a.N)) = IntKind.u64.wrap (IntKind.i8.wrap (a.N : Int)) := by
      unfold wrapU
      rw [le_fixB]
      simp only [IntKind.wrap_i8x, IntKind.wrap_u64]
      omega
    simp only [k5]
    simp [mNext_at l (fixB 1 a.N) r _ 1 (fixB_len _ _), e, fixB_len]
  by_cases k6 : a.kind = 6
  · have e : wrapU .u8 (fixB 1 a.N) = ((a.N % 256 : Nat) : Int) := by
      unfold wrapU
      rw [le_fixB]
      simp only [IntKind.wrap_u8]
      omega
    simp only [k6]
    simp [mNext_at l (fixB 1 a.N) r _ 1 (fixB_len _ _), e, fixB_len]
  by_cases k7 : a.kind = 7
  · have e : IntKind.u64.wrap (wrapU .i16 (fixB 2 a.N)) = IntKind.u64.wrap (IntKind.i16.wrap (a.N : Int)) := by
      unfold wrapU
      rw [le_fixB]
      simp only [IntKind.wrap_i16x, IntKind.wrap_u64]
      omega
    simp only [k7]
    simp [mNext_at l (fixB 2 a.N) r _ 2 (fixB_len _ _), e, fixB_len]
  by_cases k8 : a.kind = 8
  · have e : wrapU .u16 (fixB 2 a.N) = ((a.N % 65536 : Nat) : Int) := by
      unfold wrapU
      rw [le_fixB]
      simp only [IntKind.wrap_u16]
      omega
    simp only [k8]
    simp [mNext_at l (fixB 2 a.N) r _ 2 (fixB_len _ _), e, fixB_len]
  by_cases k9 : a.kind = 9
  · have e : IntKind.u64.wrap (wrapU .i32 (fixB 4 a.N)) = IntKind.u64.wrap (IntKind.i32.wrap (a.N : Int)) := by
      unfold wrapU
      rw [le_fixB]
      simp only [IntKind.wrap_i32, IntKind.wrap_u64]
      omega
    simp only [k9]
    simp [mNext_at l (fixB 4 a.N) r _ 4 (fixB_len _ _), e, fixB_len]
  by_cases k10 : a.kind = 10
  · have e : wrapU .u32 (fixB 4 a.N) = ((a.N % 4294967296 : Nat) : Int) := by
      unfold wrapU
      rw [le_fixB]
      simp only [IntKind.wrap_u32]
      omega
    simp only [k10]
    simp [mNext_at l (fixB 4 a.N) r _ 4 (fixB_len _ _), e, fixB_len]
  by_cases k11 : a.kind = 11
  · have e : IntKind.u64.wrap (wrapU .i64 (fixB 8 a.N)) = (a.N : Int) := by
      unfold wrapU
      rw [le_fixB]
      simp only [IntKind.wrap_i64, IntKind.wrap_u64]
      omega
    simp only [k11]
    simp [mNext_at l (fixB 8 a.N) r _ 8 (fixB_len _ _), e, fixB_len]
  by_cases k12 : a.kind = 12
  · have e : wrapU .u64 (fixB 8 a.N) = (a.N : Int) := by
      unfold wrapU
      rw [le_fixB]
      simp only [IntKind.wrap_u64]
      omega
    simp only [k12]
    simp [mNext_at l (fixB 8 a.N) r _ 8 (fixB_len _ _), e, fixB_len]
  by_cases k13 : a.kind = 13
  · simp only [k13]
    simp [mEach_at l a.B r a.B.length (Nat.le_refl _) (by omega), Nat.add_assoc]
  simp [k1, k2, k3, k4, k5, k6, k7, k8, k9, k10, k11, k12, k13]
end Go.Proofs.Ytinjcefekbpabaa
