/- The function that tells of each byte whether a piece ends behind it: how it is made. -/
import Derived.Test.YtamajnaeladehaaDoorGF1
namespace Go.Proofs.YtamajnaeladehaaDoor
set_option linter.unusedVariables false
set_option linter.unusedSimpArgs false
open Go.RowKit

theorem word_range : ∀ b : Nat, b < 256 → 0 ≤ wordI (b : Int) ∧ wordI (b : Int) < 18446744073709551616 := of_decide_eq_true (by kernel_rfl)
/-- The number of a byte, as a plain number. -/
def wN (b : UInt8) : Nat := (wordI (b.toNat : Int)).toNat
theorem wN_eq (b : UInt8) : wordI (b.toNat : Int) = (wN b : Int) := by
  have := word_range b.toNat b.toNat_lt
  unfold wN; omega
theorem wN_lt (b : UInt8) : wN b < 18446744073709551616 := by
  have := word_range b.toNat b.toNat_lt
  unfold wN; omega
/-- The number that rolls. -/
def roll (h : Nat) (b : UInt8) : Nat := (2 * h + wN b) % 18446744073709551616
/-- Does a piece end behind its n-th byte, where the number is h? -/
def endB (mn me mx : Int) (h n : Nat) : Bool := if mx ≤ (n : Int) then true else if (n : Int) < mn then false else if (n : Int) < me then decide (h < 2 ^ (63 - pw me)) else decide (h < 2 ^ (65 - pw me))
def ptr (b : Nat) : Value := .pointer (some ⟨b, 0, none⟩)
/-- The function, as it was made. -/
def endV (bh bn br b4 b5 : Nat) : Value := .func (.func 43) #[] #[ptr bh, ptr bn, ptr br, ptr b4, ptr b5]
structure EndSt (w : World) (base bh bn br b4 b5 : Nat) (mn me mx : Int) (h n : Nat) : Prop where
  hh : Blk w bh #[.int .u64 (h : Int)] 82
  hn : Blk w bn #[.int .i64 (n : Int)] 3
  hr : Blk w br #[.int .i64 mn, .int .i64 me, .int .i64 mx] 23
  h4 : Blk w b4 #[.int .u64 ((2 ^ (63 - pw me) : Nat) : Int)] 82
  h5 : Blk w b5 #[.int .u64 ((2 ^ (65 - pw me) : Nat) : Int)] 82
  apart : bh ≠ bn ∧ bh ≠ br ∧ bh ≠ b4 ∧ bh ≠ b5 ∧ bn ≠ br ∧ bn ≠ b4 ∧ bn ≠ b5
  low : base ≤ bh ∧ base ≤ bn ∧ base ≤ br ∧ base ≤ b4 ∧ base ≤ b5
theorem EndSt.below {w w' : World} {base bh bn br b4 b5 : Nat} {mn me mx : Int} {h n : Nat} (E : EndSt w base bh bn br b4 b5 mn me mx h n) (hb : Below w.heap.size w w') : EndSt w' base bh bn br b4 b5 mn me mx h n :=
  ⟨E.hh.below hb E.hh.lt, E.hn.below hb E.hn.lt, E.hr.below hb E.hr.lt, E.h4.below hb E.h4.lt, E.h5.below hb E.h5.lt, E.apart, E.low⟩
theorem pow_wrap (p : Nat) (h : p < 64) : IntKind.u64.wrap ((2 : Int) ^ p) = ((2 ^ p : Nat) : Int) := by
  have h1 : 2 ^ p < 2 ^ 64 := Nat.pow_lt_pow_right (by omega) h
  have h2 : ((2 : Int) ^ p) = ((2 ^ p : Nat) : Int) := by simp
  rw [h2, IntKind.wrap_u64]
  obtain ⟨m, hm⟩ : ∃ m : Nat, m = 2 ^ p := ⟨_, rfl⟩
  rw [← hm] at h1 ⊢
  omega
theorem drewR {B : Nat} {w w' : World} (h : Below B w w') : Below B w w'.drew := ⟨h.os, h.tape, h.output, h.size, h.block⟩
def EnderC (w : World) (mn me mx : Int) (e : Ending) (w' : World) : Prop := ∃ bh bn br b4 b5, e = .returned (endV bh bn br b4 b5) ∧ EndSt w' w.heap.size bh bn br b4 b5 mn me mx 0 0 ∧ Below w.heap.size w w'
set_option maxRecDepth 20000 in
set_option maxHeartbeats 1000000 in
theorem ender_any (mn me mx : Int) (w : World) (hT : Tabs w) (hm : mayB mn me mx = true) : Calls Tryd.prog 31 #[cutV mn me mx] w (EnderC w mn me mx) := by
  have hp : pw me ≠ 0 := by
    intro h
    simp [mayB, h] at hm
  obtain ⟨h1, h2, h3, h4, h5⟩ := pw_range me hp
  obtain ⟨k, hk⟩ : ∃ k, k = pw me := ⟨_, rfl⟩
  rw [← hk] at h3 h4 h5
  have HT := hide (fun (w' : World) (hb : Below w.heap.size w w') => tz_any k (by omega) h3 w' (hT.below hb hT.size))
  obtain ⟨n, hn⟩ : ∃ n : Nat, n = 2 ^ k := ⟨_, rfl⟩
  have h5' : me = (n : Int) := by rw [h5, hn]; simp
  rw [← hn] at HT
  subst h5'
  have HN := hide hn
  have HK := hide hk
  clear h5 hp hm hT hn hk
  obtain ⟨p, hp⟩ : ∃ p : Nat, p = 63 - k := ⟨_, rfl⟩
  obtain ⟨q, hq⟩ : ∃ q : Nat, q = 65 - k := ⟨_, rfl⟩
  have p1 : IntKind.i64.wrap (p : Int) = (p : Int) := by simp [IntKind.wrap, IntKind.bits, IntKind.signed]; omega
  have q1 : IntKind.i64.wrap (q : Int) = (q : Int) := by simp [IntKind.wrap, IntKind.bits, IntKind.signed]; omega
  have p2 : (63 - (k : Int)) = (p : Int) := by omega
  have q2 : (65 - (k : Int)) = (q : Int) := by omega
  have p3 : p < 64 := by omega
  have p4 : (0 : Int) ≤ (p : Int) := by omega
  have q4 : (0 : Int) ≤ (q : Int) := by omega
  have p5 : (p : Int) ≤ 64 := by omega
  have q5 : (q : Int) ≤ 64 := by omega
  have q3 : q < 64 := by omega
  have HP := hide hp
  have HQ := hide hq
  clear hp hq
  unfold cutV
  have HB := hide ((Below.refl w.heap.size w).alloc (Nat.le_refl _) (.cells #[.int .i64 mn, .int .i64 n, .int .i64 mx] 23))
  go_enter Tryd.func31, Tryd.ntmps31
  go_wp2_with fail
  refine (HT.out _ HB.out).mono ?_
  rintro e w' ⟨rfl, rfl⟩
  go_wp2
  have HPW : Hid (pw (n : Int) = k) := hide HK.out.symm
  have HPp := hide (pow_wrap p p3)
  have HPq := hide (pow_wrap q q3)
  go_region_held3 (fun _ => True) (trivial) (fail)
  · go_wp2
    go_ret
    refine ⟨w.heap.size + 3, w.heap.size + 4, w.heap.size, w.heap.size + 1, w.heap.size + 2, rfl, ⟨?_, ?_, ?_, ?_, ?_, by omega, by omega⟩, ?_⟩
    · exact (Blk.alloc (by simpa using Blk.made (((w.alloc _).alloc _).alloc _) #[Value.int IntKind.u64 0] 82) _).drew
    · exact Blk.drew (by simpa using Blk.made ((((w.alloc _).alloc _).alloc _).alloc _) #[Value.int IntKind.i64 0] 3)
    · exact (((((Blk.made w _ _).alloc _).alloc _).alloc _).alloc _).drew
    · rw [HPW.out, ← HP.out, ← HPp.out]
      exact ((((by simpa using Blk.made (w.alloc _) _ _ : Blk _ (w.heap.size + 1) _ _).alloc _).alloc _).alloc _).drew
    · rw [HPW.out, ← HQ.out, ← HPq.out]
      exact (((by simpa using Blk.made ((w.alloc _).alloc _) _ _ : Blk _ (w.heap.size + 2) _ _).alloc _).alloc _).drew
    · exact drewR ((((HB.out.alloc (by simp) _).alloc (by simp; omega) _).alloc (by simp; omega) _).alloc (by simp; omega) _)
  · go_wp2
    go_ret
    refine ⟨w.heap.size + 3, w.heap.size + 4, w.heap.size, w.heap.size + 2, w.heap.size + 1, rfl, ⟨?_, ?_, ?_, ?_, ?_, by omega, by omega⟩, ?_⟩
    · exact (Blk.alloc (by simpa using Blk.made (((w.alloc _).alloc _).alloc _) #[Value.int IntKind.u64 0] 82) _).drew
    · exact Blk.drew (by simpa using Blk.made ((((w.alloc _).alloc _).alloc _).alloc _) #[Value.int IntKind.i64 0] 3)
    · exact (((((Blk.made w _ _).alloc _).alloc _).alloc _).alloc _).drew
    · rw [HPW.out, ← HP.out, ← HPp.out]
      exact (((by simpa using Blk.made ((w.alloc _).alloc _) _ _ : Blk _ (w.heap.size + 2) _ _).alloc _).alloc _).drew
    · rw [HPW.out, ← HQ.out, ← HPq.out]
      exact ((((by simpa using Blk.made (w.alloc _) _ _ : Blk _ (w.heap.size + 1) _ _).alloc _).alloc _).alloc _).drew
    · exact drewR ((((HB.out.alloc (by simp) _).alloc (by simp; omega) _).alloc (by simp; omega) _).alloc (by simp; omega) _)
end Go.Proofs.YtamajnaeladehaaDoor
