/- NewSet. -/
import Derived.Test.YtnloglecfbhpcaaKM3
namespace Go.Proofs.Ytnloglecfbhpcaa
set_option linter.unusedVariables false
set_option linter.unusedSimpArgs false
open Go.RowKit

/-- A row of keys. -/
structure KRow (w : World) (ao : Option Addr) (ks : List (List UInt8)) : Prop where
  at' : ∀ i (h : i < ks.length), ∃ g o, ao = some ⟨g, o, none⟩ ∧ w.rangeAt g (o + i * 32) (ks[i].map u8c)
  len : ∀ k ∈ ks, k.length = 32
theorem rangeAt_belowK {w w' : World} {b o : Nat} {l : List Value} (h : w.rangeAt b o l) (hb : Below w.heap.size w w') : w'.rangeAt b o l := fun j v hj => by
  have := h j v hj
  rw [hb.cell (World.block_lt_of_cell? w _ this)]; exact this
theorem KRow.below {w w' : World} {ao : Option Addr} {ks : List (List UInt8)} (h : KRow w ao ks) (hb : Below w.heap.size w w') : KRow w' ao ks :=
  ⟨fun i hi => by obtain ⟨g, o, e, hr⟩ := h.at' i hi; exact ⟨g, o, e, rangeAt_belowK hr hb⟩, h.len⟩
def addAll (ks : List (List UInt8)) : List (List UInt8) := ks.foldl (fun S k => addK k S) []
theorem addAll_succ (ks : List (List UInt8)) (i : Nat) (h : i < ks.length) : addAll (ks.take (i + 1)) = addK ks[i] (addAll (ks.take i)) := by
  unfold addAll
  rw [List.take_succ_eq_append_getElem h, List.foldl_append]; rfl
theorem addK_len (k : List UInt8) (S : List (List UInt8)) : (addK k S).length ≤ S.length + 1 := by
  unfold addK
  split
  · omega
  · rw [len_insK]; omega
theorem addAll_len (ks : List (List UInt8)) : ∀ i, i ≤ ks.length → (addAll (ks.take i)).length ≤ i
  | 0, _ => by simp [addAll]
  | i + 1, h => by
    rw [addAll_succ ks i (by omega)]
    have := addK_len ks[i] (addAll (ks.take i))
    have := addAll_len ks i (by omega)
    omega
/-- A new set. -/
def NewC (w : World) (S : List (List UInt8)) (e : Ending) (w' : World) : Prop := ∃ z b, e = .returned (.pointer (some ⟨z, 0, none⟩)) ∧ w.heap.size ≤ z ∧ w.heap.size ≤ b ∧ SetAt w' z b S ∧ Below w.heap.size w w'
set_option maxRecDepth 20000 in
set_option maxHeartbeats 1000000 in
theorem newSet_any (w : World) (ao : Option Addr) (n c : Nat) (ks : List (List UInt8)) (hn : n = ks.length) (hr : KRow w ao ks) (hl : n ≤ 4611686018427387904) : Calls Try.prog 6 #[.slice ao n c] w (NewC w (addAll ks)) := by
  have hmm := @run_makeMap Try.prog
  have HR := hide hr
  have HN := hide hn
  clear hr hn
  go_enter Try.func6, Try.ntmps6
  go_wp2
  have HS0 : Hid (SetAt ((w.alloc (.map #[] 0)).alloc (.cells #[.map (some w.heap.size)] 55)) (w.heap.size + 1) w.heap.size []) := hide ⟨blk_made1 w _ _ _ _, (KSet.made w).below ((Below.refl _ _).alloc (Nat.le_refl _) _)⟩
  have HB0 : Hid (Below w.heap.size w ((w.alloc (.map #[] 0)).alloc (.cells #[.map (some w.heap.size)] 55))) := hide (((Below.refl _ _).alloc (Nat.le_refl _) _).alloc (by simp) _)
  go_loopw [11] (fun t wr => ∃ i : Nat, t = .int .i64 i ∧ i ≤ n ∧ SetAt wr (w.heap.size + 1) w.heap.size (addAll (ks.take i)) ∧ Below w.heap.size w wr) (fun t _ => n - (intOf t).toNat)
  case atStart => exact ⟨0, rfl, by omega, HS0.out, HB0.out⟩
  case round =>
    clear HS0 HB0
    obtain ⟨i, rfl, hi, hS, hB⟩ := hrel
    by_cases hlt : i < n
    · have hik : i < ks.length := by rw [← HN.out]; exact hlt
      obtain ⟨g, o, rfl, hra⟩ := (HR.out.below hB).at' i hik
      obtain ⟨k, hk⟩ : ∃ k, k = ks[i] := ⟨_, rfl⟩
      have hkl : k.length = 32 := by rw [hk]; exact HR.out.len _ (List.getElem_mem _)
      rw [← hk] at hra
      have HRA := hide hra
      have HKL := hide hkl
      have HSU := hide (addAll_succ ks i hik)
      rw [← hk] at HSU
      have hzk := zero_key
      have HS := hide hS
      have HLN : Hid ((addAll (ks.take i)).length < maxLen) := hide (by have := addAll_len ks i (by omega); unfold maxLen; omega)
      clear hra hkl hk hS hik
      go_wp2_with (first | ((with_reducible refine wpList_load_keyAt (.tmp 13) g (o + i * 32) k HKL.out HRA.out ?_ ?_ ?_ ?_); rfl; rfl; rfl) | ((with_reducible refine wpList_put_key ?_ (.tmp 5) (.tmp 14) ?_ wr.heap.size ?_ wr ?_ ?_ k HKL.out ?_ ?_); rfl; rfl; rfl; rfl; rfl; rfl; intro w1 HK1 hb1) | ((with_reducible refine wpList_key (.tmp 5) wr.heap.size k HK1.out ?_ ?_ ?_ ?_); rfl; rfl; rfl))
      have HS1 := hide (HS.out.below hb1)
      refine (add_any w1 _ _ _ k HKL.out HS1.out HLN.out).mono ?_
      rintro e w2 ⟨rfl, hS2, hg2⟩
      rw [← HSU.out] at hS2
      have HS2 := hide hS2
      have HB2 := hide ((hB.trans (hb1.mono hB.size)).trans (below_grownBy hg2 (Nat.le_refl _) (hB.trans (hb1.mono hB.size)).size))
      clear hS2 hg2 HS1 HS HRA HK1 hb1
      go_wp2
      exact ⟨⟨i + 1, by go_num, by omega, HS2.out, HB2.out⟩, by simp [intOf]; omega⟩
    · have hn2 : ¬ (i : Int) < n := by omega
      have HS : Hid (SetAt wr (w.heap.size + 1) w.heap.size (addAll ks)) := hide (by rw [List.take_of_length_le (by rw [← HN.out]; omega)] at hS; exact hS)
      clear hS
      go_wp2
      go_ret
      exact ⟨w.heap.size + 1, w.heap.size, rfl, by omega, Nat.le_refl _, HS.out, hB⟩
end Go.Proofs.Ytnloglecfbhpcaa
