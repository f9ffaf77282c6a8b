/- FrameSums, walked. -/
import Derived.Test.YtbnedlcldfpfdaaFR5
import Derived.Lib.SmallJoins
namespace Go.Proofs.Ytbnedlcldfpfdaa
set_option linter.unusedVariables false
set_option linter.unusedSimpArgs false
open Go.RowKit

theorem OwnsB.setB {w : World} {base g n cap : Nat} {xs : List UInt8} (h : OwnsB w base (.slice (some ⟨g, 0, none⟩) n cap) xs) (k : Nat) (y : UInt8) : OwnsB (w.setCell ⟨g, k, none⟩ (u8c y)) base (.slice (some ⟨g, 0, none⟩) n cap) (xs.set k y) := by
  obtain ⟨hl, ⟨h1, _⟩ | ⟨g', cap', cur, e, hb, hg, hc, hm, hs, ht⟩⟩ := h
  · cases h1
  · cases e
    refine ⟨by simp, .inr ⟨g, cap, cur.setIfInBounds k (u8c y), by simp, hb, heap_setCell_same w g k cur _ _ hg, by simpa using hc, hm, by simpa using hs, ?_⟩⟩
    rw [Array.toList_setIfInBounds, List.map_set, ← ht, List.take_set, List.length_set]
theorem OwnsB.atB {w : World} {base g n cap : Nat} {xs : List UInt8} (h : OwnsB w base (.slice (some ⟨g, 0, none⟩) n cap) xs) (k : Nat) (hk : k < xs.length) : w.cell? ⟨g, k, none⟩ = some (.int .u8 (xs[k].toNat : Int)) ∧ w.frozen? ⟨g, k, none⟩ = false ∧ base ≤ g := by
  obtain ⟨hl, ⟨h1, _⟩ | ⟨g', cap', cur, e, hb, hg, hc, hm, hs, ht⟩⟩ := h
  · cases h1
  · cases e
    have hB : Blk w g cur 5 := hg
    refine ⟨?_, hB.frozen k, hb⟩
    rw [hB.cell, ← Array.getElem?_toList]
    have : (cur.toList.take (xs.length * 1))[k]? = some (u8c xs[k]) := by rw [ht]; simp [List.getElem?_eq_getElem hk]
    rwa [List.getElem?_take_of_lt (by omega)] at this
theorem OwnsB.formB {w : World} {base : Nat} {v : Value} {xs : List UInt8} (h : OwnsB w base v xs) (h0 : 0 < xs.length) : ∃ g cap, v = .slice (some ⟨g, 0, none⟩) xs.length cap ∧ base ≤ g ∧ g < w.heap.size ∧ xs.length ≤ cap ∧ cap ≤ 9223372036854775807 := by
  obtain ⟨hl, ⟨h1, h2⟩ | ⟨g, cap, cur, rfl, hb, hg, hc, hm, hs, ht⟩⟩ := h
  · omega
  · have hB : Blk w g cur 5 := hg
    exact ⟨g, cap, rfl, hb, hB.lt, hc, by unfold maxLen at hm; omega⟩
theorem OwnsB.rd {w : World} {base : Nat} {v : Value} {xs : List UInt8} (h : OwnsB w base v xs) : RdA w v xs := .inl (Rd_owned h)
theorem OwnsB.below {w w' : World} {base : Nat} {v : Value} {xs : List UInt8} (h : OwnsB w base v xs) (hb : Below w.heap.size w w') : OwnsB w' base v xs := owns_below h hb
/-- One byte that is another. -/
theorem moreN_one (s : Nat) (xs : List UInt8) (k : Nat) (hk : k < xs.length) (y : UInt8) (hy : y ≠ xs[k]) : moreN s (xs.set k y) ≠ moreN s xs := by
  have h := moreN_burst s (xs.take k) [y] [xs[k]] (xs.drop (k + 1)) rfl (by simp) (by simpa using hy)
  have e1 : xs.take k ++ [y] ++ xs.drop (k + 1) = xs.set k y := by
    rw [List.set_eq_take_append_cons_drop, if_pos hk, List.append_assoc]; rfl
  have e2 : xs.take k ++ [xs[k]] ++ xs.drop (k + 1) = xs := by
    rw [← List.take_succ_eq_append_getElem hk, List.take_append_drop]
  rwa [e1, e2] at h
theorem Below.step {w w1 w2 : World} (h : Below w.heap.size w w1) (k : Below w1.heap.size w1 w2) : Below w.heap.size w w2 := h.trans (k.mono h.size)
def ks : List UInt8 := [49, 50, 51, 52, 53, 54, 55, 56, 57]
theorem moreN_nil : moreN 0 [] = 0 := by decide
theorem RdA_none (w : World) : RdA w (.slice none 0 0) [] := .inl (Rd_none w)
/-- Bytes of a constant text. -/
theorem Rd_const (w : World) (xs : List UInt8) (n : Nat) (hn : xs.length = n) (hm : n ≤ maxLen) : RdA (w.alloc (.cells (xs.map u8c).toArray 5 (n, n + 1))) (.slice (some ⟨w.heap.size, 0, none⟩) n n) xs := by
  refine .inl ⟨_, n, by rw [hn], by omega, hm, .inr ⟨w.heap.size, 0, rfl, fun i hi => ?_⟩⟩
  rw [Nat.zero_add, World.cell?_alloc_mark]
  simp [hi]
def TrueC (w : World) (e : Ending) (w' : World) : Prop := e = .returned (.bool true) ∧ Below w.heap.size w w'
set_option maxRecDepth 40000 in
set_option maxHeartbeats 4000000 in
theorem frameSums_any (w : World) (va vb : Value) (xs ys : List UInt8) (ha : RdA w va xs) (hb : RdA w vb ys) (hlen : xs.length + ys.length ≤ 200000000000000) : Calls Try.prog 7 #[va, vb] w (TrueC w) := by
  have HA := hide ha
  have HB := hide hb
  have kc := fun (w : World) (C : Array Value) (n c : Nat) => Lib.run_convert_bytes_const (P := Try.prog) w 22 5 C n c Try.underlying22 Try.underlying5
  have HW := hide ((Below.refl w.heap.size w).alloc (Nat.le_refl _) (.cells (ks.map u8c).toArray 5 (9, 10)))
  have HR := hide (Rd_const w ks 9 rfl (by decide))
  obtain ⟨W0, hW0⟩ : ∃ W0, W0 = w.alloc (.cells (ks.map u8c).toArray 5 (9, 10)) := ⟨_, rfl⟩
  have hw0 : w.alloc (.cells #[Value.int IntKind.u8 49, Value.int IntKind.u8 50, Value.int IntKind.u8 51, Value.int IntKind.u8 52, Value.int IntKind.u8 53, Value.int IntKind.u8 54, Value.int IntKind.u8 55, Value.int IntKind.u8 56, Value.int IntKind.u8 57] 5 (9, 10)) = W0 := by rw [hW0]; rfl
  rw [← hW0] at HW HR
  obtain ⟨ao, c, rfl, hl63⟩ := ha.slice
  obtain ⟨bo, d, rfl, hl64⟩ := hb.slice
  clear ha hb hW0
  have hxi : (xs.length : Int) ≤ 9223372036854775807 := by omega
  go_enter Try.func7, Try.ntmps7
  go_wp2_with fail
  refine (crc_any _ _ _ HR.out).mono ?_
  rintro e w1 ⟨rfl, hb1⟩
  rw [show moreN 0 ks = 3808858755 from known_sum]
  have HB1 := hide (HW.out.trans (hb1.mono HW.out.size))
  clear hb1 HW HR hw0
  go_wp2_with fail
  refine (crc_any _ _ _ (RdA_none _)).mono ?_
  rintro e w2 ⟨rfl, hb2⟩
  rw [moreN_nil]
  have HB2 := hide (Below.step HB1.out hb2)
  clear hb2 HB1
  go_wp2_with fail
  refine (crc_any _ _ _ (HA.out.below HB2.out)).mono ?_
  rintro e w3 ⟨rfl, hb3⟩
  have HB3 := hide (Below.step HB2.out hb3)
  clear hb3 HB2
  go_wp2_with fail
  refine (more_any _ _ (moreN_lt 0 xs) _ _ (HB.out.below HB3.out)).mono ?_
  rintro e w4 ⟨rfl, hb4⟩
  rw [moreN_append]
  have HB4 := hide (Below.step HB3.out hb4)
  clear hb4 HB3
  go_wp2_with fail
  refine (joined_any _ _ _ xs ys (HA.out.below HB4.out) (HB.out.below HB4.out) hlen).mono ?_
  rintro e w5 ⟨vj, rfl, hj, hb5⟩
  have HJ := hide hj.rd
  have HB5 := hide (Below.step HB4.out hb5)
  clear hb5 hj HB4
  go_wp2_with fail
  refine (crc_any _ _ _ HJ.out).mono ?_
  rintro e w6 ⟨rfl, hb6⟩
  have HB6 := hide (Below.step HB5.out hb6)
  clear hb6 HB5 HJ
  obtain ⟨N, hN⟩ : ∃ N, N = moreN 0 (xs ++ ys) := ⟨_, rfl⟩
  rw [← hN]
  go_wp2_with fail
  refine (more_any _ 0 (by omega) _ _ (HA.out.below HB6.out)).mono ?_
  rintro e w7 ⟨rfl, hb7⟩
  have HB7 := hide (Below.step HB6.out hb7)
  clear hb7 HB6
  go_wp2_with fail
  refine (crc_any _ _ _ (HA.out.below HB7.out)).mono ?_
  rintro e w8 ⟨rfl, hb8⟩
  have HB8 := hide (Below.step HB7.out hb8)
  clear hb8 HB7 hN
  obtain ⟨M, hM⟩ : ∃ M, M = moreN 0 xs := ⟨_, rfl⟩
  rw [← hM]
  by_cases h0 : xs.length = 0
  · have h0i : (xs.length : Int) = 0 := by omega
    have h0b : ((xs.length : Int) == 0) = true := by rw [h0i]; rfl
    go_wp2
    go_ret
    exact ⟨rfl, HB8.out⟩
  · have h0i : ¬ (xs.length : Int) = 0 := by omega
    have h0b : ((xs.length : Int) == 0) = false := beq_false_of_ne h0i
    go_wp2_with fail
    refine (joined_any _ _ _ xs [] (HA.out.below HB8.out) (RdA_none _) (by simp; omega)).mono ?_
    rintro e w9 ⟨vj, rfl, hj, hb9⟩
    rw [List.append_nil] at hj
    have HB9 := hide (Below.step HB8.out hb9)
    have HA9 := hide (HA.out.below HB9.out)
    have HZ := hide HB8.out.size
    obtain ⟨g, cap, rfl, hg1, hg2, hg3, hg4⟩ := hj.formB (by omega)
    obtain ⟨k, hk⟩ : ∃ k, k = xs.length / 2 := ⟨_, rfl⟩
    have hkl : k < xs.length := by omega
    obtain ⟨c1, f1, -⟩ := hj.atB k hkl
    have HM1 := hide (moreN_one 0 xs k hkl)
    obtain ⟨x, hx⟩ : ∃ x, x = xs[k] := ⟨_, rfl⟩
    rw [← hx] at c1 HM1
    obtain ⟨y, hy⟩ : ∃ y : UInt8, y = x ^^^ 1 := ⟨_, rfl⟩
    have hyn : y.toNat = x.toNat ^^^ 1 := by rw [hy]; simp
    have hyx : y ≠ x := by
      intro e
      have h1 : x.toNat ^^^ 1 = x.toNat ^^^ 0 := by rw [Nat.xor_zero, ← hyn, e]
      rw [Nat.xor_comm, Nat.xor_comm x.toNat] at h1
      exact absurd (xor_right_inj h1) (by decide)
    have hxb : bits .xor .u8 (x.toNat : Int) 1 = ((y.toNat : Nat) : Int) := by
      rw [hyn]; exact u8_xor_nat x.toNat 1 x.toNat_lt (by decide)
    have hkd : (xs.length : Int).tdiv 2 = (k : Int) := by rw [Int.tdiv_eq_ediv_of_nonneg (by omega)]; omega
    have HJ2 := hide (hj.setB k y)
    unfold u8c at HJ2
    have hki : (k : Int) < xs.length := by omega
    have HN := hide (HM1.out y hyx)
    have HBs : Hid (Below w.heap.size w (w9.setCell ⟨g, k, none⟩ (.int .u8 (y.toNat : Int)))) := hide (HB9.out.setCell (Nat.le_trans HZ.out hg1) _)
    clear hj hb9 hx hy hyx hyn HM1 hk hM
    go_wp2_with fail
    refine (crc_any _ _ (xs.set k y) (by have := HJ2.out.rd; exact this)).mono ?_
    rintro e w10 ⟨rfl, hb10⟩
    have HB10 := hide (Below.step HBs.out hb10)
    clear hb10
    obtain ⟨n1, hn1⟩ : ∃ n1, n1 = moreN 0 (xs.set k y) := ⟨_, rfl⟩
    obtain ⟨n2, hn2⟩ : ∃ n2, n2 = moreN 0 xs := ⟨_, rfl⟩
    rw [← hn1, ← hn2] at HN
    rw [← hn1]
    go_wp2_with fail
    refine (crc_any _ _ xs (HA.out.below HB10.out)).mono ?_
    rintro e w11 ⟨rfl, hb11⟩
    have HB11 := hide (Below.step HB10.out hb11)
    rw [← hn2]
    have hne : ¬ (n1 : Int) = (n2 : Int) := by have := HN.out; omega
    have HN1 := hide hn1
    clear hb11 hn1 hn2
    go_wp2
    go_ret
    exact ⟨by have := HN.out; simp [this]; rw [← HN1.out]; exact hne, HB11.out⟩
end Go.Proofs.Ytbnedlcldfpfdaa
