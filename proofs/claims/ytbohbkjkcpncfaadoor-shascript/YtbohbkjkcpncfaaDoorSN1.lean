/- lives, walked. -/
import Derived.Test.YtbohbkjkcpncfaaDoorSL3
import Derived.Test.YtbohbkjkcpncfaaDoorSN0
namespace Go.Proofs.YtbohbkjkcpncfaaDoor
set_option linter.unusedVariables false
set_option linter.unusedSimpArgs false
open Go.RowKit

theorem keyGuard2 (op : BinOp) (bs cs : List UInt8) (x y : Operand) (w : World) : (eqGuard op 24 x y (keyV bs) (keyV cs)).run Tryd.prog w = .ok () w := run_eqGuard_agg (P := Tryd.prog) w op 24 x y _ _ guardKey
theorem keyNeq2 (bs cs : List UInt8) (h : bs.length = 32) (h2 : cs.length = 32) (hne : (bs == cs) = false) (w : World) : (binOp .neq 24 (keyV bs) (keyV cs)).run Tryd.prog w = .ok (.bool true) w := by
  have := run_equalIn_bytes (P := Tryd.prog) w 9998 24 5 32 Tryd.underlying24 Tryd.underlying5 szU8 bs cs h h2
  have h3 : (Op.equalIn 10000 24 (.agg (bs.map u8c).toArray) (.agg (cs.map u8c).toArray)).run Tryd.prog w = .ok (bs == cs) w := this
  unfold keyV
  rw [run_neq_struct, h3, hne]; rfl
theorem rd_made (w : World) (xs : List UInt8) (h : xs.length ≤ maxLen) : RdA (w.alloc (.cells (xs.map u8c).toArray 5)) (.slice (some ⟨w.heap.size, 0, none⟩) xs.length xs.length) xs := .inl (Rd_owned (owns_made w xs h w.heap.size (Nat.le_refl _)))
theorem hof_below {w w' : World} {z : Nat} {t : TypeId} {pre post : List Value} {bs : List UInt8} (h : HOf w z t pre post bs) (hb : Below w.heap.size w w') : HOf w' z t pre post bs := by
  obtain ⟨s, hB, hs⟩ := h
  exact ⟨s, hB.below hb, hs⟩
theorem hof_lt {w : World} {z : Nat} {t : TypeId} {pre post : List Value} {bs : List UInt8} (h : HOf w z t pre post bs) : z < w.heap.size := by
  obtain ⟨s, hB, hs⟩ := h
  exact hB.blk.lt
theorem write_lit (w1 : World) (hT : Tabs w1) (z : Nat) (hz : 3 ≤ z) (bs xs : List UInt8) (hH : HOf w1 z 45 [] [] bs) (hl : bs.length + xs.length ≤ 1000) :
    Calls Tryd.prog 18 #[.pointer (some ⟨z, 0, none⟩), .slice (some ⟨w1.heap.size, 0, none⟩) xs.length xs.length] (w1.alloc (.cells (xs.map u8c).toArray 5)) fun e w' => e = .returned (.tuple #[]) ∧ HOf w' z 45 [] [] (bs ++ xs) ∧ w1.grownBy w' (some z) := by
  have hb : Below w1.heap.size w1 (w1.alloc (.cells (xs.map u8c).toArray 5)) := (Below.refl _ _).alloc (Nat.le_refl _) _
  have hlt := hof_lt hH
  refine (write_any _ (hT.below hb) z hz 45 [] [] bs xs (hof_below hH hb) _ (rd_made w1 xs (by unfold maxLen; omega)) (fun b o l c e _ => ?_) (by omega)).mono ?_
  · have : some (⟨w1.heap.size, 0, none⟩ : Addr) = some ⟨b, o, none⟩ := ((Value.slice.injEq ..).mp e).1
    cases this
    omega
  · rintro e w' ⟨h1, h2, h3⟩
    exact ⟨h1, h2, grownBy_trans (grownBy_below hb) h3⟩
/-- The zero key. -/
def zk32 : List UInt8 := List.replicate 32 0
theorem zkGuard (x y : Operand) (w : World) : (eqGuard .eql 24 x y (keyV zk32) (.agg #[.int .u8 0, .int .u8 0, .int .u8 0, .int .u8 0, .int .u8 0, .int .u8 0, .int .u8 0, .int .u8 0, .int .u8 0, .int .u8 0, .int .u8 0, .int .u8 0, .int .u8 0, .int .u8 0, .int .u8 0, .int .u8 0, .int .u8 0, .int .u8 0, .int .u8 0, .int .u8 0, .int .u8 0, .int .u8 0, .int .u8 0, .int .u8 0, .int .u8 0, .int .u8 0, .int .u8 0, .int .u8 0, .int .u8 0, .int .u8 0, .int .u8 0, .int .u8 0])).run Tryd.prog w = .ok () w := run_eqGuard_agg (P := Tryd.prog) w .eql 24 x y _ _ guardKey
theorem zkEql (w : World) : (binOp .eql 24 (keyV zk32) (.agg #[.int .u8 0, .int .u8 0, .int .u8 0, .int .u8 0, .int .u8 0, .int .u8 0, .int .u8 0, .int .u8 0, .int .u8 0, .int .u8 0, .int .u8 0, .int .u8 0, .int .u8 0, .int .u8 0, .int .u8 0, .int .u8 0, .int .u8 0, .int .u8 0, .int .u8 0, .int .u8 0, .int .u8 0, .int .u8 0, .int .u8 0, .int .u8 0, .int .u8 0, .int .u8 0, .int .u8 0, .int .u8 0, .int .u8 0, .int .u8 0, .int .u8 0, .int .u8 0])).run Tryd.prog w = .ok (.bool true) w := keyEql zk32 rfl w
set_option maxRecDepth 40000 in
set_option maxHeartbeats 4000000 in
theorem lives_any (w : World) (hT : Tabs w) : Calls Tryd.prog 16 #[] w fun e w' => e = .returned (.bool true) ∧ Below w.heap.size w w' := by
  have hzv := zero_has
  have hz3 := hT.sz
  have HT := hide hT
  clear hT
  go_enter Tryd.func16, Tryd.ntmps16
  go_wp2_with fail
  refine (write_nil _ _).mono ?_
  rintro e w1 ⟨rfl, hw1⟩
  obtain ⟨z, hz⟩ : ∃ z, z = w.heap.size := ⟨_, rfl⟩
  have HH1 : Hid (HOf w1 z 45 [] [] []) := by
    rw [hw1, hz]; exact hof_zero ((Blk.made w _ _).alloc _)
  have hb1 : Below w.heap.size w w1 := by rw [hw1]; exact ((Below.refl _ _).alloc (Nat.le_refl _) _).alloc (by simp) _
  have HT1 := hide (HT.out.below hb1)
  have hz3' : 3 ≤ z := by omega
  have hzw : w.heap.size ≤ z := by omega
  rw [← hz]
  clear hw1 HT hz
  obtain ⟨k1, hk1⟩ : ∃ k1, k1 = shaOf [97, 98] := ⟨_, rfl⟩
  obtain ⟨k2, hk2⟩ : ∃ k2, k2 = shaOf [97, 98, 99] := ⟨_, rfl⟩
  have HK1L := hide (show k1.length = 32 by rw [hk1]; exact shaOf_len _)
  have HK2L := hide (show k2.length = 32 by rw [hk2]; exact shaOf_len _)
  have HNE := hide (show (k1 == k2) = false by rw [hk1, hk2]; exact ab_abc)
  have HK1 := hide hk1
  have HK2 := hide hk2
  clear hk1 hk2
  go_wp2_with fail
  refine (write_lit w1 HT1.out z hz3' [] [97, 98] HH1.out (by decide)).mono ?_
  rintro e w2 ⟨rfl, hO2, hg2⟩
  have HO2 : Hid (HOf w2 z 45 [] [] [97, 98]) := hide hO2
  have HT2 := hide (HT1.out.grown hg2 (fun b e => by rw [← Option.some.inj e]; exact hz3'))
  have hb2 := hb1.trans (below_grownBy hg2 hzw hb1.size)
  clear hO2 hg2 HH1 HT1 hb1
  go_wp2_with fail
  refine (hsum_any w2 HT2.out z 45 [] [] [97, 98] HO2.out (by decide)).mono ?_
  rintro e w3 ⟨rfl, hb3⟩
  rw [← HK1.out]
  have HO3 := hide (hof_below HO2.out hb3)
  have HT3 := hide (HT2.out.below hb3)
  have hb03 := hb2.trans (hb3.mono hb2.size)
  have hzlt := hof_lt HO3.out
  clear HO2 HT2 hb3 hb2
  go_wp2_with ((with_reducible refine wpList_put_key ?_ (.tmp 3) (.tmp 11) ?_ w3.heap.size ?_ w3 ?_ ?_ k1 HK1L.out ?_ ?_); rfl; rfl; rfl; rfl; rfl; rfl; intro w4 HA4 hb4)
  have HO4 := hide (hof_below HO3.out hb4)
  have HT4 := hide (HT3.out.below hb4)
  have hb04 := hb03.trans (hb4.mono hb03.size)
  obtain ⟨y1, hy1⟩ : ∃ y1, y1 = w3.heap.size := ⟨_, rfl⟩
  rw [← hy1] at HA4 hzlt ⊢
  clear HO3 HT3 hb4 hb03 hy1
  refine (write_lit w4 HT4.out z hz3' [97, 98] [99] HO4.out (by decide)).mono ?_
  rintro e w5 ⟨rfl, hO5, hg5⟩
  have HO5 : Hid (HOf w5 z 45 [] [] [97, 98, 99]) := hide hO5
  have HT5 := hide (HT4.out.grown hg5 (fun b e => by rw [← Option.some.inj e]; exact hz3'))
  have HA5 := hide (HA4.out.grown hg5 (fun e => by have := Option.some.inj e; omega))
  have hb05 := hb04.trans (below_grownBy hg5 hzw hb04.size)
  clear hO5 hg5 HO4 HT4 HA4 hb04
  go_wp2_with fail
  refine (hsum_any w5 HT5.out z 45 [] [] [97, 98, 99] HO5.out (by decide)).mono ?_
  rintro e w6 ⟨rfl, hb6⟩
  rw [← HK2.out]
  have HO6 := hide (hof_below HO5.out hb6)
  have HT6 := hide (HT5.out.below hb6)
  have HA6 := hide (HA5.out.below hb6)
  have hb06 := hb05.trans (hb6.mono hb05.size)
  clear HO5 HT5 HA5 hb6 hb05
  go_wp2_with ((with_reducible refine wpList_put_key ?_ (.tmp 4) (.tmp 14) ?_ w6.heap.size ?_ w6 ?_ ?_ k2 HK2L.out ?_ ?_); rfl; rfl; rfl; rfl; rfl; rfl; intro w7 HB7 hb7)
  have HO7 := hide (hof_below HO6.out hb7)
  have HT7 := hide (HT6.out.below hb7)
  have HA7 := hide (HA6.out.below hb7)
  have hb07 := hb06.trans (hb7.mono hb06.size)
  obtain ⟨y2, hy2⟩ : ∃ y2, y2 = w6.heap.size := ⟨_, rfl⟩
  rw [← hy2] at HB7 ⊢
  clear HO6 HT6 HA6 hb7 hb06 hy2
  have hb77 : Below w7.heap.size w7 (w7.alloc (.cells (([97, 98, 99] : List UInt8).map u8c).toArray 5)) := (Below.refl _ _).alloc (Nat.le_refl _) _
  refine (rsum_any (w7.alloc (.cells (([97, 98, 99] : List UInt8).map u8c).toArray 5)) (HT7.out.below hb77) (.slice (some ⟨w7.heap.size, 0, none⟩) 3 3) [97, 98, 99] (rd_made w7 [97, 98, 99] (by decide)) (by decide)).mono ?_
  rintro e w8 ⟨rfl, hb8⟩
  rw [← HK2.out]
  have hb78 := hb77.trans (hb8.mono hb77.size)
  have HO8 := hide (hof_below HO7.out hb78)
  have HT8 := hide (HT7.out.below hb78)
  have HA8 := hide (HA7.out.below hb78)
  have HB8 := hide (HB7.out.below hb78)
  have hb08 := hb07.trans (hb78.mono hb07.size)
  obtain ⟨y7, hy7⟩ : ∃ y7, y7 = w7.heap.size := ⟨_, rfl⟩
  rw [← hy7] 
  clear HO7 HT7 HA7 HB7 hb77 hb78 hb8 hb07 hy7
  have hg1 := keyGuard2 .neq k1 k2
  have hn1 := keyNeq2 k1 k2 HK1L.out HK2L.out HNE.out
  have hg2 := keyGuard .eql k2
  have hn2 := keyEql k2 HK2L.out
  go_wp2_with (first | ((with_reducible refine wpList_put_key ?_ (.tmp 5) (.tmp 16) ?_ w8.heap.size ?_ w8 ?_ ?_ k2 HK2L.out ?_ ?_); rfl; rfl; rfl; rfl; rfl; rfl; intro w9 HC9 hb9; have HA9 := hide (HA8.out.below hb9); have HB9 := hide (HB8.out.below hb9)) | ((with_reducible refine wpList_key (.tmp 3) y1 k1 HA9.out ?_ ?_ ?_ ?_); rfl; rfl; rfl) | ((with_reducible refine wpList_key (.tmp 4) y2 k2 HB9.out ?_ ?_ ?_ ?_); rfl; rfl; rfl) | ((with_reducible refine wpList_key (.tmp 5) w8.heap.size k2 HC9.out ?_ ?_ ?_ ?_); rfl; rfl; rfl))
  have HO9 := hide (hof_below HO8.out hb9)
  have hb09 := hb08.trans (hb9.mono hb08.size)
  obtain ⟨y8, hy8⟩ : ∃ y8, y8 = w8.heap.size := ⟨_, rfl⟩
  rw [← hy8]
  clear HO8 HT8 HA8 HB8 hb9 hb08 HA9 HB9 HC9 hy8
  refine (len_any w9 z 45 [] [] [97, 98, 99] HO9.out).mono ?_
  rintro e w10 ⟨rfl, hw10⟩
  rw [hw10]
  clear hw10
  have h3 : (([97, 98, 99] : List UInt8).length : Int) = 3 := rfl
  rw [h3]
  go_wp2_with fail
  refine (len_nil w9).mono ?_
  rintro e w10 ⟨rfl, hw10⟩
  rw [hw10]
  clear hw10
  go_wp2_with fail
  refine (hsum_nil w9).mono ?_
  rintro e w11 ⟨rfl, hb11⟩
  have hb011 := hb09.trans (hb11.mono hb09.size)
  have hg3 := zkGuard
  have hn3 := zkEql
  rw [show List.replicate 32 (0 : UInt8) = zk32 from rfl]
  clear HO9 hb11
  go_wp2
  go_ret
  exact ⟨rfl, hb011⟩
end Go.Proofs.YtbohbkjkcpncfaaDoor
