/- What was handed in stays; From, both ways. -/
import Derived.Test.YtjmjnecobaoofaaDoorKX1
namespace Go.Proofs.YtjmjnecobaoofaaDoor
set_option linter.unusedVariables false
set_option linter.unusedSimpArgs false
open Go.RowKit

set_option maxRecDepth 20000 in
set_option maxHeartbeats 2000000 in
theorem kleft_any (w : World) (g : Nat) (v : Value) (xs : List UInt8) (hB : Blk w g ((roomL xs).map u8c).toArray 5) (hv : RdA w v xs) (hlen : xs.length ≤ 140737488353000) : Calls Tryd.prog 14 #[.slice (some ⟨g, 0, none⟩) xs.length (xs.length + 70), v] w fun e w' => e = .returned (.bool true) ∧ Below w.heap.size w w' := by
  have HV := hide hv
  have HB := hide hB
  obtain ⟨ao, c, rfl, hl63⟩ := hv.slice
  obtain ⟨n, hn⟩ : ∃ n, n = xs.length := ⟨_, rfl⟩
  have HN := hide hn
  rw [← hn] at hlen hl63 HV ⊢
  clear hv hB hn
  obtain ⟨m, hm⟩ : ∃ m, m = n + 70 := ⟨_, rfl⟩
  rw [← hm]
  have hw0 : IntKind.i64.wrap ((n : Int) + 70) = (m : Int) := by rw [show (n : Int) + 70 = (m : Int) by omega]; exact wrapi64_nat m (by omega)
  have hmm : (m : Int) ≤ (m : Int) := Int.le_refl _
  have HM := hide hm
  have hmu : m ≤ 140737488353070 := by omega
  clear hm
  go_enter Tryd.func14, Tryd.ntmps14
  go_wp2
  go_loopw [6] (fun t wr => ∃ k : Nat, t = .int .i64 k ∧ k ≤ m ∧ Below w.heap.size w wr) (fun t _ => m - (intOf t).toNat)
  case atStart => exact ⟨0, rfl, by omega, Below.refl _ _⟩
  case round =>
    obtain ⟨k, rfl, hk, hW⟩ := hrel
    by_cases hlt : k < m
    · have hki : (k : Int) < (m : Int) := by omega
      have cg := (HB.out.below hW HB.out.lt).atU k _ (roomL_at xs k (by rw [← HN.out, ← HM.out]; exact hlt))
      obtain ⟨y, hy⟩ : ∃ y, y = roomAt xs k := ⟨_, rfl⟩
      rw [← hy] at cg
      by_cases hkn : k < n
      · have hkni : (k : Int) < (n : Int) := by omega
        have hge : ¬ n ≤ k := by omega
        have hge2 : ¬ (n : Int) ≤ (k : Int) := by omega
        obtain ⟨b, o, c', e1, hc⟩ := HV.out.at k (by rw [← HN.out]; exact hkn)
        obtain ⟨rfl, -, -⟩ := (Value.slice.injEq ..).mp e1
        have hyx : y = xs[k]'(by rw [← HN.out]; exact hkn) := by rw [hy]; unfold roomAt; rw [List.getElem?_eq_getElem (by rw [← HN.out]; exact hkn)]; rfl
        rw [← hyx] at hc
        have hbl : b < w.heap.size := World.block_lt_of_cell? w _ hc
        have cx : wr.cell? ⟨b, o + k, none⟩ = some (.int .u8 (y.toNat : Int)) := by rw [hW.cell hbl]; exact hc
        clear hyx hy hc e1
        go_wp2
        go_quiet (fail)
        go_wp2
        exact ⟨⟨k + 1, by go_num, by omega, hW.trans ⟨rfl, rfl, rfl, Nat.le_refl _, fun _ _ => rfl⟩⟩, by simp [intOf]; omega⟩
      · have hkni : ¬ (k : Int) < (n : Int) := by omega
        have hnki : (n : Int) ≤ (k : Int) := by omega
        have hge : n ≤ k := by omega
        obtain ⟨p, hp⟩ : ∃ p, p = k * 5 := ⟨_, rfl⟩
        obtain ⟨q, hq⟩ : ∃ q, q = k * 5 + 9 := ⟨_, rfl⟩
        have hw1 : IntKind.i64.wrap ((k : Int) * 5) = (p : Int) := by rw [show (k : Int) * 5 = (p : Int) by omega]; exact wrapi64_nat p (by omega)
        have hw2 : IntKind.i64.wrap ((p : Int) + 9) = (q : Int) := by rw [show (p : Int) + 9 = (q : Int) by omega]; exact wrapi64_nat q (by omega)
        have hym : y = mark k := by rw [hy]; unfold roomAt; rw [List.getElem?_eq_none (by rw [← HN.out]; omega)]; rfl
        have hw3 : IntKind.u8.wrap (q : Int) = (y.toNat : Int) := by
          rw [hym]; unfold mark
          rw [UInt8.toNat_ofNat', ← hq]
          simp [IntKind.wrap, IntKind.bits, IntKind.signed]
        clear hp hq hym hy
        go_wp2
        go_quiet (fail)
        go_wp2
        exact ⟨⟨k + 1, by go_num, by omega, hW.trans ⟨rfl, rfl, rfl, Nat.le_refl _, fun _ _ => rfl⟩⟩, by simp [intOf]; omega⟩
    · have hki : ¬ (k : Int) < (m : Int) := by omega
      go_wp2
      go_ret
      exact ⟨rfl, hW⟩
theorem arr_key (b o c : Nat) (W : World) : (Instr.arrayAt 24 (.slice (some ⟨b, o, none⟩) 32 c)).run Tryd.prog W = .ok (.pointer (some ⟨b, o, none⟩)) W := by kernel_rfl
def fromK (xs : List UInt8) : List UInt8 := if xs.length = 32 then xs else List.replicate 32 0
def fromE (xs : List UInt8) : Int := if xs.length = 32 then 0 else 2
def FromC (w : World) (xs : List UInt8) (e : Ending) (w' : World) : Prop := e = .returned (.tuple #[keyV (fromK xs), .int .i64 (fromE xs)]) ∧ Below w.heap.size w w'
theorem fromK_len (xs : List UInt8) : (fromK xs).length = 32 := by unfold fromK; split <;> simp [*]
set_option maxRecDepth 20000 in
set_option maxHeartbeats 1000000 in
theorem kfrom_any (w : World) (v : Value) (xs : List UInt8) (hv : RdA w v xs) : Calls Tryd.prog 12 #[v] w (FromC w xs) := by
  have hzk := zero_key
  have HZS : Hid (keyZ.size = 32) := hide rfl
  have HZ1 : Hid (keyZ.all (·.oneCell') = true) := hide (all_oneCell_toArray (u8c_one _))
  have HZM := hide (Blk.made w keyZ 24)
  have HB0 := hide (show Below w.heap.size w (w.alloc (.cells keyZ 24)) from (Below.refl _ _).alloc (Nat.le_refl _) _)
  by_cases hl : xs.length = 32
  · have HK : Hid (fromK xs = xs) := hide (by unfold fromK; rw [if_pos hl])
    have HE : Hid (fromE xs = 0) := hide (by unfold fromE; rw [if_pos hl])
    obtain ⟨b, o, c, rfl, -⟩ := hv.at 0 (by omega)
    have HR : Hid ((w.alloc (.cells keyZ 24)).rangeAt b o (xs.map u8c)) := hide (fun j u hj => by
      have hjl : j < xs.length := by simpa using (List.getElem?_eq_some_iff.1 hj).1
      obtain ⟨b', o', c', e1, hc⟩ := (hv.below HB0.out).at j hjl
      obtain ⟨e2, _, _⟩ := (Value.slice.injEq ..).mp e1
      obtain ⟨rfl, rfl⟩ : b = b' ∧ o = o' := by cases e2; exact ⟨rfl, rfl⟩
      rw [hc, ← hj]; simp [hjl, u8c])
    have HXL := hide hl
    have HXS : Hid ((xs.map u8c).toArray.size = 32) := hide (by simp [hl])
    have HX1 := hide (all_oneCell_toArray (u8c_one xs))
    rw [hl]
    have harr := arr_key b o c
    clear hv
    go_enter Tryd.func12, Tryd.ntmps12
    go_wp2_with (first | ((with_reducible refine wpList_load_keyAt (.tmp 9) b o xs HXL.out HR.out ?_ ?_ ?_ ?_); rfl; rfl; rfl) | ((with_reducible refine wpList_store_blk ?_ 24 (.tmp 2) (.tmp 10) ?_ w.heap.size 32 keyZ (xs.map u8c).toArray 24 HXS.out HZS.out ?_ ?_ HZM.out infoKey HX1.out ?_); rfl; rfl; rfl; rfl; intro w2 hk2 hg2))
    refine bodyPost_ret (results_cell2 rfl _ _ _ rfl _ (loadBlkT hk2 24 _ Tryd.underlying24 rfl 32 infoKey HXS.out)) rfl ?_
    exact ⟨by rw [HK.out, HE.out]; rfl, HB0.out.trans (below_grownBy hg2 (Nat.le_refl _) HB0.out.size)⟩
  · have HK : Hid (fromK xs = List.replicate 32 0) := hide (by unfold fromK; rw [if_neg hl])
    have HE : Hid (fromE xs = 2) := hide (by unfold fromE; rw [if_neg hl])
    obtain ⟨ao, c, rfl, hl63⟩ := hv.slice
    obtain ⟨n, hn⟩ : ∃ n, n = xs.length := ⟨_, rfl⟩
    rw [← hn] at hl hl63 ⊢
    have hl3 : ((n : Int) == 32) = false := by simp; omega
    clear hv hn
    go_enter Tryd.func12, Tryd.ntmps12
    go_wp2_with ((with_reducible refine wpList_store_blk ?_ 24 (.tmp 2) (.tmp 7) ?_ w.heap.size 32 keyZ keyZ 24 HZS.out HZS.out ?_ ?_ HZM.out infoKey HZ1.out ?_); rfl; rfl; rfl; rfl; intro w2 hk2 hg2)
    refine bodyPost_ret (results_cell2 rfl _ _ _ rfl _ (loadBlkT hk2 24 _ Tryd.underlying24 rfl 32 infoKey rfl)) rfl ?_
    exact ⟨by rw [HK.out, HE.out]; rfl, HB0.out.trans (below_grownBy hg2 (Nat.le_refl _) HB0.out.size)⟩
/-- The first k bytes, and noughts behind them. -/
def takeTo (s : List UInt8) (k : Nat) : List UInt8 := s.take k ++ List.replicate (32 - k) 0
theorem takeTo_len (s : List UInt8) (hs : s.length = 32) (k : Nat) (hk : k ≤ 32) : (takeTo s k).length = 32 := by
  unfold takeTo; rw [List.length_append, List.length_take, List.length_replicate]; omega
theorem takeTo_set (s : List UInt8) (hs : s.length = 32) (k : Nat) (hk : k < 32) (x : UInt8) (hx : s[k]? = some x) : (takeTo s k).set k x = takeTo s (k + 1) := by
  have hl : (s.take k).length = k := by rw [List.length_take]; omega
  unfold takeTo
  rw [List.set_append_right _ _ (by omega), hl, Nat.sub_self, show 32 - k = (32 - (k + 1)) + 1 by omega, List.replicate_succ, List.set_cons_zero, List.take_add_one, hx]
  simp
set_option maxRecDepth 20000 in
set_option maxHeartbeats 1000000 in
theorem rfrom_any (w : World) (v : Value) (xs : List UInt8) (hv : RdA w v xs) : Calls Tryd.prog 13 #[v] w (FromC w xs) := by
  have hzk := zero_key
  have HZS : Hid (keyZ.size = 32) := hide rfl
  have HZ1 : Hid (keyZ.all (·.oneCell') = true) := hide (all_oneCell_toArray (u8c_one _))
  have HZL : Hid ((List.replicate 32 (0 : UInt8)).length = 32) := hide rfl
  have HZA : Hid (Blk ((w.alloc (.cells keyZ 24)).alloc (.cells keyZ 24)) w.heap.size keyZ 24) := hide ((Blk.made w _ _).alloc _)
  have HZK : Hid (KeyAt ((w.alloc (.cells keyZ 24)).alloc (.cells keyZ 24)) (w.heap.size + 1) (List.replicate 32 0)) := hide ⟨blk_made1 w _ _ _ _, rfl⟩
  have HB0 := hide (show Below w.heap.size w ((w.alloc (.cells keyZ 24)).alloc (.cells keyZ 24)) from ((Below.refl _ _).alloc (Nat.le_refl _) _).alloc (by simp) _)
  by_cases hl : xs.length = 32
  · have HK : Hid (fromK xs = xs) := hide (by unfold fromK; rw [if_pos hl])
    have HE : Hid (fromE xs = 0) := hide (by unfold fromE; rw [if_pos hl])
    obtain ⟨b, o, c, rfl, -⟩ := hv.at 0 (by omega)
    have HV := hide hv
    have HXL := hide hl
    rw [hl]
    clear hv
    go_enter Tryd.func13, Tryd.ntmps13
    go_wp2
    go_loopw [5] (fun t wr => ∃ j : Nat, t = .int .i64 j ∧ j ≤ 32 ∧ Blk wr w.heap.size keyZ 24 ∧ Blk wr (w.heap.size + 1) ((takeTo xs j).map u8c).toArray 24 ∧ Below w.heap.size w wr) (fun t _ => 32 - (intOf t).toNat)
    case atStart => exact ⟨0, rfl, by omega, HZA.out, HZK.out.1, HB0.out⟩
    case round =>
      obtain ⟨j, rfl, hj, hZ, hT, hW⟩ := hrel
      by_cases hlt : j < 32
      · have hji : (j : Int) < 32 := by omega
        obtain ⟨b', o', c', e1, hc⟩ := HV.out.at j (by rw [HXL.out]; exact hlt)
        obtain ⟨e2, _, _⟩ := (Value.slice.injEq ..).mp e1
        obtain ⟨rfl, rfl⟩ : b = b' ∧ o = o' := by cases e2; exact ⟨rfl, rfl⟩
        obtain ⟨x, hx⟩ : ∃ x, x = xs[j]'(by rw [HXL.out]; exact hlt) := ⟨_, rfl⟩
        rw [← hx] at hc
        have hbl : b < w.heap.size := World.block_lt_of_cell? w _ hc
        have cx : wr.cell? ⟨b, o + j, none⟩ = some (.int .u8 (x.toNat : Int)) := by rw [hW.cell hbl]; exact hc
        have HS := hide (takeTo_set xs HXL.out j hlt x (by rw [hx]; exact List.getElem?_eq_getElem _))
        have hl3 := takeTo_len xs HXL.out j hj
        have c1 := hT.atU j _ (List.getElem?_eq_getElem (show j < (takeTo xs j).length by omega))
        have f1 := hT.frozen j
        have HT2 := hide (hT.setU j x)
        have HZ2 := hide (hZ.setOther ⟨w.heap.size + 1, j, none⟩ (.int .u8 (x.toNat : Int)) (by show w.heap.size ≠ w.heap.size + 1; omega))
        have HW2 := hide (hW.setCell (p := ⟨w.heap.size + 1, j, none⟩) (by show w.heap.size ≤ w.heap.size + 1; omega) (.int .u8 (x.toNat : Int)))
        rw [HS.out] at HT2
        clear hT hZ hx hc e1 e2
        go_wp2
        exact ⟨⟨j + 1, by go_num, by omega, HZ2.out, HT2.out, HW2.out⟩, by simp [intOf]; omega⟩
      · obtain rfl : j = 32 := by omega
        have hta : takeTo xs 32 = xs := by unfold takeTo; rw [List.take_of_length_le (by rw [HXL.out]; omega)]; simp
        rw [hta] at hT
        have HT : Hid (KeyAt wr (w.heap.size + 1) xs) := hide ⟨hT, HXL.out⟩
        have HZ := hide hZ
        have HXS : Hid ((xs.map u8c).toArray.size = 32) := hide (by simp [HXL.out])
        have HX1 := hide (all_oneCell_toArray (u8c_one xs))
        clear hT hZ hta
        go_wp2_with (first | ((with_reducible refine wpList_key (.tmp 4) (w.heap.size + 1) xs HT.out ?_ ?_ ?_ ?_); rfl; rfl; rfl) | ((with_reducible refine wpList_store_blk ?_ 24 (.tmp 2) (.tmp 20) ?_ w.heap.size 32 keyZ (xs.map u8c).toArray 24 HXS.out HZS.out ?_ ?_ HZ.out infoKey HX1.out ?_); rfl; rfl; rfl; rfl; intro w2 hk2 hg2))
        refine bodyPost_ret (results_cell2 rfl _ _ _ rfl _ (loadBlkT hk2 24 _ Tryd.underlying24 rfl 32 infoKey HXS.out)) rfl ?_
        exact ⟨by rw [HK.out, HE.out]; rfl, hW.trans (below_grownBy hg2 (Nat.le_refl _) hW.size)⟩
  · have HK : Hid (fromK xs = List.replicate 32 0) := hide (by unfold fromK; rw [if_neg hl])
    have HE : Hid (fromE xs = 2) := hide (by unfold fromE; rw [if_neg hl])
    obtain ⟨ao, c, rfl, hl63⟩ := hv.slice
    obtain ⟨n, hn⟩ : ∃ n, n = xs.length := ⟨_, rfl⟩
    rw [← hn] at hl hl63 ⊢
    have hl3 : ((n : Int) == 32) = false := by simp; omega
    have HZV : Hid (keyV (List.replicate 32 0) = .agg keyZ) := hide rfl
    clear hv hn
    go_enter Tryd.func13, Tryd.ntmps13
    go_wp2_with (first | ((with_reducible refine wpList_key (.tmp 4) (w.heap.size + 1) (List.replicate 32 0) HZK.out ?_ ?_ ?_ ?_); rfl; rfl; rfl; rw [HZV.out]) | ((with_reducible refine wpList_store_blk ?_ 24 (.tmp 2) (.tmp 9) ?_ w.heap.size 32 keyZ keyZ 24 HZS.out HZS.out ?_ ?_ HZA.out infoKey HZ1.out ?_); rfl; rfl; rfl; rfl; intro w2 hk2 hg2))
    refine bodyPost_ret (results_cell2 rfl _ _ _ rfl _ (loadBlkT hk2 24 _ Tryd.underlying24 rfl 32 infoKey rfl)) rfl ?_
    exact ⟨by rw [HK.out, HE.out]; rfl, HB0.out.trans (below_grownBy hg2 (Nat.le_refl _) HB0.out.size)⟩
end Go.Proofs.YtjmjnecobaoofaaDoor
