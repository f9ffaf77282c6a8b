/- A list with marks behind it; Of. -/
import Derived.Test.YtjmjnecobaoofaaDoorKR2
import Derived.Test.YtjmjnecobaoofaaDoorKM5
namespace Go.Proofs.YtjmjnecobaoofaaDoor
set_option linter.unusedVariables false
set_option linter.unusedSimpArgs false
open Go.RowKit

/-- The mark at place i. -/
def mark (i : Nat) : UInt8 := UInt8.ofNat (i * 5 + 9)
/-- What stands at place i: the list's byte, or a mark. -/
def roomAt (xs : List UInt8) (i : Nat) : UInt8 := (xs[i]?).getD (mark i)
def roomL (xs : List UInt8) : List UInt8 := (List.range (xs.length + 70)).map (roomAt xs)
theorem roomL_len (xs : List UInt8) : (roomL xs).length = xs.length + 70 := by simp [roomL]
theorem roomL_at (xs : List UInt8) (i : Nat) (h : i < xs.length + 70) : (roomL xs)[i]? = some (roomAt xs i) := by simp [roomL, h]
theorem made_u8 (n : Nat) : madeCells #[Value.int .u8 0] n = ((List.replicate n (0 : UInt8)).map u8c).toArray := by
  apply Array.ext'
  rw [toList_madeCells_one]
  simp [u8c]
theorem Blk.setU {w : World} {g : Nat} {zs : List UInt8} {t : TypeId} (h : Blk w g (zs.map u8c).toArray t) (i : Nat) (y : UInt8) : Blk (w.setCell ⟨g, i, none⟩ (.int .u8 (y.toNat : Int))) g ((zs.set i y).map u8c).toArray t := by
  have := h.set i (u8c y)
  rw [List.setIfInBounds_toArray, ← List.map_set] at this
  exact this
theorem Blk.atU {w : World} {g : Nat} {zs : List UInt8} {t : TypeId} (h : Blk w g (zs.map u8c).toArray t) (i : Nat) (y : UInt8) (hy : zs[i]? = some y) : w.cell? ⟨g, i, none⟩ = some (.int .u8 (y.toNat : Int)) := by
  rw [h.cell]; simp [hy, u8c]
def RoomC (w : World) (xs : List UInt8) (e : Ending) (w' : World) : Prop := e = .returned (.slice (some ⟨w.heap.size, 0, none⟩) xs.length (xs.length + 70)) ∧ Blk w' w.heap.size ((roomL xs).map u8c).toArray 5 ∧ Below w.heap.size w w'
set_option maxRecDepth 20000 in
set_option maxHeartbeats 2000000 in
theorem roomy_any (w : World) (v : Value) (xs : List UInt8) (hv : RdA w v xs) (hlen : xs.length ≤ 140737488353000) : Calls Tryd.prog 4 #[v] w (RoomC w xs) := by
  have HV := hide hv
  obtain ⟨ao, c, rfl, hl63⟩ := hv.slice
  obtain ⟨n, hn⟩ : ∃ n, n = xs.length := ⟨_, rfl⟩
  have HN := hide hn
  rw [← hn] at hlen hl63 HV ⊢
  clear hv hn
  obtain ⟨m, hm⟩ : ∃ m, m = n + 70 := ⟨_, rfl⟩
  have hw0 : IntKind.i64.wrap ((n : Int) + 70) = (m : Int) := by rw [show (n : Int) + 70 = (m : Int) by omega]; exact wrapi64_nat m (by omega)
  have hmk := make_u8 m (by omega)
  rw [made_u8 m] at hmk
  have HM := hide hm
  have hnm70 : m ≤ 140737488353070 := by omega
  have hnm0 : n ≤ m := by omega
  clear hm
  go_enter Tryd.func4, Tryd.ntmps4
  go_wp2
  go_loopw [4] (fun t wr => ∃ (k : Nat) (zs : List UInt8), t = .int .i64 k ∧ k ≤ m ∧ zs.length = m ∧ (∀ i, i < k → zs[i]? = some (roomAt xs i)) ∧ Blk wr w.heap.size (zs.map u8c).toArray 5 ∧ Below w.heap.size w wr) (fun t _ => m - (intOf t).toNat)
  case atStart =>
    refine ⟨0, List.replicate m 0, rfl, by omega, List.length_replicate, fun i hi => by omega, ?_, (Below.refl _ _).alloc (Nat.le_refl _) _⟩
    have e : Array.replicate m (u8c 0) = ((List.replicate m (0 : UInt8)).map u8c).toArray := by simp
    rw [← e]; exact Blk.made w _ _
  case round =>
    obtain ⟨k, zs, rfl, hk, hzl, hz, hB, hW⟩ := hrel
    by_cases hlt : k < m
    · have hki : (k : Int) < (m : Int) := by omega
      obtain ⟨p, hp⟩ : ∃ p, p = k * 5 := ⟨_, rfl⟩
      obtain ⟨q, hq⟩ : ∃ q, q = k * 5 + 9 := ⟨_, rfl⟩
      have hw1 : IntKind.i64.wrap ((k : Int) * 5) = (p : Int) := by rw [show (k : Int) * 5 = (p : Int) by omega]; exact wrapi64_nat p (by omega)
      have hw2 : IntKind.i64.wrap ((p : Int) + 9) = (q : Int) := by rw [show (p : Int) + 9 = (q : Int) by omega]; exact wrapi64_nat q (by omega)
      obtain ⟨y, hy⟩ : ∃ y, y = mark k := ⟨_, rfl⟩
      have hw3 : IntKind.u8.wrap (q : Int) = (y.toNat : Int) := by
        rw [hy]; unfold mark
        rw [UInt8.toNat_ofNat', ← hq]
        simp [IntKind.wrap, IntKind.bits, IntKind.signed]
      have hzk : zs[k]? = some (zs[k]'(by omega)) := List.getElem?_eq_getElem (by omega)
      have c1 := hB.atU k _ hzk
      have f1 := hB.frozen k
      have hB1 := hB.setU k y
      have hW1 := hW.setCell (p := ⟨w.heap.size, k, none⟩) (Nat.le_refl _) (.int .u8 (y.toNat : Int))
      have HY := hide hy
      have HZ := hide hz
      clear hp hq hy hzk hz hB
      by_cases hkn : k < n
      · have hkni : (k : Int) < (n : Int) := by omega
        obtain ⟨b, o, c', e1, hc⟩ := HV.out.at k (by rw [← HN.out]; exact hkn)
        obtain ⟨rfl, _, _⟩ := (Value.slice.injEq ..).mp e1
        obtain ⟨x, hx⟩ : ∃ x, x = xs[k]'(by rw [← HN.out]; exact hkn) := ⟨_, rfl⟩
        rw [← hx] at hc
        have hbl : b < w.heap.size := World.block_lt_of_cell? w _ hc
        have c2 : (wr.setCell ⟨w.heap.size, k, none⟩ (.int .u8 (y.toNat : Int))).cell? ⟨b, o + k, none⟩ = some (.int .u8 (x.toNat : Int)) := by rw [hW1.cell hbl]; exact hc
        have hzk1 : (zs.set k y)[k]? = some y := by rw [List.getElem?_set_self (by omega)]
        have c3 := hB1.atU k y hzk1
        have f3 := hB1.frozen k
        have HB2 := hide (hB1.setU k x)
        have HW2 := hide (hW1.setCell (p := ⟨w.heap.size, k, none⟩) (Nat.le_refl _) (.int .u8 (x.toNat : Int)))
        have HX : Hid (roomAt xs k = x) := hide (by unfold roomAt; rw [List.getElem?_eq_getElem (by rw [← HN.out]; exact hkn), hx]; rfl)
        clear hB1 hW1 hx hzk1 hc e1
        go_wp2
        refine ⟨⟨k + 1, (zs.set k y).set k x, by go_num, by omega, by rw [List.length_set, List.length_set]; exact hzl, fun i hi => ?_, HB2.out, HW2.out⟩, by simp [intOf]; omega⟩
        by_cases e : i = k
        · subst e
          rw [List.getElem?_set_self (by rw [List.length_set]; omega), HX.out]
        · rw [List.getElem?_set_ne (fun h => e h.symm), List.getElem?_set_ne (fun h => e h.symm)]
          exact HZ.out i (by omega)
      · have hkni : ¬ (k : Int) < (n : Int) := by omega
        have HX : Hid (roomAt xs k = y) := hide (by unfold roomAt; rw [List.getElem?_eq_none (by rw [← HN.out]; omega), HY.out]; rfl)
        have HB1 := hide hB1
        have HW1 := hide hW1
        clear hB1 hW1
        go_wp2
        refine ⟨⟨k + 1, zs.set k y, by go_num, by omega, by rw [List.length_set]; exact hzl, fun i hi => ?_, HB1.out, HW1.out⟩, by simp [intOf]; omega⟩
        by_cases e : i = k
        · subst e
          rw [List.getElem?_set_self (by omega), HX.out]
        · rw [List.getElem?_set_ne (fun h => e h.symm)]
          exact HZ.out i (by omega)
    · have hki : ¬ (k : Int) < (m : Int) := by omega
      have hnm : (n : Int) ≤ (m : Int) := by omega
      have HB : Hid (Blk wr w.heap.size ((roomL xs).map u8c).toArray 5) := hide (by
        have : zs = roomL xs := by
          apply List.ext_getElem?
          intro i
          rcases Nat.lt_or_ge i m with hi | hi
          · rw [hz i (by omega), roomL_at xs i (by rw [← HN.out, ← HM.out]; exact hi)]
          · rw [List.getElem?_eq_none (by omega), List.getElem?_eq_none (by rw [roomL_len, ← HN.out, ← HM.out]; exact hi)]
        rw [← this]; exact hB)
      clear hB hz
      go_wp2
      go_ret
      exact ⟨by rw [← HN.out, ← HM.out]; rfl, HB.out, hW⟩
theorem RdA.room {w : World} {g : Nat} {xs : List UInt8} (h : Blk w g ((roomL xs).map u8c).toArray 5) (hl : xs.length ≤ 140737488353000) : RdA w (.slice (some ⟨g, 0, none⟩) xs.length (xs.length + 70)) xs := by
  refine .inl ⟨some ⟨g, 0, none⟩, xs.length + 70, rfl, by omega, by unfold maxLen; omega, .inr ⟨g, 0, rfl, fun i hi => ?_⟩⟩
  rw [Nat.zero_add, h.atU i xs[i] (by rw [roomL_at xs i (by omega)]; unfold roomAt; rw [List.getElem?_eq_getElem hi]; rfl)]
  rfl
set_option maxRecDepth 20000 in
theorem of_any (w : World) (hT : Tabs w) (v : Value) (xs : List UInt8) (hv : RdA w v xs) (hlen : xs.length ≤ 140737488353000) : Calls Tryd.prog 6 #[v] w fun e w' => e = .returned (keyV (shaOf xs)) ∧ Below w.heap.size w w' := by
  have hzk := zero_key
  have HB0 := hide (show Below w.heap.size w (w.alloc (.cells keyZ 24)) from (Below.refl _ _).alloc (Nat.le_refl _) _)
  have HC := hide (ssum_any _ (hT.below HB0.out) v xs (hv.below HB0.out) (by omega))
  have HKS : Hid (((shaOf xs).map u8c).toArray.size = 32) := hide (by simp [shaOf_len])
  have HK1 := hide (all_oneCell_toArray (u8c_one (shaOf xs)))
  have HZS : Hid (keyZ.size = 32) := hide rfl
  have HZM := hide (Blk.made w keyZ 24)
  clear hv hT
  go_enter Tryd.func6, Tryd.ntmps6
  go_wp2_with fail
  refine HC.out.mono ?_
  rintro e w1 ⟨rfl, hb1⟩
  have HZ1 := hide (HZM.out.below hb1 HZM.out.lt)
  have HB1 := hide (HB0.out.trans (hb1.mono HB0.out.size))
  clear hb1
  go_wp2_with ((with_reducible refine wpList_store_blk ?_ 24 (.tmp 2) (.tmp 4) ?_ w.heap.size 32 keyZ ((shaOf xs).map u8c).toArray 24 HKS.out HZS.out ?_ ?_ HZ1.out infoKey HK1.out ?_); rfl; rfl; rfl; rfl; intro w2 hk2 hg2)
  refine bodyPost_ret (results_cell rfl _ _ _ rfl _ (loadBlkT hk2 24 _ Tryd.underlying24 rfl 32 infoKey HKS.out)) rfl ?_
  exact ⟨rfl, HB1.out.trans (below_grownBy hg2 (Nat.le_refl _) HB1.out.size)⟩
set_option maxRecDepth 20000 in
theorem rof_any (w : World) (hT : Tabs w) (v : Value) (xs : List UInt8) (hv : RdA w v xs) (hlen : xs.length ≤ 140737488353000) : Calls Tryd.prog 7 #[v] w fun e w' => e = .returned (keyV (shaOf xs)) ∧ Below w.heap.size w w' := by
  have hzk := zero_key
  have HB0 := hide (show Below w.heap.size w (w.alloc (.cells keyZ 24)) from (Below.refl _ _).alloc (Nat.le_refl _) _)
  have HC := hide (rsum_any _ (hT.below HB0.out) v xs (hv.below HB0.out) (by omega))
  have HKS : Hid (((shaOf xs).map u8c).toArray.size = 32) := hide (by simp [shaOf_len])
  have HK1 := hide (all_oneCell_toArray (u8c_one (shaOf xs)))
  have HZS : Hid (keyZ.size = 32) := hide rfl
  have HZM := hide (Blk.made w keyZ 24)
  clear hv hT
  go_enter Tryd.func7, Tryd.ntmps7
  go_wp2_with fail
  refine HC.out.mono ?_
  rintro e w1 ⟨rfl, hb1⟩
  have HZ1 := hide (HZM.out.below hb1 HZM.out.lt)
  have HB1 := hide (HB0.out.trans (hb1.mono HB0.out.size))
  clear hb1
  go_wp2_with ((with_reducible refine wpList_store_blk ?_ 24 (.tmp 2) (.tmp 4) ?_ w.heap.size 32 keyZ ((shaOf xs).map u8c).toArray 24 HKS.out HZS.out ?_ ?_ HZ1.out infoKey HK1.out ?_); rfl; rfl; rfl; rfl; intro w2 hk2 hg2)
  refine bodyPost_ret (results_cell rfl _ _ _ rfl _ (loadBlkT hk2 24 _ Tryd.underlying24 rfl 32 infoKey HKS.out)) rfl ?_
  exact ⟨rfl, HB1.out.trans (below_grownBy hg2 (Nat.le_refl _) HB1.out.size)⟩
end Go.Proofs.YtjmjnecobaoofaaDoor
