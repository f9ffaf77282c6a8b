/- A list with marks behind it; what was handed in stays. -/
import Derived.Test.YtbnedlcldfpfdaaEX5
namespace Go.Proofs.Ytbnedlcldfpfdaa
set_option linter.unusedVariables false
set_option linter.unusedSimpArgs false
open Go.RowKit

/-- The mark at place i. -/
def mark (i : Nat) : UInt8 := UInt8.ofNat (i * 7 + 3)
/-- What stands at place i: the list's byte, or a mark. -/
def roomAt (xs : List UInt8) (i : Nat) : UInt8 := (xs[i]?).getD (mark i)
def roomL (xs : List UInt8) : List UInt8 := (List.range (xs.length + 70)).map (roomAt xs)
theorem roomL_len (xs : List UInt8) : (roomL xs).length = xs.length + 70 := by simp [roomL]
theorem roomL_at (xs : List UInt8) (i : Nat) (h : i < xs.length + 70) : (roomL xs)[i]? = some (roomAt xs i) := by simp [roomL, h]
theorem made_u8 (n : Nat) : madeCells #[Value.int .u8 0] n = ((List.replicate n (0 : UInt8)).map u8c).toArray := by
  apply Array.ext'
  rw [toList_madeCells_one]
  simp [u8c]
theorem Blk.setU {w : World} {g : Nat} {zs : List UInt8} {t : TypeId} (h : Blk w g (zs.map u8c).toArray t) (i : Nat) (y : UInt8) : Blk (w.setCell ⟨g, i, none⟩ (.int .u8 (y.toNat : Int))) g ((zs.set i y).map u8c).toArray t := by
  have := h.set i (u8c y)
  rw [List.setIfInBounds_toArray, ← List.map_set] at this
  exact this
theorem Blk.atU {w : World} {g : Nat} {zs : List UInt8} {t : TypeId} (h : Blk w g (zs.map u8c).toArray t) (i : Nat) (y : UInt8) (hy : zs[i]? = some y) : w.cell? ⟨g, i, none⟩ = some (.int .u8 (y.toNat : Int)) := by
  rw [h.cell]; simp [hy, u8c]
def RoomC (w : World) (xs : List UInt8) (e : Ending) (w' : World) : Prop := e = .returned (.slice (some ⟨w.heap.size, 0, none⟩) xs.length (xs.length + 70)) ∧ Blk w' w.heap.size ((roomL xs).map u8c).toArray 5 ∧ Below w.heap.size w w'
set_option maxRecDepth 20000 in
set_option maxHeartbeats 2000000 in
theorem roomy_any (w : World) (v : Value) (xs : List UInt8) (hv : RdA w v xs) (hlen : xs.length ≤ 140737488353000) : Calls Try.prog 8 #[v] w (RoomC w xs) := by
  have HV := hide hv
  obtain ⟨ao, c, rfl, hl63⟩ := hv.slice
  obtain ⟨n, hn⟩ : ∃ n, n = xs.length := ⟨_, rfl⟩
  have HN := hide hn
  rw [← hn] at hlen hl63 HV ⊢
  clear hv hn
  obtain ⟨m, hm⟩ : ∃ m, m = n + 70 := ⟨_, rfl⟩
  have hw0 : IntKind.i64.wrap ((n : Int) + 70) = (m : Int) := by rw [show (n : Int) + 70 = (m : Int) by omega]; exact wrapi64_nat m (by omega)
  have hmk := make_u8 m (by omega)
  rw [made_u8 m] at hmk
  have HM := hide hm
  have hnm70 : m ≤ 140737488353070 := by omega
  have hnm0 : n ≤ m := by omega
  clear hm
  go_enter Try.func8, Try.ntmps8
  go_wp2
  go_loopw [4] (fun t wr => ∃ (k : Nat) (zs : List UInt8), t = .int .i64 k ∧ k ≤ m ∧ zs.length = m ∧ (∀ i, i < k → zs[i]? = some (roomAt xs i)) ∧ Blk wr w.heap.size (zs.map u8c).toArray 5 ∧ Below w.heap.size w wr) (fun t _ => m - (intOf t).toNat)
  case atStart =>
    refine ⟨0, List.replicate m 0, rfl, by omega, List.length_replicate, fun i hi => by omega, ?_, (Below.refl _ _).alloc (Nat.le_refl _) _⟩
    have e : Array.replicate m (u8c 0) = ((List.replicate m (0 : UInt8)).map u8c).toArray := by simp
    rw [← e]; exact Blk.made w _ _
  case round =>
    obtain ⟨k, zs, rfl, hk, hzl, hz, hB, hW⟩ := hrel
    by_cases hlt : k < m
    · have hki : (k : Int) < (m : Int) := by omega
      obtain ⟨p, hp⟩ : ∃ p, p = k * 7 := ⟨_, rfl⟩
      obtain ⟨q, hq⟩ : ∃ q, q = k * 7 + 3 := ⟨_, rfl⟩
      have hw1 : IntKind.i64.wrap ((k : Int) * 7) = (p : Int) := by rw [show (k : Int) * 7 = (p : Int) by omega]; exact wrapi64_nat p (by omega)
      have hw2 : IntKind.i64.wrap ((p : Int) + 3) = (q : Int) := by rw [show (p : Int) + 3 = (q : Int) by omega]; exact wrapi64_nat q (by omega)
      obtain ⟨y, hy⟩ : ∃ y, y = mark k := ⟨_, rfl⟩
      have hw3 : IntKind.u8.wrap (q : Int) = (y.toNat : Int) := by
        rw [hy]; unfold mark
        rw [UInt8.toNat_ofNat', ← hq]
        simp [IntKind.wrap, IntKind.bits, IntKind.signed]
      have hzk : zs[k]? = some (zs[k]'(by omega)) := List.getElem?_eq_getElem (by omega)
      have c1 := hB.atU k _ hzk
      have f1 := hB.frozen k
      have hB1 := hB.setU k y
      have hW1 := hW.setCell (p := ⟨w.heap.size, k, none⟩) (Nat.le_refl _) (.int .u8 (y.toNat : Int))
      have HY := hide hy
      have HZ := hide hz
      clear hp hq hy hzk hz hB
      by_cases hkn : k < n
      · have hkni : (k : Int) < (n : Int) := by omega
        obtain ⟨b, o, c', e1, hc⟩ := HV.out.at k (by rw [← HN.out]; exact hkn)
        obtain ⟨rfl, _, _⟩ := (Value.slice.injEq ..).mp e1
        obtain ⟨x, hx⟩ : ∃ x, x = xs[k]'(by rw [← HN.out]; exact hkn) := ⟨_, rfl⟩
        rw [← hx] at hc
        have hbl : b < w.heap.size := World.block_lt_of_cell? w _ hc
        have c2 : (wr.setCell ⟨w.heap.size, k, none⟩ (.int .u8 (y.toNat : Int))).cell? ⟨b, o + k, none⟩ = some (.int .u8 (x.toNat : Int)) := by rw [hW1.cell hbl]; exact hc
        have hzk1 : (zs.set k y)[k]? = some y := by rw [List.getElem?_set_self (by omega)]
        have c3 := hB1.atU k y hzk1
        have f3 := hB1.frozen k
        have HB2 := hide (hB1.setU k x)
        have HW2 := hide (hW1.setCell (p := ⟨w.heap.size, k, none⟩) (Nat.le_refl _) (.int .u8 (x.toNat : Int)))
        have HX : Hid (roomAt xs k = x) := hide (by unfold roomAt; rw [List.getElem?_eq_getElem (by rw [← HN.out]; exact hkn), hx]; rfl)
        clear hB1 hW1 hx hzk1 hc e1
        go_wp2
        refine ⟨⟨k + 1, (zs.set k y).set k x, by go_num, by omega, by rw [List.length_set, List.length_set]; exact hzl, fun i hi => ?_, HB2.out, HW2.out⟩, by simp [intOf]; omega⟩
        by_cases e : i = k
        · subst e
          rw [List.getElem?_set_self (by rw [List.length_set]; omega), HX.out]
        · rw [List.getElem?_set_ne (fun h => e h.symm), List.getElem?_set_ne (fun h => e h.symm)]
          exact HZ.out i (by omega)
      · have hkni : ¬ (k : Int) < (n : Int) := by omega
        have HX : Hid (roomAt xs k = y) := hide (by unfold roomAt; rw [List.getElem?_eq_none (by rw [← HN.out]; omega), HY.out]; rfl)
        have HB1 := hide hB1
        have HW1 := hide hW1
        clear hB1 hW1
        go_wp2
        refine ⟨⟨k + 1, zs.set k y, by go_num, by omega, by rw [List.length_set]; exact hzl, fun i hi => ?_, HB1.out, HW1.out⟩, by simp [intOf]; omega⟩
        by_cases e : i = k
        · subst e
          rw [List.getElem?_set_self (by omega), HX.out]
        · rw [List.getElem?_set_ne (fun h => e h.symm)]
          exact HZ.out i (by omega)
    · have hki : ¬ (k : Int) < (m : Int) := by omega
      have hnm : (n : Int) ≤ (m : Int) := by omega
      have HB : Hid (Blk wr w.heap.size ((roomL xs).map u8c).toArray 5) := hide (by
        have : zs = roomL xs := by
          apply List.ext_getElem?
          intro i
          rcases Nat.lt_or_ge i m with hi | hi
          · rw [hz i (by omega), roomL_at xs i (by rw [← HN.out, ← HM.out]; exact hi)]
          · rw [List.getElem?_eq_none (by omega), List.getElem?_eq_none (by rw [roomL_len, ← HN.out, ← HM.out]; exact hi)]
        rw [← this]; exact hB)
      clear hB hz
      go_wp2
      go_ret
      exact ⟨by rw [← HN.out, ← HM.out]; rfl, HB.out, hW⟩
set_option maxRecDepth 20000 in
set_option maxHeartbeats 2000000 in
theorem fleft_any (w : World) (g : Nat) (v : Value) (xs : List UInt8) (hB : Blk w g ((roomL xs).map u8c).toArray 5) (hv : RdA w v xs) (hlen : xs.length ≤ 140737488353000) : Calls Try.prog 14 #[.slice (some ⟨g, 0, none⟩) xs.length (xs.length + 70), v] w fun e w' => e = .returned (.bool true) ∧ Below w.heap.size w w' := by
  have HV := hide hv
  have HB := hide hB
  obtain ⟨ao, c, rfl, hl63⟩ := hv.slice
  obtain ⟨n, hn⟩ : ∃ n, n = xs.length := ⟨_, rfl⟩
  have HN := hide hn
  rw [← hn] at hlen hl63 HV ⊢
  clear hv hB hn
  obtain ⟨m, hm⟩ : ∃ m, m = n + 70 := ⟨_, rfl⟩
  rw [← hm]
  have hw0 : IntKind.i64.wrap ((n : Int) + 70) = (m : Int) := by rw [show (n : Int) + 70 = (m : Int) by omega]; exact wrapi64_nat m (by omega)
  have hmm : (m : Int) ≤ (m : Int) := Int.le_refl _
  have HM := hide hm
  have hmu : m ≤ 140737488353070 := by omega
  clear hm
  go_enter Try.func14, Try.ntmps14
  go_wp2
  go_loopw [6] (fun t wr => ∃ k : Nat, t = .int .i64 k ∧ k ≤ m ∧ Below w.heap.size w wr) (fun t _ => m - (intOf t).toNat)
  case atStart => exact ⟨0, rfl, by omega, Below.refl _ _⟩
  case round =>
    obtain ⟨k, rfl, hk, hW⟩ := hrel
    by_cases hlt : k < m
    · have hki : (k : Int) < (m : Int) := by omega
      have cg := (HB.out.below hW HB.out.lt).atU k _ (roomL_at xs k (by rw [← HN.out, ← HM.out]; exact hlt))
      obtain ⟨y, hy⟩ : ∃ y, y = roomAt xs k := ⟨_, rfl⟩
      rw [← hy] at cg
      by_cases hkn : k < n
      · have hkni : (k : Int) < (n : Int) := by omega
        have hge : ¬ n ≤ k := by omega
        have hge2 : ¬ (n : Int) ≤ (k : Int) := by omega
        obtain ⟨b, o, c', e1, hc⟩ := HV.out.at k (by rw [← HN.out]; exact hkn)
        obtain ⟨rfl, -, -⟩ := (Value.slice.injEq ..).mp e1
        have hyx : y = xs[k]'(by rw [← HN.out]; exact hkn) := by rw [hy]; unfold roomAt; rw [List.getElem?_eq_getElem (by rw [← HN.out]; exact hkn)]; rfl
        rw [← hyx] at hc
        have hbl : b < w.heap.size := World.block_lt_of_cell? w _ hc
        have cx : wr.cell? ⟨b, o + k, none⟩ = some (.int .u8 (y.toNat : Int)) := by rw [hW.cell hbl]; exact hc
        clear hyx hy hc e1
        go_wp2
        go_quiet (fail)
        go_wp2
        exact ⟨⟨k + 1, by go_num, by omega, hW.trans ⟨rfl, rfl, rfl, Nat.le_refl _, fun _ _ => rfl⟩⟩, by simp [intOf]; omega⟩
      · have hkni : ¬ (k : Int) < (n : Int) := by omega
        have hnki : (n : Int) ≤ (k : Int) := by omega
        have hge : n ≤ k := by omega
        obtain ⟨p, hp⟩ : ∃ p, p = k * 7 := ⟨_, rfl⟩
        obtain ⟨q, hq⟩ : ∃ q, q = k * 7 + 3 := ⟨_, rfl⟩
        have hw1 : IntKind.i64.wrap ((k : Int) * 7) = (p : Int) := by rw [show (k : Int) * 7 = (p : Int) by omega]; exact wrapi64_nat p (by omega)
        have hw2 : IntKind.i64.wrap ((p : Int) + 3) = (q : Int) := by rw [show (p : Int) + 3 = (q : Int) by omega]; exact wrapi64_nat q (by omega)
        have hym : y = mark k := by rw [hy]; unfold roomAt; rw [List.getElem?_eq_none (by rw [← HN.out]; omega)]; rfl
        have hw3 : IntKind.u8.wrap (q : Int) = (y.toNat : Int) := by
          rw [hym]; unfold mark
          rw [UInt8.toNat_ofNat', ← hq]
          simp [IntKind.wrap, IntKind.bits, IntKind.signed]
        clear hp hq hym hy
        go_wp2
        go_quiet (fail)
        go_wp2
        exact ⟨⟨k + 1, by go_num, by omega, hW.trans ⟨rfl, rfl, rfl, Nat.le_refl _, fun _ _ => rfl⟩⟩, by simp [intOf]; omega⟩
    · have hki : ¬ (k : Int) < (m : Int) := by omega
      go_wp2
      go_ret
      exact ⟨rfl, hW⟩
end Go.Proofs.Ytbnedlcldfpfdaa
