/- Bytes of their own with marks behind them; whether the marks stand; texts of bytes. -/
import Derived.Test.YtffoadmaihpgoaaGE0
namespace Go.Proofs.Ytffoadmaihpgoaa
set_option linter.unusedVariables false
set_option linter.unusedSimpArgs false
open Go.RowKit

/-- What stands at place i: the list's byte, or a mark. -/
def spAt (xs : List UInt8) (i : Nat) : UInt8 := (xs[i]?).getD 165
def spL (xs : List UInt8) : List UInt8 := (List.range (xs.length + 70)).map (spAt xs)
theorem spL_len (xs : List UInt8) : (spL xs).length = xs.length + 70 := by simp [spL]
theorem spL_at (xs : List UInt8) (i : Nat) (h : i < xs.length + 70) : (spL xs)[i]? = some (spAt xs i) := by simp [spL, h]
theorem made_u8 (n : Nat) : madeCells #[Value.int .u8 0] n = ((List.replicate n (0 : UInt8)).map u8c).toArray := by
  apply Array.ext'
  rw [toList_madeCells_one]
  simp [u8c]
theorem Blk.setU {w : World} {g : Nat} {zs : List UInt8} {t : TypeId} (h : Blk w g (zs.map u8c).toArray t) (i : Nat) (y : UInt8) : Blk (w.setCell ⟨g, i, none⟩ (.int .u8 (y.toNat : Int))) g ((zs.set i y).map u8c).toArray t := by
  have := h.set i (u8c y)
  rw [List.setIfInBounds_toArray, ← List.map_set] at this
  exact this
theorem Blk.atU {w : World} {g : Nat} {zs : List UInt8} {t : TypeId} (h : Blk w g (zs.map u8c).toArray t) (i : Nat) (y : UInt8) (hy : zs[i]? = some y) : w.cell? ⟨g, i, none⟩ = some (.int .u8 (y.toNat : Int)) := by
  rw [h.cell]; simp [hy, u8c]
def SpareC (w : World) (xs : List UInt8) (e : Ending) (w' : World) : Prop := e = .returned (.slice (some ⟨w.heap.size, 0, none⟩) xs.length (xs.length + 70)) ∧ Blk w' w.heap.size ((spL xs).map u8c).toArray 5 ∧ Below w.heap.size w w'
set_option maxRecDepth 20000 in
set_option maxHeartbeats 2000000 in
theorem copied_any (w : World) (v : Value) (xs : List UInt8) (hv : RdA w v xs) (hlen : xs.length ≤ 140737488353000) : Calls Try.prog 14 #[v] w (SpareC w xs) := by
  have HV := hide hv
  obtain ⟨ao, c, rfl, hl63⟩ := hv.slice
  obtain ⟨n, hn⟩ : ∃ n, n = xs.length := ⟨_, rfl⟩
  have HN := hide hn
  rw [← hn] at hlen hl63 HV ⊢
  clear hv hn
  obtain ⟨m, hm⟩ : ∃ m, m = n + 70 := ⟨_, rfl⟩
  have hw0 : IntKind.i64.wrap ((n : Int) + 70) = (m : Int) := by rw [show (n : Int) + 70 = (m : Int) by omega]; exact wrapi64_nat m (by omega)
  have hmk := make_u8 m (by omega)
  rw [made_u8 m] at hmk
  have HM := hide hm
  have hnm70 : m ≤ 140737488353070 := by omega
  have hnm0 : n ≤ m := by omega
  have hnm1 : (n : Int) ≤ (m : Int) := by omega
  clear hm
  go_enter Try.func14, Try.ntmps14
  go_wp2
  go_loopw [4] (fun t wr => ∃ (k : Nat) (zs : List UInt8), t = .int .i64 k ∧ k ≤ n ∧ zs.length = m ∧ (∀ i, i < k → zs[i]? = some (spAt xs i)) ∧ Blk wr w.heap.size (zs.map u8c).toArray 5 ∧ Below w.heap.size w wr) (fun t _ => n - (intOf t).toNat)
  case atStart =>
    refine ⟨0, List.replicate m 0, rfl, by omega, List.length_replicate, fun i hi => by omega, ?_, (Below.refl _ _).alloc (Nat.le_refl _) _⟩
    have e : Array.replicate m (u8c 0) = ((List.replicate m (0 : UInt8)).map u8c).toArray := by simp
    rw [← e]; exact Blk.made w _ _
  case round =>
    obtain ⟨k, zs, rfl, hk, hzl, hz, hB, hW⟩ := hrel
    by_cases hlt : k < n
    · have hki : (k : Int) < (n : Int) := by omega
      have hkm : (k : Int) < (m : Int) := by omega
      have hzk : zs[k]? = some (zs[k]'(by omega)) := List.getElem?_eq_getElem (by omega)
      have c1 := hB.atU k _ hzk
      have f1 := hB.frozen k
      obtain ⟨b, o, c', e1, hc⟩ := HV.out.at k (by rw [← HN.out]; exact hlt)
      obtain ⟨rfl, -, -⟩ := (Value.slice.injEq ..).mp e1
      obtain ⟨x, hx⟩ : ∃ x, x = xs[k]'(by rw [← HN.out]; exact hlt) := ⟨_, rfl⟩
      rw [← hx] at hc
      have hbl : b < w.heap.size := World.block_lt_of_cell? w _ hc
      have c2 : wr.cell? ⟨b, o + k, none⟩ = some (.int .u8 (x.toNat : Int)) := by rw [hW.cell hbl]; exact hc
      have HB2 := hide (hB.setU k x)
      have HW2 := hide (hW.setCell (p := ⟨w.heap.size, k, none⟩) (Nat.le_refl _) (.int .u8 (x.toNat : Int)))
      have HX : Hid (spAt xs k = x) := hide (by unfold spAt; rw [List.getElem?_eq_getElem (by rw [← HN.out]; exact hlt), hx]; rfl)
      have HZ := hide hz
      clear hB hW hx hz hzk hc e1
      go_wp2
      refine ⟨⟨k + 1, zs.set k x, by go_num, by omega, by rw [List.length_set]; exact hzl, fun i hi => ?_, HB2.out, HW2.out⟩, by simp [intOf]; omega⟩
      by_cases e : i = k
      · subst e
        rw [List.getElem?_set_self (by omega), HX.out]
      · rw [List.getElem?_set_ne (fun h => e h.symm)]
        exact HZ.out i (by omega)
    · have hki : ¬ (k : Int) < (n : Int) := by omega
      obtain ⟨wp, hwp⟩ : ∃ w0, w0 = wr := ⟨_, rfl⟩
      rw [← hwp] at hB hW ⊢
      have HB := hide hB
      have HWp := hide hW
      have HZ0 : Hid (∀ i, i < n → zs[i]? = some (spAt xs i)) := hide (fun i hi => hz i (by omega))
      have HZL := hide hzl
      clear hB hW hwp hz hzl
      go_wp2
      go_loopw [5] (fun t wr => ∃ (k : Nat) (zs : List UInt8), t = .int .i64 k ∧ n ≤ k ∧ k ≤ m ∧ zs.length = m ∧ (∀ i, i < k → zs[i]? = some (spAt xs i)) ∧ Blk wr w.heap.size (zs.map u8c).toArray 5 ∧ Below w.heap.size w wr) (fun t _ => m - (intOf t).toNat)
      case atStart => exact ⟨n, zs, rfl, Nat.le_refl _, by omega, HZL.out, HZ0.out, HB.out, HWp.out⟩
      case round =>
        clear HB HWp HZ0 HZL
        obtain ⟨k, zs, rfl, hnk, hk, hzl, hz, hB, hW⟩ := hrel
        by_cases hlt : k < m
        · have hki : (k : Int) < (m : Int) := by omega
          have hzk : zs[k]? = some (zs[k]'(by omega)) := List.getElem?_eq_getElem (by omega)
          have c1 := hB.atU k _ hzk
          have f1 := hB.frozen k
          have HB2 : Hid (Blk (wr.setCell ⟨w.heap.size, k, none⟩ (.int .u8 165)) w.heap.size ((zs.set k 165).map u8c).toArray 5) := hide (hB.setU k 165)
          have HW2 := hide (hW.setCell (p := ⟨w.heap.size, k, none⟩) (Nat.le_refl _) (.int .u8 165))
          have HX : Hid (spAt xs k = 165) := hide (by unfold spAt; rw [List.getElem?_eq_none (by rw [← HN.out]; omega)]; rfl)
          have HZ := hide hz
          clear hB hW hz hzk
          go_wp2
          refine ⟨⟨k + 1, zs.set k 165, by go_num, by omega, by omega, by rw [List.length_set]; exact hzl, fun i hi => ?_, HB2.out, HW2.out⟩, by simp [intOf]; omega⟩
          by_cases e : i = k
          · subst e
            rw [List.getElem?_set_self (by omega), HX.out]
          · rw [List.getElem?_set_ne (fun h => e h.symm)]
            exact HZ.out i (by omega)
        · have hki : ¬ (k : Int) < (m : Int) := by omega
          have HB : Hid (Blk wr w.heap.size ((spL xs).map u8c).toArray 5) := hide (by
            have : zs = spL xs := by
              apply List.ext_getElem?
              intro i
              rcases Nat.lt_or_ge i m with hi | hi
              · rw [hz i (by omega), spL_at xs i (by rw [← HN.out, ← HM.out]; exact hi)]
              · rw [List.getElem?_eq_none (by omega), List.getElem?_eq_none (by rw [spL_len, ← HN.out, ← HM.out]; exact hi)]
            rw [← this]; exact hB)
          clear hB hz
          go_wp2
          go_ret
          exact ⟨by rw [← HN.out, ← HM.out]; rfl, HB.out, hW⟩
theorem RdA.spare {w : World} {g : Nat} {xs : List UInt8} (h : Blk w g ((spL xs).map u8c).toArray 5) (hl : xs.length ≤ 140737488353000) : RdA w (.slice (some ⟨g, 0, none⟩) xs.length (xs.length + 70)) xs := by
  refine .inl ⟨some ⟨g, 0, none⟩, xs.length + 70, rfl, by omega, by unfold maxLen; omega, .inr ⟨g, 0, rfl, fun i hi => ?_⟩⟩
  rw [Nat.zero_add, h.atU i xs[i] (by rw [spL_at xs i (by omega)]; unfold spAt; rw [List.getElem?_eq_getElem hi]; rfl)]
  rfl
theorem strOf_u8 (xs : List UInt8) : strOfNums (xs.map fun u => (u.toNat : Int)) = ⟨xs.toArray⟩ := by
  have : ((fun n : Int => UInt8.ofNat n.toNat) ∘ fun u : UInt8 => (u.toNat : Int)) = id := by funext u; simp
  simp [strOfNums, this]
theorem conv_rd (w : World) (v : Value) (xs : List UInt8) (h : Rd w v xs) : (convert 42 9 v).run Try.prog w = .ok (.string ⟨xs.toArray⟩) w := by
  obtain ⟨ao, c, rfl, hc, hm, hcel⟩ := h
  rcases Nat.eq_zero_or_pos xs.length with h0 | hpos
  · obtain rfl : xs = [] := List.eq_nil_of_length_eq_zero h0
    rcases hcel with ⟨rfl, _⟩ | ⟨b, o, rfl, _⟩
    · exact run_convert_bytes_nil (P := Try.prog) w 42 5 Try.underlying42 Try.underlying5 _ _ 9 Try.underlying9
    · exact run_convert_bytes_arg (P := Try.prog) w 42 5 Try.underlying42 Try.underlying5 b o 0 c [] rfl (fun i hi => by omega) 9 Try.underlying9
  · obtain ⟨b, o, rfl, hcell⟩ : ∃ b o, ao = some ⟨b, o, none⟩ ∧ ∀ i (h : i < xs.length), w.cell? ⟨b, o + i, none⟩ = some (u8c xs[i]) := by
      rcases hcel with ⟨_, h⟩ | h
      · omega
      · exact h
    have := run_convert_bytes_arg (P := Try.prog) w 42 5 Try.underlying42 Try.underlying5 b o xs.length c (xs.map fun u => (u.toNat : Int)) (by simp)
      (fun i hi => by rw [hcell i hi]; simp [u8c, List.getD, List.getElem?_eq_getElem hi]) 9 Try.underlying9
    rw [this, strOf_u8]

theorem conv_rdA (w : World) (v : Value) (xs : List UInt8) (h : RdA w v xs) : (convert 42 9 v).run Try.prog w = .ok (.string ⟨xs.toArray⟩) w := by
  rcases h with h | ⟨a, rfl, rfl⟩
  · exact conv_rd w v xs h
  · kernel_rfl
theorem below_alloc (w : World) (o : Obj) : Below w.heap.size w (w.alloc o) := (Below.refl _ _).alloc (Nat.le_refl _) _
set_option maxRecDepth 20000 in
set_option maxHeartbeats 1000000 in
theorem clean_any (w : World) (g : Nat) (xs : List UInt8) (hB : Blk w g ((spL xs).map u8c).toArray 5) (hlen : xs.length ≤ 140737488353000) : Calls Try.prog 23 #[.slice (some ⟨g, 0, none⟩) xs.length (xs.length + 70)] w fun e w' => e = .returned (.bool true) ∧ Below w.heap.size w w' := by
  have HB := hide hB
  obtain ⟨n, hn⟩ : ∃ n, n = xs.length := ⟨_, rfl⟩
  have HN := hide hn
  rw [← hn] at hlen ⊢
  clear hB hn
  obtain ⟨m, hm⟩ : ∃ m, m = n + 70 := ⟨_, rfl⟩
  rw [← hm]
  have hw0 : IntKind.i64.wrap ((n : Int) + 70) = (m : Int) := by rw [show (n : Int) + 70 = (m : Int) by omega]; exact wrapi64_nat m (by omega)
  have hmm : (m : Int) ≤ (m : Int) := Int.le_refl _
  have HM := hide hm
  have hmu : m ≤ 140737488353070 := by omega
  have hnm : n ≤ m := by omega
  clear hm
  go_enter Try.func23, Try.ntmps23
  go_wp2
  go_loopw [4] (fun t wr => ∃ k : Nat, t = .int .i64 k ∧ n ≤ k ∧ k ≤ m ∧ wr = w) (fun t _ => m - (intOf t).toNat)
  case atStart => exact ⟨n, rfl, Nat.le_refl _, hnm, rfl⟩
  case round =>
    obtain ⟨k, rfl, hnk, hk, hw⟩ := hrel
    subst hw
    by_cases hlt : k < m
    · have hki : (k : Int) < (m : Int) := by omega
      have c1 : wr.cell? ⟨g, k, none⟩ = some (.int .u8 165) := HB.out.atU k 165 (by rw [spL_at xs k (by rw [← HN.out, ← HM.out]; exact hlt)]; unfold spAt; rw [List.getElem?_eq_none (by rw [← HN.out]; exact hnk)]; rfl)
      go_wp2
      exact ⟨⟨k + 1, by go_num, by omega, by omega, by trivial⟩, by simp [intOf]; omega⟩
    · have hki : ¬ (k : Int) < (m : Int) := by omega
      go_wp2
      go_ret
      exact ⟨rfl, Below.refl _ _⟩
end Go.Proofs.Ytffoadmaihpgoaa
