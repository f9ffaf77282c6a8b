/- The document's Less. -/
import Derived.Test.YtagnglkkmdeicaaPN4
namespace Go.Proofs.Ytagnglkkmdeicaa
set_option linter.unusedVariables false
set_option linter.unusedSimpArgs false
open Go.RowKit
set_option maxRecDepth 100000

theorem cmp_at : ∀ (k : Nat) (a b : List UInt8) (x y : UInt8), a.take k = b.take k → a[k]? = some x → b[k]? = some y → x ≠ y → cmpK a b = if x < y then -1 else 1
  | 0, a :: as', b :: bs, x, y, _, h1, h2, hne => by
    simp at h1 h2
    subst h1 h2
    rw [cmpK_cons]
    have ha : a < b ↔ a.toNat < b.toNat := UInt8.lt_iff_toNat_lt
    have hb : b < a ↔ b.toNat < a.toNat := UInt8.lt_iff_toNat_lt
    by_cases h : a < b
    · rw [if_pos h, if_pos h]
    · have h3 : b < a := by
        rw [hb]; rw [ha] at h
        have : a.toNat ≠ b.toNat := fun e => hne (UInt8.toNat_inj.1 e)
        omega
      rw [if_neg h, if_neg h, if_pos h3]
  | 0, [], _, x, y, _, h1, _, _ => by simp at h1
  | 0, _ :: _, [], x, y, _, _, h2, _ => by simp at h2
  | k + 1, a :: as', b :: bs, x, y, ht, h1, h2, hne => by
    rw [List.take_succ_cons, List.take_succ_cons] at ht
    obtain ⟨rfl, ht'⟩ := List.cons.inj ht
    rw [cmpK_cons, if_neg (UInt8.lt_irrefl a), if_neg (UInt8.lt_irrefl a)]
    exact cmp_at k as' bs x y ht' (by simpa using h1) (by simpa using h2) hne
  | k + 1, [], _, x, y, _, h1, _, _ => by simp at h1
  | k + 1, _ :: _, [], x, y, _, _, h2, _ => by simp at h2
set_option maxHeartbeats 1000000 in
theorem less_any (a b : List UInt8) (ha : a.length = 32) (hb : b.length = 32) (w : World) : Calls Try.prog 12 #[keyV a, keyV b] w fun e w' => e = .returned (.bool (decide (cmpK a b < 0))) ∧ Below w.heap.size w w' := by
  show Calls Try.prog 12 #[.agg (a.map u8c).toArray, .agg (b.map u8c).toArray] w _
  have HA : Hid (KeyAt ((w.alloc (.cells (a.map u8c).toArray 30)).alloc (.cells (b.map u8c).toArray 30)) w.heap.size a) := hide ⟨(Blk.made w _ _).alloc _, ha⟩
  have HB : Hid (KeyAt ((w.alloc (.cells (a.map u8c).toArray 30)).alloc (.cells (b.map u8c).toArray 30)) (w.heap.size + 1) b) := hide ⟨blk_made1 w _ _ _ _, hb⟩
  have HW : Hid (Below w.heap.size w ((w.alloc (.cells (a.map u8c).toArray 30)).alloc (.cells (b.map u8c).toArray 30))) := hide (((Below.refl _ _).alloc (Nat.le_refl _) _).alloc (by simp) _)
  go_enter Try.func12, Try.ntmps12
  go_wp2
  go_loopw [5] (fun i wr => ∃ k : Nat, i = .int .i64 k ∧ k ≤ 32 ∧ a.take k = b.take k ∧ KeyAt wr w.heap.size a ∧ KeyAt wr (w.heap.size + 1) b ∧ Below w.heap.size w wr) (fun i _ => 32 - (intOf i).toNat)
  case atStart => exact ⟨0, rfl, by omega, rfl, HA.out, HB.out, HW.out⟩
  case round =>
    clear HA HB HW
    obtain ⟨k, rfl, hk, hp, hA, hB, hW⟩ := hrel
    by_cases hlt : k < 32
    · have hki : (k : Int) < 32 := by omega
      obtain ⟨x, hx⟩ : ∃ x, a[k]? = some x := ⟨_, List.getElem?_eq_getElem (by omega)⟩
      obtain ⟨y, hy⟩ : ∃ y, b[k]? = some y := ⟨_, List.getElem?_eq_getElem (by omega)⟩
      have ca : wr.cell? ⟨w.heap.size, k, none⟩ = some (.int .u8 (x.toNat : Int)) := by rw [hA.1.cell]; simp [hx, u8c]
      have cb : wr.cell? ⟨w.heap.size + 1, k, none⟩ = some (.int .u8 (y.toNat : Int)) := by rw [hB.1.cell]; simp [hy, u8c]
      have HA := hide hA
      have HB := hide hB
      have hxy : x < y ↔ x.toNat < y.toNat := UInt8.lt_iff_toNat_lt
      by_cases h0 : x.toNat = y.toNat
      · have heq : ((x.toNat : Int) == (y.toNat : Int)) = true := by rw [h0]; simp
        have HPN : Hid (a.take (k + 1) = b.take (k + 1)) := hide (by rw [List.take_add_one, List.take_add_one, hp, hx, hy, UInt8.toNat_inj.1 h0])
        clear hx hy hp hA hB h0 hxy
        go_wp2
        refine wp_region_still_lit (by kernel_rfl) (by kernel_rfl) ?_
        repeat still_step
        refine wpStill_nil ?_
        go_wp2
        exact ⟨⟨k + 1, by go_num, by omega, HPN.out, HA.out, HB.out, hW.drew⟩, by simp [intOf]; omega⟩
      · have heq : ((x.toNat : Int) == (y.toNat : Int)) = false := by simp; omega
        have HC : Hid (decide (cmpK a b < 0) = decide (x.toNat < y.toNat)) := hide (by
          rw [cmp_at k a b x y hp hx hy (fun e => h0 (by rw [e]))]
          by_cases h1 : x < y
          · rw [if_pos h1]
            have := hxy.1 h1
            simp only [decide_eq_decide]
            constructor
            · intro; omega
            · intro; decide
          · rw [if_neg h1]
            have : ¬ x.toNat < y.toNat := fun h => h1 (hxy.2 h)
            simp only [decide_eq_decide]
            constructor
            · intro h; exact absurd h (by decide)
            · intro h; omega)
        clear hx hy hp hA hB h0 hxy
        generalize x.toNat = m at *
        generalize y.toNat = n at *
        go_wp2
        refine wp_region_still_lit (by kernel_rfl) (by kernel_rfl) ?_
        repeat still_step
        refine wpStill_nil ?_
        go_wp2
        obtain ⟨wd, hwd⟩ : ∃ wd : World, wd = { wr with drawn := wr.drawn + 1 } := ⟨_, rfl⟩
        have ca2 : wd.cell? ⟨w.heap.size, k, none⟩ = some (.int .u8 (m : Int)) := by rw [hwd]; exact ca
        have cb2 : wd.cell? ⟨w.heap.size + 1, k, none⟩ = some (.int .u8 (n : Int)) := by rw [hwd]; exact cb
        have hW2 : Below w.heap.size w wd := by rw [hwd]; exact hW.drew
        rw [← hwd]
        clear hwd
        refine wp_region_still_lit (by kernel_rfl) (by kernel_rfl) ?_
        repeat still_step
        refine wpStill_nil ?_
        go_wp2
        go_ret
        exact ⟨by rw [HC.out]; rfl, hW2.drew⟩
    · have hki : ¬ (k : Int) < 32 := by omega
      have HC : Hid (decide (cmpK a b < 0) = false) := hide (by
        have e : a = b := by
          rw [List.take_of_length_le (by omega), List.take_of_length_le (by omega)] at hp
          exact hp
        rw [e, cmpK_self]; rfl)
      clear hp hA hB
      go_wp2
      go_ret
      exact ⟨by rw [HC.out]; rfl, hW⟩
end Go.Proofs.Ytagnglkkmdeicaa
