/- The document's answers on digits and order. -/
import Derived.Test.YtjmjnecobaoofaaDoorKD5
namespace Go.Proofs.YtjmjnecobaoofaaDoor
set_option linter.unusedVariables false
set_option linter.unusedSimpArgs false
open Go.RowKit

theorem sgn_none (c : UInt8) (h : ∀ j, j < 16 → dig j ≠ c) : sgn c = -1 := by
  rcases sgn_range c with h1 | ⟨h1, h2⟩
  · exact h1
  · exact absurd (dig_sgn c h1) (h _ (by omega))
set_option maxRecDepth 20000 in
set_option maxHeartbeats 1000000 in
theorem rvalue_any (c : UInt8) (w : World) : Calls Tryd.prog 26 #[.int .u8 (c.toNat : Int)] w fun e w' => e = .returned (.int .i64 (sgn c)) ∧ w' = w := by
  go_enter Tryd.func26, Tryd.ntmps26
  go_wp2
  go_loopw [3] (fun i wr => ∃ k : Nat, i = .int .i64 k ∧ k ≤ 16 ∧ (∀ j, j < k → dig j ≠ c) ∧ wr = w) (fun i _ => 16 - (intOf i).toNat)
  case atStart => exact ⟨0, rfl, by omega, fun j hj => by omega, rfl⟩
  case round =>
    obtain ⟨k, rfl, hk, hd, rfl⟩ := hrel
    by_cases hlt : k < 16
    · have hki : (k : Int) < 16 := by omega
      have hgk := congrArg UInt8.toNat (dig_at k hlt)
      have HD := hide hd
      by_cases he : dig k = c
      · have heq : (((dig k).toNat : Int) == (c.toNat : Int)) = true := by rw [he]; simp
        have HS : Hid (sgn c = (k : Int)) := hide (by rw [← he]; exact sgn_dig k hlt)
        clear he hd
        go_wp2
        go_ret
        exact ⟨by rw [HS.out]; rfl, rfl⟩
      · have heq : (((dig k).toNat : Int) == (c.toNat : Int)) = false := by
          have : ¬ (dig k).toNat = c.toNat := fun e => he (UInt8.toNat_inj.1 e)
          simp; omega
        have HE := hide he
        clear he hd
        go_wp2
        refine ⟨⟨k + 1, by go_num, by omega, fun j hj => ?_, by trivial⟩, by simp [intOf]; omega⟩
        by_cases e : j = k
        · rw [e]; exact HE.out
        · exact HD.out j (by omega)
    · have hki : ¬ (k : Int) < 16 := by omega
      have HS : Hid (sgn c = -1) := hide (sgn_none c (fun j hj => hd j (by omega)))
      clear hd
      go_wp2
      go_ret
      exact ⟨by rw [HS.out]; rfl, rfl⟩
theorem cmp_at : ∀ (k : Nat) (a b : List UInt8) (x y : UInt8), a.take k = b.take k → a[k]? = some x → b[k]? = some y → x ≠ y → cmpK a b = if x < y then -1 else 1
  | 0, a :: as', b :: bs, x, y, _, h1, h2, hne => by
    simp at h1 h2
    subst h1 h2
    rw [cmpK_cons]
    have ha : a < b ↔ a.toNat < b.toNat := UInt8.lt_iff_toNat_lt
    have hb : b < a ↔ b.toNat < a.toNat := UInt8.lt_iff_toNat_lt
    by_cases h : a < b
    · rw [if_pos h, if_pos h]
    · have h3 : b < a := by
        rw [hb]; rw [ha] at h
        have : a.toNat ≠ b.toNat := fun e => hne (UInt8.toNat_inj.1 e)
        omega
      rw [if_neg h, if_neg h, if_pos h3]
  | 0, [], _, x, y, _, h1, _, _ => by simp at h1
  | 0, _ :: _, [], x, y, _, _, h2, _ => by simp at h2
  | k + 1, a :: as', b :: bs, x, y, ht, h1, h2, hne => by
    rw [List.take_succ_cons, List.take_succ_cons] at ht
    obtain ⟨rfl, ht'⟩ := List.cons.inj ht
    rw [cmpK_cons, if_neg (UInt8.lt_irrefl a), if_neg (UInt8.lt_irrefl a)]
    exact cmp_at k as' bs x y ht' (by simpa using h1) (by simpa using h2) hne
  | k + 1, [], _, x, y, _, h1, _, _ => by simp at h1
  | k + 1, _ :: _, [], x, y, _, _, h2, _ => by simp at h2
set_option maxRecDepth 20000 in
set_option maxHeartbeats 1000000 in
theorem rcompare_any (a b : List UInt8) (ha : a.length = 32) (hb : b.length = 32) (w : World) : Calls Tryd.prog 11 #[keyV a, keyV b] w fun e w' => e = .returned (.int .i64 (cmpK a b)) ∧ Below w.heap.size w w' := by
  show Calls Tryd.prog 11 #[.agg (a.map u8c).toArray, .agg (b.map u8c).toArray] w _
  have HA : Hid (KeyAt ((w.alloc (.cells (a.map u8c).toArray 24)).alloc (.cells (b.map u8c).toArray 24)) w.heap.size a) := hide ⟨(Blk.made w _ _).alloc _, ha⟩
  have HB : Hid (KeyAt ((w.alloc (.cells (a.map u8c).toArray 24)).alloc (.cells (b.map u8c).toArray 24)) (w.heap.size + 1) b) := hide ⟨blk_made1 w _ _ _ _, hb⟩
  have HW : Hid (Below w.heap.size w ((w.alloc (.cells (a.map u8c).toArray 24)).alloc (.cells (b.map u8c).toArray 24))) := hide (((Below.refl _ _).alloc (Nat.le_refl _) _).alloc (by simp) _)
  go_enter Tryd.func11, Tryd.ntmps11
  go_wp2
  go_loopw [5] (fun i wr => ∃ k : Nat, i = .int .i64 k ∧ k ≤ 32 ∧ a.take k = b.take k ∧ KeyAt wr w.heap.size a ∧ KeyAt wr (w.heap.size + 1) b ∧ Below w.heap.size w wr) (fun i _ => 32 - (intOf i).toNat)
  case atStart => exact ⟨0, rfl, by omega, rfl, HA.out, HB.out, HW.out⟩
  case round =>
    clear HA HB HW
    obtain ⟨k, rfl, hk, hp, hA, hB, hW⟩ := hrel
    by_cases hlt : k < 32
    · have hki : (k : Int) < 32 := by omega
      obtain ⟨x, hx⟩ : ∃ x, a[k]? = some x := ⟨_, List.getElem?_eq_getElem (by omega)⟩
      obtain ⟨y, hy⟩ : ∃ y, b[k]? = some y := ⟨_, List.getElem?_eq_getElem (by omega)⟩
      have ca : wr.cell? ⟨w.heap.size, k, none⟩ = some (.int .u8 (x.toNat : Int)) := by rw [hA.1.cell]; simp [hx, u8c]
      have cb : wr.cell? ⟨w.heap.size + 1, k, none⟩ = some (.int .u8 (y.toNat : Int)) := by rw [hB.1.cell]; simp [hy, u8c]
      have HX := hide hx
      have HY := hide hy
      have HP := hide hp
      have HA := hide hA
      have HB := hide hB
      have hxy : x < y ↔ x.toNat < y.toNat := UInt8.lt_iff_toNat_lt
      by_cases h1 : x.toNat < y.toNat
      · have h1i : (x.toNat : Int) < (y.toNat : Int) := by omega
        have HC : Hid (cmpK a b = -1) := hide (by rw [cmp_at k a b x y hp hx hy (fun e => by rw [e] at h1; omega), if_pos (hxy.2 h1)])
        clear hx hy hp hA hB
        go_wp2
        refine wp_region_still_lit (by kernel_rfl) (by kernel_rfl) ?_
        repeat still_step
        refine wpStill_nil ?_
        go_wp2
        go_ret
        exact ⟨by rw [HC.out]; rfl, hW.drew⟩
      · have h1i : ¬ (x.toNat : Int) < (y.toNat : Int) := by omega
        by_cases h2 : y.toNat < x.toNat
        · have h2i : (y.toNat : Int) < (x.toNat : Int) := by omega
          have HC : Hid (cmpK a b = 1) := hide (by rw [cmp_at k a b x y hp hx hy (fun e => by rw [e] at h2; omega), if_neg (fun e => h1 (hxy.1 e))])
          clear hx hy hp hA hB
          go_wp2
          refine wp_region_still_lit (by kernel_rfl) (by kernel_rfl) ?_
          repeat still_step
          refine wpStill_nil ?_
          go_wp2
          obtain ⟨wd, hwd⟩ : ∃ wd : World, wd = { wr with drawn := wr.drawn + 1 } := ⟨_, rfl⟩
          have ca2 : wd.cell? ⟨w.heap.size, k, none⟩ = some (.int .u8 (x.toNat : Int)) := by rw [hwd]; exact ca
          have cb2 : wd.cell? ⟨w.heap.size + 1, k, none⟩ = some (.int .u8 (y.toNat : Int)) := by rw [hwd]; exact cb
          have HA2 : Hid (KeyAt wd w.heap.size a) := by rw [hwd]; exact HA
          have HB2 : Hid (KeyAt wd (w.heap.size + 1) b) := by rw [hwd]; exact HB
          have hW2 : Below w.heap.size w wd := by rw [hwd]; exact hW.drew
          rw [← hwd]
          clear hwd
          refine wp_region_still_lit (by kernel_rfl) (by kernel_rfl) ?_
          repeat still_step
          refine wpStill_nil ?_
          go_wp2
          go_ret
          exact ⟨by rw [HC.out]; rfl, hW2.drew⟩
        · have h2i : ¬ (y.toNat : Int) < (x.toNat : Int) := by omega
          have HPN : Hid (a.take (k + 1) = b.take (k + 1)) := hide (by rw [List.take_add_one, List.take_add_one, hp, hx, hy, UInt8.toNat_inj.1 (show x.toNat = y.toNat by omega)])
          clear hx hy hp hA hB
          go_wp2
          refine wp_region_still_lit (by kernel_rfl) (by kernel_rfl) ?_
          repeat still_step
          refine wpStill_nil ?_
          go_wp2
          obtain ⟨wd, hwd⟩ : ∃ wd : World, wd = { wr with drawn := wr.drawn + 1 } := ⟨_, rfl⟩
          have ca2 : wd.cell? ⟨w.heap.size, k, none⟩ = some (.int .u8 (x.toNat : Int)) := by rw [hwd]; exact ca
          have cb2 : wd.cell? ⟨w.heap.size + 1, k, none⟩ = some (.int .u8 (y.toNat : Int)) := by rw [hwd]; exact cb
          have HA2 : Hid (KeyAt wd w.heap.size a) := by rw [hwd]; exact HA
          have HB2 : Hid (KeyAt wd (w.heap.size + 1) b) := by rw [hwd]; exact HB
          have hW2 : Below w.heap.size w wd := by rw [hwd]; exact hW.drew
          rw [← hwd]
          clear hwd
          refine wp_region_still_lit (by kernel_rfl) (by kernel_rfl) ?_
          repeat still_step
          refine wpStill_nil ?_
          go_wp2
          exact ⟨⟨k + 1, by go_num, by omega, HPN.out, HA2.out, HB2.out, hW2.drew⟩, by simp [intOf]; omega⟩
    · have hki : ¬ (k : Int) < 32 := by omega
      have HC : Hid (cmpK a b = 0) := hide (by rw [List.take_of_length_le (by omega), List.take_of_length_le (by omega)] at hp; rw [hp]; exact cmpK_self b)
      clear hp hA hB
      go_wp2
      go_ret
      exact ⟨by rw [HC.out]; rfl, hW⟩
end Go.Proofs.YtjmjnecobaoofaaDoor
