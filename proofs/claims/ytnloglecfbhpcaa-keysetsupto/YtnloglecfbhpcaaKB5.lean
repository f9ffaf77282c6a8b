/- The document's answers on digits and order. -/
import Derived.Test.YtnloglecfbhpcaaKB1
import Derived.Test.YtnloglecfbhpcaaKM3
namespace Go.Proofs.Ytnloglecfbhpcaa
set_option linter.unusedVariables false
set_option linter.unusedSimpArgs false
open Go.RowKit

theorem sgn_none (c : UInt8) (h : ∀ j, j < 16 → dig j ≠ c) : sgn c = -1 := by
  rcases sgn_range c with h1 | ⟨h1, h2⟩
  · exact h1
  · exact absurd (dig_sgn c h1) (h _ (by omega))
set_option maxRecDepth 20000 in
set_option maxHeartbeats 1000000 in
theorem rvalue_any (c : UInt8) (w : World) : Calls Try.prog 42 #[.int .u8 (c.toNat : Int)] w fun e w' => e = .returned (.int .i64 (sgn c)) ∧ w' = w := by
  go_enter Try.func42, Try.ntmps42
  go_wp2
  go_loopw [3] (fun i wr => ∃ k : Nat, i = .int .i64 k ∧ k ≤ 16 ∧ (∀ j, j < k → dig j ≠ c) ∧ wr = w) (fun i _ => 16 - (intOf i).toNat)
  case atStart => exact ⟨0, rfl, by omega, fun j hj => by omega, rfl⟩
  case round =>
    obtain ⟨k, rfl, hk, hd, rfl⟩ := hrel
    by_cases hlt : k < 16
    · have hki : (k : Int) < 16 := by omega
      have hgk := congrArg UInt8.toNat (dig_at k hlt)
      have HD := hide hd
      by_cases he : dig k = c
      · have heq : (((dig k).toNat : Int) == (c.toNat : Int)) = true := by rw [he]; simp
        have HS : Hid (sgn c = (k : Int)) := hide (by rw [← he]; exact sgn_dig k hlt)
        clear he hd
        go_wp2
        go_ret
        exact ⟨by rw [HS.out]; rfl, rfl⟩
      · have heq : (((dig k).toNat : Int) == (c.toNat : Int)) = false := by
          have : ¬ (dig k).toNat = c.toNat := fun e => he (UInt8.toNat_inj.1 e)
          simp; omega
        have HE := hide he
        clear he hd
        go_wp2
        refine ⟨⟨k + 1, by go_num, by omega, fun j hj => ?_, by trivial⟩, by simp [intOf]; omega⟩
        by_cases e : j = k
        · rw [e]; exact HE.out
        · exact HD.out j (by omega)
    · have hki : ¬ (k : Int) < 16 := by omega
      have HS : Hid (sgn c = -1) := hide (sgn_none c (fun j hj => hd j (by omega)))
      clear hd
      go_wp2
      go_ret
      exact ⟨by rw [HS.out]; rfl, rfl⟩
theorem cmp_at : ∀ (k : Nat) (a b : List UInt8) (x y : UInt8), a.take k = b.take k → a[k]? = some x → b[k]? = some y → x ≠ y → cmpK a b = if x < y then -1 else 1
  | 0, a :: as', b :: bs, x, y, _, h1, h2, hne => by
    simp at h1 h2
    subst h1 h2
    rw [cmpK_cons]
    have ha : a < b ↔ a.toNat < b.toNat := UInt8.lt_iff_toNat_lt
    have hb : b < a ↔ b.toNat < a.toNat := UInt8.lt_iff_toNat_lt
    by_cases h : a < b
    · rw [if_pos h, if_pos h]
    · have h3 : b < a := by
        rw [hb]; rw [ha] at h
        have : a.toNat ≠ b.toNat := fun e => hne (UInt8.toNat_inj.1 e)
        omega
      rw [if_neg h, if_neg h, if_pos h3]
  | 0, [], _, x, y, _, h1, _, _ => by simp at h1
  | 0, _ :: _, [], x, y, _, _, h2, _ => by simp at h2
  | k + 1, a :: as', b :: bs, x, y, ht, h1, h2, hne => by
    rw [List.take_succ_cons, List.take_succ_cons] at ht
    obtain ⟨rfl, ht'⟩ := List.cons.inj ht
    rw [cmpK_cons, if_neg (UInt8.lt_irrefl a), if_neg (UInt8.lt_irrefl a)]
    exact cmp_at k as' bs x y ht' (by simpa using h1) (by simpa using h2) hne
  | k + 1, [], _, x, y, _, h1, _, _ => by simp at h1
  | k + 1, _ :: _, [], x, y, _, _, h2, _ => by simp at h2
set_option maxRecDepth 20000 in
set_option maxHeartbeats 1000000 in
theorem rcompare_any (a b : List UInt8) (ha : a.length = 32) (hb : b.length = 32) (w : World) : Calls Try.prog 38 #[keyV a, keyV b] w fun e w' => e = .returned (.int .i64 (cmpK a b)) ∧ Below w.heap.size w w' := by
  show Calls Try.prog 38 #[.agg (a.map u8c).toArray, .agg (b.map u8c).toArray] w _
  have HA : Hid (KeyAt ((w.alloc (.cells (a.map u8c).toArray 38)).alloc (.cells (b.map u8c).toArray 38)) w.heap.size a) := hide ⟨(Blk.made w _ _).alloc _, ha⟩
  have HB : Hid (KeyAt ((w.alloc (.cells (a.map u8c).toArray 38)).alloc (.cells (b.map u8c).toArray 38)) (w.heap.size + 1) b) := hide ⟨blk_made1 w _ _ _ _, hb⟩
  have HW : Hid (Below w.heap.size w ((w.alloc (.cells (a.map u8c).toArray 38)).alloc (.cells (b.map u8c).toArray 38))) := hide (((Below.refl _ _).alloc (Nat.le_refl _) _).alloc (by simp) _)
  go_enter Try.func38, Try.ntmps38
  go_wp2
  go_loopw [5] (fun i wr => ∃ k : Nat, i = .int .i64 k ∧ k ≤ 32 ∧ a.take k = b.take k ∧ KeyAt wr w.heap.size a ∧ KeyAt wr (w.heap.size + 1) b ∧ Below w.heap.size w wr) (fun i _ => 32 - (intOf i).toNat)
  case atStart => exact ⟨0, rfl, by omega, rfl, HA.out, HB.out, HW.out⟩
  case round =>
    clear HA HB HW
    obtain ⟨k, rfl, hk, hp, hA, hB, hW⟩ := hrel
    by_cases hlt : k < 32
    · have hki : (k : Int) < 32 := by omega
      obtain ⟨x, hx⟩ : ∃ x, a[k]? = some x := ⟨_, List.getElem?_eq_getElem (by omega)⟩
      obtain ⟨y, hy⟩ : ∃ y, b[k]? = some y := ⟨_, List.getElem?_eq_getElem (by omega)⟩
      have ca : wr.cell? ⟨w.heap.size, k, none⟩ = some (.int .u8 (x.toNat : Int)) := by rw [hA.1.cell]; simp [hx, u8c]
      have cb : wr.cell? ⟨w.heap.size + 1, k, none⟩ = some (.int .u8 (y.toNat : Int)) := by rw [hB.1.cell]; simp [hy, u8c]
      have HX := hide hx
      have HY := hide hy
      have HP := hide hp
      have HA := hide hA
      have HB := hide hB
      have hxy : x < y ↔ x.toNat < y.toNat := UInt8.lt_iff_toNat_lt
      by_cases h1 : x.toNat < y.toNat
      · have h1i : (x.toNat : Int) < (y.toNat : Int) := by omega
        have HC : Hid (cmpK a b = -1) := hide (by rw [cmp_at k a b x y hp hx hy (fun e => by rw [e] at h1; omega), if_pos (hxy.2 h1)])
        clear hx hy hp hA hB
        go_wp2
        refine wp_region_still_lit (by kernel_rfl) (by kernel_rfl) ?_
        repeat still_step
        refine wpStill_nil ?_
        go_wp2
        go_ret
        exact ⟨by rw [HC.out]; rfl, hW.drew⟩
      · have h1i : ¬ (x.toNat : Int) < (y.toNat : Int) := by omega
        by_cases h2 : y.toNat < x.toNat
        · have h2i : (y.toNat : Int) < (x.toNat : Int) := by omega
          have HC : Hid (cmpK a b = 1) := hide (by rw [cmp_at k a b x y hp hx hy (fun e => by rw [e] at h2; omega), if_neg (fun e => h1 (hxy.1 e))])
          clear hx hy hp hA hB
          go_wp2
          refine wp_region_still_lit (by kernel_rfl) (by kernel_rfl) ?_
          repeat still_step
          refine wpStill_nil ?_
          go_wp2
          obtain ⟨wd, hwd⟩ : ∃ wd : World, wd = { wr with drawn := wr.drawn + 1 } := ⟨_, rfl⟩
          have ca2 : wd.cell? ⟨w.heap.size, k, none⟩ = some (.int .u8 (x.toNat : Int)) := by rw [hwd]; exact ca
          have cb2 : wd.cell? ⟨w.heap.size + 1, k, none⟩ = some (.int .u8 (y.toNat : Int)) := by rw [hwd]; exact cb
          have HA2 : Hid (KeyAt wd w.heap.size a) := by rw [hwd]; exact HA
          have HB2 : Hid (KeyAt wd (w.heap.size + 1) b) := by rw [hwd]; exact HB
          have hW2 : Below w.heap.size w wd := by rw [hwd]; exact hW.drew
          rw [← hwd]
          clear hwd
          refine wp_region_still_lit (by kernel_rfl) (by kernel_rfl) ?_
          repeat still_step
          refine wpStill_nil ?_
          go_wp2
          go_ret
          exact ⟨by rw [HC.out]; rfl, hW2.drew⟩
        · have h2i : ¬ (y.toNat : Int) < (x.toNat : Int) := by omega
          have HPN : Hid (a.take (k + 1) = b.take (k + 1)) := hide (by rw [List.take_add_one, List.take_add_one, hp, hx, hy, UInt8.toNat_inj.1 (show x.toNat = y.toNat by omega)])
          clear hx hy hp hA hB
          go_wp2
          refine wp_region_still_lit (by kernel_rfl) (by kernel_rfl) ?_
          repeat still_step
          refine wpStill_nil ?_
          go_wp2
          obtain ⟨wd, hwd⟩ : ∃ wd : World, wd = { wr with drawn := wr.drawn + 1 } := ⟨_, rfl⟩
          have ca2 : wd.cell? ⟨w.heap.size, k, none⟩ = some (.int .u8 (x.toNat : Int)) := by rw [hwd]; exact ca
          have cb2 : wd.cell? ⟨w.heap.size + 1, k, none⟩ = some (.int .u8 (y.toNat : Int)) := by rw [hwd]; exact cb
          have HA2 : Hid (KeyAt wd w.heap.size a) := by rw [hwd]; exact HA
          have HB2 : Hid (KeyAt wd (w.heap.size + 1) b) := by rw [hwd]; exact HB
          have hW2 : Below w.heap.size w wd := by rw [hwd]; exact hW.drew
          rw [← hwd]
          clear hwd
          refine wp_region_still_lit (by kernel_rfl) (by kernel_rfl) ?_
          repeat still_step
          refine wpStill_nil ?_
          go_wp2
          exact ⟨⟨k + 1, by go_num, by omega, HPN.out, HA2.out, HB2.out, hW2.drew⟩, by simp [intOf]; omega⟩
    · have hki : ¬ (k : Int) < 32 := by omega
      have HC : Hid (cmpK a b = 0) := hide (by rw [List.take_of_length_le (by omega), List.take_of_length_le (by omega)] at hp; rw [hp]; exact cmpK_self b)
      clear hp hA hB
      go_wp2
      go_ret
      exact ⟨by rw [HC.out]; rfl, hW⟩
end Go.Proofs.Ytnloglecfbhpcaa

/- The document's Hex. -/
namespace Go.Proofs.Ytnloglecfbhpcaa
set_option linter.unusedVariables false
set_option linter.unusedSimpArgs false
open Go.RowKit

theorem str_add (xs ys : List UInt8) : (⟨xs.toArray⟩ : ByteArray) ++ (⟨ys.toArray⟩ : ByteArray) = ⟨(xs ++ ys).toArray⟩ := by
  apply ByteArray.ext
  rw [ByteArray.data_append]
  simp
theorem run_addS {op : Oper} {ev : Operand → Value} {x y : Operand} {u : TypeId} {xs ys : List UInt8} (ho : op.op = .binOp .add 9 x y u) (hx : ev x = .string ⟨xs.toArray⟩) (hy : ev y = .string ⟨ys.toArray⟩) (hl : (xs ++ ys).length ≤ 281474976710656) (w : World) : (execOp ev op).run Try.prog w = .ok (.value (.string ⟨(xs ++ ys).toArray⟩)) w := by
  simp only [execOp, ho, hx, hy]
  rw [List.length_append] at hl
  simp [go_sem, str_add]
  omega

theorem hexD_cut : ∀ p : Nat, p < 16 → (⟨#[48, 49, 50, 51, 52, 53, 54, 55, 56, 57, 97, 98, 99, 100, 101, 102]⟩ : ByteArray).extract p (p + 1) = ⟨[dig p].toArray⟩ := of_decide_eq_true (by kernel_rfl)
theorem hexOf_append : ∀ a b : List UInt8, hexOf (a ++ b) = hexOf a ++ hexOf b
  | [], _ => rfl
  | x :: a, b => by rw [List.cons_append, hexOf, hexOf, hexOf_append a b]; rfl
theorem hexOf_next (k : List UInt8) (j : Nat) (x : UInt8) (h : k[j]? = some x) : hexOf (k.take (j + 1)) = hexOf (k.take j) ++ [dig (x.toNat / 16)] ++ [dig (x.toNat % 16)] := by
  rw [List.take_add_one, h, hexOf_append]
  simp [hexOf]
set_option maxRecDepth 20000 in
set_option maxHeartbeats 1000000 in
theorem rhex_any (k : List UInt8) (hk : k.length = 32) (w : World) : Calls Try.prog 45 #[keyV k] w fun e w' => e = .returned (.string ⟨(hexOf k).toArray⟩) ∧ Below w.heap.size w w' := by
  show Calls Try.prog 45 #[.agg (k.map u8c).toArray] w _
  have HA : Hid (KeyAt (w.alloc (.cells (k.map u8c).toArray 38)) w.heap.size k) := hide ⟨Blk.made w _ _, hk⟩
  have HW : Hid (Below w.heap.size w (w.alloc (.cells (k.map u8c).toArray 38))) := hide ((Below.refl _ _).alloc (Nat.le_refl _) _)
  go_enter Try.func45, Try.ntmps45
  go_wp2
  go_loopw [3, 4] (fun t i wr => ∃ j : Nat, i = .int .i64 j ∧ j ≤ 32 ∧ t = .string ⟨(hexOf (k.take j)).toArray⟩ ∧ KeyAt wr w.heap.size k ∧ Below w.heap.size w wr) (fun _ i _ => 32 - (intOf i).toNat)
  case atStart => exact ⟨0, rfl, by omega, rfl, HA.out, HW.out⟩
  case round =>
    clear HA HW
    obtain ⟨j, rfl, hj, rfl, hA, hW⟩ := hrel
    by_cases hlt : j < 32
    · have hji : (j : Int) < 32 := by omega
      obtain ⟨x, hx⟩ : ∃ x, k[j]? = some x := ⟨_, List.getElem?_eq_getElem (by omega)⟩
      have ca : wr.cell? ⟨w.heap.size, j, none⟩ = some (.int .u8 (x.toNat : Int)) := by rw [hA.1.cell]; simp [hx, u8c]
      obtain ⟨p, hp⟩ : ∃ p, p = x.toNat / 16 := ⟨_, rfl⟩
      obtain ⟨q, hq⟩ : ∃ q, q = x.toNat % 16 := ⟨_, rfl⟩
      have hx256 := x.toNat_lt
      have hp16 : p < 16 := by omega
      have hq16 : q < 16 := by omega
      have hpi : (x.toNat : Int) / 16 = (p : Int) := by omega
      have hqi : bits .and .u8 (x.toNat : Int) 15 = (q : Int) := by
        have hbit : ∀ m : Nat, m < 256 → bits .and .u8 (m : Int) 15 = ((m % 16 : Nat) : Int) := of_decide_eq_true (by kernel_rfl)
        rw [hbit _ (by omega), hq]
      obtain ⟨p1, hp1⟩ : ∃ p1, p1 = p + 1 := ⟨_, rfl⟩
      obtain ⟨q1, hq1⟩ : ∃ q1, q1 = q + 1 := ⟨_, rfl⟩
      have hw1 : IntKind.u8.wrap ((p : Int) + 1) = (p1 : Int) := by
        have hb : ∀ m : Nat, m < 16 → IntKind.u8.wrap ((m : Int) + 1) = ((m + 1 : Nat) : Int) := of_decide_eq_true (by kernel_rfl)
        rw [hb p hp16, hp1]
      have hw2 : IntKind.u8.wrap ((q : Int) + 1) = (q1 : Int) := by
        have hb : ∀ m : Nat, m < 16 → IntKind.u8.wrap ((m : Int) + 1) = ((m + 1 : Nat) : Int) := of_decide_eq_true (by kernel_rfl)
        rw [hb q hq16, hq1]
      have a1 : (p1 : Int) ≤ 16 := by omega
      have a2 : (p : Int) ≤ (p1 : Int) := by omega
      have a3 : (q1 : Int) ≤ 16 := by omega
      have a4 : (q : Int) ≤ (q1 : Int) := by omega
      have HNX := hide (hexOf_next k j x hx)
      rw [← hp, ← hq] at HNX
      have HC1 : Hid ((⟨#[48, 49, 50, 51, 52, 53, 54, 55, 56, 57, 97, 98, 99, 100, 101, 102]⟩ : ByteArray).extract p p1 = ⟨[dig p].toArray⟩) := hide (by rw [hp1]; exact hexD_cut p hp16)
      have HC2 : Hid ((⟨#[48, 49, 50, 51, 52, 53, 54, 55, 56, 57, 97, 98, 99, 100, 101, 102]⟩ : ByteArray).extract q q1 = ⟨[dig q].toArray⟩) := hide (by rw [hq1]; exact hexD_cut q hq16)
      have hlj : (hexOf (k.take j)).length ≤ 64 := by rw [hexOf_len, List.length_take]; omega
      have HS1 : Hid ((hexOf (k.take j) ++ [dig p]).length ≤ 281474976710656) := hide (by rw [List.length_append, List.length_singleton]; omega)
      have HS2 : Hid ((hexOf (k.take j) ++ [dig p] ++ [dig q]).length ≤ 281474976710656) := hide (by rw [List.length_append, List.length_append, List.length_singleton, List.length_singleton]; omega)
      have HA := hide hA
      have HP1 := hide hp1
      have HQ1 := hide hq1
      clear hp1 hq1
      have HP := hide hp
      have HQ := hide hq
      clear hx hA hp hq
      go_wp2
      refine wp_region_still_lit (by kernel_rfl) (by kernel_rfl) ?_
      still_step
      still_step
      still_step
      still_step
      still_step
      still_step
      still_step
      still_step
      still_step
      still_step
      still_step
      rw [HC1.out]
      refine wpStill_val (.string ⟨(hexOf (k.take j) ++ [dig p]).toArray⟩) rfl (run_addS rfl rfl rfl HS1.out _) ?_
      still_step
      still_step
      still_step
      still_step
      still_step
      still_step
      still_step
      still_step
      still_step
      still_step
      rw [HC2.out]
      refine wpStill_val (.string ⟨(hexOf (k.take j) ++ [dig p] ++ [dig q]).toArray⟩) rfl (run_addS rfl rfl rfl HS2.out _) ?_
      still_step
      refine wpStill_nil ?_
      go_wp2
      refine ⟨⟨j + 1, by go_num, by omega, ?_, HA.out, hW.drew⟩, by simp [intOf]; omega⟩
      rw [HNX.out, List.append_assoc]; rfl
    · have hji : ¬ (j : Int) < 32 := by omega
      have HE : Hid (k.take j = k) := hide (List.take_of_length_le (by omega))
      rw [HE.out]
      go_wp2
      go_ret
      exact ⟨rfl, hW⟩
end Go.Proofs.Ytnloglecfbhpcaa
