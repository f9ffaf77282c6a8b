/- The document's Hex. -/
import Derived.Test.YtjmjnecobaoofaaDoorKR1
import Derived.Test.YtjmjnecobaoofaaDoorKM3
namespace Go.Proofs.YtjmjnecobaoofaaDoor
set_option linter.unusedVariables false
set_option linter.unusedSimpArgs false
open Go.RowKit

theorem str_add (xs ys : List UInt8) : (⟨xs.toArray⟩ : ByteArray) ++ (⟨ys.toArray⟩ : ByteArray) = ⟨(xs ++ ys).toArray⟩ := by
  apply ByteArray.ext
  rw [ByteArray.data_append]
  simp
theorem run_addS {op : Oper} {ev : Operand → Value} {x y : Operand} {u : TypeId} {xs ys : List UInt8} (ho : op.op = .binOp .add 9 x y u) (hx : ev x = .string ⟨xs.toArray⟩) (hy : ev y = .string ⟨ys.toArray⟩) (hl : (xs ++ ys).length ≤ 281474976710656) (w : World) : (execOp ev op).run Tryd.prog w = .ok (.value (.string ⟨(xs ++ ys).toArray⟩)) w := by
  simp only [execOp, ho, hx, hy]
  rw [List.length_append] at hl
  simp [go_sem, str_add]
  omega

theorem hexD_cut : ∀ p : Nat, p < 16 → (⟨#[48, 49, 50, 51, 52, 53, 54, 55, 56, 57, 97, 98, 99, 100, 101, 102]⟩ : ByteArray).extract p (p + 1) = ⟨[dig p].toArray⟩ := of_decide_eq_true (by kernel_rfl)
theorem hexOf_append : ∀ a b : List UInt8, hexOf (a ++ b) = hexOf a ++ hexOf b
  | [], _ => rfl
  | x :: a, b => by rw [List.cons_append, hexOf, hexOf, hexOf_append a b]; rfl
theorem hexOf_next (k : List UInt8) (j : Nat) (x : UInt8) (h : k[j]? = some x) : hexOf (k.take (j + 1)) = hexOf (k.take j) ++ [dig (x.toNat / 16)] ++ [dig (x.toNat % 16)] := by
  rw [List.take_add_one, h, hexOf_append]
  simp [hexOf]
set_option maxRecDepth 20000 in
set_option maxHeartbeats 1000000 in
theorem rhex_any (k : List UInt8) (hk : k.length = 32) (w : World) : Calls Tryd.prog 9 #[keyV k] w fun e w' => e = .returned (.string ⟨(hexOf k).toArray⟩) ∧ Below w.heap.size w w' := by
  show Calls Tryd.prog 9 #[.agg (k.map u8c).toArray] w _
  have HA : Hid (KeyAt (w.alloc (.cells (k.map u8c).toArray 24)) w.heap.size k) := hide ⟨Blk.made w _ _, hk⟩
  have HW : Hid (Below w.heap.size w (w.alloc (.cells (k.map u8c).toArray 24))) := hide ((Below.refl _ _).alloc (Nat.le_refl _) _)
  go_enter Tryd.func9, Tryd.ntmps9
  go_wp2
  go_loopw [3, 4] (fun t i wr => ∃ j : Nat, i = .int .i64 j ∧ j ≤ 32 ∧ t = .string ⟨(hexOf (k.take j)).toArray⟩ ∧ KeyAt wr w.heap.size k ∧ Below w.heap.size w wr) (fun _ i _ => 32 - (intOf i).toNat)
  case atStart => exact ⟨0, rfl, by omega, rfl, HA.out, HW.out⟩
  case round =>
    clear HA HW
    obtain ⟨j, rfl, hj, rfl, hA, hW⟩ := hrel
    by_cases hlt : j < 32
    · have hji : (j : Int) < 32 := by omega
      obtain ⟨x, hx⟩ : ∃ x, k[j]? = some x := ⟨_, List.getElem?_eq_getElem (by omega)⟩
      have ca : wr.cell? ⟨w.heap.size, j, none⟩ = some (.int .u8 (x.toNat : Int)) := by rw [hA.1.cell]; simp [hx, u8c]
      obtain ⟨p, hp⟩ : ∃ p, p = x.toNat / 16 := ⟨_, rfl⟩
      obtain ⟨q, hq⟩ : ∃ q, q = x.toNat % 16 := ⟨_, rfl⟩
      have hx256 := x.toNat_lt
      have hp16 : p < 16 := by omega
      have hq16 : q < 16 := by omega
      have hpi : (x.toNat : Int) / 16 = (p : Int) := by omega
      have hqi : bits .and .u8 (x.toNat : Int) 15 = (q : Int) := by
        have hbit : ∀ m : Nat, m < 256 → bits .and .u8 (m : Int) 15 = ((m % 16 : Nat) : Int) := of_decide_eq_true (by kernel_rfl)
        rw [hbit _ (by omega), hq]
      obtain ⟨p1, hp1⟩ : ∃ p1, p1 = p + 1 := ⟨_, rfl⟩
      obtain ⟨q1, hq1⟩ : ∃ q1, q1 = q + 1 := ⟨_, rfl⟩
      have hw1 : IntKind.u8.wrap ((p : Int) + 1) = (p1 : Int) := by
        have hb : ∀ m : Nat, m < 16 → IntKind.u8.wrap ((m : Int) + 1) = ((m + 1 : Nat) : Int) := of_decide_eq_true (by kernel_rfl)
        rw [hb p hp16, hp1]
      have hw2 : IntKind.u8.wrap ((q : Int) + 1) = (q1 : Int) := by
        have hb : ∀ m : Nat, m < 16 → IntKind.u8.wrap ((m : Int) + 1) = ((m + 1 : Nat) : Int) := of_decide_eq_true (by kernel_rfl)
        rw [hb q hq16, hq1]
      have a1 : (p1 : Int) ≤ 16 := by omega
      have a2 : (p : Int) ≤ (p1 : Int) := by omega
      have a3 : (q1 : Int) ≤ 16 := by omega
      have a4 : (q : Int) ≤ (q1 : Int) := by omega
      have HNX := hide (hexOf_next k j x hx)
      rw [← hp, ← hq] at HNX
      have HC1 : Hid ((⟨#[48, 49, 50, 51, 52, 53, 54, 55, 56, 57, 97, 98, 99, 100, 101, 102]⟩ : ByteArray).extract p p1 = ⟨[dig p].toArray⟩) := hide (by rw [hp1]; exact hexD_cut p hp16)
      have HC2 : Hid ((⟨#[48, 49, 50, 51, 52, 53, 54, 55, 56, 57, 97, 98, 99, 100, 101, 102]⟩ : ByteArray).extract q q1 = ⟨[dig q].toArray⟩) := hide (by rw [hq1]; exact hexD_cut q hq16)
      have hlj : (hexOf (k.take j)).length ≤ 64 := by rw [hexOf_len, List.length_take]; omega
      have HS1 : Hid ((hexOf (k.take j) ++ [dig p]).length ≤ 281474976710656) := hide (by rw [List.length_append, List.length_singleton]; omega)
      have HS2 : Hid ((hexOf (k.take j) ++ [dig p] ++ [dig q]).length ≤ 281474976710656) := hide (by rw [List.length_append, List.length_append, List.length_singleton, List.length_singleton]; omega)
      have HA := hide hA
      have HP1 := hide hp1
      have HQ1 := hide hq1
      clear hp1 hq1
      have HP := hide hp
      have HQ := hide hq
      clear hx hA hp hq
      go_wp2
      refine wp_region_still_lit (by kernel_rfl) (by kernel_rfl) ?_
      still_step
      still_step
      still_step
      still_step
      still_step
      still_step
      still_step
      still_step
      still_step
      still_step
      still_step
      rw [HC1.out]
      refine wpStill_val (.string ⟨(hexOf (k.take j) ++ [dig p]).toArray⟩) rfl (run_addS rfl rfl rfl HS1.out _) ?_
      still_step
      still_step
      still_step
      still_step
      still_step
      still_step
      still_step
      still_step
      still_step
      still_step
      rw [HC2.out]
      refine wpStill_val (.string ⟨(hexOf (k.take j) ++ [dig p] ++ [dig q]).toArray⟩) rfl (run_addS rfl rfl rfl HS2.out _) ?_
      still_step
      refine wpStill_nil ?_
      go_wp2
      refine ⟨⟨j + 1, by go_num, by omega, ?_, HA.out, hW.drew⟩, by simp [intOf]; omega⟩
      rw [HNX.out, List.append_assoc]; rfl
    · have hji : ¬ (j : Int) < 32 := by omega
      have HE : Hid (k.take j = k) := hide (List.take_of_length_le (by omega))
      rw [HE.out]
      go_wp2
      go_ret
      exact ⟨rfl, hW⟩
end Go.Proofs.YtjmjnecobaoofaaDoor
