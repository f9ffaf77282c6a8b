/- ahead: as long as two lists begin alike, are they cut alike? -/
import Derived.Test.YtamajnaeladehaaDoorGB2
namespace Go.Proofs.YtamajnaeladehaaDoor
set_option linter.unusedVariables false
set_option linter.unusedSimpArgs false
open Go.RowKit

theorem pre_step (L : List Int) (i : Nat) (h : i < L.length) : (L.take (i + 1)).sum = (L.take i).sum + L[i] := by
  rw [List.take_succ_eq_append_getElem h, List.sum_append]; simp
theorem pre_nonneg (L : List Int) (hL : ∀ x ∈ L, 1 ≤ x) (i : Nat) : 0 ≤ (L.take i).sum := by
  induction i with
  | zero => simp
  | succ i ih =>
    rcases Nat.lt_or_ge i L.length with h | h
    · rw [pre_step L i h]
      have := hL _ (List.getElem_mem h)
      omega
    · rw [List.take_of_length_le (by omega)]
      rw [List.take_of_length_le h] at ih
      exact ih
theorem sum_nonneg (L : List Int) (hL : ∀ x ∈ L, 1 ≤ x) : 0 ≤ L.sum := by
  have := pre_nonneg L hL L.length
  rwa [List.take_length] at this
theorem pre_le (L : List Int) (hL : ∀ x ∈ L, 1 ≤ x) (i : Nat) : (L.take i).sum ≤ L.sum := by
  have h1 : (L.take i).sum + (L.drop i).sum = L.sum := by rw [← List.sum_append, List.take_append_drop]
  have h2 := sum_nonneg (L.drop i) (fun x hx => hL x (List.mem_of_mem_drop hx))
  omega
theorem len_le_sum : ∀ (L : List Int), (∀ x ∈ L, 1 ≤ x) → (L.length : Int) ≤ L.sum
  | [], _ => by simp
  | x :: r, h => by
    have h1 := h x (by simp)
    have h2 := len_le_sum r (fun y hy => h y (by simp [hy]))
    rw [List.sum_cons, List.length_cons]
    push_cast
    omega
set_option maxRecDepth 20000 in
set_option maxHeartbeats 2000000 in
theorem ahead_any (w : World) (va vb vl vm : Value) (A B : List UInt8) (L M : List Int) (ha : RdA w va A) (hb : RdA w vb B) (hl : RdI w vl L) (hm : RdI w vm M) (hL : ∀ x ∈ L, 1 ≤ x) (hM : ∀ x ∈ M, 1 ≤ x) (sL : L.sum ≤ 4611686018427387904) (sM : M.sum ≤ 4611686018427387904)
    (hPA : ∀ (p i : Nat), A.take p = B.take p → ∀ (h1 : i + 1 < L.length) (h2 : i + 1 < M.length), L.take i = M.take i → ((L.take i).sum + L[i] ≤ (p : Int) ∨ (L.take i).sum + M[i] ≤ (p : Int)) → L[i] = M[i]) :
    Calls Tryd.prog 29 #[va, vb, vl, vm] w fun e w' => e = .returned (.bool true) ∧ Below w.heap.size w w' := by
  have HLw := hide hl
  have HMw := hide hm
  have HAw := hide ha
  have HBw := hide hb
  obtain ⟨la, lc, rfl, hll, -⟩ := hl
  obtain ⟨ma, mc, rfl, hml, -⟩ := hm
  obtain ⟨aa, ac, rfl, hal⟩ := ha.slice
  obtain ⟨ba, bc, rfl, hbl⟩ := hb.slice
  have HL := hide hL
  have HM := hide hM
  have HPA := hide hPA
  have hL62 : L.length ≤ 4611686018427387904 := by have := len_le_sum L hL; omega
  have hM62 : M.length ≤ 4611686018427387904 := by have := len_le_sum M hM; omega
  clear hll hml
  clear hL hM hPA ha hb
  go_enter Tryd.func29, Tryd.ntmps29
  go_wp2
  go_loopw [9] (fun pv wr => ∃ p : Nat, pv = .int .i64 p ∧ p ≤ A.length ∧ p ≤ B.length ∧ A.take p = B.take p ∧ Below w.heap.size w wr) (fun pv _ => A.length - (intOf pv).toNat)
  case atStart => exact ⟨0, rfl, by omega, by omega, by simp, Below.refl _ _⟩
  case round =>
    obtain ⟨p, rfl, hpA, hpB, hpp, hB⟩ := hrel
    have HBr := hide hB
    have HPp := hide hpp
    clear hB hpp
    by_cases h1 : p < A.length
    · have h1i : (p : Int) < A.length := by omega
      by_cases h2 : p < B.length
      · have h2i : (p : Int) < B.length := by omega
        obtain ⟨az, ao, ac', he, hac⟩ := (HAw.out.below HBr.out).at p h1
        cases he
        obtain ⟨bz, bo, bc', he, hbc⟩ := (HBw.out.below HBr.out).at p h2
        cases he
        obtain ⟨u, hu⟩ : ∃ u, u = A[p] := ⟨_, rfl⟩
        obtain ⟨v, hv⟩ : ∃ v, v = B[p] := ⟨_, rfl⟩
        rw [← hu] at hac
        rw [← hv] at hbc
        have HTn : Hid (u = v → A.take (p + 1) = B.take (p + 1)) := hide (fun h => by
          rw [List.take_succ_eq_append_getElem h1, List.take_succ_eq_append_getElem h2, HPp.out, ← hu, ← hv, h])
        clear hu hv
        by_cases huv : u = v
        · subst huv
          have HT2 := hide (HTn.out rfl)
          clear HTn
          go_wp2
          go_quiet (fail)
          go_wp2
          exact ⟨⟨p + 1, by go_num, by omega, by omega, HT2.out, HBr.out.trans ⟨rfl, rfl, rfl, Nat.le_refl _, fun _ _ => rfl⟩⟩, by simp [intOf]; omega⟩
        · have huvb : ((u.toNat : Int) == (v.toNat : Int)) = false := by
            have : ¬ u.toNat = v.toNat := fun e => huv (UInt8.toNat_inj.1 e)
            simp; omega
          clear huv
          go_wp2
          go_quiet (fail)
          go_wp2
          go_loopw [10, 11] (fun sv iv wr => ∃ i : Nat, iv = .int .i64 i ∧ i ≤ L.length ∧ i ≤ M.length ∧ sv = .int .i64 (L.take i).sum ∧ L.take i = M.take i ∧ Below w.heap.size w wr) (fun _ iv _ => L.length - (intOf iv).toNat)
          case atStart => exact ⟨0, rfl, by omega, by omega, by simp, by simp, HBr.out.trans ⟨rfl, rfl, rfl, Nat.le_refl _, fun _ _ => rfl⟩⟩
          case round =>
            clear HBr
            obtain ⟨i, rfl, hiL, hiM, rfl, htk, hB⟩ := hrel
            have HB := hide hB
            have HTk := hide htk
            clear hB htk
            by_cases h1 : i + 1 < L.length
            · have h1i : (i : Int) + 1 < L.length := by omega
              by_cases h2 : i + 1 < M.length
              · have h2i : (i : Int) + 1 < M.length := by omega
                obtain ⟨lg, hlg, hlc⟩ := (HLw.out.below HB.out).cell i (by omega)
                obtain ⟨mg, hmg, hmc⟩ := (HMw.out.below HB.out).cell i (by omega)
                cases hlg
                cases hmg
                have hs0 := pre_nonneg L HL.out i
                have hs1 := pre_le L HL.out (i + 1)
                have hsL := pre_step L i (by omega)
                have hsM := pre_step M i (by omega)
                have hs2 := pre_le M HM.out (i + 1)
                rw [← HTk.out] at hsM
                obtain ⟨x, hx⟩ : ∃ x, x = L[i]'(by omega) := ⟨_, rfl⟩
                obtain ⟨y, hy⟩ : ∃ y, y = M[i]'(by omega) := ⟨_, rfl⟩
                have hx1 : 1 ≤ x := by rw [hx]; exact HL.out _ (List.getElem_mem _)
                have hy1 : 1 ≤ y := by rw [hy]; exact HM.out _ (List.getElem_mem _)
                have HK : Hid ((L.take i).sum + x ≤ (p : Int) ∨ (L.take i).sum + y ≤ (p : Int) → x = y) := hide (fun h => by
                  rw [hx, hy] at h ⊢
                  exact HPA.out p i HPp.out h1 h2 HTk.out h)
                have HTn : Hid (x = y → L.take (i + 1) = M.take (i + 1)) := hide (fun h => by
                  rw [List.take_succ_eq_append_getElem (show i < L.length by omega), List.take_succ_eq_append_getElem (show i < M.length by omega), HTk.out, ← hx, ← hy, h])
                rw [← hx] at hlc hsL
                rw [← hy] at hmc hsM
                obtain ⟨s, hs⟩ : ∃ s, s = (L.take i).sum := ⟨_, rfl⟩
                rw [← hs] at hs0 hsL hsM HK ⊢
                have HSL := hide hsL
                have hsx : s + x ≤ 4611686018427387904 := by omega
                have hsy : s + y ≤ 4611686018427387904 := by omega
                have hw1 : IntKind.i64.wrap (s + x) = s + x := by simp [IntKind.wrap, IntKind.bits, IntKind.signed]; omega
                have hw2 : IntKind.i64.wrap (s + y) = s + y := by simp [IntKind.wrap, IntKind.bits, IntKind.signed]; omega
                clear hx hy hs hsL hsM hs1 hs2
                by_cases hb : (p : Int) < s + x ∧ (p : Int) < s + y
                · obtain ⟨hb1, hb2⟩ := hb
                  go_wp2
                  go_ret
                  exact ⟨rfl, HB.out⟩
                · have hxy : x = y := HK.out (by
                    by_cases hc : s + x ≤ (p : Int)
                    · exact .inl hc
                    · exact .inr (by omega))
                  subst hxy
                  have hb1 : ¬ (p : Int) < s + x := fun h => hb ⟨h, h⟩
                  clear hb
                  have HT2 := hide (HTn.out rfl)
                  clear HTn HK
                  go_wp2
                  go_quiet (fail)
                  go_wp2
                  exact ⟨⟨i + 1, by go_num, by omega, by omega, by rw [HSL.out], HT2.out, HB.out.trans ⟨rfl, rfl, rfl, Nat.le_refl _, fun _ _ => rfl⟩⟩, by simp [intOf]; omega⟩
              · have h2i : ¬ (i : Int) + 1 < M.length := by omega
                go_wp2
                go_ret
                exact ⟨rfl, HB.out⟩
            · have h1i : ¬ (i : Int) + 1 < L.length := by omega
              go_wp2
              go_ret
              exact ⟨rfl, HB.out⟩
      · have h2i : ¬ (p : Int) < B.length := by omega
        go_wp2
        go_quiet (fail)
        go_wp2
        go_loopw [10, 11] (fun sv iv wr => ∃ i : Nat, iv = .int .i64 i ∧ i ≤ L.length ∧ i ≤ M.length ∧ sv = .int .i64 (L.take i).sum ∧ L.take i = M.take i ∧ Below w.heap.size w wr) (fun _ iv _ => L.length - (intOf iv).toNat)
        case atStart => exact ⟨0, rfl, by omega, by omega, by simp, by simp, HBr.out.trans ⟨rfl, rfl, rfl, Nat.le_refl _, fun _ _ => rfl⟩⟩
        case round =>
          clear HBr
          obtain ⟨i, rfl, hiL, hiM, rfl, htk, hB⟩ := hrel
          have HB := hide hB
          have HTk := hide htk
          clear hB htk
          by_cases h1 : i + 1 < L.length
          · have h1i : (i : Int) + 1 < L.length := by omega
            by_cases h2 : i + 1 < M.length
            · have h2i : (i : Int) + 1 < M.length := by omega
              obtain ⟨lg, hlg, hlc⟩ := (HLw.out.below HB.out).cell i (by omega)
              obtain ⟨mg, hmg, hmc⟩ := (HMw.out.below HB.out).cell i (by omega)
              cases hlg
              cases hmg
              have hs0 := pre_nonneg L HL.out i
              have hs1 := pre_le L HL.out (i + 1)
              have hsL := pre_step L i (by omega)
              have hsM := pre_step M i (by omega)
              have hs2 := pre_le M HM.out (i + 1)
              rw [← HTk.out] at hsM
              obtain ⟨x, hx⟩ : ∃ x, x = L[i]'(by omega) := ⟨_, rfl⟩
              obtain ⟨y, hy⟩ : ∃ y, y = M[i]'(by omega) := ⟨_, rfl⟩
              have hx1 : 1 ≤ x := by rw [hx]; exact HL.out _ (List.getElem_mem _)
              have hy1 : 1 ≤ y := by rw [hy]; exact HM.out _ (List.getElem_mem _)
              have HK : Hid ((L.take i).sum + x ≤ (p : Int) ∨ (L.take i).sum + y ≤ (p : Int) → x = y) := hide (fun h => by
                rw [hx, hy] at h ⊢
                exact HPA.out p i HPp.out h1 h2 HTk.out h)
              have HTn : Hid (x = y → L.take (i + 1) = M.take (i + 1)) := hide (fun h => by
                rw [List.take_succ_eq_append_getElem (show i < L.length by omega), List.take_succ_eq_append_getElem (show i < M.length by omega), HTk.out, ← hx, ← hy, h])
              rw [← hx] at hlc hsL
              rw [← hy] at hmc hsM
              obtain ⟨s, hs⟩ : ∃ s, s = (L.take i).sum := ⟨_, rfl⟩
              rw [← hs] at hs0 hsL hsM HK ⊢
              have HSL := hide hsL
              have hsx : s + x ≤ 4611686018427387904 := by omega
              have hsy : s + y ≤ 4611686018427387904 := by omega
              have hw1 : IntKind.i64.wrap (s + x) = s + x := by simp [IntKind.wrap, IntKind.bits, IntKind.signed]; omega
              have hw2 : IntKind.i64.wrap (s + y) = s + y := by simp [IntKind.wrap, IntKind.bits, IntKind.signed]; omega
              clear hx hy hs hsL hsM hs1 hs2
              by_cases hb : (p : Int) < s + x ∧ (p : Int) < s + y
              · obtain ⟨hb1, hb2⟩ := hb
                go_wp2
                go_ret
                exact ⟨rfl, HB.out⟩
              · have hxy : x = y := HK.out (by
                  by_cases hc : s + x ≤ (p : Int)
                  · exact .inl hc
                  · exact .inr (by omega))
                subst hxy
                have hb1 : ¬ (p : Int) < s + x := fun h => hb ⟨h, h⟩
                clear hb
                have HT2 := hide (HTn.out rfl)
                clear HTn HK
                go_wp2
                go_quiet (fail)
                go_wp2
                exact ⟨⟨i + 1, by go_num, by omega, by omega, by rw [HSL.out], HT2.out, HB.out.trans ⟨rfl, rfl, rfl, Nat.le_refl _, fun _ _ => rfl⟩⟩, by simp [intOf]; omega⟩
            · have h2i : ¬ (i : Int) + 1 < M.length := by omega
              go_wp2
              go_ret
              exact ⟨rfl, HB.out⟩
          · have h1i : ¬ (i : Int) + 1 < L.length := by omega
            go_wp2
            go_ret
            exact ⟨rfl, HB.out⟩
    · have h1i : ¬ (p : Int) < A.length := by omega
      go_wp2
      go_quiet (fail)
      go_wp2
      go_loopw [10, 11] (fun sv iv wr => ∃ i : Nat, iv = .int .i64 i ∧ i ≤ L.length ∧ i ≤ M.length ∧ sv = .int .i64 (L.take i).sum ∧ L.take i = M.take i ∧ Below w.heap.size w wr) (fun _ iv _ => L.length - (intOf iv).toNat)
      case atStart => exact ⟨0, rfl, by omega, by omega, by simp, by simp, HBr.out.trans ⟨rfl, rfl, rfl, Nat.le_refl _, fun _ _ => rfl⟩⟩
      case round =>
        clear HBr
        obtain ⟨i, rfl, hiL, hiM, rfl, htk, hB⟩ := hrel
        have HB := hide hB
        have HTk := hide htk
        clear hB htk
        by_cases h1 : i + 1 < L.length
        · have h1i : (i : Int) + 1 < L.length := by omega
          by_cases h2 : i + 1 < M.length
          · have h2i : (i : Int) + 1 < M.length := by omega
            obtain ⟨lg, hlg, hlc⟩ := (HLw.out.below HB.out).cell i (by omega)
            obtain ⟨mg, hmg, hmc⟩ := (HMw.out.below HB.out).cell i (by omega)
            cases hlg
            cases hmg
            have hs0 := pre_nonneg L HL.out i
            have hs1 := pre_le L HL.out (i + 1)
            have hsL := pre_step L i (by omega)
            have hsM := pre_step M i (by omega)
            have hs2 := pre_le M HM.out (i + 1)
            rw [← HTk.out] at hsM
            obtain ⟨x, hx⟩ : ∃ x, x = L[i]'(by omega) := ⟨_, rfl⟩
            obtain ⟨y, hy⟩ : ∃ y, y = M[i]'(by omega) := ⟨_, rfl⟩
            have hx1 : 1 ≤ x := by rw [hx]; exact HL.out _ (List.getElem_mem _)
            have hy1 : 1 ≤ y := by rw [hy]; exact HM.out _ (List.getElem_mem _)
            have HK : Hid ((L.take i).sum + x ≤ (p : Int) ∨ (L.take i).sum + y ≤ (p : Int) → x = y) := hide (fun h => by
              rw [hx, hy] at h ⊢
              exact HPA.out p i HPp.out h1 h2 HTk.out h)
            have HTn : Hid (x = y → L.take (i + 1) = M.take (i + 1)) := hide (fun h => by
              rw [List.take_succ_eq_append_getElem (show i < L.length by omega), List.take_succ_eq_append_getElem (show i < M.length by omega), HTk.out, ← hx, ← hy, h])
            rw [← hx] at hlc hsL
            rw [← hy] at hmc hsM
            obtain ⟨s, hs⟩ : ∃ s, s = (L.take i).sum := ⟨_, rfl⟩
            rw [← hs] at hs0 hsL hsM HK ⊢
            have HSL := hide hsL
            have hsx : s + x ≤ 4611686018427387904 := by omega
            have hsy : s + y ≤ 4611686018427387904 := by omega
            have hw1 : IntKind.i64.wrap (s + x) = s + x := by simp [IntKind.wrap, IntKind.bits, IntKind.signed]; omega
            have hw2 : IntKind.i64.wrap (s + y) = s + y := by simp [IntKind.wrap, IntKind.bits, IntKind.signed]; omega
            clear hx hy hs hsL hsM hs1 hs2
            by_cases hb : (p : Int) < s + x ∧ (p : Int) < s + y
            · obtain ⟨hb1, hb2⟩ := hb
              go_wp2
              go_ret
              exact ⟨rfl, HB.out⟩
            · have hxy : x = y := HK.out (by
                by_cases hc : s + x ≤ (p : Int)
                · exact .inl hc
                · exact .inr (by omega))
              subst hxy
              have hb1 : ¬ (p : Int) < s + x := fun h => hb ⟨h, h⟩
              clear hb
              have HT2 := hide (HTn.out rfl)
              clear HTn HK
              go_wp2
              go_quiet (fail)
              go_wp2
              exact ⟨⟨i + 1, by go_num, by omega, by omega, by rw [HSL.out], HT2.out, HB.out.trans ⟨rfl, rfl, rfl, Nat.le_refl _, fun _ _ => rfl⟩⟩, by simp [intOf]; omega⟩
          · have h2i : ¬ (i : Int) + 1 < M.length := by omega
            go_wp2
            go_ret
            exact ⟨rfl, HB.out⟩
        · have h1i : ¬ (i : Int) + 1 < L.length := by omega
          go_wp2
          go_ret
          exact ⟨rfl, HB.out⟩
end Go.Proofs.YtamajnaeladehaaDoor
