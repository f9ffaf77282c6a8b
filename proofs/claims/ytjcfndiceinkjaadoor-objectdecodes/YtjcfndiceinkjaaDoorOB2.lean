/- Rows held against one another. -/
import Derived.Test.YtjcfndiceinkjaaDoorOB1
import Derived.StillTailTactics
namespace Go.Proofs.YtjcfndiceinkjaaDoor
set_option linter.unusedVariables false
set_option linter.unusedSimpArgs false
open Go.RowKit

theorem wpStill_val {P : Program} {ops : Array Oper} {w : World} {Q : Act → Prop} {a : Act} {o : Oper} {rest : List Oper} (v : Value) (hg : Region.wanted o (yielded ops a.tmps) = true) (hr : (execOp a.eval o).run P w = .ok (.value v) w) (h : wpStill P ops w Q rest (a.put o.dst v)) : wpStill P ops w Q (o :: rest) a := by
  unfold wpStill
  rw [if_pos hg]
  unfold Oper.still
  rw [hr]
  first | exact h | exact ⟨rfl, h⟩ | simp [Oper.stillUpon, h]
set_option maxRecDepth 20000 in
set_option maxHeartbeats 1000000 in
theorem equalP (w : World) (v1 v2 : Value) (L1 L2 : List PartR) (o1 : ∀ p ∈ L1, okP p) (o2 : ∀ p ∈ L2, okP p) (h1 : RowR w v1 33 (L1.map partC)) (h2 : RowR w v2 33 (L2.map partC)) : Calls Tryd.prog 105 #[v1, v2] w fun e w' => e = .returned (.bool (decide (L1 = L2))) ∧ Below w.heap.size w w' := by
  have H1 := hide h1
  have H2 := hide h2
  obtain ⟨a1, c1, rfl, hl1⟩ := h1.slice
  obtain ⟨a2, c2, rfl, hl2⟩ := h2.slice
  rw [List.length_map] at hl1 hl2 H1 H2 ⊢
  rw [List.length_map]
  obtain ⟨n, hn⟩ : ∃ n, n = L1.length := ⟨_, rfl⟩
  obtain ⟨m, hm⟩ : ∃ m, m = L2.length := ⟨_, rfl⟩
  rw [← hn] at H1 hl1 ⊢
  rw [← hm] at H2 hl2 ⊢
  have HN := hide hn
  have HM := hide hm
  clear h1 h2 hn hm
  by_cases hnm : n = m
  · subst hnm
    go_enter Tryd.func105, Tryd.ntmps105
    go_wp2
    go_loopw [13] (fun t wr => ∃ k : Nat, t = .int .i64 k ∧ k ≤ n ∧ L1.take k = L2.take k ∧ Below w.heap.size w wr) (fun t _ => n - (intOf t).toNat)
    case atStart => exact ⟨0, rfl, by omega, rfl, Below.refl _ _⟩
    case round =>
      obtain ⟨k, rfl, hk, ht, hW⟩ := hrel
      have HT := hide ht
      clear ht
      by_cases hlt : k < n
      · have hki : (k : Int) < (n : Int) := by omega
        have k1 : k < L1.length := by rw [← HN.out]; exact hlt
        have k2 : k < L2.length := by rw [← HM.out]; exact hlt
        obtain ⟨b1, s1, d1, e1, r1⟩ := H1.out.at k (by rw [List.length_map]; exact k1)
        obtain ⟨b2, s2, d2, e2, r2⟩ := H2.out.at k (by rw [List.length_map]; exact k2)
        obtain ⟨rfl, -, -⟩ := (Value.slice.injEq ..).mp e1
        obtain ⟨rfl, -, -⟩ := (Value.slice.injEq ..).mp e2
        rw [List.getElem_map] at r1 r2
        obtain ⟨p, hp⟩ : ∃ p, p = L1[k] := ⟨_, rfl⟩
        obtain ⟨q, hq⟩ : ∃ q, q = L2[k] := ⟨_, rfl⟩
        have op : okP p := by rw [hp]; exact o1 _ (List.getElem_mem _)
        have oq : okP q := by rw [hq]; exact o2 _ (List.getElem_mem _)
        rw [← hp] at r1
        rw [← hq] at r2
        have R1 := hide (loadAt_part op (rangeAt_below r1 hW.drew))
        have R2 := hide (loadAt_part oq (rangeAt_below r2 hW.drew))
        have HP := hide hp
        have HQ := hide hq
        have hg := partGuard .neq p q
        have hne := partNeq p q op oq
        clear r1 r2 e1 e2 hp hq op oq
        by_cases hpq : p = q
        · have hd : decide (p = q) = true := decide_eq_true hpq
          have HT2 : Hid (L1.take (k + 1) = L2.take (k + 1)) := hide (by
            rw [List.take_succ_eq_append_getElem k1, List.take_succ_eq_append_getElem k2, HT.out, ← HP.out, ← HQ.out, hpq])
          rw [hd] at hne
          clear hpq hd
          go_wp2
          refine wp_region_still_lit (by kernel_rfl) (by kernel_rfl) ?_
          still_step
          still_step
          still_step
          refine wpStill_val (partV p) rfl (run_load rfl rfl R1.out) ?_
          still_step
          still_step
          still_step
          refine wpStill_val (partV q) rfl (run_load rfl rfl R2.out) ?_
          still_step
          refine wpStill_nil ?_
          go_wp2
          exact ⟨⟨k + 1, by go_num, by omega, HT2.out, hW.drew⟩, by simp [intOf]; omega⟩
        · have hd : decide (p = q) = false := decide_eq_false hpq
          have HE : Hid (decide (L1 = L2) = false) := hide (decide_eq_false (fun e => hpq (by rw [HP.out, HQ.out]; subst e; rfl)))
          rw [hd] at hne
          clear hpq hd
          go_wp2
          refine wp_region_still_lit (by kernel_rfl) (by kernel_rfl) ?_
          still_step
          still_step
          still_step
          refine wpStill_val (partV p) rfl (run_load rfl rfl R1.out) ?_
          still_step
          still_step
          still_step
          refine wpStill_val (partV q) rfl (run_load rfl rfl R2.out) ?_
          still_step
          refine wpStill_nil ?_
          go_wp2
          go_ret
          exact ⟨by rw [HE.out]; rfl, hW.drew⟩
      · have hki : ¬ (k : Int) < (n : Int) := by omega
        have HE : Hid (decide (L1 = L2) = true) := hide (decide_eq_true (by
          have := HT.out
          rwa [List.take_of_length_le (by rw [← HN.out]; omega), List.take_of_length_le (by rw [← HM.out]; omega)] at this))
        go_wp2
        go_ret
        exact ⟨by rw [HE.out]; rfl, hW⟩
  · have hne : ((n : Int) == (m : Int)) = false := by simp; omega
    have HE : Hid (decide (L1 = L2) = false) := hide (decide_eq_false (fun e => hnm (by rw [HN.out, HM.out, e])))
    go_enter Tryd.func105, Tryd.ntmps105
    go_wp2
    go_ret
    exact ⟨by rw [HE.out]; rfl, Below.refl _ _⟩
end Go.Proofs.YtjcfndiceinkjaaDoor
