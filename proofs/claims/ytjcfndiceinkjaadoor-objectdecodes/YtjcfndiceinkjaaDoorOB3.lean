/- Rows of items and of keys held against one another; bytes. -/
import Derived.Test.YtjcfndiceinkjaaDoorOB2
namespace Go.Proofs.YtjcfndiceinkjaaDoor
set_option linter.unusedVariables false
set_option linter.unusedSimpArgs false
open Go.RowKit

set_option maxRecDepth 20000 in
set_option maxHeartbeats 1000000 in
theorem equalI (w : World) (v1 v2 : Value) (L1 L2 : List ItemR) (o1 : ∀ p ∈ L1, okI p) (o2 : ∀ p ∈ L2, okI p) (h1 : RowR w v1 35 (L1.map itemC)) (h2 : RowR w v2 35 (L2.map itemC)) : Calls Tryd.prog 106 #[v1, v2] w fun e w' => e = .returned (.bool (decide (L1 = L2))) ∧ Below w.heap.size w w' := by
  have H1 := hide h1
  have H2 := hide h2
  obtain ⟨a1, c1, rfl, hl1⟩ := h1.slice
  obtain ⟨a2, c2, rfl, hl2⟩ := h2.slice
  rw [List.length_map] at hl1 hl2 H1 H2 ⊢
  rw [List.length_map]
  obtain ⟨n, hn⟩ : ∃ n, n = L1.length := ⟨_, rfl⟩
  obtain ⟨m, hm⟩ : ∃ m, m = L2.length := ⟨_, rfl⟩
  rw [← hn] at H1 hl1 ⊢
  rw [← hm] at H2 hl2 ⊢
  have HN := hide hn
  have HM := hide hm
  clear h1 h2 hn hm
  by_cases hnm : n = m
  · subst hnm
    go_enter Tryd.func106, Tryd.ntmps106
    go_wp2
    go_loopw [13] (fun t wr => ∃ k : Nat, t = .int .i64 k ∧ k ≤ n ∧ L1.take k = L2.take k ∧ Below w.heap.size w wr) (fun t _ => n - (intOf t).toNat)
    case atStart => exact ⟨0, rfl, by omega, rfl, Below.refl _ _⟩
    case round =>
      obtain ⟨k, rfl, hk, ht, hW⟩ := hrel
      have HT := hide ht
      clear ht
      by_cases hlt : k < n
      · have hki : (k : Int) < (n : Int) := by omega
        have k1 : k < L1.length := by rw [← HN.out]; exact hlt
        have k2 : k < L2.length := by rw [← HM.out]; exact hlt
        obtain ⟨b1, s1, d1, e1, r1⟩ := H1.out.at k (by rw [List.length_map]; exact k1)
        obtain ⟨b2, s2, d2, e2, r2⟩ := H2.out.at k (by rw [List.length_map]; exact k2)
        obtain ⟨rfl, -, -⟩ := (Value.slice.injEq ..).mp e1
        obtain ⟨rfl, -, -⟩ := (Value.slice.injEq ..).mp e2
        rw [List.getElem_map] at r1 r2
        obtain ⟨p, hp⟩ : ∃ p, p = L1[k] := ⟨_, rfl⟩
        obtain ⟨q, hq⟩ : ∃ q, q = L2[k] := ⟨_, rfl⟩
        have op : okI p := by rw [hp]; exact o1 _ (List.getElem_mem _)
        have oq : okI q := by rw [hq]; exact o2 _ (List.getElem_mem _)
        rw [← hp] at r1
        rw [← hq] at r2
        have R1 := hide (loadAt_item op (rangeAt_below r1 hW.drew))
        have R2 := hide (loadAt_item oq (rangeAt_below r2 hW.drew))
        have HP := hide hp
        have HQ := hide hq
        have hg := itemGuard .neq p q
        have hne := itemNeq p q op oq
        clear r1 r2 e1 e2 hp hq op oq
        by_cases hpq : p = q
        · have hd : decide (p = q) = true := decide_eq_true hpq
          have HT2 : Hid (L1.take (k + 1) = L2.take (k + 1)) := hide (by
            rw [List.take_succ_eq_append_getElem k1, List.take_succ_eq_append_getElem k2, HT.out, ← HP.out, ← HQ.out, hpq])
          rw [hd] at hne
          clear hpq hd
          go_wp2
          refine wp_region_still_lit (by kernel_rfl) (by kernel_rfl) ?_
          still_step
          still_step
          still_step
          refine wpStill_val (itemV p) rfl (run_load rfl rfl R1.out) ?_
          still_step
          still_step
          still_step
          refine wpStill_val (itemV q) rfl (run_load rfl rfl R2.out) ?_
          still_step
          refine wpStill_nil ?_
          go_wp2
          exact ⟨⟨k + 1, by go_num, by omega, HT2.out, hW.drew⟩, by simp [intOf]; omega⟩
        · have hd : decide (p = q) = false := decide_eq_false hpq
          have HE : Hid (decide (L1 = L2) = false) := hide (decide_eq_false (fun e => hpq (by rw [HP.out, HQ.out]; subst e; rfl)))
          rw [hd] at hne
          clear hpq hd
          go_wp2
          refine wp_region_still_lit (by kernel_rfl) (by kernel_rfl) ?_
          still_step
          still_step
          still_step
          refine wpStill_val (itemV p) rfl (run_load rfl rfl R1.out) ?_
          still_step
          still_step
          still_step
          refine wpStill_val (itemV q) rfl (run_load rfl rfl R2.out) ?_
          still_step
          refine wpStill_nil ?_
          go_wp2
          go_ret
          exact ⟨by rw [HE.out]; rfl, hW.drew⟩
      · have hki : ¬ (k : Int) < (n : Int) := by omega
        have HE : Hid (decide (L1 = L2) = true) := hide (decide_eq_true (by
          have := HT.out
          rwa [List.take_of_length_le (by rw [← HN.out]; omega), List.take_of_length_le (by rw [← HM.out]; omega)] at this))
        go_wp2
        go_ret
        exact ⟨by rw [HE.out]; rfl, hW⟩
  · have hne : ((n : Int) == (m : Int)) = false := by simp; omega
    have HE : Hid (decide (L1 = L2) = false) := hide (decide_eq_false (fun e => hnm (by rw [HN.out, HM.out, e])))
    go_enter Tryd.func106, Tryd.ntmps106
    go_wp2
    go_ret
    exact ⟨by rw [HE.out]; rfl, Below.refl _ _⟩
set_option maxRecDepth 20000 in
set_option maxHeartbeats 1000000 in
theorem equalK (w : World) (v1 v2 : Value) (L1 L2 : List (List UInt8)) (o1 : ∀ p ∈ L1, okK p) (o2 : ∀ p ∈ L2, okK p) (h1 : RowR w v1 32 (L1.map keyC)) (h2 : RowR w v2 32 (L2.map keyC)) : Calls Tryd.prog 107 #[v1, v2] w fun e w' => e = .returned (.bool (decide (L1 = L2))) ∧ Below w.heap.size w w' := by
  have H1 := hide h1
  have H2 := hide h2
  obtain ⟨a1, c1, rfl, hl1⟩ := h1.slice
  obtain ⟨a2, c2, rfl, hl2⟩ := h2.slice
  rw [List.length_map] at hl1 hl2 H1 H2 ⊢
  rw [List.length_map]
  obtain ⟨n, hn⟩ : ∃ n, n = L1.length := ⟨_, rfl⟩
  obtain ⟨m, hm⟩ : ∃ m, m = L2.length := ⟨_, rfl⟩
  rw [← hn] at H1 hl1 ⊢
  rw [← hm] at H2 hl2 ⊢
  have HN := hide hn
  have HM := hide hm
  clear h1 h2 hn hm
  by_cases hnm : n = m
  · subst hnm
    go_enter Tryd.func107, Tryd.ntmps107
    go_wp2
    go_loopw [13] (fun t wr => ∃ k : Nat, t = .int .i64 k ∧ k ≤ n ∧ L1.take k = L2.take k ∧ Below w.heap.size w wr) (fun t _ => n - (intOf t).toNat)
    case atStart => exact ⟨0, rfl, by omega, rfl, Below.refl _ _⟩
    case round =>
      obtain ⟨k, rfl, hk, ht, hW⟩ := hrel
      have HT := hide ht
      clear ht
      by_cases hlt : k < n
      · have hki : (k : Int) < (n : Int) := by omega
        have k1 : k < L1.length := by rw [← HN.out]; exact hlt
        have k2 : k < L2.length := by rw [← HM.out]; exact hlt
        obtain ⟨b1, s1, d1, e1, r1⟩ := H1.out.at k (by rw [List.length_map]; exact k1)
        obtain ⟨b2, s2, d2, e2, r2⟩ := H2.out.at k (by rw [List.length_map]; exact k2)
        obtain ⟨rfl, -, -⟩ := (Value.slice.injEq ..).mp e1
        obtain ⟨rfl, -, -⟩ := (Value.slice.injEq ..).mp e2
        rw [List.getElem_map] at r1 r2
        obtain ⟨p, hp⟩ : ∃ p, p = L1[k] := ⟨_, rfl⟩
        obtain ⟨q, hq⟩ : ∃ q, q = L2[k] := ⟨_, rfl⟩
        have op : okK p := by rw [hp]; exact o1 _ (List.getElem_mem _)
        have oq : okK q := by rw [hq]; exact o2 _ (List.getElem_mem _)
        rw [← hp] at r1
        rw [← hq] at r2
        have R1 := hide (loadAt_key op (rangeAt_below r1 hW.drew))
        have R2 := hide (loadAt_key oq (rangeAt_below r2 hW.drew))
        have HP := hide hp
        have HQ := hide hq
        have hg := keysGuard .neq p q
        have hne := keysNeq p q op oq
        clear r1 r2 e1 e2 hp hq op oq
        by_cases hpq : p = q
        · have hd : decide (p = q) = true := decide_eq_true hpq
          have HT2 : Hid (L1.take (k + 1) = L2.take (k + 1)) := hide (by
            rw [List.take_succ_eq_append_getElem k1, List.take_succ_eq_append_getElem k2, HT.out, ← HP.out, ← HQ.out, hpq])
          rw [hd] at hne
          clear hpq hd
          go_wp2
          refine wp_region_still_lit (by kernel_rfl) (by kernel_rfl) ?_
          still_step
          still_step
          still_step
          refine wpStill_val (keyV p) rfl (run_load rfl rfl R1.out) ?_
          still_step
          still_step
          still_step
          refine wpStill_val (keyV q) rfl (run_load rfl rfl R2.out) ?_
          still_step
          refine wpStill_nil ?_
          go_wp2
          exact ⟨⟨k + 1, by go_num, by omega, HT2.out, hW.drew⟩, by simp [intOf]; omega⟩
        · have hd : decide (p = q) = false := decide_eq_false hpq
          have HE : Hid (decide (L1 = L2) = false) := hide (decide_eq_false (fun e => hpq (by rw [HP.out, HQ.out]; subst e; rfl)))
          rw [hd] at hne
          clear hpq hd
          go_wp2
          refine wp_region_still_lit (by kernel_rfl) (by kernel_rfl) ?_
          still_step
          still_step
          still_step
          refine wpStill_val (keyV p) rfl (run_load rfl rfl R1.out) ?_
          still_step
          still_step
          still_step
          refine wpStill_val (keyV q) rfl (run_load rfl rfl R2.out) ?_
          still_step
          refine wpStill_nil ?_
          go_wp2
          go_ret
          exact ⟨by rw [HE.out]; rfl, hW.drew⟩
      · have hki : ¬ (k : Int) < (n : Int) := by omega
        have HE : Hid (decide (L1 = L2) = true) := hide (decide_eq_true (by
          have := HT.out
          rwa [List.take_of_length_le (by rw [← HN.out]; omega), List.take_of_length_le (by rw [← HM.out]; omega)] at this))
        go_wp2
        go_ret
        exact ⟨by rw [HE.out]; rfl, hW⟩
  · have hne : ((n : Int) == (m : Int)) = false := by simp; omega
    have HE : Hid (decide (L1 = L2) = false) := hide (decide_eq_false (fun e => hnm (by rw [HN.out, HM.out, e])))
    go_enter Tryd.func107, Tryd.ntmps107
    go_wp2
    go_ret
    exact ⟨by rw [HE.out]; rfl, Below.refl _ _⟩
set_option maxRecDepth 20000 in
set_option maxHeartbeats 1000000 in
theorem rsameKeys (w : World) (v1 v2 : Value) (L1 L2 : List (List UInt8)) (o1 : ∀ p ∈ L1, okK p) (o2 : ∀ p ∈ L2, okK p) (h1 : RowR w v1 32 (L1.map keyC)) (h2 : RowR w v2 32 (L2.map keyC)) : Calls Tryd.prog 29 #[v1, v2] w fun e w' => e = .returned (.bool (decide (L1 = L2))) ∧ Below w.heap.size w w' := by
  have H1 := hide h1
  have H2 := hide h2
  obtain ⟨a1, c1, rfl, hl1⟩ := h1.slice
  obtain ⟨a2, c2, rfl, hl2⟩ := h2.slice
  rw [List.length_map] at hl1 hl2 H1 H2 ⊢
  rw [List.length_map]
  obtain ⟨n, hn⟩ : ∃ n, n = L1.length := ⟨_, rfl⟩
  obtain ⟨m, hm⟩ : ∃ m, m = L2.length := ⟨_, rfl⟩
  rw [← hn] at H1 hl1 ⊢
  rw [← hm] at H2 hl2 ⊢
  have HN := hide hn
  have HM := hide hm
  clear h1 h2 hn hm
  by_cases hnm : n = m
  · subst hnm
    go_enter Tryd.func29, Tryd.ntmps29
    go_wp2
    go_loopw [5] (fun t wr => ∃ k : Nat, t = .int .i64 k ∧ k ≤ n ∧ L1.take k = L2.take k ∧ Below w.heap.size w wr) (fun t _ => n - (intOf t).toNat)
    case atStart => exact ⟨0, rfl, by omega, rfl, Below.refl _ _⟩
    case round =>
      obtain ⟨k, rfl, hk, ht, hW⟩ := hrel
      have HT := hide ht
      clear ht
      by_cases hlt : k < n
      · have hki : (k : Int) < (n : Int) := by omega
        have k1 : k < L1.length := by rw [← HN.out]; exact hlt
        have k2 : k < L2.length := by rw [← HM.out]; exact hlt
        obtain ⟨b1, s1, d1, e1, r1⟩ := H1.out.at k (by rw [List.length_map]; exact k1)
        obtain ⟨b2, s2, d2, e2, r2⟩ := H2.out.at k (by rw [List.length_map]; exact k2)
        obtain ⟨rfl, -, -⟩ := (Value.slice.injEq ..).mp e1
        obtain ⟨rfl, -, -⟩ := (Value.slice.injEq ..).mp e2
        rw [List.getElem_map] at r1 r2
        obtain ⟨p, hp⟩ : ∃ p, p = L1[k] := ⟨_, rfl⟩
        obtain ⟨q, hq⟩ : ∃ q, q = L2[k] := ⟨_, rfl⟩
        have op : okK p := by rw [hp]; exact o1 _ (List.getElem_mem _)
        have oq : okK q := by rw [hq]; exact o2 _ (List.getElem_mem _)
        rw [← hp] at r1
        rw [← hq] at r2
        have R1 := hide (loadAt_key op (rangeAt_below r1 hW.drew))
        have R2 := hide (loadAt_key oq (rangeAt_below r2 hW.drew))
        have HP := hide hp
        have HQ := hide hq
        have hg := keysGuard .neq p q
        have hne := keysNeq p q op oq
        clear r1 r2 e1 e2 hp hq op oq
        by_cases hpq : p = q
        · have hd : decide (p = q) = true := decide_eq_true hpq
          have HT2 : Hid (L1.take (k + 1) = L2.take (k + 1)) := hide (by
            rw [List.take_succ_eq_append_getElem k1, List.take_succ_eq_append_getElem k2, HT.out, ← HP.out, ← HQ.out, hpq])
          rw [hd] at hne
          clear hpq hd
          go_wp2
          refine wp_region_still_lit (by kernel_rfl) (by kernel_rfl) ?_
          still_step
          still_step
          still_step
          refine wpStill_val (keyV p) rfl (run_load rfl rfl R1.out) ?_
          still_step
          still_step
          still_step
          refine wpStill_val (keyV q) rfl (run_load rfl rfl R2.out) ?_
          still_step
          refine wpStill_nil ?_
          go_wp2
          exact ⟨⟨k + 1, by go_num, by omega, HT2.out, hW.drew⟩, by simp [intOf]; omega⟩
        · have hd : decide (p = q) = false := decide_eq_false hpq
          have HE : Hid (decide (L1 = L2) = false) := hide (decide_eq_false (fun e => hpq (by rw [HP.out, HQ.out]; subst e; rfl)))
          rw [hd] at hne
          clear hpq hd
          go_wp2
          refine wp_region_still_lit (by kernel_rfl) (by kernel_rfl) ?_
          still_step
          still_step
          still_step
          refine wpStill_val (keyV p) rfl (run_load rfl rfl R1.out) ?_
          still_step
          still_step
          still_step
          refine wpStill_val (keyV q) rfl (run_load rfl rfl R2.out) ?_
          still_step
          refine wpStill_nil ?_
          go_wp2
          go_ret
          exact ⟨by rw [HE.out]; rfl, hW.drew⟩
      · have hki : ¬ (k : Int) < (n : Int) := by omega
        have HE : Hid (decide (L1 = L2) = true) := hide (decide_eq_true (by
          have := HT.out
          rwa [List.take_of_length_le (by rw [← HN.out]; omega), List.take_of_length_le (by rw [← HM.out]; omega)] at this))
        go_wp2
        go_ret
        exact ⟨by rw [HE.out]; rfl, hW⟩
  · have hne : ((n : Int) == (m : Int)) = false := by simp; omega
    have HE : Hid (decide (L1 = L2) = false) := hide (decide_eq_false (fun e => hnm (by rw [HN.out, HM.out, e])))
    go_enter Tryd.func29, Tryd.ntmps29
    go_wp2
    go_ret
    exact ⟨by rw [HE.out]; rfl, Below.refl _ _⟩
theorem toStr_any {w : World} {v : Value} {xs : List UInt8} (h : RdA w v xs) (u : Value) : True := trivial
end Go.Proofs.YtjcfndiceinkjaaDoor
