/- Lists of ints held against one another; the first pairs of a list. -/
import Derived.Test.YtnknjcnbbljagaaTRA
namespace Go.Proofs.Ytnknjcnbbljagaa
set_option linter.unusedVariables false
set_option linter.unusedSimpArgs false
namespace RR
set_option maxRecDepth 100000
open Go.RowKit

/-- A slice that reads as these ints, from a block's beginning on. -/
def RdI (w : World) (ao : Option Addr) (xs : List Int) : Prop := 0 < xs.length → ∃ g, ao = some ⟨g, 0, none⟩ ∧ g < w.heap.size ∧ ∀ k (h : k < xs.length), w.cell? ⟨g, k, none⟩ = some (.int .i64 xs[k])
theorem RdI.own {w : World} {base c : Nat} {ao : Option Addr} {n : Nat} {xs : List Int} (h : OwnsI w base (.slice ao n c) xs) : RdI w ao xs := by
  intro h0
  obtain ⟨ao', cap, e, hg⟩ := h.form
  obtain ⟨g, rfl⟩ := hg h0
  cases e
  exact ⟨g, rfl, (owns_lt h g rfl).2, fun k hk => h.at k hk⟩
theorem RdI.take {w : World} {ao : Option Addr} {xs : List Int} (h : RdI w ao xs) (m : Nat) : RdI w ao (xs.take m) := by
  intro h0
  rw [List.length_take] at h0
  obtain ⟨g, e, hg, hc⟩ := h (by omega)
  refine ⟨g, e, hg, fun k hk => ?_⟩
  rw [List.length_take] at hk
  rw [hc k (by omega)]
  simp
theorem RdI.below {w w' : World} {ao : Option Addr} {xs : List Int} (h : RdI w ao xs) (hb : Below w.heap.size w w') : RdI w' ao xs := by
  intro h0
  obtain ⟨g, e, hg, hc⟩ := h h0
  exact ⟨g, e, Nat.lt_of_lt_of_le hg hb.size, fun k hk => (hb.cell (p := ⟨g, k, none⟩) hg).trans (hc k hk)⟩
theorem sameInts_any (w : World) (aa bb : Option Addr) (n c d : Nat) (xs : List Int) (hn : xs.length = n) (ha : RdI w aa xs) (hb : RdI w bb xs) (hl : n ≤ 17592186044416) : Calls Try.prog 60 #[.slice aa n c, .slice bb n d] w fun e w' => e = .returned (.bool true) ∧ ∃ q, w' = w.drewN q := by
  have HA := hide ha
  have HB := hide hb
  have HN := hide hn
  clear ha hb hn
  go_enter Try.func60, Try.ntmps60
  go_wp2
  go_loopw [5] (fun t wr => ∃ j q : Nat, t = .int .i64 j ∧ j ≤ n ∧ wr = w.drewN q) (fun t _ => n - (intOf t).toNat)
  case atStart => exact ⟨0, 0, rfl, Nat.zero_le _, rfl⟩
  case round =>
    obtain ⟨j, q, rfl, hj, rfl⟩ := hrel
    by_cases hlt : j < n
    · have hji : (j : Int) < (n : Int) := by omega
      have hjx : j < xs.length := by rw [HN.out]; exact hlt
      obtain ⟨g, rfl, hg, hc⟩ := HA.out (by omega)
      obtain ⟨g2, rfl, hg2, hc2⟩ := HB.out (by omega)
      have d1 := hc j hjx
      have d2 := hc2 j hjx
      generalize xs[j] = x at *
      clear hc hc2 hjx
      go_upto_region 6 with fail
      go_quiet (fail)
      go_wp2
      go_roundw
      case rel => exact ⟨j + 1, _, by go_num, by omega, rfl⟩
      case measure => simp [intOf]; omega
    · have hji : ¬ (j : Int) < (n : Int) := by omega
      go_wp2
      go_returns
      exact ⟨rfl, _, rfl⟩
theorem flat_take (l : List (Int × Int)) (m : Nat) : flat (l.take m) = (flat l).take (2 * m) := by
  induction l generalizing m with
  | nil => simp [flat]
  | cons x l ih =>
    cases m with
    | zero => simp [flat]
    | succ m =>
      have := ih m
      simp only [flat, List.take_succ_cons, List.flatMap_cons] at this ⊢
      rw [show 2 * (m + 1) = 2 * m + 1 + 1 by omega]
      simp [this]
theorem first_any (w : World) (ao : Option Addr) (c : Nat) (stop : Int) (P : List (Int × Int)) (hc : 2 * P.length ≤ c) (hao : 0 < P.length → ∃ g, ao = some ⟨g, 0, none⟩) (hP : P.length ≤ 8796093022208) : Calls Try.prog 61 #[.slice ao (2 * P.length) c, .int .i64 stop] w fun e w' => (∃ c', e = .returned (.slice ao (2 * (stopL stop P).length) c')) ∧ w' = w := by
  obtain ⟨n, hn⟩ : ∃ n, n = P.length := ⟨_, rfl⟩
  obtain ⟨L, hL⟩ : ∃ L, L = 2 * n := ⟨_, rfl⟩
  have hq : (L : Int).tdiv 2 = (n : Int) := by
    rw [show (L : Int) = (n : Int) * 2 by omega]
    exact Int.mul_tdiv_cancel _ (by decide)
  have hn43 : n ≤ 8796093022208 := by omega
  by_cases h : 0 < stop ∧ stop < (n : Int)
  · have HS : Hid (2 * (stopL stop P).length = (2 * stop).toNat) := hide (by
      unfold stopL
      rw [if_pos ⟨h.1, by omega⟩, List.length_take]
      omega)
    rw [HS.out]
    obtain ⟨s, hs⟩ : ∃ s : Nat, stop = (s : Int) := ⟨stop.toNat, by omega⟩
    subst hs
    obtain ⟨g, rfl⟩ := hao (by omega)
    have h1 : (0 : Int) < (s : Int) := h.1
    have h2 : (s : Int) < (n : Int) := h.2
    have h3 : (2 * (s : Int)).toNat = 2 * s := by omega
    rw [h3, ← hn, ← hL]
    have hsl : 2 * s ≤ L := by omega
    have hsc : 2 * s ≤ c := by omega
    have hLc : L ≤ c := by omega
    have hs43 : s ≤ 8796093022208 := by omega
    clear HS h hn hL hc hao
    go_enter Try.func61, Try.ntmps61
    go_wp2
    go_returns
    exact ⟨⟨_, rfl⟩, rfl⟩
  · have HS : Hid (2 * (stopL stop P).length = L) := hide (by
      unfold stopL
      split
      · next h' => rw [List.length_take]; omega
      · omega)
    rw [HS.out, ← hn, ← hL]
    have hLb : L ≤ 17592186044416 := by omega
    by_cases h0 : 0 < stop
    · have h1 : ¬ stop < (n : Int) := fun h' => h ⟨h0, h'⟩
      clear HS h hn hL hc hao
      go_enter Try.func61, Try.ntmps61
      go_wp2
      go_returns
      exact ⟨⟨_, rfl⟩, rfl⟩
    · clear HS h hn hL hc hao
      go_enter Try.func61, Try.ntmps61
      go_wp2
      go_returns
      exact ⟨⟨_, rfl⟩, rfl⟩
end RR
end Go.Proofs.Ytnknjcnbbljagaa
