/- The mean and the squares of some numbers, step by step; rows of ints. -/
import Derived.Test.YtamajnaeladehabFL6
import Derived.Test.YtamajnaeladehabGE0
import Derived.Laws.FloatArith
import Derived.Laws.StructEq
import Derived.Maps.AppendAt
import Derived.Deep.OwnRows
namespace Go.Proofs.Ytamajnaeladehab
set_option linter.unusedVariables false
set_option linter.unusedSimpArgs false
open Go.RowKit Ieee

def fl (n : Int) : Nat := floatOfInt .f64 n
theorem fl_eq (n : Int) : fl n = double.nearest (decide (n < 0)) n.natAbs 0 := rfl
/-- One step: the number x, the i-th. -/
def stepW (m s : Nat) (i : Nat) (n : Int) : Nat × Nat :=
  let x := fl n
  let d := (double.sub x m).getD 0
  let q := (double.div d (fl ((i : Int) + 1))).getD 0
  let m' := (double.add m q).getD 0
  let e := (double.sub x m').getD 0
  let p := (double.mul d e).getD 0
  (m', (double.add s p).getD 0)
/-- All of the first k. -/
def runW (L : List Int) : Nat → Nat × Nat
  | 0 => (0, 0)
  | k + 1 => stepW (runW L k).1 (runW L k).2 k (L[k]?.getD 0)
/-- What is known of them. -/
def OkW (k m s : Nat) : Prop := (∃ sm rm, m = double.word sm rm ∧ rm ≤ R63 ∧ (k = 0 → rm = 0)) ∧ Non s
theorem step_ok (k m s : Nat) (n : Int) (h : OkW k m s) (hn : -9223372036854775808 ≤ n ∧ n ≤ 9223372036854775807) (hk : k < 9223372036854775807) :
    ∃ d q e p m' s', double.sub (fl n) m = some d ∧ double.div d (fl ((k : Int) + 1)) = some q ∧ double.add m q = some m' ∧ double.sub (fl n) m' = some e ∧ double.mul d e = some p ∧ double.add s p = some s' ∧ stepW m s k n = (m', s') ∧ OkW (k + 1) m' s' := by
  obtain ⟨⟨sm, rm, rfl, hrm, h0⟩, hs⟩ := h
  obtain ⟨rx, ex, hrx, -, -⟩ := float_int (decide (n < 0)) n.natAbs (by omega)
  have ek : fl ((k : Int) + 1) = double.nearest false (k + 1) 0 := by
    rw [fl_eq, decide_eq_false (by omega)]
    congr 1
  obtain ⟨rk, e2, hrk, k1, k2⟩ := float_int false (k + 1) (by omega)
  have R := R63_lt
  obtain ⟨d, st, e, p, sm', rm', w1, w2, w3, w4, w5, w6, w7⟩ := welford (decide (n < 0)) sm rx rm rk hrx hrm (by omega) (k1 (by omega)) (by
    rcases Nat.eq_zero_or_pos k with hk0 | hk0
    · exact .inr (h0 hk0)
    · exact .inl (k2 (by omega)))
  obtain ⟨s', w8, w9⟩ := add_non s p hs w7
  rw [← ex, ← fl_eq] at w1 w5
  rw [← e2, ← ek] at w2
  refine ⟨d, st, e, p, _, s', w1, w2, w3, w5, w6, w8, ?_, ⟨sm', rm', rfl, w4, fun h => by omega⟩, w9⟩
  unfold stepW
  simp only [w1, w2, w3, w5, w6, w8, Option.getD_some]
theorem run_ok (L : List Int) (hL : ∀ x ∈ L, -9223372036854775808 ≤ x ∧ x ≤ 9223372036854775807) (hlen : L.length ≤ 9223372036854775807) : ∀ k, k ≤ L.length → OkW k (runW L k).1 (runW L k).2
  | 0, _ => ⟨⟨false, 0, rfl, Nat.zero_le _, fun _ => rfl⟩, false, 0, rfl, Nat.zero_le _, .inl rfl⟩
  | k + 1, h => by
    have hk : k < L.length := by omega
    obtain ⟨d, q, e, p, m', s', _, _, _, _, _, _, hst, hok⟩ := step_ok k _ _ (L[k]) (run_ok L hL hlen k (by omega)) (hL _ (List.getElem_mem hk)) (by omega)
    rw [runW, List.getElem?_eq_getElem hk, Option.getD_some, hst]
    exact hok
/-- How far some numbers are spread. -/
def devW (L : List Int) : Nat := (double.sqrt ((double.div (runW L L.length).2 (fl L.length)).getD 0)).getD 0
theorem dev_ok (L : List Int) (hL : ∀ x ∈ L, -9223372036854775808 ≤ x ∧ x ≤ 9223372036854775807) (hlen : L.length ≤ 9223372036854775807) (h0 : 0 < L.length) :
    ∃ q, double.div (runW L L.length).2 (fl L.length) = some q ∧ double.sqrt q = some (devW L) ∧ Non (devW L) := by
  have hok := run_ok L hL hlen L.length (Nat.le_refl _)
  have ek : fl (L.length : Int) = double.nearest false L.length 0 := by
    rw [fl_eq, decide_eq_false (by omega)]
    congr 1
  obtain ⟨rk, e2, hrk, k1, -⟩ := float_int false L.length (by omega)
  have R := R63_lt
  have hr0 : 0 < rk := by
    rcases Nat.eq_zero_or_pos rk with h | h
    · have := k1 h0
      rw [h, dv_zero] at this
      have := pow_pos uE
      omega
    · exact h
  obtain ⟨q, w1, w2⟩ := div_non _ rk hok.2 (by omega) hr0
  obtain ⟨r, w3, w4⟩ := sqrt_non q w2
  rw [← e2, ← ek] at w1
  have hd : devW L = r := by
    unfold devW
    rw [w1, Option.getD_some, w3, Option.getD_some]
  exact ⟨q, w1, by rw [hd]; exact w3, by rw [hd]; exact w4⟩
/-- Each is equal to itself. -/
theorem order_mean (L : List Int) (hL : ∀ x ∈ L, -9223372036854775808 ≤ x ∧ x ≤ 9223372036854775807) (hlen : L.length ≤ 9223372036854775807) (k : Nat) (hk : k ≤ L.length) : double.order (runW L k).1 (runW L k).1 = some .eq := by
  obtain ⟨⟨sm, rm, e, h, -⟩, -⟩ := run_ok L hL hlen k hk
  rw [e]
  exact order_self sm rm (by have := R63_lt; omega)
theorem order_non {w : Nat} (h : Non w) : double.order w w = some .eq := by
  obtain ⟨neg, r, rfl, hr, -⟩ := h
  exact order_self neg r hr
/-- The least and the greatest of the first k. -/
def lowK (L : List Int) : Nat → Int
  | 0 => 0
  | 1 => L[0]?.getD 0
  | k + 2 => min (lowK L (k + 1)) (L[k + 1]?.getD 0)
def topK (L : List Int) : Nat → Int
  | 0 => 0
  | 1 => L[0]?.getD 0
  | k + 2 => max (topK L (k + 1)) (L[k + 1]?.getD 0)
theorem live_run : runW [3, 5] 2 = (4616189618054758400, 4611686018427387904) := by decide +kernel
theorem live_dev : devW [3, 5] = 4607182418800017408 := by decide +kernel
end Go.Proofs.Ytamajnaeladehab
