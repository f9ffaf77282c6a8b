/- A table of keys and entries: its pairs; how an elder array may stand (pure). -/
import Derived.Test.YtjhbebaephmcgaaVXI
namespace Go.Proofs.Ytjhbebaephmcgaa
set_option linter.unusedVariables false
set_option linter.unusedSimpArgs false
namespace TX
theorem prs_append {K V : Type} (A B : List (Slt K V)) : prs (A ++ B) = prs A ++ prs B := by
  induction A with
  | nil => rfl
  | cons x A ih => cases x <;> simp [prs, ih]
def prS {K V : Type} : Slt K V → List (K × V)
  | .ful k v => [(k, v)]
  | .emp => []
  | .tmb => []
theorem prs_one {K V : Type} (s : Slt K V) : prs [s] = prS s := by cases s <;> rfl
theorem prs_take {K V : Type} (L : List (Slt K V)) (j : Nat) (h : j < L.length) : prs (L.take (j + 1)) = prs (L.take j) ++ prS (sat L j) := by
  rw [List.take_add_one, prs_append, sat_get h]
  simp [prs_one]
/-- How an elder array may stand. -/
structure TOk {K V : Type} (T : Tb K V) : Prop where
  mv : (T.e.length = 0 ∧ T.m = 0) ∨ T.m < T.e.length
  m8 : 8 ∣ T.m
  e8 : 8 ∣ T.e.length
/-- If it must grow, it may. -/
def GrowOk {K V : Type} (T : Tb K V) : Prop := T.left = 0 → 3 * T.y.length < 4 * (cnt T.y 1 + cnt T.y 2) → growN T.y.length T.len ≤ 4398046511104
end TX
end Go.Proofs.Ytjhbebaephmcgaa
