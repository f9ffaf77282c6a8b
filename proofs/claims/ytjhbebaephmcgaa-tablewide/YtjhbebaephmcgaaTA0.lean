/- A table of slots, pure: finding, laying, burying, moving, growing. -/
namespace Go.Proofs.Ytjhbebaephmcgaa
set_option linter.unusedVariables false
set_option linter.unusedSimpArgs false

inductive Slt (K V : Type) where
  | emp : Slt K V
  | ful (k : K) (v : V) : Slt K V
  | tmb : Slt K V
section
variable {K V : Type}
def Slt.st : Slt K V → Nat
  | .emp => 0
  | .ful _ _ => 1
  | .tmb => 2
theorem Slt.st_le (s : Slt K V) : s.st ≤ 2 := by cases s <;> simp [Slt.st]
/-- How many slots are in a state. -/
def cnt (L : List (Slt K V)) (q : Nat) : Nat := L.countP (fun s => s.st == q)
/-- The slot at a place. -/
def sat (L : List (Slt K V)) (p : Nat) : Slt K V := L.getD p .emp
theorem sat_get {L : List (Slt K V)} {p : Nat} (h : p < L.length) : L[p]? = some (sat L p) := by
  simp [sat, List.getD_eq_getElem?_getD, List.getElem?_eq_getElem h]
theorem sat_set {L : List (Slt K V)} {p : Nat} (h : p < L.length) (s : Slt K V) (q : Nat) : sat (L.set p s) q = if q = p then s else sat L q := by
  simp only [sat, List.getD_eq_getElem?_getD]
  by_cases e : q = p
  · subst e; rw [if_pos rfl, List.getElem?_set_self h]; rfl
  · rw [if_neg e, List.getElem?_set_ne (fun h => e h.symm)]
/-- What finding tells from step i of the way on, in f steps: the place, how many slots were looked at. -/
def fnd (eq : K → K → Bool) (L : List (Slt K V)) (h : Nat) (k : K) : Nat → Nat → Option Nat × Nat
  | 0, i => (none, i)
  | f + 1, i => match sat L ((h + i) % L.length) with
    | .emp => (none, i + 1)
    | .ful k' _ => if eq k' k then (some ((h + i) % L.length), i + 1) else fnd eq L h k f (i + 1)
    | .tmb => fnd eq L h k f (i + 1)
def find (eq : K → K → Bool) (L : List (Slt K V)) (h : Nat) (k : K) : Option Nat × Nat := fnd eq L h k L.length 0
section
variable {eq : K → K → Bool} {L : List (Slt K V)} {h : Nat} {k : K} {f i : Nat}
theorem fnd_emp (hs : sat L ((h + i) % L.length) = .emp) : fnd eq L h k (f + 1) i = (none, i + 1) := by rw [fnd, hs]
theorem fnd_tmb (hs : sat L ((h + i) % L.length) = .tmb) : fnd eq L h k (f + 1) i = fnd eq L h k f (i + 1) := by rw [fnd, hs]
theorem fnd_yes {k' : K} {v : V} (hs : sat L ((h + i) % L.length) = .ful k' v) (he : eq k' k = true) : fnd eq L h k (f + 1) i = (some ((h + i) % L.length), i + 1) := by rw [fnd, hs]; simp [he]
theorem fnd_no {k' : K} {v : V} (hs : sat L ((h + i) % L.length) = .ful k' v) (he : eq k' k = false) : fnd eq L h k (f + 1) i = fnd eq L h k f (i + 1) := by rw [fnd, hs]; simp [he]
end
/-- Laying a pair from step i of the way on, in f steps. -/
def lyg (L : List (Slt K V)) (h : Nat) (k : K) (v : V) : Nat → Nat → List (Slt K V)
  | 0, _ => L
  | f + 1, i => match sat L ((h + i) % L.length) with
    | .ful _ _ => lyg L h k v f (i + 1)
    | .emp => L.set ((h + i) % L.length) (.ful k v)
    | .tmb => L.set ((h + i) % L.length) (.ful k v)
def lay (L : List (Slt K V)) (h : Nat) (k : K) (v : V) : List (Slt K V) := lyg L h k v L.length 0
section
variable {L : List (Slt K V)} {h : Nat} {k : K} {v : V} {f i : Nat}
theorem lyg_ful {k' : K} {v' : V} (hs : sat L ((h + i) % L.length) = .ful k' v') : lyg L h k v (f + 1) i = lyg L h k v f (i + 1) := by rw [lyg, hs]
theorem lyg_emp (hs : sat L ((h + i) % L.length) = .emp) : lyg L h k v (f + 1) i = L.set ((h + i) % L.length) (.ful k v) := by rw [lyg, hs]
theorem lyg_tmb (hs : sat L ((h + i) % L.length) = .tmb) : lyg L h k v (f + 1) i = L.set ((h + i) % L.length) (.ful k v) := by rw [lyg, hs]
end
theorem lyg_length (L : List (Slt K V)) (h : Nat) (k : K) (v : V) (f i : Nat) : (lyg L h k v f i).length = L.length := by
  induction f generalizing i with
  | zero => rfl
  | succ f ih =>
    unfold lyg
    split
    · exact ih _
    · exact List.length_set
    · exact List.length_set
theorem lay_length (L : List (Slt K V)) (h : Nat) (k : K) (v : V) : (lay L h k v).length = L.length := lyg_length ..
/-- A younger array, an elder one, how many of its slots have been gone through. -/
structure Tb (K V : Type) where
  y : List (Slt K V)
  e : List (Slt K V)
  m : Nat
def Tb.left (T : Tb K V) : Nat := T.e.length - T.m
def Tb.len (T : Tb K V) : Nat := cnt T.y 1 + cnt T.e 1
/-- One slot of a step. -/
def mv1 (hs : K → Nat) (T : Tb K V) : Tb K V := match sat T.e T.m with
  | .ful k v => ⟨lay T.y (hs k) k v, T.e.set T.m .tmb, T.m + 1⟩
  | .emp => ⟨T.y, T.e, T.m + 1⟩
  | .tmb => ⟨T.y, T.e, T.m + 1⟩
def mvN (hs : K → Nat) : Nat → Tb K V → Tb K V
  | 0, T => T
  | n + 1, T => mv1 hs (mvN hs n T)
def endT (T : Tb K V) : Tb K V := if T.left = 0 then ⟨T.y, [], 0⟩ else T
def stepT (hs : K → Nat) (T : Tb K V) : Tb K V := if T.left = 0 then T else endT (mvN hs 8 T)
/-- From n on, doubled f times at the most, until it is at least l. -/
def dbl (l : Nat) : Nat → Nat → Nat
  | 0, n => n
  | f + 1, n => if n < l then dbl l f (2 * n) else n
def growN (n l : Nat) : Nat := dbl (2 * l + 2) 64 n
def growT (T : Tb K V) : Tb K V := if T.left ≠ 0 ∨ 4 * (cnt T.y 1 + cnt T.y 2) ≤ 3 * T.y.length then T else ⟨List.replicate (growN T.y.length T.len) .emp, T.y, T.m⟩
/-- Where a key lies: in the younger array (false) or in the elder one (true), its place; how many slots were looked at. -/
def seek (eq : K → K → Bool) (hs : K → Nat) (T : Tb K V) (k : K) : Option (Bool × Nat) × Nat := match find eq T.y (hs k) k with
  | (some p, n) => (some (false, p), n)
  | (none, n) => match find eq T.e (hs k) k with
    | (some p, m) => (some (true, p), n + m)
    | (none, m) => (none, n + m)
def valS (z : V) : Slt K V → V
  | .ful _ v => v
  | .emp => z
  | .tmb => z
def valT (z : V) (T : Tb K V) : Option (Bool × Nat) → V
  | some (false, p) => valS z (sat T.y p)
  | some (true, p) => valS z (sat T.e p)
  | none => z
def repS (v : V) : Slt K V → Slt K V
  | .ful k _ => .ful k v
  | .emp => .emp
  | .tmb => .tmb
def putG (eq : K → K → Bool) (hs : K → Nat) (T : Tb K V) (k : K) (v : V) : Tb K V := match (seek eq hs T k).1 with
  | some (false, p) => ⟨T.y.set p (repS v (sat T.y p)), T.e, T.m⟩
  | some (true, p) => ⟨lay T.y (hs k) k v, T.e.set p .tmb, T.m⟩
  | none => growT ⟨lay T.y (hs k) k v, T.e, T.m⟩
def putT (eq : K → K → Bool) (hs : K → Nat) (T : Tb K V) (k : K) (v : V) : Tb K V := putG eq hs (stepT hs T) k v
def delG (eq : K → K → Bool) (hs : K → Nat) (T : Tb K V) (k : K) : Tb K V := match (seek eq hs T k).1 with
  | some (false, p) => ⟨T.y.set p .tmb, T.e, T.m⟩
  | some (true, p) => ⟨T.y, T.e.set p .tmb, T.m⟩
  | none => T
def delT (eq : K → K → Bool) (hs : K → Nat) (T : Tb K V) (k : K) : Tb K V := delG eq hs (stepT hs T) k
/-- The pairs of some slots, of a table. -/
def prs : List (Slt K V) → List (K × V)
  | [] => []
  | .ful k v :: r => (k, v) :: prs r
  | .emp :: r => prs r
  | .tmb :: r => prs r
def Tb.prs (T : Tb K V) : List (K × V) := _root_.Go.Proofs.Ytjhbebaephmcgaa.prs T.e ++ _root_.Go.Proofs.Ytjhbebaephmcgaa.prs T.y
end
end Go.Proofs.Ytjhbebaephmcgaa
