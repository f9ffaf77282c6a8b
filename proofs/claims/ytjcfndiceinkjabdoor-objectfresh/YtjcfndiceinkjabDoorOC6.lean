/- Why an object may not be, and its bytes: what both ways tell (pure). -/
import Derived.Test.YtjcfndiceinkjabDoorOCm
import Derived.Test.YtjcfndiceinkjabDoorOE4
namespace Go.Proofs.YtjcfndiceinkjabDoor
set_option linter.unusedVariables false
set_option linter.unusedSimpArgs false
open Go.RowKit Go.Lib

def zeroO : ObjR := ⟨0, [], [], [], zero32, [], 0, []⟩
/-- An object without its kind and the fields of it. -/
def othersO (o : ObjR) : ObjR :=
  if o.kind = 1 then { o with kind := 0, data := [] } else if o.kind = 2 then { o with kind := 0, parts := [] } else if o.kind = 3 then { o with kind := 0, items := [] }
  else if o.kind = 4 then ⟨0, o.data, o.parts, o.items, zero32, [], 0, []⟩ else { o with kind := 0 }
def foreignO (o : ObjR) : Bool :=
  if o.kind ≠ 1 ∧ 0 < o.data.length then true else if o.kind ≠ 2 ∧ 0 < o.parts.length then true else if o.kind ≠ 3 ∧ 0 < o.items.length then true else if o.kind = 4 then false
  else !decide (o.tree = zero32) || decide (0 < o.parents.length) || !decide (o.time = 0) || !(o.note == [])
def wrongO (o : ObjR) : Int :=
  if o.kind < 1 ∨ 4 < o.kind then 40 else if foreignO o = true then 41 else if o.kind = 2 then wrongListO o.parts else if o.kind = 3 then wrongTreeO o.items else if o.kind = 4 then wrongSnapO o.parents o.note else 0
def partB (p : PartR) : List UInt8 := p.1 ++ varB p.2
def itemB (i : ItemR) : List UInt8 := varB i.1.length ++ i.1 ++ fixB 1 i.2.1 ++ varB i.2.2.1 ++ i.2.2.2
def timeN (o : ObjR) : Nat := (IntKind.u64.wrap o.time).toNat
/-- The bytes of an object. -/
def layO (o : ObjR) : List UInt8 :=
  fixB 1 o.kind ++ (if o.kind = 1 then o.data else if o.kind = 2 then varB o.parts.length ++ (o.parts.map partB).flatten else if o.kind = 3 then varB o.items.length ++ (o.items.map itemB).flatten
    else if o.kind = 4 then o.tree ++ varB o.parents.length ++ o.parents.flatten ++ fixB 8 (timeN o) ++ (varB o.note.length ++ o.note) else [])
def checkO (o : ObjR) : Int := if wrongO o ≠ 0 then wrongO o else if 8192 < o.data.length ∨ 8192 < (layO o).length then 48 else 0
theorem foreign_eq (o : ObjR) : sameO (othersO o) zeroO = !foreignO o := by
  obtain ⟨kd, d, p, i, t, k, tm, nt⟩ := o
  unfold sameO othersO foreignO zeroO
  generalize zero32 = z
  by_cases h1 : kd = 1
  · subst h1
    cases p <;> cases i <;> cases k <;> simp [Bool.and_assoc]
  by_cases h2 : kd = 2
  · subst h2
    cases d <;> cases i <;> cases k <;> simp [Bool.and_assoc]
  by_cases h3 : kd = 3
  · subst h3
    cases d <;> cases p <;> cases k <;> simp [Bool.and_assoc]
  by_cases h4 : kd = 4
  · subst h4
    cases d <;> cases p <;> cases i <;> simp
  cases d <;> cases p <;> cases i <;> cases k <;> simp [h1, h2, h3, h4, Bool.and_assoc]
/-- What the document asks of the fields, behind the kind and the fields of other kinds. -/
def innerO (o : ObjR) : Int := if o.kind = 2 then partsO o.parts else if o.kind = 3 then treeL o.items [] else if o.kind = 4 then (if 1024 < o.note.length then 46 else if validD o.note then 0 else 46) else 0
theorem wrong_inner (o : ObjR) (h1 : 1 ≤ o.kind) (h4 : o.kind ≤ 4) (hf : foreignO o = false) : wrongO o = if 128 < kidN o then 42 else innerO o := by
  unfold wrongO innerO kidN
  rw [if_neg (by omega), if_neg (by rw [hf]; simp)]
  by_cases e2 : o.kind = 2
  · simp only [if_pos e2]; rfl
  by_cases e3 : o.kind = 3
  · simp only [if_neg e2, if_pos e3]; rfl
  by_cases e4 : o.kind = 4
  · simp only [if_neg e2, if_neg e3, if_pos e4]
    unfold wrongSnapO
    by_cases hl : 127 < o.parents.length
    · have h2 : 128 < 1 + o.parents.length := by omega
      rw [if_pos hl, if_pos h2]
    · have h2 : ¬ 128 < 1 + o.parents.length := by omega
      rw [if_neg hl, if_neg h2]
  · simp only [if_neg e2, if_neg e3, if_neg e4]; rfl
end Go.Proofs.YtjcfndiceinkjabDoor
