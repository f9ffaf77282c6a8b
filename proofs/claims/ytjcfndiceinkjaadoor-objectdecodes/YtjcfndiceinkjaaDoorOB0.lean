/- Parts and items: as cells, and held against one another. -/
import Derived.Test.YtjcfndiceinkjaaDoorKD0
import Derived.Laws.StructEq
namespace Go.Proofs.YtjcfndiceinkjaaDoor
set_option linter.unusedVariables false
set_option linter.unusedSimpArgs false
open Go.RowKit

/-- A part: its key, its size. -/
abbrev PartR := List UInt8 × Nat
/-- An item: its name, its mode, its size, its key. -/
abbrev ItemR := List UInt8 × Nat × Nat × List UInt8
def partC (p : PartR) : List Value := p.1.map u8c ++ [.int .u64 (p.2 : Int)]
def itemC (i : ItemR) : List Value := .string ⟨i.1.toArray⟩ :: .int .u8 (i.2.1 : Int) :: .int .u64 (i.2.2.1 : Int) :: i.2.2.2.map u8c
def keyC (k : List UInt8) : List Value := k.map u8c
def okP (p : PartR) : Prop := p.1.length = 32
def okI (i : ItemR) : Prop := i.2.2.2.length = 32
def okK (k : List UInt8) : Prop := k.length = 32
theorem partC_len (p : PartR) (h : okP p) : (partC p).length = 33 := by unfold okP at h; simp [partC, h]
theorem itemC_len (i : ItemR) (h : okI i) : (itemC i).length = 35 := by unfold okI at h; simp [itemC, h]
theorem keyC_len (k : List UInt8) (h : okK k) : (keyC k).length = 32 := by unfold okK at h; simp [keyC, h]
theorem partC_one (p : PartR) : ∀ v ∈ partC p, v.oneCell' = true := by
  intro v hv
  rcases List.mem_append.1 hv with h | h
  · exact u8c_one _ v h
  · obtain rfl := List.mem_singleton.1 h; rfl
theorem itemC_one (i : ItemR) : ∀ v ∈ itemC i, v.oneCell' = true := by
  intro v hv
  rcases List.mem_cons.1 hv with rfl | hv
  · rfl
  rcases List.mem_cons.1 hv with rfl | hv
  · rfl
  rcases List.mem_cons.1 hv with rfl | hv
  · rfl
  exact u8c_one _ v hv
theorem keyC_one (k : List UInt8) : ∀ v ∈ keyC k, v.oneCell' = true := u8c_one k

theorem fieldsP : (Tryd.prog.fieldsOf 47).toList.map (fun f => (decide (f.name ≠ "_"), f.type, f.offset)) = [(true, 27, 0), (true, 45, 32)] := by kernel_rfl
theorem fieldsI : (Tryd.prog.fieldsOf 50).toList.map (fun f => (decide (f.name ≠ "_"), f.type, f.offset)) = [(true, 9, 0), (true, 48, 1), (true, 45, 2), (true, 27, 3)] := by kernel_rfl
/-- Equality of fields, by their types and offsets alone. -/
def eqF (d : Nat) (xs ys : Array Value) : List (Bool × TypeId × Nat) → Sem Bool
  | [] => pure true
  | f :: fs =>
    if f.1 = true then do
      let a ← part f.2.1 xs f.2.2
      let b ← part f.2.1 ys f.2.2
      let r ← Op.equalIn d f.2.1 a b
      if (!r) = true then pure false else eqF d xs ys fs
    else eqF d xs ys fs
theorem eqFields_eq (d : Nat) (xs ys : Array Value) : ∀ fs : List Field, Op.eqFields d xs ys fs = eqF d xs ys (fs.map (fun f => (decide (f.name ≠ "_"), f.type, f.offset)))
  | [] => rfl
  | f :: fs => by
    simp only [Op.eqFields, eqF, List.map_cons, eqFields_eq d xs ys fs, decide_eq_true_eq]
theorem run_part1 {e : TypeId} (he : Tryd.prog.plainKey e = true) {xs : Array Value} {off : Nat} {v : Value} (hx : xs[off]? = some v) (w : World) : (part e xs off).run Tryd.prog w = .ok v w := run_part_plain w he hx
set_option maxRecDepth 20000 in
theorem run_partK {xs : Array Value} {off : Nat} {k : List UInt8} (hk : k.length = 32) (hx : (xs.toList.drop off).take 32 = k.map u8c) (w : World) : (part 27 xs off).run Tryd.prog w = .ok (keyV k) w := by
  have h1 := Tryd.isAgg27 w
  have h2 := Tryd.sizeOf27 w
  simp only [part, Sem.run_bind, h1, Result.andThen_ok, h2, if_true, Sem.run_pure]
  congr 1
  unfold keyV
  congr 1
  apply Array.ext'
  rw [Array.toList_extract, ← hx]
  simp [List.extract]
theorem equalKs (a b : List UInt8) (ha : a.length = 32) (hb : b.length = 32) (d : Nat) (w : World) : (Op.equalIn (d + 2) 27 (keyV a) (keyV b)).run Tryd.prog w = .ok (a == b) w :=
  run_equalIn_bytes (P := Tryd.prog) w d 27 5 32 Tryd.underlying27 Tryd.underlying5 szU8 a b ha hb
end Go.Proofs.YtjcfndiceinkjaaDoor
