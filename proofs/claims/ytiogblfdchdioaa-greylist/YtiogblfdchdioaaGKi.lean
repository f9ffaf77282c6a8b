/- The elements of a row: ints. -/
import Derived.Test.YtiogblfdchdioaaGRA
namespace Go.Proofs.Ytiogblfdchdioaa
set_option linter.unusedVariables false
set_option linter.unusedSimpArgs false
namespace RI
open Go.RowKit
set_option maxRecDepth 100000

abbrev EL := Int
def elV (x : EL) : Value := .int .i64 x
def elC (x : EL) : List Value := [.int .i64 x]
def elZ : EL := 0
abbrev WD : Nat := 1
abbrev EB : Nat := 8
abbrev elT : TypeId := 3
abbrev slT : TypeId := 38
/-- The place of an element in a row's block. -/
abbrev ofs (j : Nat) : Nat := j
theorem ofs_is (j : Nat) : ofs j = j * WD := (Nat.mul_one j).symm
theorem elC_len (x : EL) : (elC x).length = WD := rfl
theorem elC_one (x : EL) : ∀ v ∈ elC x, v.oneCell' = true := fun v h => by rw [List.mem_singleton.1 h]; rfl
theorem elV_cells (x : EL) : (elV x).cells = (elC x).toArray := rfl
theorem slU : Try.prog.underlying slT = some (.slice elT) := Try.underlying38
theorem elI : (Try.prog.info? elT).map (fun i => (i.zero, i.size, i.bytes)) = some (some (elV elZ), WD, EB) := by kernel_rfl
theorem elS : (Try.prog.info? elT).map (·.size) = some WD := by kernel_rfl
theorem elV_zero : elV elZ = .int .i64 0 := rfl
theorem zero_toList : (Value.cells (elV elZ)).toList = elC elZ := rfl
theorem run_ld {w : World} {b o : Nat} {x : EL} (h : w.rangeAt b o (elC x)) : (Instr.loadAt elT (.pointer (some ⟨b, o, none⟩))).run Try.prog w = .ok (elV x) w := by
  have hu := Try.underlying3
  have hc : w.cell? ⟨b, o, none⟩ = some (.int .i64 x) := h 0 _ rfl
  simp [go_sem, hc, hu, elV]
theorem run_st {w : World} {b o : Nat} {x : EL} (h : w.there b o WD) : (Instr.storeAt elT (.pointer (some ⟨b, o, none⟩)) (elV x)).run Try.prog w = .ok () (w.setCells b o (elC x)) := by
  have hs : (sizeOf elT).run Try.prog w = .ok 1 w := by kernel_rfl
  obtain ⟨h1, h2⟩ := h 0 (by decide)
  obtain ⟨v, hv⟩ := Option.isSome_iff_exists.1 h1
  simp [go_sem, hs, hv, h2, elV, elC, World.setCells] at hv h2 ⊢
end RI
end Go.Proofs.Ytiogblfdchdioaa
