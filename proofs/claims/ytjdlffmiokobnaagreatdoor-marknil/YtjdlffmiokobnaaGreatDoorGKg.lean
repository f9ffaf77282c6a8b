/- The elements of a row: keys with a place (api.Grey). -/
import Derived.Test.YtjdlffmiokobnaaGreatDoorGRA
namespace Go.Proofs.YtjdlffmiokobnaaGreatDoor
set_option linter.unusedVariables false
set_option linter.unusedSimpArgs false
namespace RG
open Go.RowKit
set_option maxRecDepth 100000

/-- A key of 32 bytes, and the next kid. -/
structure EL where
  key : List UInt8
  nxt : Int
  k32 : key.length = 32
def u8c (u : UInt8) : Value := .int .u8 (u.toNat : Int)
def elC (x : EL) : List Value := x.key.map u8c ++ [.int .i64 x.nxt]
def elA (x : EL) : Array Value := (elC x).toArray
abbrev elV (x : EL) : Value := .agg (elA x)
def elZ : EL := ⟨List.replicate 32 0, 0, rfl⟩
abbrev WD : Nat := 33
abbrev EB : Nat := 40
abbrev elT : TypeId := 111
abbrev slT : TypeId := 57
/-- The place of an element in a row's block. -/
abbrev ofs (j : Nat) : Nat := j * 33
theorem ofs_is (j : Nat) : ofs j = j * WD := rfl
theorem elC_len (x : EL) : (elC x).length = WD := by simp [elC, x.k32]
theorem u8c_one (xs : List UInt8) : ∀ v ∈ xs.map u8c, v.oneCell' = true := by
  intro v hv
  obtain ⟨u, _, rfl⟩ := List.mem_map.1 hv
  rfl
theorem elC_one (x : EL) : ∀ v ∈ elC x, v.oneCell' = true := fun v h => by
  rcases List.mem_append.1 h with h | h
  · exact u8c_one _ v h
  · rw [List.mem_singleton.1 h]; rfl
theorem elV_cells (x : EL) : (elV x).cells = (elC x).toArray := rfl
theorem slU : Tryz.prog.underlying slT = some (.slice elT) := Tryz.underlying57
theorem elI : (Tryz.prog.info? elT).map (fun i => (i.zero, i.size, i.bytes)) = some (some (elV elZ), WD, EB) := by kernel_rfl
theorem elS : (Tryz.prog.info? elT).map (·.size) = some WD := by kernel_rfl
theorem zero_toList : (Value.cells (elV elZ)).toList = elC elZ := rfl
theorem run_ld {w : World} {b o : Nat} {x : EL} (h : w.rangeAt b o (elC x)) : (Instr.loadAt elT (.pointer (some ⟨b, o, none⟩))).run Tryz.prog w = .ok (elV x) w := by
  have := run_loadVar_mid (P := Tryz.prog) w b o elT (elC x) _ h Tryz.underlying111 rfl (by rw [elC_len]; exact elS)
  simp only [Instr.loadAt, Instr.sureAddr, Sem.run_bind, Sem.run_pure, Result.andThen_ok]
  exact this
theorem run_st {w : World} {b o : Nat} {x : EL} (h : w.there b o WD) : (Instr.storeAt elT (.pointer (some ⟨b, o, none⟩)) (elV x)).run Tryz.prog w = .ok () (w.setCells b o (elC x)) := by
  have hl := elC_len x
  exact run_storeAt_mid (P := Tryz.prog) w b o elT (elC x).toArray (by simpa [hl] using h) (by simpa [hl] using elS) (all_oneCell_toArray (elC_one x))
end RG
end Go.Proofs.YtjdlffmiokobnaaGreatDoor
