/- The listed variables: the three tables as they start. -/
import Derived.Test.YtjmjnecobaoofaaDoorSK3
import Derived.Test.YtjmjnecobaoofaaDoorRows
import Derived.Test.YtjmjnecobaoofaaDoorCards
import Derived.Test.YtjmjnecobaoofaaDoorTie
import Derived.ChangeSame
import Derived.ChangeVars
import Derived.JoinedOf
import Derived.RowKit
import Derived.RowKitTokens
import Derived.LaidLaws
import Derived.LaidHandle
import Derived.Stop.Joined
import Derived.Stop.LaidErr
import Derived.Lib.LaidTab
import Derived.ProofKit
import Derived.OpenShut
import Derived.SevenTiedAt
import Derived.ChangeOld
import Derived.SizedLaws
import Derived.Deep.Slices
import Derived.Deep.Strs
namespace Go.Proofs.YtjmjnecobaoofaaDoor
set_option linter.unusedVariables false
set_option linter.unusedSimpArgs false
open Go.ChangeShapes Go.WideShapes Go.ChangeAt Go.RowKit Go.Deep

theorem own : ownKnob Tryd.prog.godebug = none := by kernel_rfl
theorem laidOut : laidOutB Tryd.prog = true := by kernel_rfl
theorem cellsU8 : Tryd.prog.cellsOf 5 = 1 := by kernel_rfl
theorem cellsU32 : Tryd.prog.cellsOf 55 = 1 := by kernel_rfl
theorem bytesU8 : Tryd.prog.bytesOf 5 = 1 := by kernel_rfl

def kInts : List Int := Kt.map fun x : Nat => (x : Int)
def bInts : List Int := begin8.nats.map fun x : Nat => (x : Int)
theorem d0 : (Rows.laid_gleaner_gleanerref02_added : DataW Unit) = Lib.tabData .u64 kInts := by kernel_rfl
theorem d1 : (Rows.laid_gleaner_gleanerref02_begin : DataW Unit) = Lib.tabData .u64 bInts := by kernel_rfl
theorem d2 : (Rows.laid_gleaner_sha_added : DataW Unit) = Lib.tabData .u32 kInts := by kernel_rfl
theorem laid_met {W : World} (h : laidMetH Tryd.prog Rows.keyExactRow.laid W) : laidMet Tryd.prog [("gleaner/gleanerref02.added", Lib.tabData .u64 kInts), ("gleaner/gleanerref02.begin", Lib.tabData .u64 bInts), ("gleaner/sha.added", Lib.tabData .u32 kInts)] W := by
  rw [← d0, ← d1, ← d2]
  exact h
theorem g0 : Tryd.prog.globalNamed "gleaner/gleanerref02.added" = some 1 := by kernel_rfl
theorem g1 : Tryd.prog.globalNamed "gleaner/gleanerref02.begin" = some 0 := by kernel_rfl
theorem g2 : Tryd.prog.globalNamed "gleaner/sha.added" = some 3 := by kernel_rfl
theorem tab0 {W : World} (h : laidMetH Tryd.prog Rows.keyExactRow.laid W) : Lib.TabIs Tryd.prog W "gleaner/gleanerref02.added" .u64 kInts :=
  Lib.tabIs_of_head (g := 1) (t := 74) (e := 57) (n := 64) (by kernel_rfl) (by kernel_rfl) Tryd.underlying74 Tryd.underlying57 (by kernel_rfl) (by kernel_rfl) (laid_met h)
theorem tab1 {W : World} (h : laidMetH Tryd.prog Rows.keyExactRow.laid W) : Lib.TabIs Tryd.prog W "gleaner/gleanerref02.begin" .u64 bInts :=
  Lib.tabIs_of_head (g := 0) (t := 70) (e := 57) (n := 8) (by kernel_rfl) (by kernel_rfl) Tryd.underlying70 Tryd.underlying57 (by kernel_rfl) (by kernel_rfl) (laidMet.tail (laid_met h))
theorem tab2 {W : World} (h : laidMetH Tryd.prog Rows.keyExactRow.laid W) : Lib.TabIs Tryd.prog W "gleaner/sha.added" .u32 kInts :=
  Lib.tabIs_of_head (g := 3) (t := 77) (e := 55) (n := 64) (by kernel_rfl) (by kernel_rfl) Tryd.underlying77 Tryd.underlying55 (by kernel_rfl) (by kernel_rfl) (laidMet.tail (laidMet.tail (laid_met h)))
theorem ints_at (l : List Nat) (k : IntKind) (t : Nat) (ht : t < l.length) : ((l.map fun x : Nat => (x : Int)).map fun z => Value.int k z).toArray[t]? = some (.int k ((l[t]?.getD 0 : Nat) : Int)) := by
  rw [List.getElem?_toArray, List.getElem?_map, List.getElem?_map, List.getElem?_eq_getElem ht]; rfl
theorem tabs_of_laid {W : World} (h : laidMetH Tryd.prog Rows.keyExactRow.laid W) : Tabs W := by
  have c0 : ∀ t, t < 64 → W.cell? ⟨1, t, none⟩ = some (u64c (Kt[t]?.getD 0)) := fun t ht => (World.var?_cell g0 (tab0 h) t).trans (ints_at Kt .u64 t ht)
  have c1 : ∀ t, t < 8 → W.cell? ⟨0, t, none⟩ = some (u64c (begin8.nats[t]?.getD 0)) := fun t ht => (World.var?_cell g1 (tab1 h) t).trans (ints_at begin8.nats .u64 t ht)
  have c2 : ∀ t, t < 64 → W.cell? ⟨3, t, none⟩ = some (u32c (Kt[t]?.getD 0)) := fun t ht => (World.var?_cell g2 (tab2 h) t).trans (ints_at Kt .u32 t ht)
  exact ⟨World.block_lt_of_cell? W _ (c2 0 (by decide)), c0, c1, c2⟩

def laidCells (cs : Array Value) : Obj → Obj
  | .cells _ t frozen => .cells cs t frozen
  | o => o
/-- A world that meets the condition: the settled one, the three variables laid. -/
noncomputable def laidWorld (os : Os) : World :=
  let w0 := World.holding Tryd.prog os ⟨#[], #[], []⟩
  { w0 with heap := ((w0.heap.modify 1 (laidCells (kInts.map fun z => Value.int .u64 z).toArray)).modify 0 (laidCells (bInts.map fun z => Value.int .u64 z).toArray)).modify 3 (laidCells (kInts.map fun z => Value.int .u32 z).toArray) }
theorem laidWorld_met (os : Os) (args : Array Value) : laidMetH Tryd.prog Rows.keyExactRow.laid ((laidWorld os).forCall (fun _ _ => 0) ⟨#[], args, []⟩).memory :=
  show laidMet Tryd.prog [("gleaner/gleanerref02.added", Rows.laid_gleaner_gleanerref02_added), ("gleaner/gleanerref02.begin", Rows.laid_gleaner_gleanerref02_begin), ("gleaner/sha.added", Rows.laid_gleaner_sha_added)] _ from laidMet_of_run' 8 (by kernel_rfl) (by kernel_rfl)
end Go.Proofs.YtjmjnecobaoofaaDoor
