/- Two Decs that stand alike. -/
import Derived.Test.YtinjcefekbpababU1
import Derived.Test.YtinjcefekbpababO3
namespace Go.Proofs.Ytinjcefekbpabab
set_option linter.unusedVariables false
set_option linter.unusedSimpArgs false
open Go.RowKit

/-- The two Decs of a run: the blocks that they lie in are the call's own, apart from each other. -/
structure Two (w : World) (z : Nat) (sv : Value) (y : Nat) (rv : Value) (bs : List UInt8) (s r : S) : Prop where
  d : DecSt w z sv bs s
  r : RefSt w y rv bs r
  zy : z ≠ y
  sy : ∀ b, sv = .slice (some ⟨b, 0, none⟩) bs.length bs.length → b ≠ y
  rz : ∀ b cap, rv = .slice (some ⟨b, 0, none⟩) bs.length cap → b ≠ z
theorem Two.below {w w' : World} {z y : Nat} {sv rv : Value} {bs : List UInt8} {s r : S} (h : Two w z sv y rv bs s r) (hb : Below w.heap.size w w') : Two w' z sv y rv bs s r := ⟨h.d.below hb, h.r.below hb, h.zy, h.sy, h.rz⟩
theorem Two.stepD {w w' : World} {z y : Nat} {sv rv : Value} {bs : List UInt8} {s r s' : S} (h : Two w z sv y rv bs s r) (hd : DecSt w' z sv bs s') (hg : w.grownBy w' (some z)) : Two w' z sv y rv bs s' r :=
  ⟨hd, h.r.grown hg (fun e => h.zy (Option.some.inj e).symm) (fun b cap e1 e => h.rz b cap e1 (Option.some.inj e)), h.zy, h.sy, h.rz⟩
theorem Two.stepR {w w' : World} {z y : Nat} {sv rv : Value} {bs : List UInt8} {s r r' : S} (h : Two w z sv y rv bs s r) (hd : RefSt w' y rv bs r') (hg : w.grownBy w' (some y)) : Two w' z sv y rv bs s r' :=
  ⟨h.d.grown hg (fun e => h.zy (Option.some.inj e)) (fun b e1 e => h.sy b e1 (Option.some.inj e)), hd, h.zy, h.sy, h.rz⟩
theorem Two.set {w : World} {z y g i : Nat} {v : Value} {sv rv : Value} {bs : List UInt8} {s r : S} (h : Two w z sv y rv bs s r) (hz : z ≠ g) (hy : y ≠ g) (hs : ∀ b, sv = .slice (some ⟨b, 0, none⟩) bs.length bs.length → b ≠ g) (hr : ∀ b cap, rv = .slice (some ⟨b, 0, none⟩) bs.length cap → b ≠ g) : Two (w.setCell ⟨g, i, none⟩ v) z sv y rv bs s r :=
  ⟨h.d.grown (grownBy_set w g i v) (fun e => hz (Option.some.inj e)) (fun b e1 e => hs b e1 (Option.some.inj e)), h.r.grown (grownBy_set w g i v) (fun e => hy (Option.some.inj e)) (fun b cap e1 e => hr b cap e1 (Option.some.inj e)), h.zy, h.sy, h.rz⟩

theorem Two.grown {w w' : World} {z y : Nat} {sv rv : Value} {bs : List UInt8} {s r : S} {row : Option Nat} (h : Two w z sv y rv bs s r) (hg : w.grownBy w' row) (hz : some z ≠ row) (hy : some y ≠ row) (hs : ∀ b, sv = .slice (some ⟨b, 0, none⟩) bs.length bs.length → some b ≠ row) (hr : ∀ b cap, rv = .slice (some ⟨b, 0, none⟩) bs.length cap → some b ≠ row) : Two w' z sv y rv bs s r :=
  ⟨h.d.grown hg hz hs, h.r.grown hg hy hr, h.zy, h.sy, h.rz⟩
end Go.Proofs.Ytinjcefekbpabab
