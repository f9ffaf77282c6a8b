/- Four rows side by side. -/
import Derived.Test.YtbohbkjkcpncfaaST4
namespace Go.Proofs.Ytbohbkjkcpncfaa
set_option linter.unusedVariables false
set_option linter.unusedSimpArgs false
open Go.RowKit

/-- A row: its first block and room, the row now, its bytes now. -/
structure Gr where
  g : Nat
  c : Nat
  v : Value
  zs : List UInt8
def Alg (B : Nat) (w : World) (m : Nat) (G : Gr) : Prop := Al B w G.g m G.c G.v G.zs
def Dsg (G H : Gr) : Prop := Dis G.g G.v H.g H.v
def Gr.now (G : Gr) (v : Value) (zs : List UInt8) : Gr := ⟨G.g, G.c, v, zs⟩
structure G4 (B : Nat) (w : World) (m : Nat) (W X Y Z : Gr) : Prop where
  aW : Alg B w m W
  aX : Alg B w m X
  aY : Alg B w m Y
  aZ : Alg B w m Z
  wx : Dsg W X
  wy : Dsg W Y
  wz : Dsg W Z
  xy : Dsg X Y
  xz : Dsg X Z
  yz : Dsg Y Z
theorem G4.below {B : Nat} {w w' : World} {m : Nat} {W X Y Z : Gr} (h : G4 B w m W X Y Z) (hb : Below w.heap.size w w') : G4 B w' m W X Y Z :=
  ⟨h.aW.below hb, h.aX.below hb, h.aY.below hb, h.aZ.below hb, h.wx, h.wy, h.wz, h.xy, h.xz, h.yz⟩
theorem Dsg.off {G H : Gr} (h : Dsg G H) {b : Nat} (hb : Foot G.g G.v b) : ¬ Foot H.g H.v b := h b hb
theorem G4.rot {B : Nat} {w : World} {m : Nat} {W X Y Z : Gr} (h : G4 B w m W X Y Z) : G4 B w m W Y Z X :=
  ⟨h.aW, h.aY, h.aZ, h.aX, h.wy, h.wz, h.wx, h.yz, Dis.symm h.xy, Dis.symm h.xz⟩
theorem G4.putX {B : Nat} {w w' : World} {m : Nat} {W X Y Z : Gr} {v' : Value} {y : UInt8} (h : G4 B w m W X Y Z) (ho : OwnsB w' B v' (X.zs ++ [y])) (hg : w.grownBy w' X.v.ownBlock) (hl : v'.ownBlock = X.v.ownBlock ∨ (v'.ownBlock = some w.heap.size ∧ w.grownBy w' none)) : G4 B w' m W (X.now v' (X.zs ++ [y])) Y Z := by
  have hl' : v'.ownBlock = X.v.ownBlock ∨ v'.ownBlock = some w.heap.size := hl.imp id And.left
  refine ⟨Al.grown h.aW hg (fun b e => (Dis.symm h.wx) b (.inr e)), Al.step h.aX ho hg hl, Al.grown h.aY hg (fun b e => h.xy b (.inr e)), Al.grown h.aZ hg (fun b e => h.xz b (.inr e)), ?_, h.wy, h.wz, ?_, ?_, h.yz⟩
  · exact Dis.symm (Dis.step (Dis.symm h.wx) hl' (fun b hb => Al.foot h.aW b hb))
  · exact Dis.step h.xy hl' (fun b hb => Al.foot h.aY b hb)
  · exact Dis.step h.xz hl' (fun b hb => Al.foot h.aZ b hb)
theorem Al.over {B : Nat} {w : World} {g m c : Nat} {zs : List UInt8} (h : Al B w g m c (.slice (some ⟨g, 0, none⟩) m c) zs) (k : Nat) (y : UInt8) : Al B (w.setCell ⟨g, k, none⟩ (u8c y)) g m c (.slice (some ⟨g, 0, none⟩) m c) (zs.set k y) := by
  have ho := OwnsB.set h.own k y
  have hle := h.le
  refine ⟨ho, ?_, by simpa using h.lt, by simpa using h.le, h.ne⟩
  obtain ⟨ao, c', e2, h1, h2, _⟩ := h.rd
  obtain ⟨_, _, rfl⟩ := (Value.slice.injEq ..).mp e2
  have hml : (zs.take m).length = m := by simp; omega
  exact Rd.owned_take ho (by simp; omega) (by omega) h2
theorem G4.overX {B : Nat} {w : World} {m : Nat} {W X Y Z : Gr} (h : G4 B w m W X Y Z) (hX : X.v = .slice (some ⟨X.g, 0, none⟩) m X.c) (k : Nat) (y : UInt8) : G4 B (w.setCell ⟨X.g, k, none⟩ (u8c y)) m W (X.now X.v (X.zs.set k y)) Y Z := by
  have hg := grownBy_set w X.g k (u8c y)
  refine ⟨Al.grown h.aW hg (fun b e => ?_), ?_, Al.grown h.aY hg (fun b e => ?_), Al.grown h.aZ hg (fun b e => ?_), h.wx, h.wy, h.wz, h.xy, h.xz, h.yz⟩
  · rw [← Option.some.inj e]; exact (Dis.symm h.wx) _ (.inl rfl)
  · have hx := h.aX
    unfold Alg at hx ⊢
    rw [hX] at hx
    have := Al.over hx k y
    rw [← hX] at this
    exact this
  · rw [← Option.some.inj e]; exact h.xy _ (.inl rfl)
  · rw [← Option.some.inj e]; exact h.xz _ (.inl rfl)
end Go.Proofs.Ytbohbkjkcpncfaa
