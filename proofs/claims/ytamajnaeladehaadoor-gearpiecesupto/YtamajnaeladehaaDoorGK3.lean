/- Three rows of ints that lie apart; readings that stay; bytes written over. -/
import Derived.Test.YtamajnaeladehaaDoorGK1
import Derived.Test.YtamajnaeladehaaDoorGB4
namespace Go.Proofs.YtamajnaeladehaaDoor
set_option linter.unusedVariables false
set_option linter.unusedSimpArgs false
open Go.RowKit

def Dis (x y : Value) : Prop := ∀ g, x.ownBlock = some g → y.ownBlock ≠ some g
theorem Dis.symm {x y : Value} (h : Dis x y) : Dis y x := fun g e1 e2 => h g e2 e1
structure Tri (w : World) (B : Nat) (p q s : Value) (xs ys zs : List Int) : Prop where
  hp : OwnsI w B p xs
  hq : OwnsI w B q ys
  hs : OwnsI w B s zs
  pq : Dis p q
  ps : Dis p s
  qs : Dis q s
theorem Tri.rot {w : World} {B : Nat} {p q s : Value} {xs ys zs : List Int} (h : Tri w B p q s xs ys zs) : Tri w B q s p ys zs xs := ⟨h.hq, h.hs, h.hp, h.qs, h.pq.symm, h.ps.symm⟩
theorem Tri.below {w w' : World} {B : Nat} {p q s : Value} {xs ys zs : List Int} (h : Tri w B p q s xs ys zs) (hb : Below w.heap.size w w') : Tri w' B p q s xs ys zs := ⟨h.hp.below hb, h.hq.below hb, h.hs.below hb, h.pq, h.ps, h.qs⟩
theorem Tri.row {w w' : World} {B : Nat} {p q s p' : Value} {xs ys zs xs' : List Int} (h : Tri w B p q s xs ys zs) (ho : OwnsI w' B p' xs') (hg : w.grownBy w' p.ownBlock) (hx : p'.ownBlock = p.ownBlock ∨ p'.ownBlock = some w.heap.size) : Tri w' B p' q s xs' ys zs := by
  have hn : ∀ (y : Value) (l : List Int), OwnsI w B y l → Dis p y → Dis p' y := fun y l hy hd g e1 e2 => by
    rcases hx with hx | hx
    · exact hd g (hx ▸ e1) e2
    · rw [hx] at e1
      have := (owns_lt hy g e2).2
      have := Option.some.inj e1
      omega
  exact ⟨ho, h.hq.grown hg (fun g e1 e2 => h.pq g e2.symm e1), h.hs.grown hg (fun g e1 e2 => h.ps g e2.symm e1), hn q ys h.hq h.pq, hn s zs h.hs h.ps, h.qs⟩
/-- Three readings. -/
def Reads (w : World) (a b c : Value) (A B C : List Int) : Prop := RdI w a A ∧ RdI w b B ∧ RdI w c C
theorem Reads.below {w w' : World} {a b c : Value} {A B C : List Int} (h : Reads w a b c A B C) (hb : Below w.heap.size w w') : Reads w' a b c A B C := ⟨h.1.below hb, h.2.1.below hb, h.2.2.below hb⟩
theorem Reads.keep {w w' : World} {a b c : Value} {A B C : List Int} {n : Nat} (h : Reads w a b c A B C) (hk : ∀ u A, RdI w u A → A.length ≤ n → RdI w' u A) (h1 : A.length ≤ n) (h2 : B.length ≤ n) (h3 : C.length ≤ n) : Reads w' a b c A B C := ⟨hk _ _ h.1 h1, hk _ _ h.2.1 h2, hk _ _ h.2.2 h3⟩
theorem RdI.under {w w' : World} {B : Nat} {v : Value} {xs : List Int} (h : RdI w v xs) (hb : Below B w w') (hB : ∀ g, v.ownBlock = some g → g < B) : RdI w' v xs := by
  obtain ⟨ao, c, rfl, hl, hf⟩ := h
  refine ⟨ao, c, rfl, hl, fun h0 => ?_⟩
  obtain ⟨g, rfl, hc⟩ := hf h0
  refine ⟨g, rfl, fun k hk => ?_⟩
  rw [← hc k hk]
  unfold World.cell?
  simp only
  rw [hb.block g (hB g rfl)]
theorem ownsB_under {w w' : World} {base B g n cap : Nat} {xs : List UInt8} (h : OwnsB w base (.slice (some ⟨g, 0, none⟩) n cap) xs) (hb : Below B w w') (hB : g < B) : OwnsB w' base (.slice (some ⟨g, 0, none⟩) n cap) xs := by
  obtain ⟨h0, ⟨h1, _⟩ | ⟨g', cap', cur, e, hb', hh, hr⟩⟩ := h
  · cases h1
  · cases e
    exact ⟨h0, .inr ⟨g, cap, cur, rfl, hb', (hb.block g hB).trans hh, hr⟩⟩
def flip (x : UInt8) : UInt8 := x ^^^ 65
theorem flip_int : ∀ m : Nat, m < 256 → bits .xor .u8 (m : Int) 65 = ((flip (UInt8.ofNat m)).toNat : Int) := of_decide_eq_true (by kernel_rfl)
theorem flip_int' (x : UInt8) : bits .xor .u8 (x.toNat : Int) 65 = ((flip x).toNat : Int) := by
  have := flip_int x.toNat x.toNat_lt
  rwa [UInt8.ofNat_toNat] at this
/-- The bytes lent, k of them turned. -/
def turnL (X : List UInt8) (k : Nat) : List UInt8 := (X.map flip).take k ++ (padL X 80).drop k
theorem turnL_len (X : List UInt8) (k : Nat) (h : k ≤ X.length) : (turnL X k).length = X.length + 80 := by
  unfold turnL; rw [List.length_append, List.length_take, List.length_drop, padL_len, List.length_map]; omega
theorem turnL_zero (X : List UInt8) : turnL X 0 = padL X 80 := by simp [turnL]
theorem turnL_at (X : List UInt8) (k : Nat) (h : k < X.length) : (turnL X k)[k]'(by rw [turnL_len X k (by omega)]; omega) = X[k] := by
  unfold turnL
  have hl : ((X.map flip).take k).length = k := by rw [List.length_take, List.length_map]; omega
  rw [List.getElem_append_right (by omega)]
  simp only [hl, Nat.sub_self, List.getElem_drop, Nat.add_zero]
  exact padL_low X 80 k h
theorem turnL_set (X : List UInt8) (k : Nat) (h : k < X.length) : (turnL X k).set k (flip X[k]) = turnL X (k + 1) := by
  unfold turnL
  have hl : ((X.map flip).take k).length = k := by rw [List.length_take, List.length_map]; omega
  have hp : k < (padL X 80).length := by rw [padL_len]; omega
  rw [List.set_append_right _ _ (by omega), hl, Nat.sub_self, List.drop_eq_getElem_cons hp, List.set_cons_zero, List.take_succ_eq_append_getElem (by simpa using h), List.append_assoc]
  simp
theorem turnL_all (X : List UInt8) : (turnL X X.length).take X.length = X.map flip := by
  unfold turnL
  rw [List.take_append_of_le_length (by simp), List.take_take, Nat.min_self, List.take_of_length_le (by simp)]
theorem padL_take (X : List UInt8) (k : Nat) : (padL X k).take X.length = X := by unfold padL; rw [List.take_left]
theorem grownBy_refl (w : World) (r : Option Nat) : w.grownBy w r := ⟨rfl, rfl, rfl, Nat.le_refl _, fun _ _ _ => rfl⟩
theorem below_grown' {B : Nat} {a b : World} {r : Option Nat} (h : a.grownBy b r) (hr : ∀ z, r = some z → B ≤ z) (hB : B ≤ a.heap.size) : Below B a b :=
  ⟨h.os, h.tape, h.output, h.size, fun i hi => h.block i (by omega) (fun e => by have := hr i e.symm; omega)⟩
end Go.Proofs.YtamajnaeladehaaDoor
