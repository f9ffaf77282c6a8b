/- FrameExact: packs: what its walk needs. -/
import Derived.Test.YtbnedlcldfpfdaaEX13t
namespace Go.Proofs.Ytbnedlcldfpfdaa
set_option linter.unusedVariables false
set_option linter.unusedSimpArgs false
open Go.RowKit Go.Sort

/-- The roomy list, the bytes from a to b turned up by one. -/
def upL (xs : List UInt8) (a b : Nat) : List UInt8 := (roomL xs).mapIdx (fun j x => if a ≤ j ∧ j < b then x + 1 else x)
theorem upL_len (xs : List UInt8) (a b : Nat) : (upL xs a b).length = xs.length + 70 := by simp [upL, roomL_len]
theorem upL_at (xs : List UInt8) (a b j : Nat) (h : j < xs.length + 70) : (upL xs a b)[j]? = some (if a ≤ j ∧ j < b then roomAt xs j + 1 else roomAt xs j) := by
  simp [upL, roomL_at xs j h]
theorem upL_none (xs : List UInt8) (a : Nat) : upL xs a a = roomL xs := by
  apply List.ext_getElem?
  intro j
  rcases Nat.lt_or_ge j (xs.length + 70) with h | h
  · rw [upL_at xs a a j h, if_neg (by omega), roomL_at xs j h]
  · rw [List.getElem?_eq_none (by rw [upL_len]; exact h), List.getElem?_eq_none (by rw [roomL_len]; exact h)]
theorem upL_up (xs : List UInt8) (k : Nat) (h : k < xs.length + 70) : upL xs 0 (k + 1) = (upL xs 0 k).set k (roomAt xs k + 1) := by
  apply List.ext_getElem?
  intro j
  rcases Nat.lt_or_ge j (xs.length + 70) with hj | hj
  · rw [upL_at xs _ _ j hj]
    by_cases e : k = j
    · subst e
      rw [List.getElem?_set_self (by rw [upL_len]; exact h), if_pos (by omega)]
    · rw [List.getElem?_set_ne e, upL_at xs _ _ j hj]
      congr 1
      by_cases h2 : j < k
      · rw [if_pos (by omega), if_pos (by omega)]
      · rw [if_neg (by omega), if_neg (by omega)]
  · rw [List.getElem?_eq_none (by rw [upL_len]; exact hj), List.getElem?_eq_none (by rw [List.length_set, upL_len]; exact hj)]
theorem upL_down (xs : List UInt8) (k b : Nat) (h : k < xs.length + 70) (hb : k < b) : upL xs (k + 1) b = (upL xs k b).set k (roomAt xs k) := by
  apply List.ext_getElem?
  intro j
  rcases Nat.lt_or_ge j (xs.length + 70) with hj | hj
  · rw [upL_at xs _ _ j hj]
    by_cases e : k = j
    · subst e
      rw [List.getElem?_set_self (by rw [upL_len]; exact h), if_neg (by omega)]
    · rw [List.getElem?_set_ne e, upL_at xs _ _ j hj]
      congr 1
      by_cases h2 : k ≤ j ∧ j < b
      · rw [if_pos (by omega), if_pos (by omega)]
      · rw [if_neg (by omega), if_neg (by omega)]
  · rw [List.getElem?_eq_none (by rw [upL_len]; exact hj), List.getElem?_eq_none (by rw [List.length_set, upL_len]; exact hj)]
theorem roomAt_in (xs : List UInt8) (i : Nat) (h : i < xs.length) : roomAt xs i = xs[i] := by unfold roomAt; rw [List.getElem?_eq_getElem h]; rfl
/-- The head of a block of bytes is read. -/
theorem RdA_head {W : World} {z : Nat} {zs ys : List UInt8} {t : TypeId} (hB : Blk W z (zs.map u8c).toArray t) (cap : Nat) (h : ∀ i (h : i < ys.length), zs[i]? = some ys[i]) (hc : ys.length ≤ cap) (hm : cap ≤ maxLen) : RdA W (.slice (some ⟨z, 0, none⟩) ys.length cap) ys := by
  refine .inl ⟨_, cap, rfl, hc, hm, .inr ⟨z, 0, rfl, fun i hi => ?_⟩⟩
  rw [Nat.zero_add, hB.cell]
  simp [h i hi]
theorem up_add (x : UInt8) : IntKind.u8.wrap ((x.toNat : Int) + 1) = ((x + 1).toNat : Int) := by
  rw [IntKind.wrap_u8', UInt8.toNat_add, show (1 : UInt8).toNat = 1 from rfl]; omega
theorem up_sub (x : UInt8) : IntKind.u8.wrap (((x + 1).toNat : Int) - 1) = (x.toNat : Int) := by
  have := x.toNat_lt
  rw [IntKind.wrap_u8', UInt8.toNat_add, show (1 : UInt8).toNat = 1 from rfl]; omega
theorem grownBy.step {w W W' : World} {row : Option Nat} (h : w.grownBy W row) (hb : Below W.heap.size W W') : w.grownBy W' row :=
  ⟨hb.os.trans h.os, hb.tape.trans h.tape, hb.output.trans h.output, Nat.le_trans h.size hb.size, fun k hk hne => (hb.block k (Nat.lt_of_lt_of_le hk h.size)).trans (h.block k hk hne)⟩
theorem grownBy.setZ {w W : World} {z : Nat} (h : w.grownBy W (some z)) (i : Nat) (v : Value) : w.grownBy (W.setCell ⟨z, i, none⟩ v) (some z) := by
  have hg := grownBy_set W z i v
  exact ⟨hg.os.trans h.os, hg.tape.trans h.tape, hg.output.trans h.output, Nat.le_trans h.size hg.size, fun k hk hne => (hg.block k (Nat.lt_of_lt_of_le hk h.size) hne).trans (h.block k hk hne)⟩
/-- A block that is again as it was. -/
theorem grownBy.back {w W : World} {z : Nat} {cs : Array Value} {t : TypeId} (h : w.grownBy W (some z)) (h1 : Blk w z cs t) (h2 : Blk W z cs t) : Below w.heap.size w W :=
  ⟨h.os, h.tape, h.output, h.size, fun k hk => by
    by_cases e : k = z
    · subst e; exact h2.trans h1.symm
    · exact h.block k hk (fun x => e (Option.some.inj x))⟩
end Go.Proofs.Ytbnedlcldfpfdaa
