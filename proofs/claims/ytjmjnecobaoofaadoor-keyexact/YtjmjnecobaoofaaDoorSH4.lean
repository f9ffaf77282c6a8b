/- A Hasher that has taken these bytes. -/
import Derived.Test.YtjmjnecobaoofaaDoorSH3
namespace Go.Proofs.YtjmjnecobaoofaaDoor
set_option linter.unusedVariables false
set_option linter.unusedSimpArgs false
open Go.RowKit

/-- What waits, and zeros. -/
def wait (bs : List UInt8) : List UInt8 := bs.drop (64 * (bs.length / 64)) ++ List.replicate (64 - bs.length % 64) 0
theorem wait_len (bs : List UInt8) : (wait bs).length = 64 := by
  simp only [wait, List.length_append, List.length_drop, List.length_replicate]; omega
/-- A Hasher in memory that has taken bs. -/
def HOf (w : World) (z : Nat) (t : TypeId) (pre post : List Value) (bs : List UInt8) : Prop :=
  ∃ s : S8, HB w z t pre post (st8 s) (decide (64 ≤ bs.length)) (wait bs) bs.length ∧ (64 ≤ bs.length → s = chain begin8 (bs.length / 64) bs)
theorem HOf.grown {w w' : World} {z : Nat} {t : TypeId} {pre post : List Value} {bs : List UInt8} {row : Option Nat} (h : HOf w z t pre post bs) (hg : w.grownBy w' row) (hne : some z ≠ row) : HOf w' z t pre post bs := by
  obtain ⟨s, h1, h2⟩ := h
  exact ⟨s, h1.grown hg hne, h2⟩
theorem HOf.below {w w' : World} {z : Nat} {t : TypeId} {pre post : List Value} {bs : List UInt8} (h : HOf w z t pre post bs) (hb : Below w.heap.size w w') : HOf w' z t pre post bs := h.grown (row := none) (grownBy_below hb) (by simp)
theorem HOf.lt {w : World} {z : Nat} {t : TypeId} {pre post : List Value} {bs : List UInt8} (h : HOf w z t pre post bs) : z < w.heap.size := by
  obtain ⟨s, h1, h2⟩ := h
  exact h1.blk.lt
/-- Full blocks that were taken, and the state behind them. -/
structure LS (s : S8) (g : Bool) (ds : List UInt8) : Prop where
  g : g = decide (64 ≤ ds.length)
  s : 64 ≤ ds.length → s = chain begin8 (ds.length / 64) ds
  m : ds.length % 64 = 0
theorem LS.ok {s : S8} {g : Bool} {ds : List UInt8} (h : LS s g ds) (hg : g = true) : s.ok := by
  have := h.g
  rw [hg] at this
  rw [h.s (by simpa using this.symm)]
  exact chain_ok begin8_ok _ _
theorem LS.step {s : S8} {g : Bool} {ds bb : List UInt8} (h : LS s g ds) (hb : bb.length = 64) : LS (blk (if g then s else begin8) bb) true (ds ++ bb) := by
  have hm := h.m
  refine ⟨by simp [hb], fun _ => ?_, by rw [List.length_append, hb]; omega⟩
  rw [List.length_append, hb, show (ds.length + 64) / 64 = ds.length / 64 + 1 by omega, chain_succ begin8 (ds.length / 64) ds bb (by omega) hb]
  congr 1
  cases hg : g with
  | true =>
    have := h.g
    rw [hg] at this
    rw [if_pos rfl]
    exact h.s (by simpa using this.symm)
  | false =>
    have := h.g
    rw [hg] at this
    have hl : ds = [] := List.eq_nil_of_length_eq_zero (by have : ¬ 64 ≤ ds.length := by simpa using this.symm
                                                           omega)
    subst hl
    rfl
theorem LS.start {s : S8} {bs : List UInt8} (h : 64 ≤ bs.length → s = chain begin8 (bs.length / 64) bs) : LS s (decide (64 ≤ bs.length)) (bs.take (64 * (bs.length / 64))) := by
  have hl : (bs.take (64 * (bs.length / 64))).length = 64 * (bs.length / 64) := by simp; omega
  refine ⟨?_, fun hx => ?_, by omega⟩
  · rw [hl]; congr 1; simp only [eq_iff_iff]; omega
  · rw [hl] at hx ⊢
    rw [h (by omega), show 64 * (bs.length / 64) / 64 = bs.length / 64 by omega, chain_take _ _ _ _ (Nat.le_refl _)]
/-- Behind the full blocks ds, ys waits. -/
theorem LS.fin {s : S8} {g : Bool} {ds ys : List UInt8} (h : LS s g ds) (hy : ys.length < 64) {w : World} {z : Nat} {t : TypeId} {pre post : List Value} (n : Nat) (hn : n = (ds ++ ys).length)
    (hH : HB w z t pre post (st8 s) g (ys ++ List.replicate (64 - ys.length) 0) n) : HOf w z t pre post (ds ++ ys) := by
  have hm := h.m
  have hl : (ds ++ ys).length = ds.length + ys.length := List.length_append
  refine ⟨s, ?_, fun hx => ?_⟩
  · have e1 : decide (64 ≤ (ds ++ ys).length) = g := by rw [h.g, hl]; congr 1; simp only [eq_iff_iff]; omega
    have e2 : wait (ds ++ ys) = ys ++ List.replicate (64 - ys.length) 0 := by
      unfold wait
      rw [hl, show 64 * ((ds.length + ys.length) / 64) = ds.length by omega, List.drop_left, show (ds.length + ys.length) % 64 = ys.length by omega]
    rw [e1, e2, ← hn]; exact hH
  · rw [hl] at hx ⊢
    rw [h.s (by omega), show (ds.length + ys.length) / 64 = ds.length / 64 by omega]
    have := chain_take begin8 (ds.length / 64) (ds ++ ys) ds.length (by omega)
    rw [List.take_left] at this
    exact this
theorem split_bs (bs : List UInt8) : bs = bs.take (64 * (bs.length / 64)) ++ bs.drop (64 * (bs.length / 64)) := (List.take_append_drop _ _).symm
theorem sliceCut (b o L c q : Nat) (h1 : q ≤ L) (h2 : L ≤ c) (i : Int) (hi : i = q) : ∃ o', (q < L → o' = o + q) ∧ ∀ W : World, (Instr.sliceAt 22 (.slice (some ⟨b, o, none⟩) L c) (some (.int .i64 i)) none none).run Tryd.prog W = .ok (.slice (some ⟨b, o', none⟩) (L - q) (c - q)) W := by
  subst hi
  have hs : ∀ W : World, (sizeOf (Tryd.prog.elem 22)).run Tryd.prog W = .ok 1 W := fun W => by kernel_rfl
  have hu : Tryd.prog.underlying 22 = some (.slice (Tryd.prog.elem 22)) := by kernel_rfl
  have key : ∀ W : World, (Instr.slice 22 (.slice (some ⟨b, o, none⟩) L c) (some (.int .i64 (q : Int))) none none).run Tryd.prog W = .ok (sliced (some ⟨b, o, none⟩) q L c 1) W := fun W => by
    rw [run_slice_l W 22 (some ⟨b, o, none⟩) L c hu .i64 q (by omega) (by omega), hs]
    simp [Result.andThen]
  refine ⟨if c = q then o else o + q, fun h => if_neg (by omega), fun W => ?_⟩
  rw [run_sliceAt_slice _ _ _ _ _ _ hu, key]; unfold sliced; split <;> simp_all [Addr.add_mid]
end Go.Proofs.YtjmjnecobaoofaaDoor
