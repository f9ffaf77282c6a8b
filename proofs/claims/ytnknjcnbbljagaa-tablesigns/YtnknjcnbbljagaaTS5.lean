/- TableSigns: small laws for its walk. -/
import Derived.Test.YtnknjcnbbljagaaTS4
import Derived.Test.YtnknjcnbbljagaaRQ3
import Derived.Test.YtnknjcnbbljagaaTN6
namespace Go.Proofs.Ytnknjcnbbljagaa
set_option linter.unusedVariables false
set_option linter.unusedSimpArgs false
namespace GG
set_option maxRecDepth 100000
open Go.RowKit
attribute [local go_sem] Oper.semAt_some

theorem i64_and31 (n : Int) : bits .and .i64 n 31 = n % 32 := by
  have h31 : (BitVec.ofInt 64 31).toNat = 2 ^ 5 - 1 := by decide
  have key : (BitVec.ofInt 64 n &&& BitVec.ofInt 64 31).toNat = (n % ((2 ^ 64 : Nat) : Int)).toNat % 2 ^ 5 := by
    rw [BitVec.toNat_and, BitVec.toNat_ofInt, h31, Nat.and_two_pow_sub_one_eq_mod]
  show IntKind.i64.wrap ((BitVec.ofInt 64 n &&& BitVec.ofInt 64 31).toNat : Nat) = n % 32
  rw [key, IntKind.wrap_i64]
  omega
theorem and31 (k : Int) : ∃ q : Nat, q < 32 ∧ bits .and .i64 k 31 = (q : Int) := ⟨(k % 32).toNat, by omega, by rw [i64_and31]; omega⟩
theorem allNotNil (b : Nat) (W : World) : (binOp .eql 62 (.func (.func 73) #[] #[.pointer (some ⟨b, 0, none⟩)]) .nilFunc).run Try.prog W = .ok (.bool false) W := by kernel_rfl
theorem load_boolT {w : World} {b o : Nat} {v : Value} (h : w.cell? ⟨b, o, none⟩ = some v) : (loadVar 4 ⟨b, o, none⟩).run Try.prog w = .ok v w := by
  have hu := Try.underlying4
  simp [go_sem, h, hu]
theorem leave1c {fn : Func} {t : Tmp} {b : Nat} (hres : fn.results = #[.cell t 4]) {tmps : Array Value} {W w : World} {D : Nat} (e1 : W.heap[D]? = some (.deferred (some []))) (hv : tmps.getD t undef = .pointer (some ⟨b, 0, none⟩)) (hk : Blk W b #[.bool true] 4) (hB : Below w.heap.size w W) (l1 : w.heap.size ≤ D) :
    bodyPostM Fence.wide 5 Try.prog fn (TrueC w) .ret { tmps := tmps, defers := [{ target := .collected D, args := #[] }] } W := by
  have hn : b ≠ D := fun e => by
    have h0 : W.heap[b]? = some _ := hk
    rw [e, e1] at h0
    cases h0
  refine ⟨by simp, .inl ⟨_, _, rfl, run_takeDeferred e1, ?_⟩⟩
  have hk3 : Blk (W.putObj D (.deferred none)) b #[.bool true] 4 := (World.putObj_heap_other hn).trans hk
  refine ⟨_, results_cell (p := t) (ty := 4) hres _ _ ⟨b, 0, none⟩ hv (.bool true) (load_boolT (hk3.cell 0)), ?_⟩
  exact ⟨rfl, below_put hB D _ l1⟩
section
variable {B z gy ge r hy he : Nat} {T T' : TB} {P : Nat}
theorem Half.bel {w W : World} (h : Half w B z gy ge r hy he T T' P W) (hB : B ≤ w.heap.size) : Below B w W := by
  obtain ⟨_, f1⟩ := h.st
  exact ⟨f1.os, f1.tape, f1.output, f1.size, fun k hk => f1.block k (by omega) (fun e => by have := h.one.lo k (.inl e); omega)⟩
/-- The tables as they begin. -/
theorem oneS_new {w4 w5 : World} {N g h : Nat} (ht : TbAt w4 z g g (hvF FS 0 0) newT) (hz : N + 1 ≤ z) (hg : N + 1 ≤ g) (hN : N + 1 ≤ w4.heap.size) (hr : RR.TbR w5 r h h 1 (-1) RR.newR) (hr1 : w4.heap.size ≤ r) (hr2 : w4.heap.size ≤ h) (hb : Below w4.heap.size w4 w5) : OneS w5 (N + 1) z g g r h h newT 0 :=
  ⟨ht.below hb, by rw [im_new]; exact hr, inv_new, by
    rintro k (e | e)
    · rcases e with rfl | rfl | rfl <;> omega
    · rcases e with rfl | rfl | rfl <;> omega⟩
end
/-- A world gets a name, and of it only what is wanted. -/
theorem five : (4617315517961601024 : Nat) = flB 5 := rfl
theorem five_dm : Dm 4617315517961601024 := .inr ⟨5, by decide, rfl⟩
theorem five_val : valG 4617315517961601024 = 5 := val_fl 5 (by decide)
theorem five_tag : tagG 4617315517961601024 = 0 := tag_fl 5 (by decide)
end GG
end Go.Proofs.Ytnknjcnbbljagaa
