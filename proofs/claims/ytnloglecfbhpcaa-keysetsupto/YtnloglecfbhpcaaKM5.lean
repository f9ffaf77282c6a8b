/- works. -/
import Derived.Test.YtnloglecfbhpcaaKM4
namespace Go.Proofs.Ytnloglecfbhpcaa
set_option linter.unusedVariables false
set_option linter.unusedSimpArgs false
open Go.RowKit

def one1 : List UInt8 := 1 :: List.replicate 31 0
def two1 : List UInt8 := 2 :: List.replicate 31 0
/-- A step that makes something, at a value and a world given. -/
theorem wpList_runW {ops : Array Oper} {rest : List Oper} {op : Oper} {a : Act} {w : World} {Q : Exit → Act → World → Prop} (v : Value) (w' : World) (hg : Region.wanted op (yielded ops a.tmps) = true) (hr : (execOp a.eval op).run Try.prog w = .ok (.value v) w') (h : wpList Try.prog ops Q rest (a.put op.dst v) w') : wpList Try.prog ops Q (op :: rest) a w := by
  unfold wpList
  rw [if_pos hg]
  refine .inl ?_
  unfold Oper.wp
  rw [hr]
  exact h
theorem run_bs {op : Oper} {ev : Operand → Value} {x : Operand} {w : World} (ho : op.op = .buildSlice 39 1 #[(0, x)]) (hx : ev x = keyV one1) : (execOp ev op).run Try.prog w = .ok (.value (.slice (some ⟨w.heap.size, 0, none⟩) 1 1)) (w.alloc (.cells (one1.map u8c).toArray 38)) := by
  simp only [execOp, ho]
  simp [hx]
  kernel_rfl
set_option maxRecDepth 20000 in
set_option maxHeartbeats 2000000 in
theorem works_any (w : World) : Calls Try.prog 4 #[] w fun e w' => e = .returned (.bool true) ∧ Below w.heap.size w w' := by
  have hzk := zero_key
  have HL1 : Hid (one1.length = 32) := hide rfl
  have HL2 : Hid (two1.length = 32) := hide rfl
  go_enter Try.func4, Try.ntmps4
  have hz32 : keyZ.size = 32 := rfl
  have hzn : ¬ keyZ = #[] := fun e => by rw [e] at hz32; cases hz32
  have hb1 : keyZ.setIfInBounds 0 (.int .u8 1) = (one1.map u8c).toArray := rfl
  have hb2 : keyZ.setIfInBounds 0 (.int .u8 2) = (two1.map u8c).toArray := rfl
  go_wp2_with (first | ((with_reducible refine wpList_put_key ?_ (.tmp 1) (.tmp 4) ?_ w.heap.size ?_ w ?_ ?_ one1 HL1.out ?_ ?_); rfl; rfl; rfl; rfl; rfl; rfl; intro w1 HK1 hb1') | ((with_reducible refine wpList_key (.tmp 1) w.heap.size one1 HK1.out ?_ ?_ ?_ ?_); rfl; rfl; rfl) | ((with_reducible refine wpList_runW (.slice (some ⟨w1.heap.size, 0, none⟩) 1 1) (w1.alloc (.cells (one1.map u8c).toArray 38)) ?_ (run_bs (x := .tmp 5) ?_ ?_) ?_); rfl; rfl; rfl))
  have hbA : Below w1.heap.size w1 (w1.alloc (.cells (one1.map u8c).toArray 38)) := (Below.refl _ _).alloc (Nat.le_refl _) _
  have HKA := hide (HK1.out.below hbA)
  have HBA := hide (hb1'.trans (hbA.mono hb1'.size))
  have hrow : KRow (w1.alloc (.cells (one1.map u8c).toArray 38)) (some ⟨w1.heap.size, 0, none⟩) [one1] := ⟨fun i hi => by
    obtain rfl : i = 0 := by simpa using hi
    exact ⟨_, _, rfl, range_blk (Blk.made w1 _ _)⟩, fun k hk => by
    obtain rfl : k = one1 := by simpa using hk
    exact HL1.out⟩
  refine (newSet_any _ _ 1 1 [one1] rfl hrow (by decide)).mono ?_
  rintro e w3 ⟨z, b, rfl, _, _, hS3, hb3⟩
  have HK3 := hide (HKA.out.below hb3)
  have HB3 := hide (HBA.out.trans (hb3.mono HBA.out.size))
  have hS3' : SetAt w3 z b [one1] := hS3
  have HS3 := hide hS3'
  have HL3 : Hid (Calls Try.prog 12 #[.pointer (some ⟨z, 0, none⟩)] w3 fun e w' => e = .returned (.int .i64 1) ∧ w' = w3) := hide (klen_any w3 z b [one1] hS3')
  have HH1 : Hid (∀ W, SetAt W z b [one1] → Calls Try.prog 13 #[.pointer (some ⟨z, 0, none⟩), keyV one1] W fun e w' => e = .returned (.bool true) ∧ Below W.heap.size W w') := hide (fun W h => has_any W z b [one1] one1 HL1.out h)
  have HH2 : Hid (∀ W, SetAt W z b [one1] → Calls Try.prog 13 #[.pointer (some ⟨z, 0, none⟩), .agg (two1.map u8c).toArray] W fun e w' => e = .returned (.bool false) ∧ Below W.heap.size W w') := hide (fun W h => has_any W z b [one1] two1 HL2.out h)
  clear hS3 hS3' hrow hbA HKA HBA HK1 hb1' hb3
  go_wp2_with fail
  refine HL3.out.mono ?_
  rintro e w4 ⟨rfl, rfl⟩
  go_wp2_with ((with_reducible refine wpList_key (.tmp 1) w.heap.size one1 HK3.out ?_ ?_ ?_ ?_); rfl; rfl; rfl)
  refine (HH1.out _ HS3.out).mono ?_
  rintro e w5 ⟨rfl, hb5⟩
  have HS5 := hide (HS3.out.below hb5)
  have HK5 := hide (HK3.out.below hb5)
  have HB5 := hide (HB3.out.trans (hb5.mono HB3.out.size))
  clear HS3 HK3 HB3 hb5 HL3
  go_wp2_with fail
  refine (HH2.out _ HS5.out).mono ?_
  rintro e w6 ⟨rfl, hb6⟩
  have HK6 := hide (HK5.out.below hb6)
  have HB6 := hide (HB5.out.trans (hb6.mono HB5.out.size))
  clear HS5 HK5 HB5 hb6 HH1 HH2
  go_wp2_with ((with_reducible refine wpList_key (.tmp 1) w.heap.size one1 HK6.out ?_ ?_ ?_ ?_); rfl; rfl; rfl)
  refine (hex_any one1 HL1.out _).mono ?_
  rintro e w7 ⟨rfl, hb7⟩
  have HB7 := hide (HB6.out.trans (hb7.mono HB6.out.size))
  have hhl : (hexOf one1).length = 64 := rfl
  have hat : (hexOf one1)[1]'(by decide) = 49 := rfl
  clear HK6 HB6 hb7
  go_wp2
  go_ret
  exact ⟨rfl, HB7.out⟩
end Go.Proofs.Ytnloglecfbhpcaa
