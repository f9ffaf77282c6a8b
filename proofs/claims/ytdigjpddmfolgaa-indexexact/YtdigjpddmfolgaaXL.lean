/- The index's hash and shard. -/
import Derived.Test.YtdigjpddmfolgaaXK
import Derived.Test.YtdigjpddmfolgaaXM3
namespace Go.Proofs.Ytdigjpddmfolgaa
set_option linter.unusedVariables false
set_option linter.unusedSimpArgs false
namespace TX
set_option maxRecDepth 100000
set_option maxHeartbeats 8000000
open Go.RowKit Go.Sort

/-- A key's byte. -/
def bt (k : KY) (j : Nat) : Nat := (k.bs.getD j 0).toNat
theorem bt_lt (k : KY) (j : Nat) : bt k j < 256 := (k.bs.getD j 0).toNat_lt
/-- The hash behind j bytes. -/
def hst (k : KY) : Nat → Int
  | 0 => 14695981039346656037
  | j + 1 => IntKind.u64.wrap (bits .xor .u64 (hst k j) (bt k j) * 1099511628211)
theorem hst_in (k : KY) (j : Nat) : 0 ≤ hst k j ∧ hst k j < 18446744073709551616 := by
  cases j with
  | zero => exact ⟨by unfold hst; decide, by unfold hst; decide⟩
  | succ j =>
    unfold hst
    simp [IntKind.wrap, IntKind.bits, IntKind.signed]
    omega
/-- The index's hash. -/
def hK (k : KY) : Nat := (hst k 32).toNat ^^^ (hst k 32 / 4294967296).toNat
theorem hK_is (k : KY) : bits .xor .u64 (hst k 32) (hst k 32 / 4294967296) = (hK k : Int) := by
  obtain ⟨h1, h2⟩ := hst_in k 32
  rw [u64_xor _ _ h1 h2 (by omega) (by omega)]
  rfl
theorem hK_lt (k : KY) : hK k < 18446744073709551616 := by
  obtain ⟨h1, h2⟩ := hst_in k 32
  unfold hK
  exact Nat.xor_lt_two_pow (n := 64) (by omega) (by omega)
theorem szK (w : World) : (sizeOf 5).run Try.prog w = .ok 1 w := by kernel_rfl
theorem run_ixK {op : Oper} {ev : Operand → Value} {x y : Operand} (ho : op.op = .index KT x y) (k : KY) (j : Nat) (hx : ev x = kV k) (hy : ev y = .int .i64 (j : Int)) (hj : j < 32) (w : World) : (execOp ev op).run Try.prog w = .ok (.value (.int .u8 (bt k j : Int))) w := by
  have hu := uK
  have hs := szK
  simp only [execOp, ho, hx, hy]
  have h0 : (kA k)[j]? = some (.int .u8 (bt k j : Int)) := by
    have hl : j < k.bs.length := by rw [k.l32]; exact hj
    simp [kA, kC, hl, bt, u8c]
  simp [Instr.index, run_underlying hu, asIntOf, hs, part, isAgg, hj, h0, Sem.run_bind, go_sem]
theorem wpList_ixK {ops : Array Oper} {rest : List Oper} {op : Oper} {a : Act} {w : World} {Q : Exit → Act → World → Prop} (hgd : op.guard = none) (x y : Operand) (ho : op.op = .index KT x y) (k : KY) (j : Nat) (hx : a.eval x = kV k) (hy : a.eval y = .int .i64 (j : Int)) (hj : j < 32)
    (h : wpList Try.prog ops Q rest (a.put op.dst (.int .u8 (bt k j : Int))) w) : wpList Try.prog ops Q (op :: rest) a w :=
  wpList_val _ hgd (run_ixK ho k j hx hy hj w) h
theorem hash_any (w : World) (k : KY) : Calls Try.prog 20 #[kV k] w fun e w' => e = .returned (.int .u64 (hK k : Int)) ∧ Below w.heap.size w w' := by
  go_enter Try.func20, Try.ntmps20
  go_upto_region 2 with fail
  refine name_world (fun W => Below w.heap.size w W ∧ KB W w.heap.size k) ⟨below_alloc w _, KB.made w k⟩ ?_
  rintro W ⟨hB, hK⟩
  have HB := hide hB
  have HK : Hid (W.rangeAt w.heap.size 0 (kC k)) := hide hK.rng
  obtain ⟨kb, hkb⟩ : ∃ kb, kb = w.heap.size := ⟨_, rfl⟩
  rw [← hkb] at HK ⊢
  clear hB hK hkb
  go_upto_region 3 with ((with_reducible refine wpList_ldK ?_ (.tmp 1) ?_ kb 0 ?_ k HK.out ?_); rfl; rfl; rfl)
  go_loop [3, 7] (fun s t => ∃ j : Nat, s = .int .u64 (hst k j) ∧ t = .int .i64 j ∧ j ≤ 32) (fun _ t => 32 - (intOf t).toNat)
  case atStart => exact ⟨0, rfl, rfl, by omega⟩
  case round =>
    obtain ⟨j, rfl, rfl, hj⟩ := hrel
    by_cases hlt : j < 32
    · have hji : (j : Int) < 32 := by omega
      have hbt : IntKind.u64.wrap (bt k j : Int) = (bt k j : Int) := by have := bt_lt k j; simp [IntKind.wrap, IntKind.bits, IntKind.signed]; omega
      go_upto_region 5 with (refine wpList_ixK ?_ (.tmp 6) (.tmp 7) ?_ k j ?_ ?_ hlt ?_; rfl; rfl; rfl; rfl)
      go_wp2
      go_round
      case rel => exact ⟨j + 1, rfl, by go_num, by omega⟩
      case measure => simp [intOf]; omega
    · obtain rfl : j = 32 := by omega
      go_wp2
      rw [hK_is]
      go_ret
      exact ⟨rfl, HB.out⟩
abbrev HFN : Nat := 20
theorem hash_is : HsAt HFN hK := ⟨hash_any, hK_lt, enters_of Try.func20 (by kernel_rfl) rfl⟩
/-- A key's table. -/
def sh (k : KY) : Nat := bt k 0 % 16
theorem sh_lt (k : KY) : sh k < 16 := Nat.mod_lt _ (by decide)
theorem shard0_any (w : World) (k : KY) : Calls Try.prog 27 #[kV k] w fun e w' => e = .returned (.int .i64 (sh k : Int)) ∧ Below w.heap.size w w' := by
  go_enter Try.func27, Try.ntmps27
  go_upto_region 1 with fail
  refine name_world (fun W => Below w.heap.size w W ∧ KB W w.heap.size k) ⟨below_alloc w _, KB.made w k⟩ ?_
  rintro W ⟨hB, hK⟩
  have HB := hide hB
  have c0 : W.cell? ⟨w.heap.size, 0, none⟩ = some (.int .u8 (bt k 0 : Int)) := by
    have hl : 0 < k.bs.length := by rw [k.l32]; decide
    rw [Blk.cell hK]
    simp [kA, kC, hl, bt, u8c]
  obtain ⟨kb, hkb⟩ : ∃ kb, kb = w.heap.size := ⟨_, rfl⟩
  rw [← hkb] at c0 ⊢
  have hs : ((bt k 0 : Nat) : Int).tmod 16 = ((sh k : Nat) : Int) := by unfold sh; rw [show (16 : Int) = ((16 : Nat) : Int) from rfl, ← Int.ofNat_tmod]
  have hb := bt_lt k 0
  have hz := World.block_lt_of_cell? W _ c0
  clear hB hK hkb
  generalize bt k 0 = b at *
  go_wp2
  go_ret
  exact ⟨rfl, HB.out⟩
end TX
end Go.Proofs.Ytdigjpddmfolgaa
