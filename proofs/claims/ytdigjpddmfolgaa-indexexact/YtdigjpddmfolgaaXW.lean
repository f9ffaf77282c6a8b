/- A nil index. -/
import Derived.Test.YtdigjpddmfolgaaXV
namespace Go.Proofs.Ytdigjpddmfolgaa
set_option linter.unusedVariables false
set_option linter.unusedSimpArgs false
namespace TX
set_option maxRecDepth 100000
set_option maxHeartbeats 8000000
open Go.RowKit Go.Sort

theorem run_bdE0 {op : Oper} {ev : Operand → Value} (ho : op.op = .build ET #[]) (w : World) : (execOp ev op).run Try.prog w = .ok (.value (eV eZ)) w := by
  simp only [execOp, ho]
  kernel_rfl
theorem run_bdK0 {op : Oper} {ev : Operand → Value} (ho : op.op = .build KT #[]) (w : World) : (execOp ev op).run Try.prog w = .ok (.value (kV kZ)) w := by
  simp only [execOp, ho]
  kernel_rfl
section
variable {ops : Array Oper} {rest : List Oper} {op : Oper} {a : Act} {w : World} {Q : Exit → Act → World → Prop}
theorem wpList_bdE0 (hgd : op.guard = none) (ho : op.op = .build ET #[]) (h : wpList Try.prog ops Q rest (a.put op.dst (eV eZ)) w) : wpList Try.prog ops Q (op :: rest) a w := wpList_val _ hgd (run_bdE0 ho w) h
theorem wpList_bdK0 (hgd : op.guard = none) (ho : op.op = .build KT #[]) (h : wpList Try.prog ops Q rest (a.put op.dst (kV kZ)) w) : wpList Try.prog ops Q (op :: rest) a w := wpList_val _ hgd (run_bdK0 ho w) h
end
theorem none_nil (w : World) : Calls Try.prog 47 #[.pointer none] w fun e w' => e = .returned (.bool true) ∧ w' = w := by
  go_enter Try.func47, Try.ntmps47
  go_wp2
  go_ret
  exact ⟨rfl, rfl⟩
/-- What a reading of nothing leaves. -/
def NoC (w : World) (e : Ending) (w' : World) : Prop := e = .returned (.tuple #[eV eZ, .bool false]) ∧ Below w.heap.size w w'
theorem tdel_nil (w : World) (k : KY) : Calls Try.prog 39 #[.pointer none, kV k] w (NoC w) := by
  have hz0 := zero_E
  have HN := hide (fun W => none_nil W)
  go_enter Try.func39, Try.ntmps39
  go_upto_region 2 with fail
  refine name_world (fun W => Below w.heap.size w W ∧ EB W (w.heap.size + 1) eZ ∧ EB W (w.heap.size + 1 + 1) eZ) ⟨((below_alloc w _).alloc (by simp) _).alloc (by simp; omega) _, (EB.made' (by simp) eZ).alloc _, EB.made' (by simp) eZ⟩ ?_
  rintro W ⟨hB, hE, hE2⟩
  obtain ⟨kb, hkb⟩ : ∃ kb, kb = w.heap.size := ⟨_, rfl⟩
  rw [← hkb] at hE hE2 ⊢
  have HKB := hide hkb
  have HB := hide hB
  have HE := hide hE
  have HE2 : Hid (W.rangeAt (kb + 1 + 1) 0 (eC eZ)) := hide hE2.rng
  have HNW := hide (HN.out W)
  clear hB hE hE2 hkb hz0 HN
  go_wp2_with (first | (go_at_call 47; refine HNW.out.mono ?_; rintro e w' ⟨rfl, hw⟩; rw [hw]; clear hw) | ((with_reducible refine wpList_ldE ?_ (.tmp 6) ?_ (kb + 1 + 1) 0 ?_ eZ HE2.out ?_); rfl; rfl; rfl) | ((with_reducible refine wpList_stEB ?_ (.tmp 4) (.tmp 12) ?_ (kb + 1) ?_ eZ eZ ?_ HE.out ?_); rfl; rfl; rfl; rfl; intro w4 h4 hg4))
  refine ⟨rfl, _, results_cell_tmp (p := 4) (q := 5) (ty := ET) rfl _ _ ⟨kb + 1, 0, none⟩ rfl (eV eZ) (.bool false) rfl (loadE h4.out.rng), rfl, ?_⟩
  exact HB.out.trans (below_grownBy hg4.out (by have := HKB.out; omega) HB.out.size)
theorem put_nil (w : World) (k : KY) (v : EN) : Calls Try.prog 13 #[.pointer none, kV k, eV v] w fun e w' => e = .returned (.bool false) ∧ Below w.heap.size w w' := by
  go_enter Try.func13, Try.ntmps13
  go_upto_region 1 with fail
  refine name_world (fun W => Below w.heap.size w W ∧ KB W w.heap.size k) ⟨(below_alloc w _).alloc (by simp) _, (KB.made w k).alloc _⟩ ?_
  rintro W ⟨hB, hK⟩
  have HB := hide hB
  obtain ⟨kb, hkb⟩ : ∃ kb, kb = w.heap.size := ⟨_, rfl⟩
  rw [← hkb] at hK ⊢
  have HKR : Hid (W.rangeAt kb 0 (kC k)) := hide hK.rng
  have HS := hide (shard_nil W k)
  clear hB hK hkb
  go_wp2_with (first | ((with_reducible refine wpList_ldK ?_ (.tmp 4) ?_ kb 0 ?_ k HKR.out ?_); rfl; rfl; rfl) | (go_at_call 34; (with_reducible refine HS.out.mono ?_); rintro e w1 ⟨rfl, hb1⟩; have HB1 := hide hb1; clear hb1))
  go_ret
  exact ⟨rfl, HB.out.trans (HB1.out.mono HB.out.size)⟩
theorem del_nil (w : World) (k : KY) : Calls Try.prog 16 #[.pointer none, kV k] w (NoC w) := by
  have hz0 := zero_E
  go_enter Try.func16, Try.ntmps16
  go_upto_region 1 with fail
  refine name_world (fun W => Below w.heap.size w W ∧ KB W w.heap.size k ∧ EB W (w.heap.size + 1) eZ) ⟨(below_alloc w _).alloc (by simp) _, (KB.made w k).alloc _, EB.made' (by simp) eZ⟩ ?_
  rintro W ⟨hB, hK, hE⟩
  have HB := hide hB
  obtain ⟨kb, hkb⟩ : ∃ kb, kb = w.heap.size := ⟨_, rfl⟩
  rw [← hkb] at hK hE ⊢
  have HKB := hide hkb
  have HK : Hid (∀ d os, (grow (redrawn W d) os).rangeAt kb 0 (kC k)) := hide (range_regrown hK.rng)
  have HE := hide hE
  have HS : Hid (∀ d os, Calls Try.prog 34 #[.pointer none, kV k] (grow (redrawn W d) os) fun e w' => e = .returned (.pointer none) ∧ Below (grow (redrawn W d) os).heap.size (grow (redrawn W d) os) w') := hide (fun d os => shard_nil _ k)
  have HG : Hid (∀ d os, Calls Try.prog 39 #[.pointer none, kV k] (grow (redrawn W d) os) fun e w' => e = .returned (.tuple #[eV eZ, .bool false]) ∧ Below (grow (redrawn W d) os).heap.size (grow (redrawn W d) os) w') := hide (fun d os => tdel_nil _ k)
  clear hB hK hE hkb hz0
  refine wp_region_quiet_tail 7 (by kernel_rfl) (by kernel_rfl) ?_
  simp only [List.take_succ_cons, List.take_zero, List.drop_succ_cons, List.drop_zero]
  quiet_step (fail)
  refine wpQuiet_val (kV k) rfl (fun w0 hw => ?_) ?_
  · obtain ⟨p0, rfl⟩ := hw
    exact run_loadO rfl rfl (run_ldK (HK.out _ _))
  quiet_step (exact Calls.regrown_of (HS.out _ _))
  refine wpQuiet_val (kV k) rfl (fun w0 hw => ?_) ?_
  · obtain ⟨p0, rfl⟩ := hw
    exact run_loadO rfl rfl (run_ldK (HK.out _ _))
  quiet_step (exact Calls.regrown_of (HG.out _ _))
  iterate 2 quiet_step (fail)
  refine wpQuiet_nil ?_
  intro w1 hw1
  have hB1 : Below W.heap.size W w1 := below_of hw1
  have HB1 := hide hB1
  have HE1 := hide (HE.out.below hB1)
  clear hw1 hB1 HS HG HK HE
  go_wp2_with ((with_reducible refine wpList_stEB ?_ (.tmp 4) (.tmp 11) ?_ (kb + 1) ?_ eZ eZ ?_ HE1.out ?_); rfl; rfl; rfl; rfl; intro w4 h4 hg4)
  refine ⟨rfl, _, results_cell_tmp (p := 4) (q := 5) (ty := ET) rfl _ _ ⟨kb + 1, 0, none⟩ rfl (eV eZ) (.bool false) rfl (loadE h4.out.rng), rfl, ?_⟩
  have hs1 := HB.out.size
  have hs2 := HB1.out.size
  exact (HB.out.trans (HB1.out.mono hs1)).trans (below_grownBy hg4.out (by have := HKB.out; omega) (by omega))
theorem sizes_nil (w : World) : Calls Try.prog 25 #[.pointer none] w fun e w' => e = .returned (szV []) ∧ Below w.heap.size w w' := by
  have hz0 := zero_Z
  go_enter Try.func25, Try.ntmps25
  go_upto_region 2 with fail
  refine name_world (fun W => Below w.heap.size w W ∧ ZB W w.heap.size [] ∧ ZB W (w.heap.size + 1) []) ⟨(below_alloc w _).alloc (by simp) _, Blk.alloc (ZB.made' rfl []) _, ZB.made' (by simp) []⟩ ?_
  rintro W ⟨hB, hZ, hZ2⟩
  have HB := hide hB
  obtain ⟨kb, hkb⟩ : ∃ kb, kb = w.heap.size := ⟨_, rfl⟩
  rw [← hkb] at hZ hZ2 ⊢
  have HKB := hide hkb
  have HZ := hide hZ
  have HZ2 := hide hZ2
  clear hB hZ hZ2 hkb hz0
  go_wp2_with (first | ((with_reducible refine wpList_ldZ ?_ (.tmp 3) ?_ (kb + 1) ?_ [] (Nat.zero_le _) HZ2.out ?_); rfl; rfl; rfl) | ((with_reducible refine wpList_stZ ?_ (.tmp 2) (.tmp 8) ?_ kb ?_ [] [] (Nat.zero_le _) (Nat.zero_le _) ?_ HZ.out ?_); rfl; rfl; rfl; rfl; intro w4 h4 hg4))
  refine ⟨rfl, _, results_cell (p := 2) (ty := SZT) rfl _ _ ⟨kb, 0, none⟩ rfl (szV []) (loadZ (Nat.zero_le _) h4.out), rfl, ?_⟩
  exact HB.out.trans (below_grownBy hg4.out (by have := HKB.out; omega) HB.out.size)
theorem run_ixZ0 {op : Oper} {ev : Operand → Value} {x y : Operand} (ho : op.op = .index SZT x y) (j : Nat) (hx : ev x = szV []) (hy : ev y = .int .i64 (j : Int)) (hj : j < 16) (w : World) : (execOp ev op).run Try.prog w = .ok (.value (.int .i64 0)) w := by
  have hu := Try.underlying72
  have hs : ∀ w, (sizeOf 3).run Try.prog w = .ok 1 w := fun w => by kernel_rfl
  have h0 : (szA [])[j]? = some (.int .i64 0) := by
    unfold szA szC
    rw [List.getElem?_toArray, List.map_nil, List.nil_append, List.length_nil, Nat.sub_zero, List.getElem?_replicate, if_pos hj]
  have hx' : ev x = .agg (szA []) := hx
  clear hx
  generalize szA [] = cs at *
  simp only [execOp, ho, hx', hy]
  simp [Instr.index, run_underlying hu, asIntOf, hs, part, isAgg, hj, h0, Sem.run_bind, go_sem]
theorem wpList_ixZ0 {ops : Array Oper} {rest : List Oper} {op : Oper} {a : Act} {w : World} {Q : Exit → Act → World → Prop} (hgd : op.guard = none) (x y : Operand) (ho : op.op = .index SZT x y) (j : Nat) (hx : a.eval x = szV []) (hy : a.eval y = .int .i64 (j : Int)) (hj : j < 16)
    (h : wpList Try.prog ops Q rest (a.put op.dst (.int .i64 0)) w) : wpList Try.prog ops Q (op :: rest) a w :=
  wpList_val _ hgd (run_ixZ0 ho j hx hy hj w) h
theorem len_nil (w : World) : Calls Try.prog 12 #[.pointer none] w fun e w' => e = .returned (.int .i64 0) ∧ Below w.heap.size w w' := by
  have HS := hide (sizes_nil w)
  go_enter Try.func12, Try.ntmps12
  go_upto_region 3 with (go_at_call 25; (with_reducible refine HS.out.mono ?_); rintro e w1 ⟨rfl, hb⟩; have HB := hide hb; clear hb)
  go_loop [3, 8] (fun s t => ∃ (j : Nat), s = .int .i64 0 ∧ t = .int .i64 j ∧ j ≤ 16) (fun _ t => 16 - (intOf t).toNat)
  case atStart => exact ⟨0, rfl, rfl, by omega⟩
  case round =>
    obtain ⟨j, rfl, rfl, hj⟩ := hrel
    by_cases hlt : j < 16
    · have hji : (j : Int) < 16 := by omega
      go_upto_region 5 with (refine wpList_ixZ0 ?_ (.tmp 7) (.tmp 8) ?_ j ?_ ?_ hlt ?_; rfl; rfl; rfl; rfl)
      go_wp2
      go_round
      case rel => exact ⟨j + 1, rfl, by go_num, by omega⟩
      case measure => simp [intOf]; omega
    · obtain rfl : j = 16 := by omega
      go_wp2
      go_ret
      exact ⟨rfl, HB.out⟩
end TX
end Go.Proofs.Ytdigjpddmfolgaa
