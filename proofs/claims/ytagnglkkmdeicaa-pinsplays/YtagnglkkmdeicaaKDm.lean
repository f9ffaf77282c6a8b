/- Keys: the zero one. -/
import Derived.Test.YtagnglkkmdeicaaKD0
import Derived.Test.YtagnglkkmdeicaaKP1
import Derived.Lib.BytesEntry
import Derived.StillTailTactics
namespace Go.Proofs.Ytagnglkkmdeicaa
set_option linter.unusedVariables false
set_option linter.unusedSimpArgs false
open Go.RowKit

theorem KeyAt.set {w : World} {z : Nat} {bs : List UInt8} (h : KeyAt w z bs) (a : Addr) (v : Value) (hne : z ≠ a.block) : KeyAt (w.setCell a v) z bs := ⟨h.1.setOther a v hne, h.2⟩
theorem zero_key (W : World) : (zeroValue 30).run Try.prog W = .ok (.agg keyZ) W := by kernel_rfl
end Go.Proofs.Ytagnglkkmdeicaa

/- The order of keys. -/
namespace Go.Proofs.Ytagnglkkmdeicaa
set_option linter.unusedVariables false
set_option linter.unusedSimpArgs false
open Go.RowKit

theorem load_key {P : Program} {w : World} {z : Nat} {a : List UInt8} (h : KeyAt w z a) (c : Nat) : (Extern.Bytes.bytesOf (.slice (some ⟨z, 0, none⟩) 32 c)).run P w = .ok ⟨a.toArray⟩ w := by
  have := Lib.run_loadBytesX (P := P) w (a.map fun u => (u.toNat : Int)) ⟨z, 0, none⟩ .empty (fun j x hj => by
    rw [Addr.add_mid, Nat.zero_add, h.1.cell]
    rw [List.getElem?_map] at hj
    obtain ⟨u, hu, rfl⟩ := Option.map_eq_some_iff.1 hj
    simp [hu, u8c])
  rw [List.length_map, h.2] at this
  show (Extern.Bytes.loadBytes ⟨z, 0, none⟩ 32 .empty).run P w = _
  rw [this]
  have e : Lib.bytesOf (a.map fun u => (u.toNat : Int)) = a := by
    have : ((fun n : Int => UInt8.ofNat n.toNat) ∘ fun u : UInt8 => (u.toNat : Int)) = id := by funext u; simp
    simp [Lib.bytesOf, this]
  rw [e]
  simp
theorem bCompare_any (w : World) (za zb ca cb : Nat) (a b : List UInt8) (ha : KeyAt w za a) (hb : KeyAt w zb b) : Calls Try.prog 51 #[.slice (some ⟨za, 0, none⟩) 32 ca, .slice (some ⟨zb, 0, none⟩) 32 cb] w fun e w' => e = .returned (.int .i64 (cmpK a b)) ∧ w' = w := by
  have hx : (Extern.BytealgCompare.compare #[.slice (some ⟨za, 0, none⟩) 32 ca, .slice (some ⟨zb, 0, none⟩) 32 cb]).run Try.prog w = .ok (.int .i64 (cmpK a b)) w := by
    change Sem.run Try.prog (do pure (goInt (Extern.BytealgCompare.cmp (← Extern.Bytes.bytesOf (.slice (some ⟨za, 0, none⟩) 32 ca)) (← Extern.Bytes.bytesOf (.slice (some ⟨zb, 0, none⟩) 32 cb))))) w = _
    simp only [Sem.run_bind, load_key ha, load_key hb, Sem.run_pure, Result.andThen]
    rw [Lib.cmp_eq]
    rfl
  go_enter Try.func51, Try.ntmps51
  go_wp2
  rw [run_callFunc_extern Try.func54 (by kernel_rfl) (by kernel_rfl) (by kernel_rfl) (e := Extern.BytealgCompare.compare) (by kernel_rfl), hx]
  simp only [Result.andThen]
  rw [Oper.upon_value]
  go_wp2
  go_ret
  exact ⟨rfl, rfl⟩
theorem equalKeys (a b : List UInt8) (ha : a.length = 32) (hb : b.length = 32) (w : World) : (Op.equalIn 10000 30 (.agg (a.map u8c).toArray) (.agg (b.map u8c).toArray)).run Try.prog w = .ok (a == b) w :=
  run_equalIn_bytes (P := Try.prog) w 9998 30 5 32 Try.underlying30 Try.underlying5 szU8 a b ha hb
theorem keysGuard (op : BinOp) (a b : List UInt8) (x y : Operand) (w : World) : (eqGuard op 30 x y (keyV a) (keyV b)).run Try.prog w = .ok () w := run_eqGuard_agg (P := Try.prog) w op 30 x y _ _ guardKey
theorem keysEql (a b : List UInt8) (ha : a.length = 32) (hb : b.length = 32) (w : World) : (binOp .eql 30 (keyV a) (keyV b)).run Try.prog w = .ok (.bool (a == b)) w := by
  unfold keyV
  rw [run_eql_struct, equalKeys a b ha hb]; rfl
theorem keysNeq (a b : List UInt8) (ha : a.length = 32) (hb : b.length = 32) (w : World) : (binOp .neq 30 (keyV a) (keyV b)).run Try.prog w = .ok (.bool (!(a == b))) w := by
  unfold keyV
  rw [run_neq_struct, equalKeys a b ha hb]; rfl
theorem slice_key (z : Nat) (W : World) : (Instr.sliceAt 30 (.pointer (some ⟨z, 0, none⟩)) none none none).run Try.prog W = .ok (.slice (some ⟨z, 0, none⟩) 32 32) W := by kernel_rfl
set_option maxRecDepth 20000 in
set_option maxHeartbeats 1000000 in
theorem compare_any (a b : List UInt8) (ha : a.length = 32) (hb : b.length = 32) (w : World) : Calls Try.prog 47 #[keyV a, keyV b] w fun e w' => e = .returned (.int .i64 (cmpK a b)) ∧ Below w.heap.size w w' := by
  have hg1 := keysGuard .eql a b
  have hn1 := keysEql a b ha hb
  have hsk := slice_key
  have HA : Hid (KeyAt ((w.alloc (.cells (a.map u8c).toArray 30)).alloc (.cells (b.map u8c).toArray 30)) w.heap.size a) := hide ⟨(Blk.made w _ _).alloc _, ha⟩
  have HB : Hid (KeyAt ((w.alloc (.cells (a.map u8c).toArray 30)).alloc (.cells (b.map u8c).toArray 30)) (w.heap.size + 1) b) := hide ⟨blk_made1 w _ _ _ _, hb⟩
  have HW : Hid (Below w.heap.size w ((w.alloc (.cells (a.map u8c).toArray 30)).alloc (.cells (b.map u8c).toArray 30))) := hide (((Below.refl _ _).alloc (Nat.le_refl _) _).alloc (by simp) _)
  by_cases heq : a = b
  · have HQ : Hid (cmpK a b = 0) := hide (by rw [heq]; exact cmpK_self b)
    have hab : (a == b) = true := by rw [heq]; exact beq_self_eq_true b
    rw [hab] at hn1
    clear hab heq
    show Calls Try.prog 47 #[.agg (a.map u8c).toArray, .agg (b.map u8c).toArray] w _
    go_enter Try.func47, Try.ntmps47
    go_wp2_with (first | ((with_reducible refine wpList_key (.tmp 2) w.heap.size a HA.out ?_ ?_ ?_ ?_); rfl; rfl; rfl) | ((with_reducible refine wpList_key (.tmp 3) (w.heap.size + 1) b HB.out ?_ ?_ ?_ ?_); rfl; rfl; rfl))
    go_ret
    exact ⟨by rw [HQ.out]; rfl, HW.out⟩
  · have hab : (a == b) = false := by simpa using heq
    rw [hab] at hn1
    clear hab heq
    show Calls Try.prog 47 #[.agg (a.map u8c).toArray, .agg (b.map u8c).toArray] w _
    go_enter Try.func47, Try.ntmps47
    go_wp2_with (first | ((with_reducible refine wpList_key (.tmp 2) w.heap.size a HA.out ?_ ?_ ?_ ?_); rfl; rfl; rfl) | ((with_reducible refine wpList_key (.tmp 3) (w.heap.size + 1) b HB.out ?_ ?_ ?_ ?_); rfl; rfl; rfl))
    have HC := hide (fun d os => bCompare_any (Sort.grow (redrawn ((w.alloc (.cells (a.map u8c).toArray 30)).alloc (.cells (b.map u8c).toArray 30)) d) os) w.heap.size (w.heap.size + 1) 32 32 a b (HA.out.below (below_regrown _ d os)) (HB.out.below (below_regrown _ d os)))
    refine wp_region_quiet_below (by kernel_rfl) (by kernel_rfl) ?_
    quiet_step (fail)
    quiet_step (fail)
    quiet_step (exact Calls.regrown_of ((HC.out _ _).mono fun e w' h => ⟨h.1, by rw [h.2]; exact Below.refl _ _⟩))
    quiet_step (fail)
    refine wpQuiet_nil ?_
    intro _ hw'
    obtain ⟨⟨dq, osq⟩, hw''⟩ := hw'
    subst hw''
    go_wp2
    go_ret
    exact ⟨rfl, HW.out.trans ((below_regrown _ dq osq).mono HW.out.size)⟩
end Go.Proofs.Ytagnglkkmdeicaa

/- Keys: loaded out of a row; two results. -/
namespace Go.Proofs.Ytagnglkkmdeicaa
set_option linter.unusedVariables false
set_option linter.unusedSimpArgs false
open Go.RowKit

theorem results_cell2 {fn : Func} {p q : Tmp} {ty : TypeId} (h : fn.results = #[.cell p ty, .tmp q]) (tmps : Array Value) (w : World) (a : Addr) (ha : tmps.getD p undef = .pointer (some a)) (v : Value) (hl : (loadVar ty a).run Try.prog w = .ok v w) :
    (results fn tmps).run Try.prog w = .ok (.tuple #[v, tmps.getD q undef]) w := by
  simp only [results, h]
  have ha' : tmps[p]?.getD undef = .pointer (some a) := by simpa using ha
  simp [Sem.run_bind, Result.andThen, ha', asAddr, hl]
theorem loadAt_key {w : World} {z o : Nat} {bs : List UInt8} (hl : bs.length = 32) (hc : w.rangeAt z o (bs.map u8c)) : (Instr.loadAt 30 (.pointer (some ⟨z, o, none⟩))).run Try.prog w = .ok (keyV bs) w := by
  have := run_loadVar_mid (P := Try.prog) w z o 30 (bs.map u8c) _ hc Try.underlying30 rfl (by rw [List.length_map, hl]; exact infoKey)
  simp only [Instr.loadAt, Instr.sureAddr, Sem.run_bind, Sem.run_pure, Result.andThen_ok]
  exact this
theorem wpList_load_keyAt {ops : Array Oper} {rest : List Oper} {op : Oper} {a : Act} {w : World} {Q : Exit → Act → World → Prop} (x : Operand)
    (z o : Nat) (bs : List UInt8) (hl : bs.length = 32) (hc : w.rangeAt z o (bs.map u8c)) (ho : op.op = .load 30 x) (hx : a.eval x = .pointer (some ⟨z, o, none⟩)) (hg : Region.wanted op (yielded ops a.tmps) = true)
    (h : wpList Try.prog ops Q rest (a.put op.dst (keyV bs)) w) : wpList Try.prog ops Q (op :: rest) a w :=
  wpList_val _ hg (run_load ho hx (loadAt_key hl hc)) h
end Go.Proofs.Ytagnglkkmdeicaa
