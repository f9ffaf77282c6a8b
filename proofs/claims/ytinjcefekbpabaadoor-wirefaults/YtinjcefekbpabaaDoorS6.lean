/- errors.As: the walk. -/
import Derived.Test.YtinjcefekbpabaaDoorS5
namespace Go.Proofs.YtinjcefekbpabaaDoor
set_option linter.unusedVariables false
set_option linter.unusedSimpArgs false
open Go.RowKit Go.Extern.Stop Go.Stop Go.Extern

theorem lt_of_cell {w : World} {b o : Nat} {v : Value} (h : w.cell? ⟨b, o, none⟩ = some v) : b < w.heap.size := World.block_lt_of_cell? w _ h
def Hid (p : Prop) : Prop := p
/-- What errors.As leaves: the variable at g is set; all else that was there is as it was. -/
def AsC (w : World) (g : Nat) (n c : Int) (e : Ending) (w' : World) : Prop :=
  e = .returned (.bool true) ∧ w.grownBy w' (some g) ∧ w'.cell? ⟨g, 0, none⟩ = some (.int .i64 n) ∧ w'.cell? ⟨g, 1, none⟩ = some (.int .i64 c)
theorem as_end {w w6 : World} {g : Nat} {n c : Int} {o0 o1 : Value} (hb : Below w.heap.size w w6) (h0 : w6.cell? ⟨g, 0, none⟩ = some o0) (h1 : w6.cell? ⟨g, 1, none⟩ = some o1) (f0 : w6.frozen? ⟨g, 0, none⟩ = false) (f1 : w6.frozen? ⟨g, 1, none⟩ = false) :
    AsC w g n c (.returned (.bool true)) ((w6.setCell ⟨g, 0, none⟩ (.int .i64 n)).setCell ⟨g, 1, none⟩ (.int .i64 c)) := by
  refine ⟨rfl, ⟨hb.os, hb.tape, hb.output, by simpa using hb.size, fun k hk hne => ?_⟩, ?_, ?_⟩
  · have hne' : k ≠ g := fun e => hne (by rw [e])
    rw [heap_setCell_other _ _ _ _ hne', heap_setCell_other _ _ _ _ hne']
    exact hb.block k hk
  · rw [World.cell?_setCell_other _ _ _ _ (fun e => by injection e; omega)]
    exact World.cell?_setCell_same _ _ _ h0
  · exact World.cell?_setCell_same _ _ _ (by rw [World.cell?_setCell_other _ _ _ _ (fun e => by injection e; omega)]; exact h1)

set_option maxRecDepth 20000 in
set_option maxHeartbeats 8000000 in
theorem as_wrap (n c : Int) (g : Nat) (o0 o1 : Value) (w : World) (hg : w.cell? ⟨0, 0, none⟩ = some (.iface 53 (.agg #[.pointer (some ⟨4, 28, none⟩)]))) (ht0 : w.cell? ⟨g, 0, none⟩ = some o0) (ht1 : w.cell? ⟨g, 1, none⟩ = some o1) (hf0 : w.frozen? ⟨g, 0, none⟩ = false) (hf1 : w.frozen? ⟨g, 1, none⟩ = false) :
    Calls Tryd.prog 7 #[.iface 31 (.agg #[.iface 31 (.agg #[.iface 24 (.agg #[.int .i64 n, .int .i64 c])])]), .iface 33 (.pointer (some ⟨g, 0, none⟩))] w (AsC w g n c) := by
  have h11 := @run_callFunc_extern Tryd.prog 11 _ (fun args => ReflectliteValue.unpack (args.getD 0 (.tuple #[]))) Tryd.func11 (by kernel_rfl) (by kernel_rfl) (by kernel_rfl) (by kernel_rfl)
  have h12 := @run_callFunc_extern Tryd.prog 12 _ (ReflectliteValue.methodAny (ReflectliteValue.valueError "reflectlite.Value.Type" 0) (fun t _ _ _ => ReflectliteType.toType t)) Tryd.func12 (by kernel_rfl) (by kernel_rfl) (by kernel_rfl) (by kernel_rfl)
  have h13 := @run_callFunc_extern Tryd.prog 13 _ (ReflectliteValue.method (ReflectliteValue.valueError "reflectlite.Value.IsNil" 0) ReflectliteValue.isNil) Tryd.func13 (by kernel_rfl) (by kernel_rfl) (by kernel_rfl) (by kernel_rfl)
  have h46 := @run_callFunc_extern Tryd.prog 46 _ (ReflectliteType.abiMethod fun t => do pure (.int .u8 (← Rtype.kind t))) Tryd.func46 (by kernel_rfl) (by kernel_rfl) (by kernel_rfl) (by kernel_rfl)
  have h57 := @run_callFunc_extern Tryd.prog 57 _ (ReflectliteType.method ReflectliteType.elem) Tryd.func57 (by kernel_rfl) (by kernel_rfl) (by kernel_rfl) (by kernel_rfl)
  have h58 := @run_callFunc_extern Tryd.prog 58 _ (ReflectliteType.relation "Implements" ReflectliteType.implements_) Tryd.func58 (by kernel_rfl) (by kernel_rfl) (by kernel_rfl) (by kernel_rfl)
  have h15 := @run_callFunc_extern Tryd.prog 15 _ ReflectliteType.typeOf Tryd.func15 (by kernel_rfl) (by kernel_rfl) (by kernel_rfl) (by kernel_rfl)
  have h55 := @run_callFunc_extern Tryd.prog 55 _ (ReflectliteType.relation "AssignableTo" ReflectliteType.assignableTo) Tryd.func55 (by kernel_rfl) (by kernel_rfl) (by kernel_rfl) (by kernel_rfl)
  have h18 := @run_callFunc_extern Tryd.prog 18 _ (ReflectliteValue.method (ReflectliteValue.valueError "reflectlite.Value.Elem" 0) ReflectliteValue.elem) Tryd.func18 (by kernel_rfl) (by kernel_rfl) (by kernel_rfl) (by kernel_rfl)
  have h19 := @run_callFunc_extern Tryd.prog 19 _ ReflectliteValue.set Tryd.func19 (by kernel_rfl) (by kernel_rfl) (by kernel_rfl) (by kernel_rfl)
  have m1 := methodKind
  have m2 := methodElem
  have m3 := methodImplements
  have m4 := methodAssignableTo
  have m5 := methodUnwrapW
  have t1 := typeOf31
  have t2 := typeOf24
  have t3 := assignable31
  have t4 := assignable24
  have t5 := valueOf33
  have t6 := valueOf24
  have t7 := type33
  have t8 := kind33
  have t9 := kind24
  have u1 := elem33
  have u2 := implements24
  have u3 := noAsW
  have u4 := hasUnwrapW
  have hlt : 0 < w.heap.size := lt_of_cell hg
  have hgl := lt_of_cell ht0
  have n13 := isNil33 ⟨w.heap.size, 0, none⟩ ⟨g, 0, none⟩ ((w.alloc (.cells #[.pointer (some ⟨g, 0, none⟩)] 33)).alloc (.cells #[.pointer (some ⟨4, 33, none⟩), .pointer (some ⟨w.heap.size, 0, none⟩), .int .u64 150] 40)) (by simp)
  have hg2 : ((w.alloc (.cells #[.pointer (some ⟨g, 0, none⟩)] 33)).alloc (.cells #[.pointer (some ⟨4, 33, none⟩), .pointer (some ⟨w.heap.size, 0, none⟩), .int .u64 150] 40)).cell? ⟨0, 0, none⟩ = some (.iface 53 (.agg #[.pointer (some ⟨4, 28, none⟩)])) := by
    rw [World.cell?_alloc_lt _ _ ⟨0, 0, none⟩ (by simp), World.cell?_alloc_lt _ _ ⟨0, 0, none⟩ hlt]; exact hg
  have hb5 : Below (w.alloc (.cells #[.pointer (some ⟨g, 0, none⟩)] 33)).heap.size (w.alloc (.cells #[.pointer (some ⟨g, 0, none⟩)] 33)) (((((w.alloc (.cells #[.pointer (some ⟨g, 0, none⟩)] 33)).alloc (.cells #[.pointer (some ⟨4, 33, none⟩), .pointer (some ⟨w.heap.size, 0, none⟩), .int .u64 150] 40)).alloc (.cells #[.pointer (some ⟨4, 33, none⟩), .pointer (some ⟨w.heap.size, 0, none⟩), .int .u64 150] 40)).alloc (.cells #[.iface 31 (.agg #[.iface 24 (.agg #[.int .i64 n, .int .i64 c])])] 31)).alloc (.cells #[.iface 24 (.agg #[.int .i64 n, .int .i64 c])] 31)) := ((((Below.refl _ _).alloc (Nat.le_refl _) _).alloc (by simp) _).alloc (by simp) _).alloc (by simp) _
  have hb6 : Below w.heap.size w ((((((w.alloc (.cells #[.pointer (some ⟨g, 0, none⟩)] 33)).alloc (.cells #[.pointer (some ⟨4, 33, none⟩), .pointer (some ⟨w.heap.size, 0, none⟩), .int .u64 150] 40)).alloc (.cells #[.pointer (some ⟨4, 33, none⟩), .pointer (some ⟨w.heap.size, 0, none⟩), .int .u64 150] 40)).alloc (.cells #[.iface 31 (.agg #[.iface 24 (.agg #[.int .i64 n, .int .i64 c])])] 31)).alloc (.cells #[.iface 24 (.agg #[.int .i64 n, .int .i64 c])] 31)).alloc (.cells #[.int .i64 n, .int .i64 c] 24)) := ((((((Below.refl _ _).alloc (Nat.le_refl _) _).alloc (by simp) _).alloc (by simp; omega) _).alloc (by simp; omega) _).alloc (by simp; omega) _).alloc (by simp; omega) _
  have el := elemV33 ⟨w.heap.size, 0, none⟩ ⟨g, 0, none⟩ (((((w.alloc (.cells #[.pointer (some ⟨g, 0, none⟩)] 33)).alloc (.cells #[.pointer (some ⟨4, 33, none⟩), .pointer (some ⟨w.heap.size, 0, none⟩), .int .u64 150] 40)).alloc (.cells #[.pointer (some ⟨4, 33, none⟩), .pointer (some ⟨w.heap.size, 0, none⟩), .int .u64 150] 40)).alloc (.cells #[.iface 31 (.agg #[.iface 24 (.agg #[.int .i64 n, .int .i64 c])])] 31)).alloc (.cells #[.iface 24 (.agg #[.int .i64 n, .int .i64 c])] 31)) ((hb5.cell (p := ⟨w.heap.size, 0, none⟩) (by simp)).trans (by simp))
  have k0 := (hb6.cell (p := ⟨g, 0, none⟩) hgl).trans ht0
  have k1 := (hb6.cell (p := ⟨g, 1, none⟩) hgl).trans ht1
  have fz : ∀ o, ((((((w.alloc (.cells #[.pointer (some ⟨g, 0, none⟩)] 33)).alloc (.cells #[.pointer (some ⟨4, 33, none⟩), .pointer (some ⟨w.heap.size, 0, none⟩), .int .u64 150] 40)).alloc (.cells #[.pointer (some ⟨4, 33, none⟩), .pointer (some ⟨w.heap.size, 0, none⟩), .int .u64 150] 40)).alloc (.cells #[.iface 31 (.agg #[.iface 24 (.agg #[.int .i64 n, .int .i64 c])])] 31)).alloc (.cells #[.iface 24 (.agg #[.int .i64 n, .int .i64 c])] 31)).alloc (.cells #[.int .i64 n, .int .i64 c] 24)).frozen? ⟨g, o, none⟩ = w.frozen? ⟨g, o, none⟩ := fun o => by unfold World.frozen?; simp only; rw [hb6.block g hgl]
  have st := set24 g (w.heap.size + 1 + 1 + 1 + 1 + 1) n c o0 o1 ((((((w.alloc (.cells #[.pointer (some ⟨g, 0, none⟩)] 33)).alloc (.cells #[.pointer (some ⟨4, 33, none⟩), .pointer (some ⟨w.heap.size, 0, none⟩), .int .u64 150] 40)).alloc (.cells #[.pointer (some ⟨4, 33, none⟩), .pointer (some ⟨w.heap.size, 0, none⟩), .int .u64 150] 40)).alloc (.cells #[.iface 31 (.agg #[.iface 24 (.agg #[.int .i64 n, .int .i64 c])])] 31)).alloc (.cells #[.iface 24 (.agg #[.int .i64 n, .int .i64 c])] 31)).alloc (.cells #[.int .i64 n, .int .i64 c] 24))
    (World.cell?_alloc_at _ _ _ _ (by simp)) (World.cell?_alloc_at _ _ _ _ (by simp)) k0 k1 ((fz 0).trans hf0) ((fz 1).trans hf1)
  have HE : Hid (AsC w g n c (.returned (.bool true)) ((((((((w.alloc (.cells #[.pointer (some ⟨g, 0, none⟩)] 33)).alloc (.cells #[.pointer (some ⟨4, 33, none⟩), .pointer (some ⟨w.heap.size, 0, none⟩), .int .u64 150] 40)).alloc (.cells #[.pointer (some ⟨4, 33, none⟩), .pointer (some ⟨w.heap.size, 0, none⟩), .int .u64 150] 40)).alloc (.cells #[.iface 31 (.agg #[.iface 24 (.agg #[.int .i64 n, .int .i64 c])])] 31)).alloc (.cells #[.iface 24 (.agg #[.int .i64 n, .int .i64 c])] 31)).alloc (.cells #[.int .i64 n, .int .i64 c] 24)).setCell ⟨g, 0, none⟩ (.int .i64 n)).setCell ⟨g, 1, none⟩ (.int .i64 c))) := as_end hb6 k0 k1 ((fz 0).trans hf0) ((fz 1).trans hf1)
  clear hb5 hb6 k0 k1 fz
  go_enter Tryd.func7, Tryd.ntmps7
  go_wp2
  refine wp_loop_rounds 3 ?_
  rw [rounds_succ]
  go_wp2
  rw [rounds_succ]
  go_wp2
  rw [rounds_succ]
  clear n13 hg2
  go_wp2
  go_ret
  exact HE
end Go.Proofs.YtinjcefekbpabaaDoor
