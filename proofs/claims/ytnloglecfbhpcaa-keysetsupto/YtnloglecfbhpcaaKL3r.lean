/- KeySets: the drawn regions. -/
import Derived.Test.YtnloglecfbhpcaaKL2
namespace Go.Proofs.Ytnloglecfbhpcaa
set_option linter.unusedVariables false
set_option linter.unusedSimpArgs false
open Go.RowKit Go.Sort Go.Shelf
set_option maxRecDepth 100000
set_option maxHeartbeats 8000000

theorem wanted_no {ops : Array Oper} {o : Oper} {a : Act} {j : Nat} {b : Bool} {t : Tmp} (hg : o.guard = some (j, b)) (hd : (ops[j]?).bind (·.dst) = some t) (he : a.eval (.tmp t) = .bool (!b)) (hz : t < a.tmps.size) : Region.wanted o (yielded ops a.tmps) = false := wanted_noQ hg hd he hz
abbrev PAT : TypeId := 26
abbrev RAT : TypeId := 28
abbrev NAT : TypeId := 29
abbrev XPT : TypeId := 25
abbrev QPT : TypeId := 27
theorem fldW (z i o : Nat) (hk : ∀ w, (Instr.fieldAt WT (.pointer (some ⟨z, 0, none⟩)) i).run Try.prog w = .ok (.pointer (some ⟨z, o, none⟩)) w) {op : Oper} {ev : Operand → Value} {x : Operand} (ho : op.op = .fieldAddr WT x i) (hx : ev x = .pointer (some ⟨z, 0, none⟩)) (w : World) : (execOp ev op).run Try.prog w = .ok (.value (.pointer (some ⟨z, o, none⟩))) w := by
  simp only [execOp, ho, hx, Sem.run_bind, hk, Result.andThen_ok, Sem.run_pure]
theorem fldS (z i o : Nat) (hk : ∀ w, (Instr.fieldAt SPT (.pointer (some ⟨z, 0, none⟩)) i).run Try.prog w = .ok (.pointer (some ⟨z, o, none⟩)) w) {op : Oper} {ev : Operand → Value} {x : Operand} (ho : op.op = .fieldAddr SPT x i) (hx : ev x = .pointer (some ⟨z, 0, none⟩)) (w : World) : (execOp ev op).run Try.prog w = .ok (.value (.pointer (some ⟨z, o, none⟩))) w := by
  simp only [execOp, ho, hx, Sem.run_bind, hk, Result.andThen_ok, Sem.run_pure]
theorem fW0 (z : Nat) (w : World) : (Instr.fieldAt WT (.pointer (some ⟨z, 0, none⟩)) 0).run Try.prog w = .ok (.pointer (some ⟨z, 0, none⟩)) w := by kernel_rfl
theorem fW1 (z : Nat) (w : World) : (Instr.fieldAt WT (.pointer (some ⟨z, 0, none⟩)) 1).run Try.prog w = .ok (.pointer (some ⟨z, 3, none⟩)) w := by kernel_rfl
theorem fW2 (z : Nat) (w : World) : (Instr.fieldAt WT (.pointer (some ⟨z, 0, none⟩)) 2).run Try.prog w = .ok (.pointer (some ⟨z, 6, none⟩)) w := by kernel_rfl
theorem fW3 (z : Nat) (w : World) : (Instr.fieldAt WT (.pointer (some ⟨z, 0, none⟩)) 3).run Try.prog w = .ok (.pointer (some ⟨z, 9, none⟩)) w := by kernel_rfl
theorem fS3 (z : Nat) (w : World) : (Instr.fieldAt SPT (.pointer (some ⟨z, 0, none⟩)) 3).run Try.prog w = .ok (.pointer (some ⟨z, 3, none⟩)) w := by kernel_rfl
theorem fS5 (z : Nat) (w : World) : (Instr.fieldAt SPT (.pointer (some ⟨z, 0, none⟩)) 5).run Try.prog w = .ok (.pointer (some ⟨z, 36, none⟩)) w := by kernel_rfl
theorem szXP (w : World) : (sizeOf XPT).run Try.prog w = .ok 1 w := by kernel_rfl
theorem szQP (w : World) : (sizeOf QPT).run Try.prog w = .ok 1 w := by kernel_rfl
theorem szBT (w : World) : (sizeOf BT).run Try.prog w = .ok 1 w := by kernel_rfl
theorem run_ixP {op : Oper} {ev : Operand → Value} {x y : Operand} {g j : Nat} (ho : op.op = .indexAddr PAT x y) (hx : ev x = .pointer (some ⟨g, 0, none⟩)) (hy : ev y = .int .i64 (j : Int)) (h : j < 3) (w : World) : (execOp ev op).run Try.prog w = .ok (.value (.pointer (some ⟨g, j, none⟩))) w := by
  have hu := Try.underlying26
  have hs := szXP
  have h1 : (j : Int) < 3 := by omega
  simp only [execOp, ho, hx, hy]
  simp [go_sem, hu, hs, h1]
theorem run_ixR {op : Oper} {ev : Operand → Value} {x y : Operand} {g j : Nat} (ho : op.op = .indexAddr RAT x y) (hx : ev x = .pointer (some ⟨g, 3, none⟩)) (hy : ev y = .int .i64 (j : Int)) (h : j < 3) (w : World) : (execOp ev op).run Try.prog w = .ok (.value (.pointer (some ⟨g, 3 + j, none⟩))) w := by
  have hu := Try.underlying28
  have hs := szQP
  have h1 : (j : Int) < 3 := by omega
  simp only [execOp, ho, hx, hy]
  simp [go_sem, hu, hs, h1]
theorem run_ixN {op : Oper} {ev : Operand → Value} {x y : Operand} {g j : Nat} (ho : op.op = .indexAddr NAT x y) (hx : ev x = .pointer (some ⟨g, 6, none⟩)) (hy : ev y = .int .i64 (j : Int)) (h : j < 3) (w : World) : (execOp ev op).run Try.prog w = .ok (.value (.pointer (some ⟨g, 6 + j, none⟩))) w := by
  have hu := Try.underlying29
  have hs := szBT
  have h1 : (j : Int) < 3 := by omega
  simp only [execOp, ho, hx, hy]
  simp [go_sem, hu, hs, h1]
theorem load_xp {w : World} {b o : Nat} {v : Value} (h : w.cell? ⟨b, o, none⟩ = some v) : (Instr.loadAt XPT (.pointer (some ⟨b, o, none⟩))).run Try.prog w = .ok v w := by
  have hu := Try.underlying25
  simp [go_sem, h, hu]
theorem load_qp {w : World} {b o : Nat} {v : Value} (h : w.cell? ⟨b, o, none⟩ = some v) : (Instr.loadAt QPT (.pointer (some ⟨b, o, none⟩))).run Try.prog w = .ok v w := by
  have hu := Try.underlying27
  simp [go_sem, h, hu]
theorem load_bt {w : World} {b o : Nat} {v : Value} (h : w.cell? ⟨b, o, none⟩ = some v) : (Instr.loadAt BT (.pointer (some ⟨b, o, none⟩))).run Try.prog w = .ok v w := by
  have hu := Try.underlying4
  simp [go_sem, h, hu]
theorem load_kl {w : World} {b o : Nat} {v : Value} (h : w.cell? ⟨b, o, none⟩ = some v) : (Instr.loadAt KLT (.pointer (some ⟨b, o, none⟩))).run Try.prog w = .ok v w := by
  have hu := Try.underlying39
  simp [go_sem, h, hu]
theorem load_kp {w : World} {b o : Nat} {v : Value} (h : w.cell? ⟨b, o, none⟩ = some v) : (Instr.loadAt KPLT (.pointer (some ⟨b, o, none⟩))).run Try.prog w = .ok v w := by
  have hu := Try.underlying30
  simp [go_sem, h, hu]
theorem run_stX {op : Oper} {ev : Operand → Value} {x y : Operand} {b o : Nat} {q : Option Addr} {v : Value} {w : World} (ho : op.op = .store XPT x y) (hx : ev x = .pointer (some ⟨b, o, none⟩)) (hy : ev y = .pointer q) (hc : w.cell? ⟨b, o, none⟩ = some v) (hf : w.frozen? ⟨b, o, none⟩ = false) : (execOp ev op).run Try.prog w = .ok .skip (w.setCell ⟨b, o, none⟩ (.pointer q)) := by
  have hu := Try.underlying25
  simp only [execOp, ho, hx, hy]
  simp [go_sem, hu, hc, hf]
theorem run_stQ {op : Oper} {ev : Operand → Value} {x y : Operand} {b o : Nat} {q : Option Addr} {v : Value} {w : World} (ho : op.op = .store QPT x y) (hx : ev x = .pointer (some ⟨b, o, none⟩)) (hy : ev y = .pointer q) (hc : w.cell? ⟨b, o, none⟩ = some v) (hf : w.frozen? ⟨b, o, none⟩ = false) : (execOp ev op).run Try.prog w = .ok .skip (w.setCell ⟨b, o, none⟩ (.pointer q)) := by
  have hu := Try.underlying27
  simp only [execOp, ho, hx, hy]
  simp [go_sem, hu, hc, hf]
theorem run_stB {op : Oper} {ev : Operand → Value} {x y : Operand} {b o : Nat} {q : Bool} {v : Value} {w : World} (ho : op.op = .store BT x y) (hx : ev x = .pointer (some ⟨b, o, none⟩)) (hy : ev y = .bool q) (hc : w.cell? ⟨b, o, none⟩ = some v) (hf : w.frozen? ⟨b, o, none⟩ = false) : (execOp ev op).run Try.prog w = .ok .skip (w.setCell ⟨b, o, none⟩ (.bool q)) := by
  have hu := Try.underlying4
  simp only [execOp, ho, hx, hy]
  simp [go_sem, hu, hc, hf]
theorem run_stKV {op : Oper} {ev : Operand → Value} {x y : Operand} {b o n c : Nat} {ao : Option Addr} {v : Value} {w : World} (ho : op.op = .store KPLT x y) (hx : ev x = .pointer (some ⟨b, o, none⟩)) (hy : ev y = .slice ao n c) (hc : w.cell? ⟨b, o, none⟩ = some v) (hf : w.frozen? ⟨b, o, none⟩ = false) : (execOp ev op).run Try.prog w = .ok .skip (w.setCell ⟨b, o, none⟩ (.slice ao n c)) := by
  have hu := Try.underlying30
  simp only [execOp, ho, hx, hy]
  simp [go_sem, hu, hc, hf]
theorem run_bdKP {op : Oper} {ev : Operand → Value} {x y : Operand} (ho : op.op = .build KPT #[(0, x), (1, y)]) {lb : Nat} {ao : Option Addr} {n c : Nat} (hx : ev x = riF lb) (hy : ev y = .slice ao n c) (w : World) : (execOp ev op).run Try.prog w = .ok (.value (.agg #[riF lb, .slice ao n c])) w := by
  simp only [execOp, ho]
  simp only [List.map_toArray, List.map_cons, List.map_nil, hx, hy]
  kernel_rfl
theorem run_bsKP {op : Oper} {ev : Operand → Value} {x : Operand} {lb : Nat} {ao : Option Addr} {n c : Nat} {w : World} (ho : op.op = .buildSlice KPLT 1 #[(0, x)]) (hx : ev x = .agg #[riF lb, .slice ao n c]) : (execOp ev op).run Try.prog w = .ok (.value (.slice (some ⟨w.heap.size, 0, none⟩) 1 1)) (w.alloc (.cells #[riF lb, .slice ao n c] KPT)) := by
  simp only [execOp, ho]
  simp only [List.map_toArray, List.map_cons, List.map_nil, hx]
  kernel_rfl
theorem run_appKP {op : Oper} {ev : Operand → Value} {x y : Operand} {u v r : Value} {w w' : World} (ho : op.op = .call { callee := .builtin .append, args := #[x, y], argTypes := #[KPLT, KPLT] }) (hx : ev x = u) (hy : ev y = v) (hty : op.type = KPLT) (h : (Builtin.append_ #[KPLT, KPLT] KPLT #[u, v]).run Try.prog w = .ok r w') : (execOp ev op).run Try.prog w = .ok (.value r) w' := by
  unfold execOp
  simp only [ho, resolve, invoke, builtin, Sem.run_bind, Sem.run_pure, Result.andThen_ok, List.map_toArray, List.map_cons, List.map_nil, hx, hy, hty, h]
theorem run_notB {op : Oper} {ev : Operand → Value} {x : Operand} {b : Bool} (ho : op.op = .unOp .not 4 x) (hx : ev x = .bool b) (w : World) : (execOp ev op).run Try.prog w = .ok (.value (.bool (!b))) w := by
  simp only [execOp, ho, hx]
  cases b <;> kernel_rfl
theorem run_eqBB {op : Oper} {ev : Operand → Value} {x y : Operand} {u : TypeId} {b : Bool} (ho : op.op = .binOp .eql 4 x y u) (hx : ev x = .bool b) (hy : ev y = .bool b) (w : World) : (execOp ev op).run Try.prog w = .ok (.value (.bool true)) w := by
  simp only [execOp, ho, hx, hy]
  cases b <;> simp [go_sem, Try.underlying4]
theorem run_add1 {op : Oper} {ev : Operand → Value} {x : Operand} {u : TypeId} {j : Nat} (ho : op.op = .binOp .add 3 x (.const (.int .i64 1)) u) (hx : ev x = .int .i64 (j : Int)) (hc : ev (.const (.int .i64 1)) = .int .i64 1) (hj : j < 3) (w : World) : (execOp ev op).run Try.prog w = .ok (.value (.int .i64 ((j : Int) + 1))) w := by
  have h0 : j = 0 ∨ j = 1 ∨ j = 2 := by omega
  simp only [execOp, ho, hx, hc]
  rcases h0 with rfl | rfl | rfl <;> simp [go_sem, Try.underlying3] <;> rfl
theorem run_nil {op : Oper} {ev : Operand → Value} {x : Operand} {z o : Nat} (ho : op.op = .nilCheck x) (hx : ev x = .pointer (some ⟨z, o, none⟩)) (w : World) : (execOp ev op).run Try.prog w = .ok (.value (.pointer (some ⟨z, o, none⟩))) w := by
  simp only [execOp, ho, hx]
  rfl
theorem fldQ {z : Nat} {op : Oper} {ev : Operand → Value} {x : Operand} (ho : op.op = .fieldAddr RST x 0) (hx : ev x = .pointer (some ⟨z, 0, none⟩)) (w : World) : (execOp ev op).run Try.prog w = .ok (.value (.pointer (some ⟨z, 0, none⟩))) w := by
  have hk : ∀ w, (Instr.fieldAt RST (.pointer (some ⟨z, 0, none⟩)) 0).run Try.prog w = .ok (.pointer (some ⟨z, 0, none⟩)) w := fun w => by kernel_rfl
  simp only [execOp, ho, hx, Sem.run_bind, hk, Result.andThen_ok, Sem.run_pure]
def pt_0 (s : String) : Oper := { dst := some 9, op := Op.move (Operand.tmp 0), type := 24, pos := s, after := #[], guard := none }
def pt_1 (s : String) : Oper := { dst := some 10, op := Op.move (Operand.tmp 1), type := 3, pos := s, after := #[], guard := none }
def pt_2 (s : String) : Oper := { dst := some 11, op := Op.move (Operand.tmp 0), type := 24, pos := s, after := #[{ on := 11, ground := Ground.gcOnly Departure.lateStores }], guard := none }
def pt_3 (s : String) : Oper := { dst := some 12, op := Op.move (Operand.tmp 1), type := 3, pos := s, after := #[{ on := 11, ground := Ground.gcOnly Departure.lateStores }], guard := none }
def pt_4 (s : String) : Oper := { dst := some 13, op := Op.move (Operand.tmp 0), type := 24, pos := s, after := #[{ on := 15, ground := Ground.gcOnly Departure.lateStores }], guard := none }
def pt_5 (s : String) : Oper := { dst := some 14, op := Op.move (Operand.tmp 1), type := 3, pos := s, after := #[{ on := 15, ground := Ground.gcOnly Departure.lateStores }], guard := none }
def pt_6 (s : String) : Oper := { dst := some 15, op := Op.move (Operand.tmp 2), type := 25, pos := s, after := #[], guard := none }
def pt_7 (s : String) : Oper := { dst := some 16, op := Op.move (Operand.tmp 3), type := 27, pos := s, after := #[{ on := 11, ground := Ground.gcOnly Departure.lateStores }], guard := none }
def pt_8 (s : String) : Oper := { dst := some 17, op := Op.nilCheck (Operand.tmp 9), type := 0, pos := s, after := #[{ on := 0, ground := Ground.data }], guard := none }
def pt_9 (s : String) : Oper := { dst := some 18, op := Op.fieldAddr 32 (Operand.tmp 17) 0, type := 0, pos := s, after := #[{ on := 8, ground := Ground.data }], guard := none }
def pt_10 (s : String) : Oper := { dst := some 19, op := Op.indexAddr 26 (Operand.tmp 18) (Operand.tmp 10), type := 0, pos := s, after := #[{ on := 9, ground := Ground.data }, { on := 1, ground := Ground.data }, { on := 0, ground := Ground.phase }, { on := 1, ground := Ground.phase }, { on := 2, ground := Ground.textOnly Departure.lateStores }, { on := 3, ground := Ground.textOnly Departure.lateStores }, { on := 4, ground := Ground.textOnly Departure.lateStores }, { on := 5, ground := Ground.textOnly Departure.lateStores }, { on := 6, ground := Ground.phase }, { on := 7, ground := Ground.textOnly Departure.lateStores }], guard := none }
def pt_11 (s : String) : Oper := { dst := none, op := Op.store 25 (Operand.tmp 19) (Operand.tmp 15), type := 0, pos := s, after := #[{ on := 10, ground := Ground.data }, { on := 6, ground := Ground.data }, { on := 0, ground := Ground.phase }, { on := 1, ground := Ground.phase }, { on := 2, ground := Ground.textOnly Departure.lateStores }, { on := 3, ground := Ground.textOnly Departure.lateStores }, { on := 4, ground := Ground.textOnly Departure.lateStores }, { on := 5, ground := Ground.textOnly Departure.lateStores }, { on := 6, ground := Ground.phase }, { on := 7, ground := Ground.textOnly Departure.lateStores }], guard := none }
def pt_12 (s : String) : Oper := { dst := some 20, op := Op.nilCheck (Operand.tmp 11), type := 0, pos := s, after := #[{ on := 2, ground := Ground.data }], guard := none }
def pt_13 (s : String) : Oper := { dst := some 21, op := Op.fieldAddr 32 (Operand.tmp 20) 1, type := 0, pos := s, after := #[{ on := 12, ground := Ground.data }], guard := none }
def pt_14 (s : String) : Oper := { dst := some 22, op := Op.indexAddr 28 (Operand.tmp 21) (Operand.tmp 12), type := 0, pos := s, after := #[{ on := 13, ground := Ground.data }, { on := 3, ground := Ground.data }, { on := 0, ground := Ground.phase }, { on := 1, ground := Ground.phase }, { on := 2, ground := Ground.phase }, { on := 3, ground := Ground.phase }, { on := 4, ground := Ground.textOnly Departure.lateStores }, { on := 5, ground := Ground.textOnly Departure.lateStores }, { on := 6, ground := Ground.phase }, { on := 7, ground := Ground.phase }, { on := 8, ground := Ground.phase }, { on := 9, ground := Ground.phase }, { on := 10, ground := Ground.phase }, { on := 11, ground := Ground.phase }], guard := none }
def pt_15 (s : String) : Oper := { dst := none, op := Op.store 27 (Operand.tmp 22) (Operand.tmp 16), type := 0, pos := s, after := #[{ on := 14, ground := Ground.data }, { on := 7, ground := Ground.data }, { on := 11, ground := Ground.chain }, { on := 0, ground := Ground.phase }, { on := 1, ground := Ground.phase }, { on := 2, ground := Ground.phase }, { on := 3, ground := Ground.phase }, { on := 4, ground := Ground.textOnly Departure.lateStores }, { on := 5, ground := Ground.textOnly Departure.lateStores }, { on := 6, ground := Ground.phase }, { on := 7, ground := Ground.phase }, { on := 8, ground := Ground.phase }, { on := 9, ground := Ground.phase }, { on := 10, ground := Ground.phase }, { on := 11, ground := Ground.phase }], guard := none }
def pt_16 (s : String) : Oper := { dst := some 23, op := Op.nilCheck (Operand.tmp 13), type := 0, pos := s, after := #[{ on := 4, ground := Ground.data }], guard := none }
def pt_17 (s : String) : Oper := { dst := some 24, op := Op.fieldAddr 32 (Operand.tmp 23) 2, type := 0, pos := s, after := #[{ on := 16, ground := Ground.data }], guard := none }
def pt_18 (s : String) : Oper := { dst := some 25, op := Op.indexAddr 29 (Operand.tmp 24) (Operand.tmp 14), type := 0, pos := s, after := #[{ on := 17, ground := Ground.data }, { on := 5, ground := Ground.data }, { on := 0, ground := Ground.phase }, { on := 1, ground := Ground.phase }, { on := 2, ground := Ground.phase }, { on := 3, ground := Ground.phase }, { on := 4, ground := Ground.phase }, { on := 5, ground := Ground.phase }, { on := 6, ground := Ground.phase }, { on := 7, ground := Ground.phase }, { on := 8, ground := Ground.phase }, { on := 9, ground := Ground.phase }, { on := 10, ground := Ground.phase }, { on := 11, ground := Ground.phase }, { on := 12, ground := Ground.phase }, { on := 13, ground := Ground.phase }, { on := 14, ground := Ground.phase }, { on := 15, ground := Ground.phase }], guard := none }
def pt_19 (s : String) : Oper := { dst := none, op := Op.store 4 (Operand.tmp 25) (Operand.const (Value.bool false)), type := 0, pos := s, after := #[{ on := 18, ground := Ground.data }, { on := 15, ground := Ground.chain }, { on := 0, ground := Ground.phase }, { on := 1, ground := Ground.phase }, { on := 2, ground := Ground.phase }, { on := 3, ground := Ground.phase }, { on := 4, ground := Ground.phase }, { on := 5, ground := Ground.phase }, { on := 6, ground := Ground.phase }, { on := 7, ground := Ground.phase }, { on := 8, ground := Ground.phase }, { on := 9, ground := Ground.phase }, { on := 10, ground := Ground.phase }, { on := 11, ground := Ground.phase }, { on := 12, ground := Ground.phase }, { on := 13, ground := Ground.phase }, { on := 14, ground := Ground.phase }, { on := 15, ground := Ground.phase }], guard := none }
def pt_ops (s : String) : Array Oper := #[pt_0 s, pt_1 s, pt_2 s, pt_3 s, pt_4 s, pt_5 s, pt_6 s, pt_7 s, pt_8 s, pt_9 s, pt_10 s, pt_11 s, pt_12 s, pt_13 s, pt_14 s, pt_15 s, pt_16 s, pt_17 s, pt_18 s, pt_19 s]
theorem pt_walk (s : String) {Q : Exit → Act → World → Prop} (hQ : ∀ c (a : Act) t v w, Q (.panic c) (a.put (some t) v) w → Q (.panic c) a w) (W : World) (wz j zp z : Nat) (hj : j < 3) (A : Array Value) (hA : A.size = 10) (hB : Blk W.drew wz A WT)
    (a : Act) (hs : 25 < a.tmps.size) (e0 : a.eval (.tmp 0) = .pointer (some ⟨wz, 0, none⟩)) (e1 : a.eval (.tmp 1) = .int .i64 (j : Int)) (e2 : a.eval (.tmp 2) = .pointer (some ⟨zp, 0, none⟩)) (e3 : a.eval (.tmp 3) = .pointer (some ⟨z, 0, none⟩))
    (h0 :  Q .normal (((((((((((((((((a.put (some 9) (.pointer (some ⟨wz, 0, none⟩))).put (some 10) (.int .i64 (j : Int))).put (some 15) (.pointer (some ⟨zp, 0, none⟩))).put (some 17) (.pointer (some ⟨wz, 0, none⟩))).put (some 18) (.pointer (some ⟨wz, 0, none⟩))).put (some 11) (.pointer (some ⟨wz, 0, none⟩))).put (some 12) (.int .i64 (j : Int))).put (some 13) (.pointer (some ⟨wz, 0, none⟩))).put (some 14) (.int .i64 (j : Int))).put (some 16) (.pointer (some ⟨z, 0, none⟩))).put (some 19) (.pointer (some ⟨wz, j, none⟩))).put (some 20) (.pointer (some ⟨wz, 0, none⟩))).put (some 21) (.pointer (some ⟨wz, 3, none⟩))).put (some 23) (.pointer (some ⟨wz, 0, none⟩))).put (some 24) (.pointer (some ⟨wz, 6, none⟩))).put (some 22) (.pointer (some ⟨wz, 3 + j, none⟩))).put (some 25) (.pointer (some ⟨wz, 6 + j, none⟩))) (((W.drew.setCell ⟨wz, j, none⟩ (.pointer (some ⟨zp, 0, none⟩))).setCell ⟨wz, 3 + j, none⟩ (.pointer (some ⟨z, 0, none⟩))).setCell ⟨wz, 6 + j, none⟩ (.bool false))) :
    Code.wp Try.prog (.region 1 (pt_ops s) true) Q a W := by
  refine wp_region_held_drew (S := fun _ => True) (by kernel_rfl) trivial (fun hS => ?_)
  change wpAnyH _ _ _ _ _ _ _ _ (World.drew _)
  refine wpAnyH_take (i := 0) (oi := pt_0 s) (v := .pointer (some ⟨wz, 0, none⟩)) (by kernel_rfl) (by kernel_rfl) (by kernel_rfl) (by kernel_rfl) (fun c a w h => hQ c _ _ _ w h) (Or.inl ⟨wanted_none rfl, fun w hw => by simp only [execOp, pt_0, e0]; rfl⟩) hS ?_
  change wpAnyH _ _ _ _ _ _ _ (a.put (some 9) (.pointer (some ⟨wz, 0, none⟩))) _
  obtain ⟨a0_1, ha1⟩ : ∃ rr : Act, rr = a.put (some 9) (.pointer (some ⟨wz, 0, none⟩)) := ⟨_, rfl⟩
  have qz1 : 25 < a0_1.tmps.size := by rw [ha1, sz_put]; exact hs
  have f1_0 : a0_1.eval (.tmp 0) = .pointer (some ⟨wz, 0, none⟩) := by rw [ha1, ev_other _ _ _ _ (by decide)]; exact e0
  have f1_1 : a0_1.eval (.tmp 1) = .int .i64 (j : Int) := by rw [ha1, ev_other _ _ _ _ (by decide)]; exact e1
  have f1_2 : a0_1.eval (.tmp 2) = .pointer (some ⟨zp, 0, none⟩) := by rw [ha1, ev_other _ _ _ _ (by decide)]; exact e2
  have f1_3 : a0_1.eval (.tmp 3) = .pointer (some ⟨z, 0, none⟩) := by rw [ha1, ev_other _ _ _ _ (by decide)]; exact e3
  have f1_9 : a0_1.eval (.tmp 9) = .pointer (some ⟨wz, 0, none⟩) := by rw [ha1]; exact ev_same _ _ _ (Nat.lt_of_le_of_lt (by decide) hs)
  rw [← ha1] at h0 ⊢
  clear ha1
  refine wpAnyH_take (i := 1) (oi := pt_1 s) (v := .int .i64 (j : Int)) (by kernel_rfl) (by kernel_rfl) (by kernel_rfl) (by kernel_rfl) (fun c a w h => hQ c _ _ _ w h) (Or.inl ⟨wanted_none rfl, fun w hw => by simp only [execOp, pt_1, f1_1]; rfl⟩) hS ?_
  change wpAnyH _ _ _ _ _ _ _ (a0_1.put (some 10) (.int .i64 (j : Int))) _
  obtain ⟨a0_2, ha2⟩ : ∃ rr : Act, rr = a0_1.put (some 10) (.int .i64 (j : Int)) := ⟨_, rfl⟩
  have qz2 : 25 < a0_2.tmps.size := by rw [ha2, sz_put]; exact qz1
  have f2_0 : a0_2.eval (.tmp 0) = .pointer (some ⟨wz, 0, none⟩) := by rw [ha2, ev_other _ _ _ _ (by decide)]; exact f1_0
  have f2_1 : a0_2.eval (.tmp 1) = .int .i64 (j : Int) := by rw [ha2, ev_other _ _ _ _ (by decide)]; exact f1_1
  have f2_2 : a0_2.eval (.tmp 2) = .pointer (some ⟨zp, 0, none⟩) := by rw [ha2, ev_other _ _ _ _ (by decide)]; exact f1_2
  have f2_3 : a0_2.eval (.tmp 3) = .pointer (some ⟨z, 0, none⟩) := by rw [ha2, ev_other _ _ _ _ (by decide)]; exact f1_3
  have f2_9 : a0_2.eval (.tmp 9) = .pointer (some ⟨wz, 0, none⟩) := by rw [ha2, ev_other _ _ _ _ (by decide)]; exact f1_9
  have f2_10 : a0_2.eval (.tmp 10) = .int .i64 (j : Int) := by rw [ha2]; exact ev_same _ _ _ (Nat.lt_of_le_of_lt (by decide) qz1)
  rw [← ha2] at h0 ⊢
  clear ha2
  refine wpAnyH_take (i := 6) (oi := pt_6 s) (v := .pointer (some ⟨zp, 0, none⟩)) (by kernel_rfl) (by kernel_rfl) (by kernel_rfl) (by kernel_rfl) (fun c a w h => hQ c _ _ _ w h) (Or.inl ⟨wanted_none rfl, fun w hw => by simp only [execOp, pt_6, f2_2]; rfl⟩) hS ?_
  change wpAnyH _ _ _ _ _ _ _ (a0_2.put (some 15) (.pointer (some ⟨zp, 0, none⟩))) _
  obtain ⟨a0_3, ha3⟩ : ∃ rr : Act, rr = a0_2.put (some 15) (.pointer (some ⟨zp, 0, none⟩)) := ⟨_, rfl⟩
  have qz3 : 25 < a0_3.tmps.size := by rw [ha3, sz_put]; exact qz2
  have f3_0 : a0_3.eval (.tmp 0) = .pointer (some ⟨wz, 0, none⟩) := by rw [ha3, ev_other _ _ _ _ (by decide)]; exact f2_0
  have f3_1 : a0_3.eval (.tmp 1) = .int .i64 (j : Int) := by rw [ha3, ev_other _ _ _ _ (by decide)]; exact f2_1
  have f3_3 : a0_3.eval (.tmp 3) = .pointer (some ⟨z, 0, none⟩) := by rw [ha3, ev_other _ _ _ _ (by decide)]; exact f2_3
  have f3_9 : a0_3.eval (.tmp 9) = .pointer (some ⟨wz, 0, none⟩) := by rw [ha3, ev_other _ _ _ _ (by decide)]; exact f2_9
  have f3_10 : a0_3.eval (.tmp 10) = .int .i64 (j : Int) := by rw [ha3, ev_other _ _ _ _ (by decide)]; exact f2_10
  have f3_15 : a0_3.eval (.tmp 15) = .pointer (some ⟨zp, 0, none⟩) := by rw [ha3]; exact ev_same _ _ _ (Nat.lt_of_le_of_lt (by decide) qz2)
  rw [← ha3] at h0 ⊢
  clear ha3
  refine wpAnyH_take (i := 8) (oi := pt_8 s) (v := .pointer (some ⟨wz, 0, none⟩)) (by kernel_rfl) (by kernel_rfl) (by kernel_rfl) (by kernel_rfl) (fun c a w h => hQ c _ _ _ w h) (Or.inl ⟨wanted_none rfl, fun w hw => run_nil rfl f3_9 w⟩) hS ?_
  change wpAnyH _ _ _ _ _ _ _ (a0_3.put (some 17) (.pointer (some ⟨wz, 0, none⟩))) _
  obtain ⟨a0_4, ha4⟩ : ∃ rr : Act, rr = a0_3.put (some 17) (.pointer (some ⟨wz, 0, none⟩)) := ⟨_, rfl⟩
  have qz4 : 25 < a0_4.tmps.size := by rw [ha4, sz_put]; exact qz3
  have f4_0 : a0_4.eval (.tmp 0) = .pointer (some ⟨wz, 0, none⟩) := by rw [ha4, ev_other _ _ _ _ (by decide)]; exact f3_0
  have f4_1 : a0_4.eval (.tmp 1) = .int .i64 (j : Int) := by rw [ha4, ev_other _ _ _ _ (by decide)]; exact f3_1
  have f4_3 : a0_4.eval (.tmp 3) = .pointer (some ⟨z, 0, none⟩) := by rw [ha4, ev_other _ _ _ _ (by decide)]; exact f3_3
  have f4_10 : a0_4.eval (.tmp 10) = .int .i64 (j : Int) := by rw [ha4, ev_other _ _ _ _ (by decide)]; exact f3_10
  have f4_15 : a0_4.eval (.tmp 15) = .pointer (some ⟨zp, 0, none⟩) := by rw [ha4, ev_other _ _ _ _ (by decide)]; exact f3_15
  have f4_17 : a0_4.eval (.tmp 17) = .pointer (some ⟨wz, 0, none⟩) := by rw [ha4]; exact ev_same _ _ _ (Nat.lt_of_le_of_lt (by decide) qz3)
  rw [← ha4] at h0 ⊢
  clear ha4
  refine wpAnyH_take (i := 9) (oi := pt_9 s) (v := .pointer (some ⟨wz, 0, none⟩)) (by kernel_rfl) (by kernel_rfl) (by kernel_rfl) (by kernel_rfl) (fun c a w h => hQ c _ _ _ w h) (Or.inl ⟨wanted_none rfl, fun w hw => fldW wz 0 0 (fW0 wz) rfl f4_17 w⟩) hS ?_
  change wpAnyH _ _ _ _ _ _ _ (a0_4.put (some 18) (.pointer (some ⟨wz, 0, none⟩))) _
  obtain ⟨a0_5, ha5⟩ : ∃ rr : Act, rr = a0_4.put (some 18) (.pointer (some ⟨wz, 0, none⟩)) := ⟨_, rfl⟩
  have qz5 : 25 < a0_5.tmps.size := by rw [ha5, sz_put]; exact qz4
  have f5_0 : a0_5.eval (.tmp 0) = .pointer (some ⟨wz, 0, none⟩) := by rw [ha5, ev_other _ _ _ _ (by decide)]; exact f4_0
  have f5_1 : a0_5.eval (.tmp 1) = .int .i64 (j : Int) := by rw [ha5, ev_other _ _ _ _ (by decide)]; exact f4_1
  have f5_3 : a0_5.eval (.tmp 3) = .pointer (some ⟨z, 0, none⟩) := by rw [ha5, ev_other _ _ _ _ (by decide)]; exact f4_3
  have f5_10 : a0_5.eval (.tmp 10) = .int .i64 (j : Int) := by rw [ha5, ev_other _ _ _ _ (by decide)]; exact f4_10
  have f5_15 : a0_5.eval (.tmp 15) = .pointer (some ⟨zp, 0, none⟩) := by rw [ha5, ev_other _ _ _ _ (by decide)]; exact f4_15
  have f5_18 : a0_5.eval (.tmp 18) = .pointer (some ⟨wz, 0, none⟩) := by rw [ha5]; exact ev_same _ _ _ (Nat.lt_of_le_of_lt (by decide) qz4)
  rw [← ha5] at h0 ⊢
  clear ha5
  refine wpAnyH_take (i := 2) (oi := pt_2 s) (v := .pointer (some ⟨wz, 0, none⟩)) (by kernel_rfl) (by kernel_rfl) (by kernel_rfl) (by kernel_rfl) (fun c a w h => hQ c _ _ _ w h) (Or.inl ⟨wanted_none rfl, fun w hw => by simp only [execOp, pt_2, f5_0]; rfl⟩) hS ?_
  change wpAnyH _ _ _ _ _ _ _ (a0_5.put (some 11) (.pointer (some ⟨wz, 0, none⟩))) _
  obtain ⟨a0_6, ha6⟩ : ∃ rr : Act, rr = a0_5.put (some 11) (.pointer (some ⟨wz, 0, none⟩)) := ⟨_, rfl⟩
  have qz6 : 25 < a0_6.tmps.size := by rw [ha6, sz_put]; exact qz5
  have f6_0 : a0_6.eval (.tmp 0) = .pointer (some ⟨wz, 0, none⟩) := by rw [ha6, ev_other _ _ _ _ (by decide)]; exact f5_0
  have f6_1 : a0_6.eval (.tmp 1) = .int .i64 (j : Int) := by rw [ha6, ev_other _ _ _ _ (by decide)]; exact f5_1
  have f6_3 : a0_6.eval (.tmp 3) = .pointer (some ⟨z, 0, none⟩) := by rw [ha6, ev_other _ _ _ _ (by decide)]; exact f5_3
  have f6_10 : a0_6.eval (.tmp 10) = .int .i64 (j : Int) := by rw [ha6, ev_other _ _ _ _ (by decide)]; exact f5_10
  have f6_11 : a0_6.eval (.tmp 11) = .pointer (some ⟨wz, 0, none⟩) := by rw [ha6]; exact ev_same _ _ _ (Nat.lt_of_le_of_lt (by decide) qz5)
  have f6_15 : a0_6.eval (.tmp 15) = .pointer (some ⟨zp, 0, none⟩) := by rw [ha6, ev_other _ _ _ _ (by decide)]; exact f5_15
  have f6_18 : a0_6.eval (.tmp 18) = .pointer (some ⟨wz, 0, none⟩) := by rw [ha6, ev_other _ _ _ _ (by decide)]; exact f5_18
  rw [← ha6] at h0 ⊢
  clear ha6
  refine wpAnyH_take (i := 3) (oi := pt_3 s) (v := .int .i64 (j : Int)) (by kernel_rfl) (by kernel_rfl) (by kernel_rfl) (by kernel_rfl) (fun c a w h => hQ c _ _ _ w h) (Or.inl ⟨wanted_none rfl, fun w hw => by simp only [execOp, pt_3, f6_1]; rfl⟩) hS ?_
  change wpAnyH _ _ _ _ _ _ _ (a0_6.put (some 12) (.int .i64 (j : Int))) _
  obtain ⟨a0_7, ha7⟩ : ∃ rr : Act, rr = a0_6.put (some 12) (.int .i64 (j : Int)) := ⟨_, rfl⟩
  have qz7 : 25 < a0_7.tmps.size := by rw [ha7, sz_put]; exact qz6
  have f7_0 : a0_7.eval (.tmp 0) = .pointer (some ⟨wz, 0, none⟩) := by rw [ha7, ev_other _ _ _ _ (by decide)]; exact f6_0
  have f7_1 : a0_7.eval (.tmp 1) = .int .i64 (j : Int) := by rw [ha7, ev_other _ _ _ _ (by decide)]; exact f6_1
  have f7_3 : a0_7.eval (.tmp 3) = .pointer (some ⟨z, 0, none⟩) := by rw [ha7, ev_other _ _ _ _ (by decide)]; exact f6_3
  have f7_10 : a0_7.eval (.tmp 10) = .int .i64 (j : Int) := by rw [ha7, ev_other _ _ _ _ (by decide)]; exact f6_10
  have f7_11 : a0_7.eval (.tmp 11) = .pointer (some ⟨wz, 0, none⟩) := by rw [ha7, ev_other _ _ _ _ (by decide)]; exact f6_11
  have f7_12 : a0_7.eval (.tmp 12) = .int .i64 (j : Int) := by rw [ha7]; exact ev_same _ _ _ (Nat.lt_of_le_of_lt (by decide) qz6)
  have f7_15 : a0_7.eval (.tmp 15) = .pointer (some ⟨zp, 0, none⟩) := by rw [ha7, ev_other _ _ _ _ (by decide)]; exact f6_15
  have f7_18 : a0_7.eval (.tmp 18) = .pointer (some ⟨wz, 0, none⟩) := by rw [ha7, ev_other _ _ _ _ (by decide)]; exact f6_18
  rw [← ha7] at h0 ⊢
  clear ha7
  refine wpAnyH_take (i := 4) (oi := pt_4 s) (v := .pointer (some ⟨wz, 0, none⟩)) (by kernel_rfl) (by kernel_rfl) (by kernel_rfl) (by kernel_rfl) (fun c a w h => hQ c _ _ _ w h) (Or.inl ⟨wanted_none rfl, fun w hw => by simp only [execOp, pt_4, f7_0]; rfl⟩) hS ?_
  change wpAnyH _ _ _ _ _ _ _ (a0_7.put (some 13) (.pointer (some ⟨wz, 0, none⟩))) _
  obtain ⟨a0_8, ha8⟩ : ∃ rr : Act, rr = a0_7.put (some 13) (.pointer (some ⟨wz, 0, none⟩)) := ⟨_, rfl⟩
  have qz8 : 25 < a0_8.tmps.size := by rw [ha8, sz_put]; exact qz7
  have f8_1 : a0_8.eval (.tmp 1) = .int .i64 (j : Int) := by rw [ha8, ev_other _ _ _ _ (by decide)]; exact f7_1
  have f8_3 : a0_8.eval (.tmp 3) = .pointer (some ⟨z, 0, none⟩) := by rw [ha8, ev_other _ _ _ _ (by decide)]; exact f7_3
  have f8_10 : a0_8.eval (.tmp 10) = .int .i64 (j : Int) := by rw [ha8, ev_other _ _ _ _ (by decide)]; exact f7_10
  have f8_11 : a0_8.eval (.tmp 11) = .pointer (some ⟨wz, 0, none⟩) := by rw [ha8, ev_other _ _ _ _ (by decide)]; exact f7_11
  have f8_12 : a0_8.eval (.tmp 12) = .int .i64 (j : Int) := by rw [ha8, ev_other _ _ _ _ (by decide)]; exact f7_12
  have f8_13 : a0_8.eval (.tmp 13) = .pointer (some ⟨wz, 0, none⟩) := by rw [ha8]; exact ev_same _ _ _ (Nat.lt_of_le_of_lt (by decide) qz7)
  have f8_15 : a0_8.eval (.tmp 15) = .pointer (some ⟨zp, 0, none⟩) := by rw [ha8, ev_other _ _ _ _ (by decide)]; exact f7_15
  have f8_18 : a0_8.eval (.tmp 18) = .pointer (some ⟨wz, 0, none⟩) := by rw [ha8, ev_other _ _ _ _ (by decide)]; exact f7_18
  rw [← ha8] at h0 ⊢
  clear ha8
  refine wpAnyH_take (i := 5) (oi := pt_5 s) (v := .int .i64 (j : Int)) (by kernel_rfl) (by kernel_rfl) (by kernel_rfl) (by kernel_rfl) (fun c a w h => hQ c _ _ _ w h) (Or.inl ⟨wanted_none rfl, fun w hw => by simp only [execOp, pt_5, f8_1]; rfl⟩) hS ?_
  change wpAnyH _ _ _ _ _ _ _ (a0_8.put (some 14) (.int .i64 (j : Int))) _
  obtain ⟨a0_9, ha9⟩ : ∃ rr : Act, rr = a0_8.put (some 14) (.int .i64 (j : Int)) := ⟨_, rfl⟩
  have qz9 : 25 < a0_9.tmps.size := by rw [ha9, sz_put]; exact qz8
  have f9_3 : a0_9.eval (.tmp 3) = .pointer (some ⟨z, 0, none⟩) := by rw [ha9, ev_other _ _ _ _ (by decide)]; exact f8_3
  have f9_10 : a0_9.eval (.tmp 10) = .int .i64 (j : Int) := by rw [ha9, ev_other _ _ _ _ (by decide)]; exact f8_10
  have f9_11 : a0_9.eval (.tmp 11) = .pointer (some ⟨wz, 0, none⟩) := by rw [ha9, ev_other _ _ _ _ (by decide)]; exact f8_11
  have f9_12 : a0_9.eval (.tmp 12) = .int .i64 (j : Int) := by rw [ha9, ev_other _ _ _ _ (by decide)]; exact f8_12
  have f9_13 : a0_9.eval (.tmp 13) = .pointer (some ⟨wz, 0, none⟩) := by rw [ha9, ev_other _ _ _ _ (by decide)]; exact f8_13
  have f9_14 : a0_9.eval (.tmp 14) = .int .i64 (j : Int) := by rw [ha9]; exact ev_same _ _ _ (Nat.lt_of_le_of_lt (by decide) qz8)
  have f9_15 : a0_9.eval (.tmp 15) = .pointer (some ⟨zp, 0, none⟩) := by rw [ha9, ev_other _ _ _ _ (by decide)]; exact f8_15
  have f9_18 : a0_9.eval (.tmp 18) = .pointer (some ⟨wz, 0, none⟩) := by rw [ha9, ev_other _ _ _ _ (by decide)]; exact f8_18
  rw [← ha9] at h0 ⊢
  clear ha9
  refine wpAnyH_take (i := 7) (oi := pt_7 s) (v := .pointer (some ⟨z, 0, none⟩)) (by kernel_rfl) (by kernel_rfl) (by kernel_rfl) (by kernel_rfl) (fun c a w h => hQ c _ _ _ w h) (Or.inl ⟨wanted_none rfl, fun w hw => by simp only [execOp, pt_7, f9_3]; rfl⟩) hS ?_
  change wpAnyH _ _ _ _ _ _ _ (a0_9.put (some 16) (.pointer (some ⟨z, 0, none⟩))) _
  obtain ⟨a0_10, ha10⟩ : ∃ rr : Act, rr = a0_9.put (some 16) (.pointer (some ⟨z, 0, none⟩)) := ⟨_, rfl⟩
  have qz10 : 25 < a0_10.tmps.size := by rw [ha10, sz_put]; exact qz9
  have f10_10 : a0_10.eval (.tmp 10) = .int .i64 (j : Int) := by rw [ha10, ev_other _ _ _ _ (by decide)]; exact f9_10
  have f10_11 : a0_10.eval (.tmp 11) = .pointer (some ⟨wz, 0, none⟩) := by rw [ha10, ev_other _ _ _ _ (by decide)]; exact f9_11
  have f10_12 : a0_10.eval (.tmp 12) = .int .i64 (j : Int) := by rw [ha10, ev_other _ _ _ _ (by decide)]; exact f9_12
  have f10_13 : a0_10.eval (.tmp 13) = .pointer (some ⟨wz, 0, none⟩) := by rw [ha10, ev_other _ _ _ _ (by decide)]; exact f9_13
  have f10_14 : a0_10.eval (.tmp 14) = .int .i64 (j : Int) := by rw [ha10, ev_other _ _ _ _ (by decide)]; exact f9_14
  have f10_15 : a0_10.eval (.tmp 15) = .pointer (some ⟨zp, 0, none⟩) := by rw [ha10, ev_other _ _ _ _ (by decide)]; exact f9_15
  have f10_16 : a0_10.eval (.tmp 16) = .pointer (some ⟨z, 0, none⟩) := by rw [ha10]; exact ev_same _ _ _ (Nat.lt_of_le_of_lt (by decide) qz9)
  have f10_18 : a0_10.eval (.tmp 18) = .pointer (some ⟨wz, 0, none⟩) := by rw [ha10, ev_other _ _ _ _ (by decide)]; exact f9_18
  rw [← ha10] at h0 ⊢
  clear ha10
  refine wpAnyH_take (i := 10) (oi := pt_10 s) (v := .pointer (some ⟨wz, j, none⟩)) (by kernel_rfl) (by kernel_rfl) (by kernel_rfl) (by kernel_rfl) (fun c a w h => hQ c _ _ _ w h) (Or.inl ⟨wanted_none rfl, fun w hw => run_ixP rfl f10_18 f10_10 hj w⟩) hS ?_
  change wpAnyH _ _ _ _ _ _ _ (a0_10.put (some 19) (.pointer (some ⟨wz, j, none⟩))) _
  obtain ⟨a0_11, ha11⟩ : ∃ rr : Act, rr = a0_10.put (some 19) (.pointer (some ⟨wz, j, none⟩)) := ⟨_, rfl⟩
  have qz11 : 25 < a0_11.tmps.size := by rw [ha11, sz_put]; exact qz10
  have f11_11 : a0_11.eval (.tmp 11) = .pointer (some ⟨wz, 0, none⟩) := by rw [ha11, ev_other _ _ _ _ (by decide)]; exact f10_11
  have f11_12 : a0_11.eval (.tmp 12) = .int .i64 (j : Int) := by rw [ha11, ev_other _ _ _ _ (by decide)]; exact f10_12
  have f11_13 : a0_11.eval (.tmp 13) = .pointer (some ⟨wz, 0, none⟩) := by rw [ha11, ev_other _ _ _ _ (by decide)]; exact f10_13
  have f11_14 : a0_11.eval (.tmp 14) = .int .i64 (j : Int) := by rw [ha11, ev_other _ _ _ _ (by decide)]; exact f10_14
  have f11_15 : a0_11.eval (.tmp 15) = .pointer (some ⟨zp, 0, none⟩) := by rw [ha11, ev_other _ _ _ _ (by decide)]; exact f10_15
  have f11_16 : a0_11.eval (.tmp 16) = .pointer (some ⟨z, 0, none⟩) := by rw [ha11, ev_other _ _ _ _ (by decide)]; exact f10_16
  have f11_19 : a0_11.eval (.tmp 19) = .pointer (some ⟨wz, j, none⟩) := by rw [ha11]; exact ev_same _ _ _ (Nat.lt_of_le_of_lt (by decide) qz10)
  rw [← ha11] at h0 ⊢
  clear ha11
  refine wpAnyH_take (i := 12) (oi := pt_12 s) (v := .pointer (some ⟨wz, 0, none⟩)) (by kernel_rfl) (by kernel_rfl) (by kernel_rfl) (by kernel_rfl) (fun c a w h => hQ c _ _ _ w h) (Or.inl ⟨wanted_none rfl, fun w hw => run_nil rfl f11_11 w⟩) hS ?_
  change wpAnyH _ _ _ _ _ _ _ (a0_11.put (some 20) (.pointer (some ⟨wz, 0, none⟩))) _
  obtain ⟨a0_12, ha12⟩ : ∃ rr : Act, rr = a0_11.put (some 20) (.pointer (some ⟨wz, 0, none⟩)) := ⟨_, rfl⟩
  have qz12 : 25 < a0_12.tmps.size := by rw [ha12, sz_put]; exact qz11
  have f12_12 : a0_12.eval (.tmp 12) = .int .i64 (j : Int) := by rw [ha12, ev_other _ _ _ _ (by decide)]; exact f11_12
  have f12_13 : a0_12.eval (.tmp 13) = .pointer (some ⟨wz, 0, none⟩) := by rw [ha12, ev_other _ _ _ _ (by decide)]; exact f11_13
  have f12_14 : a0_12.eval (.tmp 14) = .int .i64 (j : Int) := by rw [ha12, ev_other _ _ _ _ (by decide)]; exact f11_14
  have f12_15 : a0_12.eval (.tmp 15) = .pointer (some ⟨zp, 0, none⟩) := by rw [ha12, ev_other _ _ _ _ (by decide)]; exact f11_15
  have f12_16 : a0_12.eval (.tmp 16) = .pointer (some ⟨z, 0, none⟩) := by rw [ha12, ev_other _ _ _ _ (by decide)]; exact f11_16
  have f12_19 : a0_12.eval (.tmp 19) = .pointer (some ⟨wz, j, none⟩) := by rw [ha12, ev_other _ _ _ _ (by decide)]; exact f11_19
  have f12_20 : a0_12.eval (.tmp 20) = .pointer (some ⟨wz, 0, none⟩) := by rw [ha12]; exact ev_same _ _ _ (Nat.lt_of_le_of_lt (by decide) qz11)
  rw [← ha12] at h0 ⊢
  clear ha12
  refine wpAnyH_take (i := 13) (oi := pt_13 s) (v := .pointer (some ⟨wz, 3, none⟩)) (by kernel_rfl) (by kernel_rfl) (by kernel_rfl) (by kernel_rfl) (fun c a w h => hQ c _ _ _ w h) (Or.inl ⟨wanted_none rfl, fun w hw => fldW wz 1 3 (fW1 wz) rfl f12_20 w⟩) hS ?_
  change wpAnyH _ _ _ _ _ _ _ (a0_12.put (some 21) (.pointer (some ⟨wz, 3, none⟩))) _
  obtain ⟨a0_13, ha13⟩ : ∃ rr : Act, rr = a0_12.put (some 21) (.pointer (some ⟨wz, 3, none⟩)) := ⟨_, rfl⟩
  have qz13 : 25 < a0_13.tmps.size := by rw [ha13, sz_put]; exact qz12
  have f13_12 : a0_13.eval (.tmp 12) = .int .i64 (j : Int) := by rw [ha13, ev_other _ _ _ _ (by decide)]; exact f12_12
  have f13_13 : a0_13.eval (.tmp 13) = .pointer (some ⟨wz, 0, none⟩) := by rw [ha13, ev_other _ _ _ _ (by decide)]; exact f12_13
  have f13_14 : a0_13.eval (.tmp 14) = .int .i64 (j : Int) := by rw [ha13, ev_other _ _ _ _ (by decide)]; exact f12_14
  have f13_15 : a0_13.eval (.tmp 15) = .pointer (some ⟨zp, 0, none⟩) := by rw [ha13, ev_other _ _ _ _ (by decide)]; exact f12_15
  have f13_16 : a0_13.eval (.tmp 16) = .pointer (some ⟨z, 0, none⟩) := by rw [ha13, ev_other _ _ _ _ (by decide)]; exact f12_16
  have f13_19 : a0_13.eval (.tmp 19) = .pointer (some ⟨wz, j, none⟩) := by rw [ha13, ev_other _ _ _ _ (by decide)]; exact f12_19
  have f13_21 : a0_13.eval (.tmp 21) = .pointer (some ⟨wz, 3, none⟩) := by rw [ha13]; exact ev_same _ _ _ (Nat.lt_of_le_of_lt (by decide) qz12)
  rw [← ha13] at h0 ⊢
  clear ha13
  refine wpAnyH_take (i := 16) (oi := pt_16 s) (v := .pointer (some ⟨wz, 0, none⟩)) (by kernel_rfl) (by kernel_rfl) (by kernel_rfl) (by kernel_rfl) (fun c a w h => hQ c _ _ _ w h) (Or.inl ⟨wanted_none rfl, fun w hw => run_nil rfl f13_13 w⟩) hS ?_
  change wpAnyH _ _ _ _ _ _ _ (a0_13.put (some 23) (.pointer (some ⟨wz, 0, none⟩))) _
  obtain ⟨a0_14, ha14⟩ : ∃ rr : Act, rr = a0_13.put (some 23) (.pointer (some ⟨wz, 0, none⟩)) := ⟨_, rfl⟩
  have qz14 : 25 < a0_14.tmps.size := by rw [ha14, sz_put]; exact qz13
  have f14_12 : a0_14.eval (.tmp 12) = .int .i64 (j : Int) := by rw [ha14, ev_other _ _ _ _ (by decide)]; exact f13_12
  have f14_14 : a0_14.eval (.tmp 14) = .int .i64 (j : Int) := by rw [ha14, ev_other _ _ _ _ (by decide)]; exact f13_14
  have f14_15 : a0_14.eval (.tmp 15) = .pointer (some ⟨zp, 0, none⟩) := by rw [ha14, ev_other _ _ _ _ (by decide)]; exact f13_15
  have f14_16 : a0_14.eval (.tmp 16) = .pointer (some ⟨z, 0, none⟩) := by rw [ha14, ev_other _ _ _ _ (by decide)]; exact f13_16
  have f14_19 : a0_14.eval (.tmp 19) = .pointer (some ⟨wz, j, none⟩) := by rw [ha14, ev_other _ _ _ _ (by decide)]; exact f13_19
  have f14_21 : a0_14.eval (.tmp 21) = .pointer (some ⟨wz, 3, none⟩) := by rw [ha14, ev_other _ _ _ _ (by decide)]; exact f13_21
  have f14_23 : a0_14.eval (.tmp 23) = .pointer (some ⟨wz, 0, none⟩) := by rw [ha14]; exact ev_same _ _ _ (Nat.lt_of_le_of_lt (by decide) qz13)
  rw [← ha14] at h0 ⊢
  clear ha14
  refine wpAnyH_take (i := 17) (oi := pt_17 s) (v := .pointer (some ⟨wz, 6, none⟩)) (by kernel_rfl) (by kernel_rfl) (by kernel_rfl) (by kernel_rfl) (fun c a w h => hQ c _ _ _ w h) (Or.inl ⟨wanted_none rfl, fun w hw => fldW wz 2 6 (fW2 wz) rfl f14_23 w⟩) hS ?_
  change wpAnyH _ _ _ _ _ _ _ (a0_14.put (some 24) (.pointer (some ⟨wz, 6, none⟩))) _
  obtain ⟨a0_15, ha15⟩ : ∃ rr : Act, rr = a0_14.put (some 24) (.pointer (some ⟨wz, 6, none⟩)) := ⟨_, rfl⟩
  have qz15 : 25 < a0_15.tmps.size := by rw [ha15, sz_put]; exact qz14
  have f15_12 : a0_15.eval (.tmp 12) = .int .i64 (j : Int) := by rw [ha15, ev_other _ _ _ _ (by decide)]; exact f14_12
  have f15_14 : a0_15.eval (.tmp 14) = .int .i64 (j : Int) := by rw [ha15, ev_other _ _ _ _ (by decide)]; exact f14_14
  have f15_15 : a0_15.eval (.tmp 15) = .pointer (some ⟨zp, 0, none⟩) := by rw [ha15, ev_other _ _ _ _ (by decide)]; exact f14_15
  have f15_16 : a0_15.eval (.tmp 16) = .pointer (some ⟨z, 0, none⟩) := by rw [ha15, ev_other _ _ _ _ (by decide)]; exact f14_16
  have f15_19 : a0_15.eval (.tmp 19) = .pointer (some ⟨wz, j, none⟩) := by rw [ha15, ev_other _ _ _ _ (by decide)]; exact f14_19
  have f15_21 : a0_15.eval (.tmp 21) = .pointer (some ⟨wz, 3, none⟩) := by rw [ha15, ev_other _ _ _ _ (by decide)]; exact f14_21
  have f15_24 : a0_15.eval (.tmp 24) = .pointer (some ⟨wz, 6, none⟩) := by rw [ha15]; exact ev_same _ _ _ (Nat.lt_of_le_of_lt (by decide) qz14)
  rw [← ha15] at h0 ⊢
  clear ha15
  refine wpAnyH_ready (rs := [11]) (by kernel_rfl) (by simp) ?_
  refine AllReadyH.cons (o := pt_11 s) (by kernel_rfl) (fun KQ hKQ => ?_) AllReadyH.nil
  rw [if_pos (wanted_none rfl)]
  refine step_skipE (W.drew.setCell ⟨wz, j, none⟩ (.pointer (some ⟨zp, 0, none⟩))) (run_stX rfl f15_19 f15_15 (by rw [Blk.cell hB, Array.getElem?_eq_getElem (by first | omega | (simp; omega))]) (Blk.frozen hB (j))) ?_
  refine hKQ.out _ _ (trivial) (fun _ => ?_)
  clear hKQ KQ
  change wpAnyH _ _ _ _ _ _ _ a0_15 _
  refine wpAnyH_take (i := 14) (oi := pt_14 s) (v := .pointer (some ⟨wz, 3 + j, none⟩)) (by kernel_rfl) (by kernel_rfl) (by kernel_rfl) (by kernel_rfl) (fun c a w h => hQ c _ _ _ w h) (Or.inl ⟨wanted_none rfl, fun w hw => run_ixR rfl f15_21 f15_12 hj w⟩) hS ?_
  change wpAnyH _ _ _ _ _ _ _ (a0_15.put (some 22) (.pointer (some ⟨wz, 3 + j, none⟩))) _
  obtain ⟨a0_17, ha17⟩ : ∃ rr : Act, rr = a0_15.put (some 22) (.pointer (some ⟨wz, 3 + j, none⟩)) := ⟨_, rfl⟩
  have qz17 : 25 < a0_17.tmps.size := by rw [ha17, sz_put]; exact qz15
  have f17_14 : a0_17.eval (.tmp 14) = .int .i64 (j : Int) := by rw [ha17, ev_other _ _ _ _ (by decide)]; exact f15_14
  have f17_16 : a0_17.eval (.tmp 16) = .pointer (some ⟨z, 0, none⟩) := by rw [ha17, ev_other _ _ _ _ (by decide)]; exact f15_16
  have f17_22 : a0_17.eval (.tmp 22) = .pointer (some ⟨wz, 3 + j, none⟩) := by rw [ha17]; exact ev_same _ _ _ (Nat.lt_of_le_of_lt (by decide) qz15)
  have f17_24 : a0_17.eval (.tmp 24) = .pointer (some ⟨wz, 6, none⟩) := by rw [ha17, ev_other _ _ _ _ (by decide)]; exact f15_24
  rw [← ha17] at h0 ⊢
  clear ha17
  refine wpAnyH_ready (rs := [15]) (by kernel_rfl) (by simp) ?_
  refine AllReadyH.cons (o := pt_15 s) (by kernel_rfl) (fun KQ hKQ => ?_) AllReadyH.nil
  rw [if_pos (wanted_none rfl)]
  refine step_skipE ((W.drew.setCell ⟨wz, j, none⟩ (.pointer (some ⟨zp, 0, none⟩))).setCell ⟨wz, 3 + j, none⟩ (.pointer (some ⟨z, 0, none⟩))) (run_stQ rfl f17_22 f17_16 (by rw [Blk.cell (hB.set j (.pointer (some ⟨zp, 0, none⟩))), Array.getElem?_eq_getElem (by first | omega | (simp; omega))]) (Blk.frozen (hB.set j (.pointer (some ⟨zp, 0, none⟩))) (3 + j))) ?_
  refine hKQ.out _ _ (trivial) (fun _ => ?_)
  clear hKQ KQ
  change wpAnyH _ _ _ _ _ _ _ a0_17 _
  refine wpAnyH_take (i := 18) (oi := pt_18 s) (v := .pointer (some ⟨wz, 6 + j, none⟩)) (by kernel_rfl) (by kernel_rfl) (by kernel_rfl) (by kernel_rfl) (fun c a w h => hQ c _ _ _ w h) (Or.inl ⟨wanted_none rfl, fun w hw => run_ixN rfl f17_24 f17_14 hj w⟩) hS ?_
  change wpAnyH _ _ _ _ _ _ _ (a0_17.put (some 25) (.pointer (some ⟨wz, 6 + j, none⟩))) _
  obtain ⟨a0_19, ha19⟩ : ∃ rr : Act, rr = a0_17.put (some 25) (.pointer (some ⟨wz, 6 + j, none⟩)) := ⟨_, rfl⟩
  have qz19 : 25 < a0_19.tmps.size := by rw [ha19, sz_put]; exact qz17
  have f19_25 : a0_19.eval (.tmp 25) = .pointer (some ⟨wz, 6 + j, none⟩) := by rw [ha19]; exact ev_same _ _ _ (Nat.lt_of_le_of_lt (by decide) qz17)
  rw [← ha19] at h0 ⊢
  clear ha19
  refine wpAnyH_ready (rs := [19]) (by kernel_rfl) (by simp) ?_
  refine AllReadyH.cons (o := pt_19 s) (by kernel_rfl) (fun KQ hKQ => ?_) AllReadyH.nil
  rw [if_pos (wanted_none rfl)]
  refine step_skipE (((W.drew.setCell ⟨wz, j, none⟩ (.pointer (some ⟨zp, 0, none⟩))).setCell ⟨wz, 3 + j, none⟩ (.pointer (some ⟨z, 0, none⟩))).setCell ⟨wz, 6 + j, none⟩ (.bool false)) (run_stB rfl f19_25 rfl (by rw [Blk.cell ((hB.set j (.pointer (some ⟨zp, 0, none⟩))).set (3 + j) (.pointer (some ⟨z, 0, none⟩))), Array.getElem?_eq_getElem (by first | omega | (simp; omega))]) (Blk.frozen ((hB.set j (.pointer (some ⟨zp, 0, none⟩))).set (3 + j) (.pointer (some ⟨z, 0, none⟩))) (6 + j))) ?_
  refine hKQ.out _ _ (trivial) (fun _ => ?_)
  clear hKQ KQ
  refine wpAnyH_done (by kernel_rfl) ?_ _
  exact h0
def aa_0 (s : String) : Oper := { dst := some 88, op := Op.move (Operand.tmp 6), type := 25, pos := s, after := #[], guard := none }
def aa_1 (s : String) : Oper := { dst := some 89, op := Op.call { callee := Callee.value (Operand.func 11), args := #[Operand.tmp 88], argTypes := #[25] }, type := 45, pos := s, after := #[{ on := 0, ground := Ground.data }], guard := none }
def aa_2 (s : String) : Oper := { dst := some 90, op := Op.move (Operand.tmp 7), type := 27, pos := s, after := #[], guard := none }
def aa_3 (s : String) : Oper := { dst := some 91, op := Op.nilCheck (Operand.tmp 90), type := 0, pos := s, after := #[{ on := 2, ground := Ground.data }], guard := none }
def aa_4 (s : String) : Oper := { dst := some 92, op := Op.fieldAddr 48 (Operand.tmp 91) 0, type := 0, pos := s, after := #[{ on := 3, ground := Ground.data }], guard := none }
def aa_5 (s : String) : Oper := { dst := some 93, op := Op.load 39 (Operand.tmp 92), type := 39, pos := s, after := #[{ on := 4, ground := Ground.data }], guard := none }
def aa_6 (s : String) : Oper := { dst := some 94, op := Op.build 44 #[(0, Operand.tmp 89), (1, Operand.tmp 93)], type := 44, pos := s, after := #[{ on := 1, ground := Ground.data }, { on := 5, ground := Ground.data }], guard := none }
def aa_7 (s : String) : Oper := { dst := some 95, op := Op.call { callee := Callee.value (Operand.func 10), args := #[Operand.tmp 94], argTypes := #[44] }, type := 4, pos := s, after := #[{ on := 6, ground := Ground.data }, { on := 1, ground := Ground.chain }], guard := none }
def aa_8 (s : String) : Oper := { dst := some 4, op := Op.assign (Operand.tmp 95), type := 4, pos := s, after := #[{ on := 7, ground := Ground.data }, { on := 7, ground := Ground.chain }, { on := 0, ground := Ground.phase }, { on := 1, ground := Ground.phase }, { on := 2, ground := Ground.phase }, { on := 3, ground := Ground.phase }, { on := 4, ground := Ground.phase }, { on := 5, ground := Ground.phase }, { on := 6, ground := Ground.phase }, { on := 7, ground := Ground.phase }], guard := none }
def aa_ops (s : String) : Array Oper := #[aa_0 s, aa_1 s, aa_2 s, aa_3 s, aa_4 s, aa_5 s, aa_6 s, aa_7 s, aa_8 s]
theorem aa_enter1 (s : String) (a : Act) (w : World) : (execOp a.eval (aa_1 s)).run Try.prog w = .ok (.enter 11 #[a.eval (.tmp 88)]) w := by kernel_rfl
theorem aa_enter7 (s : String) (a : Act) (w : World) : (execOp a.eval (aa_7 s)).run Try.prog w = .ok (.enter 10 #[a.eval (.tmp 94)]) w := by kernel_rfl
theorem aa_walk (s : String) {Q : Exit → Act → World → Prop} (hQ : ∀ c (a : Act) t v w, Q (.panic c) (a.put (some t) v) w → Q (.panic c) a w) (W : World) (z n c : Nat) (ao q : Option Addr) (M1 : Nat → World → Prop) (M2 : Nat → World → World → Prop) (hS0 : W.drew.cell? ⟨z, 0, none⟩ = some (.slice ao n c)) (hc1 : Calls Try.prog 11 #[.pointer q] W.drew fun e w' => ∃ lb, e = .returned (riF lb) ∧ M1 lb w') (hk1 : ∀ lb w2, M1 lb w2 → w2.cell? ⟨z, 0, none⟩ = some (.slice ao n c)) (hc2 : ∀ lb w2, M1 lb w2 → Calls Try.prog 10 #[.agg #[riF lb, .slice ao n c]] w2 fun e w' => e = .returned (.bool true) ∧ M2 lb w2 w') (hk2 : ∀ lb w2 w3, M1 lb w2 → M2 lb w2 w3 → w3.cell? ⟨z, 0, none⟩ = some (.slice ao n c))
    (a : Act) (hs : 95 < a.tmps.size) (e6 : a.eval (.tmp 6) = .pointer q) (e7 : a.eval (.tmp 7) = .pointer (some ⟨z, 0, none⟩))
    (h0 : ∀ lb w2, M1 lb w2 → ∀ w3, M2 lb w2 w3 → Q .normal (((((((((a.put (some 88) (.pointer q)).put (some 90) (.pointer (some ⟨z, 0, none⟩))).put (some 91) (.pointer (some ⟨z, 0, none⟩))).put (some 92) (.pointer (some ⟨z, 0, none⟩))).put (some 93) (.slice ao n c)).put (some 89) (riF lb)).put (some 94) (.agg #[riF lb, .slice ao n c])).put (some 95) (.bool true)).put (some 4) (.bool true)) w3) :
    Code.wp Try.prog (.region 13 (aa_ops s) true) Q a W := by
  refine wp_region_held_drew (S := fun w => w.cell? ⟨z, 0, none⟩ = some (.slice ao n c)) (by kernel_rfl) hS0 (fun hS => ?_)
  change wpAnyH _ _ _ _ _ _ _ _ (World.drew _)
  refine wpAnyH_take (i := 0) (oi := aa_0 s) (v := .pointer q) (by kernel_rfl) (by kernel_rfl) (by kernel_rfl) (by kernel_rfl) (fun c a w h => hQ c _ _ _ w h) (Or.inl ⟨wanted_none rfl, fun w hw => by simp only [execOp, aa_0, e6]; rfl⟩) hS ?_
  change wpAnyH _ _ _ _ _ _ _ (a.put (some 88) (.pointer q)) _
  obtain ⟨a0_1, ha1⟩ : ∃ rr : Act, rr = a.put (some 88) (.pointer q) := ⟨_, rfl⟩
  have qz1 : 95 < a0_1.tmps.size := by rw [ha1, sz_put]; exact hs
  have f1_7 : a0_1.eval (.tmp 7) = .pointer (some ⟨z, 0, none⟩) := by rw [ha1, ev_other _ _ _ _ (by decide)]; exact e7
  have f1_88 : a0_1.eval (.tmp 88) = .pointer q := by rw [ha1]; exact ev_same _ _ _ (Nat.lt_of_le_of_lt (by decide) hs)
  rw [← ha1] at h0 ⊢
  clear ha1
  refine wpAnyH_take (i := 2) (oi := aa_2 s) (v := .pointer (some ⟨z, 0, none⟩)) (by kernel_rfl) (by kernel_rfl) (by kernel_rfl) (by kernel_rfl) (fun c a w h => hQ c _ _ _ w h) (Or.inl ⟨wanted_none rfl, fun w hw => by simp only [execOp, aa_2, f1_7]; rfl⟩) hS ?_
  change wpAnyH _ _ _ _ _ _ _ (a0_1.put (some 90) (.pointer (some ⟨z, 0, none⟩))) _
  obtain ⟨a0_2, ha2⟩ : ∃ rr : Act, rr = a0_1.put (some 90) (.pointer (some ⟨z, 0, none⟩)) := ⟨_, rfl⟩
  have qz2 : 95 < a0_2.tmps.size := by rw [ha2, sz_put]; exact qz1
  have f2_88 : a0_2.eval (.tmp 88) = .pointer q := by rw [ha2, ev_other _ _ _ _ (by decide)]; exact f1_88
  have f2_90 : a0_2.eval (.tmp 90) = .pointer (some ⟨z, 0, none⟩) := by rw [ha2]; exact ev_same _ _ _ (Nat.lt_of_le_of_lt (by decide) qz1)
  rw [← ha2] at h0 ⊢
  clear ha2
  refine wpAnyH_take (i := 3) (oi := aa_3 s) (v := .pointer (some ⟨z, 0, none⟩)) (by kernel_rfl) (by kernel_rfl) (by kernel_rfl) (by kernel_rfl) (fun c a w h => hQ c _ _ _ w h) (Or.inl ⟨wanted_none rfl, fun w hw => run_nil rfl f2_90 w⟩) hS ?_
  change wpAnyH _ _ _ _ _ _ _ (a0_2.put (some 91) (.pointer (some ⟨z, 0, none⟩))) _
  obtain ⟨a0_3, ha3⟩ : ∃ rr : Act, rr = a0_2.put (some 91) (.pointer (some ⟨z, 0, none⟩)) := ⟨_, rfl⟩
  have qz3 : 95 < a0_3.tmps.size := by rw [ha3, sz_put]; exact qz2
  have f3_88 : a0_3.eval (.tmp 88) = .pointer q := by rw [ha3, ev_other _ _ _ _ (by decide)]; exact f2_88
  have f3_91 : a0_3.eval (.tmp 91) = .pointer (some ⟨z, 0, none⟩) := by rw [ha3]; exact ev_same _ _ _ (Nat.lt_of_le_of_lt (by decide) qz2)
  rw [← ha3] at h0 ⊢
  clear ha3
  refine wpAnyH_take (i := 4) (oi := aa_4 s) (v := .pointer (some ⟨z, 0, none⟩)) (by kernel_rfl) (by kernel_rfl) (by kernel_rfl) (by kernel_rfl) (fun c a w h => hQ c _ _ _ w h) (Or.inl ⟨wanted_none rfl, fun w hw => fldQ rfl f3_91 w⟩) hS ?_
  change wpAnyH _ _ _ _ _ _ _ (a0_3.put (some 92) (.pointer (some ⟨z, 0, none⟩))) _
  obtain ⟨a0_4, ha4⟩ : ∃ rr : Act, rr = a0_3.put (some 92) (.pointer (some ⟨z, 0, none⟩)) := ⟨_, rfl⟩
  have qz4 : 95 < a0_4.tmps.size := by rw [ha4, sz_put]; exact qz3
  have f4_88 : a0_4.eval (.tmp 88) = .pointer q := by rw [ha4, ev_other _ _ _ _ (by decide)]; exact f3_88
  have f4_92 : a0_4.eval (.tmp 92) = .pointer (some ⟨z, 0, none⟩) := by rw [ha4]; exact ev_same _ _ _ (Nat.lt_of_le_of_lt (by decide) qz3)
  rw [← ha4] at h0 ⊢
  clear ha4
  refine wpAnyH_take (i := 5) (oi := aa_5 s) (v := .slice ao n c) (by kernel_rfl) (by kernel_rfl) (by kernel_rfl) (by kernel_rfl) (fun c a w h => hQ c _ _ _ w h) (Or.inl ⟨wanted_none rfl, fun w hw => run_load rfl f4_92 (load_kl hw)⟩) hS ?_
  change wpAnyH _ _ _ _ _ _ _ (a0_4.put (some 93) (.slice ao n c)) _
  obtain ⟨a0_5, ha5⟩ : ∃ rr : Act, rr = a0_4.put (some 93) (.slice ao n c) := ⟨_, rfl⟩
  have qz5 : 95 < a0_5.tmps.size := by rw [ha5, sz_put]; exact qz4
  have f5_88 : a0_5.eval (.tmp 88) = .pointer q := by rw [ha5, ev_other _ _ _ _ (by decide)]; exact f4_88
  have f5_93 : a0_5.eval (.tmp 93) = .slice ao n c := by rw [ha5]; exact ev_same _ _ _ (Nat.lt_of_le_of_lt (by decide) qz4)
  rw [← ha5] at h0 ⊢
  clear ha5
  refine wpAnyH_ready (rs := [1]) (by kernel_rfl) (by simp) ?_
  refine AllReadyH.cons (o := aa_1 s) (by kernel_rfl) (fun KQ hKQ => ?_) AllReadyH.nil
  rw [if_pos (wanted_none rfl)]
  refine step_enterE 11 #[.pointer q] (by rw [aa_enter1, f5_88]) (fun V w' => ∃ lb, V = riF lb ∧ M1 lb w') (hc1.mono (fun e w' ⟨lb, h1, h2⟩ => ⟨_, h1, lb, rfl, h2⟩)) ?_
  rintro _ w2 ⟨lb, rfl, hM1⟩
  refine hKQ.out _ _ (hk1 lb w2 hM1) (fun _ => ?_)
  clear hKQ KQ
  change wpAnyH _ _ _ _ _ _ _ (a0_5.put (some 89) (riF lb)) _
  have h0 := h0 lb w2 hM1
  obtain ⟨a0_6, ha6⟩ : ∃ rr : Act, rr = a0_5.put (some 89) (riF lb) := ⟨_, rfl⟩
  have qz6 : 95 < a0_6.tmps.size := by rw [ha6, sz_put]; exact qz5
  have f6_89 : a0_6.eval (.tmp 89) = riF lb := by rw [ha6]; exact ev_same _ _ _ (Nat.lt_of_le_of_lt (by decide) qz5)
  have f6_93 : a0_6.eval (.tmp 93) = .slice ao n c := by rw [ha6, ev_other _ _ _ _ (by decide)]; exact f5_93
  rw [← ha6] at h0 ⊢
  clear ha6
  refine wpAnyH_take (i := 6) (oi := aa_6 s) (v := .agg #[riF lb, .slice ao n c]) (by kernel_rfl) (by kernel_rfl) (by kernel_rfl) (by kernel_rfl) (fun c a w h => hQ c _ _ _ w h) (Or.inl ⟨wanted_none rfl, fun w hw => run_bdKP rfl f6_89 f6_93 w⟩) (hk1 lb w2 hM1) ?_
  change wpAnyH _ _ _ _ _ _ _ (a0_6.put (some 94) (.agg #[riF lb, .slice ao n c])) _
  obtain ⟨a0_7, ha7⟩ : ∃ rr : Act, rr = a0_6.put (some 94) (.agg #[riF lb, .slice ao n c]) := ⟨_, rfl⟩
  have qz7 : 95 < a0_7.tmps.size := by rw [ha7, sz_put]; exact qz6
  have f7_94 : a0_7.eval (.tmp 94) = .agg #[riF lb, .slice ao n c] := by rw [ha7]; exact ev_same _ _ _ (Nat.lt_of_le_of_lt (by decide) qz6)
  rw [← ha7] at h0 ⊢
  clear ha7
  refine wpAnyH_ready (rs := [7]) (by kernel_rfl) (by simp) ?_
  refine AllReadyH.cons (o := aa_7 s) (by kernel_rfl) (fun KQ hKQ => ?_) AllReadyH.nil
  rw [if_pos (wanted_none rfl)]
  refine step_enterE 10 #[.agg #[riF lb, .slice ao n c]] (by rw [aa_enter7, f7_94]) (fun V w' => V = .bool true ∧ M2 lb w2 w') ((hc2 lb w2 hM1).mono (fun e w' ⟨h1, h2⟩ => ⟨_, h1, rfl, h2⟩)) ?_
  rintro _ w3 ⟨rfl, hM2⟩
  refine hKQ.out _ _ (hk2 lb w2 w3 hM1 hM2) (fun _ => ?_)
  clear hKQ KQ
  change wpAnyH _ _ _ _ _ _ _ (a0_7.put (some 95) (.bool true)) _
  have h0 := h0 w3 hM2
  obtain ⟨a0_8, ha8⟩ : ∃ rr : Act, rr = a0_7.put (some 95) (.bool true) := ⟨_, rfl⟩
  have qz8 : 95 < a0_8.tmps.size := by rw [ha8, sz_put]; exact qz7
  have f8_95 : a0_8.eval (.tmp 95) = .bool true := by rw [ha8]; exact ev_same _ _ _ (Nat.lt_of_le_of_lt (by decide) qz7)
  rw [← ha8] at h0 ⊢
  clear ha8
  refine wpAnyH_take (i := 8) (oi := aa_8 s) (v := .bool true) (by kernel_rfl) (by kernel_rfl) (by kernel_rfl) (by kernel_rfl) (fun c a w h => hQ c _ _ _ w h) (Or.inl ⟨wanted_none rfl, fun w hw => by simp only [execOp, aa_8, f8_95]; rfl⟩) (hk2 lb w2 w3 hM1 hM2) ?_
  change wpAnyH _ _ _ _ _ _ _ (a0_8.put (some 4) (.bool true)) _
  obtain ⟨a0_9, ha9⟩ : ∃ rr : Act, rr = a0_8.put (some 4) (.bool true) := ⟨_, rfl⟩
  have qz9 : 95 < a0_9.tmps.size := by rw [ha9, sz_put]; exact qz8
  rw [← ha9] at h0 ⊢
  clear ha9
  refine wpAnyH_done (by kernel_rfl) ?_ _
  exact h0
def ak_0 (s : String) : Oper := { dst := some 98, op := Op.move (Operand.tmp 0), type := 24, pos := s, after := #[], guard := none }
def ak_1 (s : String) : Oper := { dst := some 99, op := Op.move (Operand.tmp 0), type := 24, pos := s, after := #[], guard := none }
def ak_2 (s : String) : Oper := { dst := some 100, op := Op.nilCheck (Operand.tmp 99), type := 0, pos := s, after := #[{ on := 1, ground := Ground.data }], guard := none }
def ak_3 (s : String) : Oper := { dst := some 101, op := Op.fieldAddr 32 (Operand.tmp 100) 3, type := 0, pos := s, after := #[{ on := 2, ground := Ground.data }], guard := none }
def ak_4 (s : String) : Oper := { dst := some 102, op := Op.load 30 (Operand.tmp 101), type := 30, pos := s, after := #[{ on := 3, ground := Ground.data }], guard := none }
def ak_5 (s : String) : Oper := { dst := some 103, op := Op.move (Operand.tmp 6), type := 25, pos := s, after := #[], guard := none }
def ak_6 (s : String) : Oper := { dst := some 104, op := Op.call { callee := Callee.value (Operand.func 11), args := #[Operand.tmp 103], argTypes := #[25] }, type := 45, pos := s, after := #[{ on := 5, ground := Ground.data }], guard := none }
def ak_7 (s : String) : Oper := { dst := some 105, op := Op.move (Operand.tmp 7), type := 27, pos := s, after := #[], guard := none }
def ak_8 (s : String) : Oper := { dst := some 106, op := Op.nilCheck (Operand.tmp 105), type := 0, pos := s, after := #[{ on := 7, ground := Ground.data }], guard := none }
def ak_9 (s : String) : Oper := { dst := some 107, op := Op.fieldAddr 48 (Operand.tmp 106) 0, type := 0, pos := s, after := #[{ on := 8, ground := Ground.data }], guard := none }
def ak_10 (s : String) : Oper := { dst := some 108, op := Op.load 39 (Operand.tmp 107), type := 39, pos := s, after := #[{ on := 9, ground := Ground.data }], guard := none }
def ak_11 (s : String) : Oper := { dst := some 109, op := Op.build 44 #[(0, Operand.tmp 104), (1, Operand.tmp 108)], type := 44, pos := s, after := #[{ on := 6, ground := Ground.data }, { on := 10, ground := Ground.data }], guard := none }
def ak_12 (s : String) : Oper := { dst := some 110, op := Op.buildSlice 30 1 #[(0, Operand.tmp 109)], type := 30, pos := s, after := #[{ on := 11, ground := Ground.data }], guard := none }
def ak_13 (s : String) : Oper := { dst := some 111, op := Op.call { callee := Callee.builtin Builtin.append, args := #[Operand.tmp 102, Operand.tmp 110], argTypes := #[30, 30] }, type := 30, pos := s, after := #[{ on := 4, ground := Ground.data }, { on := 12, ground := Ground.data }, { on := 6, ground := Ground.chain }], guard := none }
def ak_14 (s : String) : Oper := { dst := some 112, op := Op.nilCheck (Operand.tmp 98), type := 0, pos := s, after := #[{ on := 0, ground := Ground.data }, { on := 0, ground := Ground.phase }, { on := 1, ground := Ground.phase }, { on := 2, ground := Ground.phase }, { on := 3, ground := Ground.phase }, { on := 4, ground := Ground.phase }, { on := 5, ground := Ground.phase }, { on := 6, ground := Ground.phase }, { on := 7, ground := Ground.phase }, { on := 8, ground := Ground.phase }, { on := 9, ground := Ground.phase }, { on := 10, ground := Ground.phase }, { on := 11, ground := Ground.phase }, { on := 12, ground := Ground.phase }, { on := 13, ground := Ground.phase }], guard := none }
def ak_15 (s : String) : Oper := { dst := some 113, op := Op.fieldAddr 32 (Operand.tmp 112) 3, type := 0, pos := s, after := #[{ on := 14, ground := Ground.data }, { on := 0, ground := Ground.phase }, { on := 1, ground := Ground.phase }, { on := 2, ground := Ground.phase }, { on := 3, ground := Ground.phase }, { on := 4, ground := Ground.phase }, { on := 5, ground := Ground.phase }, { on := 6, ground := Ground.phase }, { on := 7, ground := Ground.phase }, { on := 8, ground := Ground.phase }, { on := 9, ground := Ground.phase }, { on := 10, ground := Ground.phase }, { on := 11, ground := Ground.phase }, { on := 12, ground := Ground.phase }, { on := 13, ground := Ground.phase }], guard := none }
def ak_16 (s : String) : Oper := { dst := none, op := Op.store 30 (Operand.tmp 113) (Operand.tmp 111), type := 0, pos := s, after := #[{ on := 15, ground := Ground.data }, { on := 13, ground := Ground.data }, { on := 13, ground := Ground.chain }, { on := 0, ground := Ground.phase }, { on := 1, ground := Ground.phase }, { on := 2, ground := Ground.phase }, { on := 3, ground := Ground.phase }, { on := 4, ground := Ground.phase }, { on := 5, ground := Ground.phase }, { on := 6, ground := Ground.phase }, { on := 7, ground := Ground.phase }, { on := 8, ground := Ground.phase }, { on := 9, ground := Ground.phase }, { on := 10, ground := Ground.phase }, { on := 11, ground := Ground.phase }, { on := 12, ground := Ground.phase }, { on := 13, ground := Ground.phase }], guard := none }
def ak_ops (s : String) : Array Oper := #[ak_0 s, ak_1 s, ak_2 s, ak_3 s, ak_4 s, ak_5 s, ak_6 s, ak_7 s, ak_8 s, ak_9 s, ak_10 s, ak_11 s, ak_12 s, ak_13 s, ak_14 s, ak_15 s, ak_16 s]
theorem ak_enter6 (s : String) (a : Act) (w : World) : (execOp a.eval (ak_6 s)).run Try.prog w = .ok (.enter 11 #[a.eval (.tmp 103)]) w := by kernel_rfl
theorem ak_walk (s : String) {Q : Exit → Act → World → Prop} (hQ : ∀ c (a : Act) t v w, Q (.panic c) (a.put (some t) v) w → Q (.panic c) a w) (W : World) (wz z n c : Nat) (ao q : Option Addr) (kv : Value) (M1 : Nat → World → Prop) (M3 : Nat → World → Value → World → Prop) (hS0 : W.drew.cell? ⟨z, 0, none⟩ = some (.slice ao n c)) (hK0 : W.drew.cell? ⟨wz, 9, none⟩ = some kv) (hc1 : Calls Try.prog 11 #[.pointer q] W.drew fun e w' => ∃ lb, e = .returned (riF lb) ∧ M1 lb w') (hk1 : ∀ lb w2, M1 lb w2 → (w2.cell? ⟨z, 0, none⟩ = some (.slice ao n c)) ∧ (w2.cell? ⟨wz, 9, none⟩ = some kv) ∧ ((w2.alloc (.cells #[riF lb, .slice ao n c] KPT)).cell? ⟨z, 0, none⟩ = some (.slice ao n c)) ∧ (w2.alloc (.cells #[riF lb, .slice ao n c] KPT)).cell? ⟨wz, 9, none⟩ = some kv) (happ : ∀ lb w2, M1 lb w2 → ∃ a5 n5 c5 w5, (Builtin.append_ #[KPLT, KPLT] KPLT #[kv, .slice (some ⟨w2.heap.size, 0, none⟩) 1 1]).run Try.prog (w2.alloc (.cells #[riF lb, .slice ao n c] KPT)) = .ok (.slice a5 n5 c5) w5 ∧ M3 lb w2 (.slice a5 n5 c5) w5 ∧ (w5.cell? ⟨z, 0, none⟩ = some (.slice ao n c)) ∧ (∃ v, w5.cell? ⟨wz, 9, none⟩ = some v) ∧ w5.frozen? ⟨wz, 9, none⟩ = false ∧ (w5.setCell ⟨wz, 9, none⟩ (.slice a5 n5 c5)).cell? ⟨z, 0, none⟩ = some (.slice ao n c))
    (a : Act) (hs : 113 < a.tmps.size) (e0 : a.eval (.tmp 0) = .pointer (some ⟨wz, 0, none⟩)) (e6 : a.eval (.tmp 6) = .pointer q) (e7 : a.eval (.tmp 7) = .pointer (some ⟨z, 0, none⟩))
    (h0 : ∀ lb w2, M1 lb w2 → ∀ a5 n5 c5 w5, M3 lb w2 (.slice a5 n5 c5) w5 → Q .normal ((((((((((((((((a.put (some 98) (.pointer (some ⟨wz, 0, none⟩))).put (some 99) (.pointer (some ⟨wz, 0, none⟩))).put (some 100) (.pointer (some ⟨wz, 0, none⟩))).put (some 101) (.pointer (some ⟨wz, 9, none⟩))).put (some 103) (.pointer q)).put (some 105) (.pointer (some ⟨z, 0, none⟩))).put (some 106) (.pointer (some ⟨z, 0, none⟩))).put (some 107) (.pointer (some ⟨z, 0, none⟩))).put (some 108) (.slice ao n c)).put (some 102) (kv)).put (some 104) (riF lb)).put (some 109) (.agg #[riF lb, .slice ao n c])).put (some 110) (.slice (some ⟨w2.heap.size, 0, none⟩) 1 1)).put (some 111) (.slice a5 n5 c5)).put (some 112) (.pointer (some ⟨wz, 0, none⟩))).put (some 113) (.pointer (some ⟨wz, 9, none⟩))) (w5.setCell ⟨wz, 9, none⟩ (.slice a5 n5 c5))) (h1 : ∀ lb w2, M1 lb w2 → ∀ a5 n5 c5 w5, M3 lb w2 (.slice a5 n5 c5) w5 → Q .normal ((((((((((((((((a.put (some 98) (.pointer (some ⟨wz, 0, none⟩))).put (some 99) (.pointer (some ⟨wz, 0, none⟩))).put (some 100) (.pointer (some ⟨wz, 0, none⟩))).put (some 101) (.pointer (some ⟨wz, 9, none⟩))).put (some 103) (.pointer q)).put (some 105) (.pointer (some ⟨z, 0, none⟩))).put (some 106) (.pointer (some ⟨z, 0, none⟩))).put (some 107) (.pointer (some ⟨z, 0, none⟩))).put (some 108) (.slice ao n c)).put (some 104) (riF lb)).put (some 109) (.agg #[riF lb, .slice ao n c])).put (some 102) (kv)).put (some 110) (.slice (some ⟨w2.heap.size, 0, none⟩) 1 1)).put (some 111) (.slice a5 n5 c5)).put (some 112) (.pointer (some ⟨wz, 0, none⟩))).put (some 113) (.pointer (some ⟨wz, 9, none⟩))) (w5.setCell ⟨wz, 9, none⟩ (.slice a5 n5 c5))) (h2 : ∀ lb w2, M1 lb w2 → ∀ a5 n5 c5 w5, M3 lb w2 (.slice a5 n5 c5) w5 → Q .normal ((((((((((((((((a.put (some 98) (.pointer (some ⟨wz, 0, none⟩))).put (some 99) (.pointer (some ⟨wz, 0, none⟩))).put (some 100) (.pointer (some ⟨wz, 0, none⟩))).put (some 101) (.pointer (some ⟨wz, 9, none⟩))).put (some 103) (.pointer q)).put (some 105) (.pointer (some ⟨z, 0, none⟩))).put (some 106) (.pointer (some ⟨z, 0, none⟩))).put (some 107) (.pointer (some ⟨z, 0, none⟩))).put (some 108) (.slice ao n c)).put (some 104) (riF lb)).put (some 109) (.agg #[riF lb, .slice ao n c])).put (some 110) (.slice (some ⟨w2.heap.size, 0, none⟩) 1 1)).put (some 102) (kv)).put (some 111) (.slice a5 n5 c5)).put (some 112) (.pointer (some ⟨wz, 0, none⟩))).put (some 113) (.pointer (some ⟨wz, 9, none⟩))) (w5.setCell ⟨wz, 9, none⟩ (.slice a5 n5 c5))) :
    Code.wp Try.prog (.region 15 (ak_ops s) true) Q a W := by
  refine wp_region_held_drew (S := fun w => w.cell? ⟨z, 0, none⟩ = some (.slice ao n c)) (by kernel_rfl) hS0 (fun hS => ?_)
  change wpAnyH _ _ _ _ _ _ _ _ (World.drew _)
  refine wpAnyH_take (i := 0) (oi := ak_0 s) (v := .pointer (some ⟨wz, 0, none⟩)) (by kernel_rfl) (by kernel_rfl) (by kernel_rfl) (by kernel_rfl) (fun c a w h => hQ c _ _ _ w h) (Or.inl ⟨wanted_none rfl, fun w hw => by simp only [execOp, ak_0, e0]; rfl⟩) hS ?_
  change wpAnyH _ _ _ _ _ _ _ (a.put (some 98) (.pointer (some ⟨wz, 0, none⟩))) _
  obtain ⟨a0_1, ha1⟩ : ∃ rr : Act, rr = a.put (some 98) (.pointer (some ⟨wz, 0, none⟩)) := ⟨_, rfl⟩
  have qz1 : 113 < a0_1.tmps.size := by rw [ha1, sz_put]; exact hs
  have f1_0 : a0_1.eval (.tmp 0) = .pointer (some ⟨wz, 0, none⟩) := by rw [ha1, ev_other _ _ _ _ (by decide)]; exact e0
  have f1_6 : a0_1.eval (.tmp 6) = .pointer q := by rw [ha1, ev_other _ _ _ _ (by decide)]; exact e6
  have f1_7 : a0_1.eval (.tmp 7) = .pointer (some ⟨z, 0, none⟩) := by rw [ha1, ev_other _ _ _ _ (by decide)]; exact e7
  have f1_98 : a0_1.eval (.tmp 98) = .pointer (some ⟨wz, 0, none⟩) := by rw [ha1]; exact ev_same _ _ _ (Nat.lt_of_le_of_lt (by decide) hs)
  rw [← ha1] at h0 h1 h2 ⊢
  clear ha1
  refine wpAnyH_take (i := 1) (oi := ak_1 s) (v := .pointer (some ⟨wz, 0, none⟩)) (by kernel_rfl) (by kernel_rfl) (by kernel_rfl) (by kernel_rfl) (fun c a w h => hQ c _ _ _ w h) (Or.inl ⟨wanted_none rfl, fun w hw => by simp only [execOp, ak_1, f1_0]; rfl⟩) hS ?_
  change wpAnyH _ _ _ _ _ _ _ (a0_1.put (some 99) (.pointer (some ⟨wz, 0, none⟩))) _
  obtain ⟨a0_2, ha2⟩ : ∃ rr : Act, rr = a0_1.put (some 99) (.pointer (some ⟨wz, 0, none⟩)) := ⟨_, rfl⟩
  have qz2 : 113 < a0_2.tmps.size := by rw [ha2, sz_put]; exact qz1
  have f2_6 : a0_2.eval (.tmp 6) = .pointer q := by rw [ha2, ev_other _ _ _ _ (by decide)]; exact f1_6
  have f2_7 : a0_2.eval (.tmp 7) = .pointer (some ⟨z, 0, none⟩) := by rw [ha2, ev_other _ _ _ _ (by decide)]; exact f1_7
  have f2_98 : a0_2.eval (.tmp 98) = .pointer (some ⟨wz, 0, none⟩) := by rw [ha2, ev_other _ _ _ _ (by decide)]; exact f1_98
  have f2_99 : a0_2.eval (.tmp 99) = .pointer (some ⟨wz, 0, none⟩) := by rw [ha2]; exact ev_same _ _ _ (Nat.lt_of_le_of_lt (by decide) qz1)
  rw [← ha2] at h0 h1 h2 ⊢
  clear ha2
  refine wpAnyH_take (i := 2) (oi := ak_2 s) (v := .pointer (some ⟨wz, 0, none⟩)) (by kernel_rfl) (by kernel_rfl) (by kernel_rfl) (by kernel_rfl) (fun c a w h => hQ c _ _ _ w h) (Or.inl ⟨wanted_none rfl, fun w hw => run_nil rfl f2_99 w⟩) hS ?_
  change wpAnyH _ _ _ _ _ _ _ (a0_2.put (some 100) (.pointer (some ⟨wz, 0, none⟩))) _
  obtain ⟨a0_3, ha3⟩ : ∃ rr : Act, rr = a0_2.put (some 100) (.pointer (some ⟨wz, 0, none⟩)) := ⟨_, rfl⟩
  have qz3 : 113 < a0_3.tmps.size := by rw [ha3, sz_put]; exact qz2
  have f3_6 : a0_3.eval (.tmp 6) = .pointer q := by rw [ha3, ev_other _ _ _ _ (by decide)]; exact f2_6
  have f3_7 : a0_3.eval (.tmp 7) = .pointer (some ⟨z, 0, none⟩) := by rw [ha3, ev_other _ _ _ _ (by decide)]; exact f2_7
  have f3_98 : a0_3.eval (.tmp 98) = .pointer (some ⟨wz, 0, none⟩) := by rw [ha3, ev_other _ _ _ _ (by decide)]; exact f2_98
  have f3_100 : a0_3.eval (.tmp 100) = .pointer (some ⟨wz, 0, none⟩) := by rw [ha3]; exact ev_same _ _ _ (Nat.lt_of_le_of_lt (by decide) qz2)
  rw [← ha3] at h0 h1 h2 ⊢
  clear ha3
  refine wpAnyH_take (i := 3) (oi := ak_3 s) (v := .pointer (some ⟨wz, 9, none⟩)) (by kernel_rfl) (by kernel_rfl) (by kernel_rfl) (by kernel_rfl) (fun c a w h => hQ c _ _ _ w h) (Or.inl ⟨wanted_none rfl, fun w hw => fldW wz 3 9 (fW3 wz) rfl f3_100 w⟩) hS ?_
  change wpAnyH _ _ _ _ _ _ _ (a0_3.put (some 101) (.pointer (some ⟨wz, 9, none⟩))) _
  obtain ⟨a0_4, ha4⟩ : ∃ rr : Act, rr = a0_3.put (some 101) (.pointer (some ⟨wz, 9, none⟩)) := ⟨_, rfl⟩
  have qz4 : 113 < a0_4.tmps.size := by rw [ha4, sz_put]; exact qz3
  have f4_6 : a0_4.eval (.tmp 6) = .pointer q := by rw [ha4, ev_other _ _ _ _ (by decide)]; exact f3_6
  have f4_7 : a0_4.eval (.tmp 7) = .pointer (some ⟨z, 0, none⟩) := by rw [ha4, ev_other _ _ _ _ (by decide)]; exact f3_7
  have f4_98 : a0_4.eval (.tmp 98) = .pointer (some ⟨wz, 0, none⟩) := by rw [ha4, ev_other _ _ _ _ (by decide)]; exact f3_98
  have f4_101 : a0_4.eval (.tmp 101) = .pointer (some ⟨wz, 9, none⟩) := by rw [ha4]; exact ev_same _ _ _ (Nat.lt_of_le_of_lt (by decide) qz3)
  rw [← ha4] at h0 h1 h2 ⊢
  clear ha4
  refine wpAnyH_take (i := 5) (oi := ak_5 s) (v := .pointer q) (by kernel_rfl) (by kernel_rfl) (by kernel_rfl) (by kernel_rfl) (fun c a w h => hQ c _ _ _ w h) (Or.inl ⟨wanted_none rfl, fun w hw => by simp only [execOp, ak_5, f4_6]; rfl⟩) hS ?_
  change wpAnyH _ _ _ _ _ _ _ (a0_4.put (some 103) (.pointer q)) _
  obtain ⟨a0_5, ha5⟩ : ∃ rr : Act, rr = a0_4.put (some 103) (.pointer q) := ⟨_, rfl⟩
  have qz5 : 113 < a0_5.tmps.size := by rw [ha5, sz_put]; exact qz4
  have f5_7 : a0_5.eval (.tmp 7) = .pointer (some ⟨z, 0, none⟩) := by rw [ha5, ev_other _ _ _ _ (by decide)]; exact f4_7
  have f5_98 : a0_5.eval (.tmp 98) = .pointer (some ⟨wz, 0, none⟩) := by rw [ha5, ev_other _ _ _ _ (by decide)]; exact f4_98
  have f5_101 : a0_5.eval (.tmp 101) = .pointer (some ⟨wz, 9, none⟩) := by rw [ha5, ev_other _ _ _ _ (by decide)]; exact f4_101
  have f5_103 : a0_5.eval (.tmp 103) = .pointer q := by rw [ha5]; exact ev_same _ _ _ (Nat.lt_of_le_of_lt (by decide) qz4)
  rw [← ha5] at h0 h1 h2 ⊢
  clear ha5
  refine wpAnyH_take (i := 7) (oi := ak_7 s) (v := .pointer (some ⟨z, 0, none⟩)) (by kernel_rfl) (by kernel_rfl) (by kernel_rfl) (by kernel_rfl) (fun c a w h => hQ c _ _ _ w h) (Or.inl ⟨wanted_none rfl, fun w hw => by simp only [execOp, ak_7, f5_7]; rfl⟩) hS ?_
  change wpAnyH _ _ _ _ _ _ _ (a0_5.put (some 105) (.pointer (some ⟨z, 0, none⟩))) _
  obtain ⟨a0_6, ha6⟩ : ∃ rr : Act, rr = a0_5.put (some 105) (.pointer (some ⟨z, 0, none⟩)) := ⟨_, rfl⟩
  have qz6 : 113 < a0_6.tmps.size := by rw [ha6, sz_put]; exact qz5
  have f6_98 : a0_6.eval (.tmp 98) = .pointer (some ⟨wz, 0, none⟩) := by rw [ha6, ev_other _ _ _ _ (by decide)]; exact f5_98
  have f6_101 : a0_6.eval (.tmp 101) = .pointer (some ⟨wz, 9, none⟩) := by rw [ha6, ev_other _ _ _ _ (by decide)]; exact f5_101
  have f6_103 : a0_6.eval (.tmp 103) = .pointer q := by rw [ha6, ev_other _ _ _ _ (by decide)]; exact f5_103
  have f6_105 : a0_6.eval (.tmp 105) = .pointer (some ⟨z, 0, none⟩) := by rw [ha6]; exact ev_same _ _ _ (Nat.lt_of_le_of_lt (by decide) qz5)
  rw [← ha6] at h0 h1 h2 ⊢
  clear ha6
  refine wpAnyH_take (i := 8) (oi := ak_8 s) (v := .pointer (some ⟨z, 0, none⟩)) (by kernel_rfl) (by kernel_rfl) (by kernel_rfl) (by kernel_rfl) (fun c a w h => hQ c _ _ _ w h) (Or.inl ⟨wanted_none rfl, fun w hw => run_nil rfl f6_105 w⟩) hS ?_
  change wpAnyH _ _ _ _ _ _ _ (a0_6.put (some 106) (.pointer (some ⟨z, 0, none⟩))) _
  obtain ⟨a0_7, ha7⟩ : ∃ rr : Act, rr = a0_6.put (some 106) (.pointer (some ⟨z, 0, none⟩)) := ⟨_, rfl⟩
  have qz7 : 113 < a0_7.tmps.size := by rw [ha7, sz_put]; exact qz6
  have f7_98 : a0_7.eval (.tmp 98) = .pointer (some ⟨wz, 0, none⟩) := by rw [ha7, ev_other _ _ _ _ (by decide)]; exact f6_98
  have f7_101 : a0_7.eval (.tmp 101) = .pointer (some ⟨wz, 9, none⟩) := by rw [ha7, ev_other _ _ _ _ (by decide)]; exact f6_101
  have f7_103 : a0_7.eval (.tmp 103) = .pointer q := by rw [ha7, ev_other _ _ _ _ (by decide)]; exact f6_103
  have f7_106 : a0_7.eval (.tmp 106) = .pointer (some ⟨z, 0, none⟩) := by rw [ha7]; exact ev_same _ _ _ (Nat.lt_of_le_of_lt (by decide) qz6)
  rw [← ha7] at h0 h1 h2 ⊢
  clear ha7
  refine wpAnyH_take (i := 9) (oi := ak_9 s) (v := .pointer (some ⟨z, 0, none⟩)) (by kernel_rfl) (by kernel_rfl) (by kernel_rfl) (by kernel_rfl) (fun c a w h => hQ c _ _ _ w h) (Or.inl ⟨wanted_none rfl, fun w hw => fldQ rfl f7_106 w⟩) hS ?_
  change wpAnyH _ _ _ _ _ _ _ (a0_7.put (some 107) (.pointer (some ⟨z, 0, none⟩))) _
  obtain ⟨a0_8, ha8⟩ : ∃ rr : Act, rr = a0_7.put (some 107) (.pointer (some ⟨z, 0, none⟩)) := ⟨_, rfl⟩
  have qz8 : 113 < a0_8.tmps.size := by rw [ha8, sz_put]; exact qz7
  have f8_98 : a0_8.eval (.tmp 98) = .pointer (some ⟨wz, 0, none⟩) := by rw [ha8, ev_other _ _ _ _ (by decide)]; exact f7_98
  have f8_101 : a0_8.eval (.tmp 101) = .pointer (some ⟨wz, 9, none⟩) := by rw [ha8, ev_other _ _ _ _ (by decide)]; exact f7_101
  have f8_103 : a0_8.eval (.tmp 103) = .pointer q := by rw [ha8, ev_other _ _ _ _ (by decide)]; exact f7_103
  have f8_107 : a0_8.eval (.tmp 107) = .pointer (some ⟨z, 0, none⟩) := by rw [ha8]; exact ev_same _ _ _ (Nat.lt_of_le_of_lt (by decide) qz7)
  rw [← ha8] at h0 h1 h2 ⊢
  clear ha8
  refine wpAnyH_take (i := 10) (oi := ak_10 s) (v := .slice ao n c) (by kernel_rfl) (by kernel_rfl) (by kernel_rfl) (by kernel_rfl) (fun c a w h => hQ c _ _ _ w h) (Or.inl ⟨wanted_none rfl, fun w hw => run_load rfl f8_107 (load_kl hw)⟩) hS ?_
  change wpAnyH _ _ _ _ _ _ _ (a0_8.put (some 108) (.slice ao n c)) _
  obtain ⟨a0_9, ha9⟩ : ∃ rr : Act, rr = a0_8.put (some 108) (.slice ao n c) := ⟨_, rfl⟩
  have qz9 : 113 < a0_9.tmps.size := by rw [ha9, sz_put]; exact qz8
  have f9_98 : a0_9.eval (.tmp 98) = .pointer (some ⟨wz, 0, none⟩) := by rw [ha9, ev_other _ _ _ _ (by decide)]; exact f8_98
  have f9_101 : a0_9.eval (.tmp 101) = .pointer (some ⟨wz, 9, none⟩) := by rw [ha9, ev_other _ _ _ _ (by decide)]; exact f8_101
  have f9_103 : a0_9.eval (.tmp 103) = .pointer q := by rw [ha9, ev_other _ _ _ _ (by decide)]; exact f8_103
  have f9_108 : a0_9.eval (.tmp 108) = .slice ao n c := by rw [ha9]; exact ev_same _ _ _ (Nat.lt_of_le_of_lt (by decide) qz8)
  rw [← ha9] at h0 h1 h2 ⊢
  clear ha9
  refine wpAnyH_ready (rs := [4, 6]) (by kernel_rfl) (by simp) ?_
  refine (AllReadyH.cons (o := ak_4 s) (by kernel_rfl) (fun KQ hKQ => ?_) (AllReadyH.cons (o := ak_6 s) (by kernel_rfl) (fun KQ hKQ => ?_) AllReadyH.nil))
  · skip
    rw [if_pos (wanted_none rfl)]
    refine step_runE (kv) (W.drew) (run_load rfl f9_101 (load_kp hK0)) ?_
    refine hKQ.out _ _ (hS0) (fun _ => ?_)
    clear hKQ KQ
    change wpAnyH _ _ _ _ _ _ _ (a0_9.put (some 102) (kv)) _
    obtain ⟨a0_10, ha10⟩ : ∃ rr : Act, rr = a0_9.put (some 102) (kv) := ⟨_, rfl⟩
    have qz10 : 113 < a0_10.tmps.size := by rw [ha10, sz_put]; exact qz9
    have f10_98 : a0_10.eval (.tmp 98) = .pointer (some ⟨wz, 0, none⟩) := by rw [ha10, ev_other _ _ _ _ (by decide)]; exact f9_98
    have f10_102 : a0_10.eval (.tmp 102) = kv := by rw [ha10]; exact ev_same _ _ _ (Nat.lt_of_le_of_lt (by decide) qz9)
    have f10_103 : a0_10.eval (.tmp 103) = .pointer q := by rw [ha10, ev_other _ _ _ _ (by decide)]; exact f9_103
    have f10_108 : a0_10.eval (.tmp 108) = .slice ao n c := by rw [ha10, ev_other _ _ _ _ (by decide)]; exact f9_108
    rw [← ha10] at h0 ⊢
    clear ha10
    refine wpAnyH_ready (rs := [6]) (by kernel_rfl) (by simp) ?_
    refine AllReadyH.cons (o := ak_6 s) (by kernel_rfl) (fun KQ hKQ => ?_) AllReadyH.nil
    rw [if_pos (wanted_none rfl)]
    refine step_enterE 11 #[.pointer q] (by rw [ak_enter6, f10_103]) (fun V w' => ∃ lb, V = riF lb ∧ M1 lb w') (hc1.mono (fun e w' ⟨lb, h1, h2⟩ => ⟨_, h1, lb, rfl, h2⟩)) ?_
    rintro _ w2 ⟨lb, rfl, hM1⟩
    refine hKQ.out _ _ ((hk1 lb w2 hM1).1) (fun _ => ?_)
    clear hKQ KQ
    change wpAnyH _ _ _ _ _ _ _ (a0_10.put (some 104) (riF lb)) _
    have h0 := h0 lb w2 hM1
    obtain ⟨a0_11, ha11⟩ : ∃ rr : Act, rr = a0_10.put (some 104) (riF lb) := ⟨_, rfl⟩
    have qz11 : 113 < a0_11.tmps.size := by rw [ha11, sz_put]; exact qz10
    have f11_98 : a0_11.eval (.tmp 98) = .pointer (some ⟨wz, 0, none⟩) := by rw [ha11, ev_other _ _ _ _ (by decide)]; exact f10_98
    have f11_102 : a0_11.eval (.tmp 102) = kv := by rw [ha11, ev_other _ _ _ _ (by decide)]; exact f10_102
    have f11_104 : a0_11.eval (.tmp 104) = riF lb := by rw [ha11]; exact ev_same _ _ _ (Nat.lt_of_le_of_lt (by decide) qz10)
    have f11_108 : a0_11.eval (.tmp 108) = .slice ao n c := by rw [ha11, ev_other _ _ _ _ (by decide)]; exact f10_108
    rw [← ha11] at h0 ⊢
    clear ha11
    refine wpAnyH_take (i := 11) (oi := ak_11 s) (v := .agg #[riF lb, .slice ao n c]) (by kernel_rfl) (by kernel_rfl) (by kernel_rfl) (by kernel_rfl) (fun c a w h => hQ c _ _ _ w h) (Or.inl ⟨wanted_none rfl, fun w hw => run_bdKP rfl f11_104 f11_108 w⟩) (hk1 lb w2 hM1).1 ?_
    change wpAnyH _ _ _ _ _ _ _ (a0_11.put (some 109) (.agg #[riF lb, .slice ao n c])) _
    obtain ⟨a0_12, ha12⟩ : ∃ rr : Act, rr = a0_11.put (some 109) (.agg #[riF lb, .slice ao n c]) := ⟨_, rfl⟩
    have qz12 : 113 < a0_12.tmps.size := by rw [ha12, sz_put]; exact qz11
    have f12_98 : a0_12.eval (.tmp 98) = .pointer (some ⟨wz, 0, none⟩) := by rw [ha12, ev_other _ _ _ _ (by decide)]; exact f11_98
    have f12_102 : a0_12.eval (.tmp 102) = kv := by rw [ha12, ev_other _ _ _ _ (by decide)]; exact f11_102
    have f12_109 : a0_12.eval (.tmp 109) = .agg #[riF lb, .slice ao n c] := by rw [ha12]; exact ev_same _ _ _ (Nat.lt_of_le_of_lt (by decide) qz11)
    rw [← ha12] at h0 ⊢
    clear ha12
    refine wpAnyH_ready (rs := [12]) (by kernel_rfl) (by simp) ?_
    refine AllReadyH.cons (o := ak_12 s) (by kernel_rfl) (fun KQ hKQ => ?_) AllReadyH.nil
    rw [if_pos (wanted_none rfl)]
    refine step_runE (.slice (some ⟨w2.heap.size, 0, none⟩) 1 1) ((w2.alloc (.cells #[riF lb, .slice ao n c] KPT))) (run_bsKP rfl f12_109) ?_
    refine hKQ.out _ _ ((hk1 lb w2 hM1).2.2.1) (fun _ => ?_)
    clear hKQ KQ
    change wpAnyH _ _ _ _ _ _ _ (a0_12.put (some 110) (.slice (some ⟨w2.heap.size, 0, none⟩) 1 1)) _
    obtain ⟨a0_13, ha13⟩ : ∃ rr : Act, rr = a0_12.put (some 110) (.slice (some ⟨w2.heap.size, 0, none⟩) 1 1) := ⟨_, rfl⟩
    have qz13 : 113 < a0_13.tmps.size := by rw [ha13, sz_put]; exact qz12
    have f13_98 : a0_13.eval (.tmp 98) = .pointer (some ⟨wz, 0, none⟩) := by rw [ha13, ev_other _ _ _ _ (by decide)]; exact f12_98
    have f13_102 : a0_13.eval (.tmp 102) = kv := by rw [ha13, ev_other _ _ _ _ (by decide)]; exact f12_102
    have f13_110 : a0_13.eval (.tmp 110) = .slice (some ⟨w2.heap.size, 0, none⟩) 1 1 := by rw [ha13]; exact ev_same _ _ _ (Nat.lt_of_le_of_lt (by decide) qz12)
    rw [← ha13] at h0 ⊢
    clear ha13
    refine wpAnyH_ready (rs := [13]) (by kernel_rfl) (by simp) ?_
    refine AllReadyH.cons (o := ak_13 s) (by kernel_rfl) (fun KQ hKQ => ?_) AllReadyH.nil
    rw [if_pos (wanted_none rfl)]
    obtain ⟨a5, n5, c5, w5, hrun, hM3, hS5, ⟨v9, hc9⟩, hf9, hS6⟩ := happ lb w2 hM1
    refine step_runE (.slice a5 n5 c5) (w5) (run_appKP rfl f13_102 f13_110 rfl hrun) ?_
    refine hKQ.out _ _ (hS5) (fun _ => ?_)
    clear hKQ KQ
    change wpAnyH _ _ _ _ _ _ _ (a0_13.put (some 111) (.slice a5 n5 c5)) _
    have h0 := h0 a5 n5 c5 w5 hM3
    obtain ⟨a0_14, ha14⟩ : ∃ rr : Act, rr = a0_13.put (some 111) (.slice a5 n5 c5) := ⟨_, rfl⟩
    have qz14 : 113 < a0_14.tmps.size := by rw [ha14, sz_put]; exact qz13
    have f14_98 : a0_14.eval (.tmp 98) = .pointer (some ⟨wz, 0, none⟩) := by rw [ha14, ev_other _ _ _ _ (by decide)]; exact f13_98
    have f14_111 : a0_14.eval (.tmp 111) = .slice a5 n5 c5 := by rw [ha14]; exact ev_same _ _ _ (Nat.lt_of_le_of_lt (by decide) qz13)
    rw [← ha14] at h0 ⊢
    clear ha14
    refine wpAnyH_take (i := 14) (oi := ak_14 s) (v := .pointer (some ⟨wz, 0, none⟩)) (by kernel_rfl) (by kernel_rfl) (by kernel_rfl) (by kernel_rfl) (fun c a w h => hQ c _ _ _ w h) (Or.inl ⟨wanted_none rfl, fun w hw => run_nil rfl f14_98 w⟩) hS5 ?_
    change wpAnyH _ _ _ _ _ _ _ (a0_14.put (some 112) (.pointer (some ⟨wz, 0, none⟩))) _
    obtain ⟨a0_15, ha15⟩ : ∃ rr : Act, rr = a0_14.put (some 112) (.pointer (some ⟨wz, 0, none⟩)) := ⟨_, rfl⟩
    have qz15 : 113 < a0_15.tmps.size := by rw [ha15, sz_put]; exact qz14
    have f15_111 : a0_15.eval (.tmp 111) = .slice a5 n5 c5 := by rw [ha15, ev_other _ _ _ _ (by decide)]; exact f14_111
    have f15_112 : a0_15.eval (.tmp 112) = .pointer (some ⟨wz, 0, none⟩) := by rw [ha15]; exact ev_same _ _ _ (Nat.lt_of_le_of_lt (by decide) qz14)
    rw [← ha15] at h0 ⊢
    clear ha15
    refine wpAnyH_take (i := 15) (oi := ak_15 s) (v := .pointer (some ⟨wz, 9, none⟩)) (by kernel_rfl) (by kernel_rfl) (by kernel_rfl) (by kernel_rfl) (fun c a w h => hQ c _ _ _ w h) (Or.inl ⟨wanted_none rfl, fun w hw => fldW wz 3 9 (fW3 wz) rfl f15_112 w⟩) hS5 ?_
    change wpAnyH _ _ _ _ _ _ _ (a0_15.put (some 113) (.pointer (some ⟨wz, 9, none⟩))) _
    obtain ⟨a0_16, ha16⟩ : ∃ rr : Act, rr = a0_15.put (some 113) (.pointer (some ⟨wz, 9, none⟩)) := ⟨_, rfl⟩
    have qz16 : 113 < a0_16.tmps.size := by rw [ha16, sz_put]; exact qz15
    have f16_111 : a0_16.eval (.tmp 111) = .slice a5 n5 c5 := by rw [ha16, ev_other _ _ _ _ (by decide)]; exact f15_111
    have f16_113 : a0_16.eval (.tmp 113) = .pointer (some ⟨wz, 9, none⟩) := by rw [ha16]; exact ev_same _ _ _ (Nat.lt_of_le_of_lt (by decide) qz15)
    rw [← ha16] at h0 ⊢
    clear ha16
    refine wpAnyH_ready (rs := [16]) (by kernel_rfl) (by simp) ?_
    refine AllReadyH.cons (o := ak_16 s) (by kernel_rfl) (fun KQ hKQ => ?_) AllReadyH.nil
    rw [if_pos (wanted_none rfl)]
    refine step_skipE (w5.setCell ⟨wz, 9, none⟩ (.slice a5 n5 c5)) (run_stKV rfl f16_113 f16_111 hc9 hf9) ?_
    refine hKQ.out _ _ (hS6) (fun _ => ?_)
    clear hKQ KQ
    refine wpAnyH_done (by kernel_rfl) ?_ _
    exact h0
  · skip
    rw [if_pos (wanted_none rfl)]
    refine step_enterE 11 #[.pointer q] (by rw [ak_enter6, f9_103]) (fun V w' => ∃ lb, V = riF lb ∧ M1 lb w') (hc1.mono (fun e w' ⟨lb, h1, h2⟩ => ⟨_, h1, lb, rfl, h2⟩)) ?_
    rintro _ w2 ⟨lb, rfl, hM1⟩
    refine hKQ.out _ _ ((hk1 lb w2 hM1).1) (fun _ => ?_)
    clear hKQ KQ
    change wpAnyH _ _ _ _ _ _ _ (a0_9.put (some 104) (riF lb)) _
    have h1 := h1 lb w2 hM1
    have h2 := h2 lb w2 hM1
    obtain ⟨a1_10, ha10⟩ : ∃ rr : Act, rr = a0_9.put (some 104) (riF lb) := ⟨_, rfl⟩
    have qz10 : 113 < a1_10.tmps.size := by rw [ha10, sz_put]; exact qz9
    have f10_98 : a1_10.eval (.tmp 98) = .pointer (some ⟨wz, 0, none⟩) := by rw [ha10, ev_other _ _ _ _ (by decide)]; exact f9_98
    have f10_101 : a1_10.eval (.tmp 101) = .pointer (some ⟨wz, 9, none⟩) := by rw [ha10, ev_other _ _ _ _ (by decide)]; exact f9_101
    have f10_104 : a1_10.eval (.tmp 104) = riF lb := by rw [ha10]; exact ev_same _ _ _ (Nat.lt_of_le_of_lt (by decide) qz9)
    have f10_108 : a1_10.eval (.tmp 108) = .slice ao n c := by rw [ha10, ev_other _ _ _ _ (by decide)]; exact f9_108
    rw [← ha10] at h1 h2 ⊢
    clear ha10
    refine wpAnyH_take (i := 11) (oi := ak_11 s) (v := .agg #[riF lb, .slice ao n c]) (by kernel_rfl) (by kernel_rfl) (by kernel_rfl) (by kernel_rfl) (fun c a w h => hQ c _ _ _ w h) (Or.inl ⟨wanted_none rfl, fun w hw => run_bdKP rfl f10_104 f10_108 w⟩) (hk1 lb w2 hM1).1 ?_
    change wpAnyH _ _ _ _ _ _ _ (a1_10.put (some 109) (.agg #[riF lb, .slice ao n c])) _
    obtain ⟨a1_11, ha11⟩ : ∃ rr : Act, rr = a1_10.put (some 109) (.agg #[riF lb, .slice ao n c]) := ⟨_, rfl⟩
    have qz11 : 113 < a1_11.tmps.size := by rw [ha11, sz_put]; exact qz10
    have f11_98 : a1_11.eval (.tmp 98) = .pointer (some ⟨wz, 0, none⟩) := by rw [ha11, ev_other _ _ _ _ (by decide)]; exact f10_98
    have f11_101 : a1_11.eval (.tmp 101) = .pointer (some ⟨wz, 9, none⟩) := by rw [ha11, ev_other _ _ _ _ (by decide)]; exact f10_101
    have f11_109 : a1_11.eval (.tmp 109) = .agg #[riF lb, .slice ao n c] := by rw [ha11]; exact ev_same _ _ _ (Nat.lt_of_le_of_lt (by decide) qz10)
    rw [← ha11] at h1 h2 ⊢
    clear ha11
    refine wpAnyH_ready (rs := [4, 12]) (by kernel_rfl) (by simp) ?_
    refine (AllReadyH.cons (o := ak_4 s) (by kernel_rfl) (fun KQ hKQ => ?_) (AllReadyH.cons (o := ak_12 s) (by kernel_rfl) (fun KQ hKQ => ?_) AllReadyH.nil))
    · skip
      rw [if_pos (wanted_none rfl)]
      refine step_runE (kv) (w2) (run_load rfl f11_101 (load_kp (hk1 lb w2 hM1).2.1)) ?_
      refine hKQ.out _ _ ((hk1 lb w2 hM1).1) (fun _ => ?_)
      clear hKQ KQ
      change wpAnyH _ _ _ _ _ _ _ (a1_11.put (some 102) (kv)) _
      obtain ⟨a1_12, ha12⟩ : ∃ rr : Act, rr = a1_11.put (some 102) (kv) := ⟨_, rfl⟩
      have qz12 : 113 < a1_12.tmps.size := by rw [ha12, sz_put]; exact qz11
      have f12_98 : a1_12.eval (.tmp 98) = .pointer (some ⟨wz, 0, none⟩) := by rw [ha12, ev_other _ _ _ _ (by decide)]; exact f11_98
      have f12_102 : a1_12.eval (.tmp 102) = kv := by rw [ha12]; exact ev_same _ _ _ (Nat.lt_of_le_of_lt (by decide) qz11)
      have f12_109 : a1_12.eval (.tmp 109) = .agg #[riF lb, .slice ao n c] := by rw [ha12, ev_other _ _ _ _ (by decide)]; exact f11_109
      rw [← ha12] at h1 ⊢
      clear ha12
      refine wpAnyH_ready (rs := [12]) (by kernel_rfl) (by simp) ?_
      refine AllReadyH.cons (o := ak_12 s) (by kernel_rfl) (fun KQ hKQ => ?_) AllReadyH.nil
      rw [if_pos (wanted_none rfl)]
      refine step_runE (.slice (some ⟨w2.heap.size, 0, none⟩) 1 1) ((w2.alloc (.cells #[riF lb, .slice ao n c] KPT))) (run_bsKP rfl f12_109) ?_
      refine hKQ.out _ _ ((hk1 lb w2 hM1).2.2.1) (fun _ => ?_)
      clear hKQ KQ
      change wpAnyH _ _ _ _ _ _ _ (a1_12.put (some 110) (.slice (some ⟨w2.heap.size, 0, none⟩) 1 1)) _
      obtain ⟨a1_13, ha13⟩ : ∃ rr : Act, rr = a1_12.put (some 110) (.slice (some ⟨w2.heap.size, 0, none⟩) 1 1) := ⟨_, rfl⟩
      have qz13 : 113 < a1_13.tmps.size := by rw [ha13, sz_put]; exact qz12
      have f13_98 : a1_13.eval (.tmp 98) = .pointer (some ⟨wz, 0, none⟩) := by rw [ha13, ev_other _ _ _ _ (by decide)]; exact f12_98
      have f13_102 : a1_13.eval (.tmp 102) = kv := by rw [ha13, ev_other _ _ _ _ (by decide)]; exact f12_102
      have f13_110 : a1_13.eval (.tmp 110) = .slice (some ⟨w2.heap.size, 0, none⟩) 1 1 := by rw [ha13]; exact ev_same _ _ _ (Nat.lt_of_le_of_lt (by decide) qz12)
      rw [← ha13] at h1 ⊢
      clear ha13
      refine wpAnyH_ready (rs := [13]) (by kernel_rfl) (by simp) ?_
      refine AllReadyH.cons (o := ak_13 s) (by kernel_rfl) (fun KQ hKQ => ?_) AllReadyH.nil
      rw [if_pos (wanted_none rfl)]
      obtain ⟨a5, n5, c5, w5, hrun, hM3, hS5, ⟨v9, hc9⟩, hf9, hS6⟩ := happ lb w2 hM1
      refine step_runE (.slice a5 n5 c5) (w5) (run_appKP rfl f13_102 f13_110 rfl hrun) ?_
      refine hKQ.out _ _ (hS5) (fun _ => ?_)
      clear hKQ KQ
      change wpAnyH _ _ _ _ _ _ _ (a1_13.put (some 111) (.slice a5 n5 c5)) _
      have h1 := h1 a5 n5 c5 w5 hM3
      obtain ⟨a1_14, ha14⟩ : ∃ rr : Act, rr = a1_13.put (some 111) (.slice a5 n5 c5) := ⟨_, rfl⟩
      have qz14 : 113 < a1_14.tmps.size := by rw [ha14, sz_put]; exact qz13
      have f14_98 : a1_14.eval (.tmp 98) = .pointer (some ⟨wz, 0, none⟩) := by rw [ha14, ev_other _ _ _ _ (by decide)]; exact f13_98
      have f14_111 : a1_14.eval (.tmp 111) = .slice a5 n5 c5 := by rw [ha14]; exact ev_same _ _ _ (Nat.lt_of_le_of_lt (by decide) qz13)
      rw [← ha14] at h1 ⊢
      clear ha14
      refine wpAnyH_take (i := 14) (oi := ak_14 s) (v := .pointer (some ⟨wz, 0, none⟩)) (by kernel_rfl) (by kernel_rfl) (by kernel_rfl) (by kernel_rfl) (fun c a w h => hQ c _ _ _ w h) (Or.inl ⟨wanted_none rfl, fun w hw => run_nil rfl f14_98 w⟩) hS5 ?_
      change wpAnyH _ _ _ _ _ _ _ (a1_14.put (some 112) (.pointer (some ⟨wz, 0, none⟩))) _
      obtain ⟨a1_15, ha15⟩ : ∃ rr : Act, rr = a1_14.put (some 112) (.pointer (some ⟨wz, 0, none⟩)) := ⟨_, rfl⟩
      have qz15 : 113 < a1_15.tmps.size := by rw [ha15, sz_put]; exact qz14
      have f15_111 : a1_15.eval (.tmp 111) = .slice a5 n5 c5 := by rw [ha15, ev_other _ _ _ _ (by decide)]; exact f14_111
      have f15_112 : a1_15.eval (.tmp 112) = .pointer (some ⟨wz, 0, none⟩) := by rw [ha15]; exact ev_same _ _ _ (Nat.lt_of_le_of_lt (by decide) qz14)
      rw [← ha15] at h1 ⊢
      clear ha15
      refine wpAnyH_take (i := 15) (oi := ak_15 s) (v := .pointer (some ⟨wz, 9, none⟩)) (by kernel_rfl) (by kernel_rfl) (by kernel_rfl) (by kernel_rfl) (fun c a w h => hQ c _ _ _ w h) (Or.inl ⟨wanted_none rfl, fun w hw => fldW wz 3 9 (fW3 wz) rfl f15_112 w⟩) hS5 ?_
      change wpAnyH _ _ _ _ _ _ _ (a1_15.put (some 113) (.pointer (some ⟨wz, 9, none⟩))) _
      obtain ⟨a1_16, ha16⟩ : ∃ rr : Act, rr = a1_15.put (some 113) (.pointer (some ⟨wz, 9, none⟩)) := ⟨_, rfl⟩
      have qz16 : 113 < a1_16.tmps.size := by rw [ha16, sz_put]; exact qz15
      have f16_111 : a1_16.eval (.tmp 111) = .slice a5 n5 c5 := by rw [ha16, ev_other _ _ _ _ (by decide)]; exact f15_111
      have f16_113 : a1_16.eval (.tmp 113) = .pointer (some ⟨wz, 9, none⟩) := by rw [ha16]; exact ev_same _ _ _ (Nat.lt_of_le_of_lt (by decide) qz15)
      rw [← ha16] at h1 ⊢
      clear ha16
      refine wpAnyH_ready (rs := [16]) (by kernel_rfl) (by simp) ?_
      refine AllReadyH.cons (o := ak_16 s) (by kernel_rfl) (fun KQ hKQ => ?_) AllReadyH.nil
      rw [if_pos (wanted_none rfl)]
      refine step_skipE (w5.setCell ⟨wz, 9, none⟩ (.slice a5 n5 c5)) (run_stKV rfl f16_113 f16_111 hc9 hf9) ?_
      refine hKQ.out _ _ (hS6) (fun _ => ?_)
      clear hKQ KQ
      refine wpAnyH_done (by kernel_rfl) ?_ _
      exact h1
    · skip
      rw [if_pos (wanted_none rfl)]
      refine step_runE (.slice (some ⟨w2.heap.size, 0, none⟩) 1 1) ((w2.alloc (.cells #[riF lb, .slice ao n c] KPT))) (run_bsKP rfl f11_109) ?_
      refine hKQ.out _ _ ((hk1 lb w2 hM1).2.2.1) (fun _ => ?_)
      clear hKQ KQ
      change wpAnyH _ _ _ _ _ _ _ (a1_11.put (some 110) (.slice (some ⟨w2.heap.size, 0, none⟩) 1 1)) _
      obtain ⟨a2_12, ha12⟩ : ∃ rr : Act, rr = a1_11.put (some 110) (.slice (some ⟨w2.heap.size, 0, none⟩) 1 1) := ⟨_, rfl⟩
      have qz12 : 113 < a2_12.tmps.size := by rw [ha12, sz_put]; exact qz11
      have f12_98 : a2_12.eval (.tmp 98) = .pointer (some ⟨wz, 0, none⟩) := by rw [ha12, ev_other _ _ _ _ (by decide)]; exact f11_98
      have f12_101 : a2_12.eval (.tmp 101) = .pointer (some ⟨wz, 9, none⟩) := by rw [ha12, ev_other _ _ _ _ (by decide)]; exact f11_101
      have f12_110 : a2_12.eval (.tmp 110) = .slice (some ⟨w2.heap.size, 0, none⟩) 1 1 := by rw [ha12]; exact ev_same _ _ _ (Nat.lt_of_le_of_lt (by decide) qz11)
      rw [← ha12] at h2 ⊢
      clear ha12
      refine wpAnyH_ready (rs := [4]) (by kernel_rfl) (by simp) ?_
      refine AllReadyH.cons (o := ak_4 s) (by kernel_rfl) (fun KQ hKQ => ?_) AllReadyH.nil
      rw [if_pos (wanted_none rfl)]
      refine step_runE (kv) ((w2.alloc (.cells #[riF lb, .slice ao n c] KPT))) (run_load rfl f12_101 (load_kp (hk1 lb w2 hM1).2.2.2)) ?_
      refine hKQ.out _ _ ((hk1 lb w2 hM1).2.2.1) (fun _ => ?_)
      clear hKQ KQ
      change wpAnyH _ _ _ _ _ _ _ (a2_12.put (some 102) (kv)) _
      obtain ⟨a2_13, ha13⟩ : ∃ rr : Act, rr = a2_12.put (some 102) (kv) := ⟨_, rfl⟩
      have qz13 : 113 < a2_13.tmps.size := by rw [ha13, sz_put]; exact qz12
      have f13_98 : a2_13.eval (.tmp 98) = .pointer (some ⟨wz, 0, none⟩) := by rw [ha13, ev_other _ _ _ _ (by decide)]; exact f12_98
      have f13_102 : a2_13.eval (.tmp 102) = kv := by rw [ha13]; exact ev_same _ _ _ (Nat.lt_of_le_of_lt (by decide) qz12)
      have f13_110 : a2_13.eval (.tmp 110) = .slice (some ⟨w2.heap.size, 0, none⟩) 1 1 := by rw [ha13, ev_other _ _ _ _ (by decide)]; exact f12_110
      rw [← ha13] at h2 ⊢
      clear ha13
      refine wpAnyH_ready (rs := [13]) (by kernel_rfl) (by simp) ?_
      refine AllReadyH.cons (o := ak_13 s) (by kernel_rfl) (fun KQ hKQ => ?_) AllReadyH.nil
      rw [if_pos (wanted_none rfl)]
      obtain ⟨a5, n5, c5, w5, hrun, hM3, hS5, ⟨v9, hc9⟩, hf9, hS6⟩ := happ lb w2 hM1
      refine step_runE (.slice a5 n5 c5) (w5) (run_appKP rfl f13_102 f13_110 rfl hrun) ?_
      refine hKQ.out _ _ (hS5) (fun _ => ?_)
      clear hKQ KQ
      change wpAnyH _ _ _ _ _ _ _ (a2_13.put (some 111) (.slice a5 n5 c5)) _
      have h2 := h2 a5 n5 c5 w5 hM3
      obtain ⟨a2_14, ha14⟩ : ∃ rr : Act, rr = a2_13.put (some 111) (.slice a5 n5 c5) := ⟨_, rfl⟩
      have qz14 : 113 < a2_14.tmps.size := by rw [ha14, sz_put]; exact qz13
      have f14_98 : a2_14.eval (.tmp 98) = .pointer (some ⟨wz, 0, none⟩) := by rw [ha14, ev_other _ _ _ _ (by decide)]; exact f13_98
      have f14_111 : a2_14.eval (.tmp 111) = .slice a5 n5 c5 := by rw [ha14]; exact ev_same _ _ _ (Nat.lt_of_le_of_lt (by decide) qz13)
      rw [← ha14] at h2 ⊢
      clear ha14
      refine wpAnyH_take (i := 14) (oi := ak_14 s) (v := .pointer (some ⟨wz, 0, none⟩)) (by kernel_rfl) (by kernel_rfl) (by kernel_rfl) (by kernel_rfl) (fun c a w h => hQ c _ _ _ w h) (Or.inl ⟨wanted_none rfl, fun w hw => run_nil rfl f14_98 w⟩) hS5 ?_
      change wpAnyH _ _ _ _ _ _ _ (a2_14.put (some 112) (.pointer (some ⟨wz, 0, none⟩))) _
      obtain ⟨a2_15, ha15⟩ : ∃ rr : Act, rr = a2_14.put (some 112) (.pointer (some ⟨wz, 0, none⟩)) := ⟨_, rfl⟩
      have qz15 : 113 < a2_15.tmps.size := by rw [ha15, sz_put]; exact qz14
      have f15_111 : a2_15.eval (.tmp 111) = .slice a5 n5 c5 := by rw [ha15, ev_other _ _ _ _ (by decide)]; exact f14_111
      have f15_112 : a2_15.eval (.tmp 112) = .pointer (some ⟨wz, 0, none⟩) := by rw [ha15]; exact ev_same _ _ _ (Nat.lt_of_le_of_lt (by decide) qz14)
      rw [← ha15] at h2 ⊢
      clear ha15
      refine wpAnyH_take (i := 15) (oi := ak_15 s) (v := .pointer (some ⟨wz, 9, none⟩)) (by kernel_rfl) (by kernel_rfl) (by kernel_rfl) (by kernel_rfl) (fun c a w h => hQ c _ _ _ w h) (Or.inl ⟨wanted_none rfl, fun w hw => fldW wz 3 9 (fW3 wz) rfl f15_112 w⟩) hS5 ?_
      change wpAnyH _ _ _ _ _ _ _ (a2_15.put (some 113) (.pointer (some ⟨wz, 9, none⟩))) _
      obtain ⟨a2_16, ha16⟩ : ∃ rr : Act, rr = a2_15.put (some 113) (.pointer (some ⟨wz, 9, none⟩)) := ⟨_, rfl⟩
      have qz16 : 113 < a2_16.tmps.size := by rw [ha16, sz_put]; exact qz15
      have f16_111 : a2_16.eval (.tmp 111) = .slice a5 n5 c5 := by rw [ha16, ev_other _ _ _ _ (by decide)]; exact f15_111
      have f16_113 : a2_16.eval (.tmp 113) = .pointer (some ⟨wz, 9, none⟩) := by rw [ha16]; exact ev_same _ _ _ (Nat.lt_of_le_of_lt (by decide) qz15)
      rw [← ha16] at h2 ⊢
      clear ha16
      refine wpAnyH_ready (rs := [16]) (by kernel_rfl) (by simp) ?_
      refine AllReadyH.cons (o := ak_16 s) (by kernel_rfl) (fun KQ hKQ => ?_) AllReadyH.nil
      rw [if_pos (wanted_none rfl)]
      refine step_skipE (w5.setCell ⟨wz, 9, none⟩ (.slice a5 n5 c5)) (run_stKV rfl f16_113 f16_111 hc9 hf9) ?_
      refine hKQ.out _ _ (hS6) (fun _ => ?_)
      clear hKQ KQ
      refine wpAnyH_done (by kernel_rfl) ?_ _
      exact h2
end Go.Proofs.Ytnloglecfbhpcaa
