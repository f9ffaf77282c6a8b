/- KeyAlgebra: its drawn regions 11, 16, 22 and 28. -/
import Derived.Test.YtjmjnecobaoofaaKN19
namespace Go.Proofs.Ytjmjnecobaoofaa
set_option linter.unusedVariables false
set_option linter.unusedSimpArgs false
open Go.RowKit Go.Shelf
set_option maxRecDepth 100000

theorem wanted_noA {ops : Array Oper} {o : Oper} {a : Act} {j : Nat} {b : Bool} {t : Tmp} (hg : o.guard = some (j, b)) (hd : (ops[j]?).bind (·.dst) = some t) (he : a.eval (.tmp t) = .bool (!b)) (hz : t < a.tmps.size) : Region.wanted o (yielded ops a.tmps) = false := by
  have h1 : a.tmps[t]? = some (.bool (!b)) := by
    rw [Array.getElem?_eq_getElem hz]
    simpa [Act.eval, hz] using he
  simp [Region.wanted, hg, yielded, hd, h1]
theorem run_idxA {op : Oper} {ev : Operand → Value} {x y : Operand} {g o n c j : Nat} (ho : op.op = .indexAddr 48 x y) (hx : ev x = .slice (some ⟨g, o, none⟩) n c) (hy : ev y = .int .i64 (j : Int)) (h : j < n) (w : World) : (execOp ev op).run Try.prog w = .ok (.value (.pointer (some ⟨g, o + j * 32, none⟩))) w := by
  have hu := Try.underlying48
  have hs : (sizeOf 24).run Try.prog w = .ok 32 w := by kernel_rfl
  have h1 : (j : Int) < (n : Int) := by omega
  simp only [execOp, ho, hx, hy]
  simp [go_sem, hu, h1, hs]
theorem run_neqBA {op : Oper} {ev : Operand → Value} {x y : Operand} {u : TypeId} {r : Bool} (ho : op.op = .binOp .neq 4 x y u) (hx : ev x = .bool r) (hy : ev y = .bool r) (w : World) : (execOp ev op).run Try.prog w = .ok (.value (.bool false)) w := by
  have := Try.underlying4
  simp [execOp, ho, hx, hy, go_sem, this]
theorem run_eqlBA {op : Oper} {ev : Operand → Value} {x y : Operand} {u : TypeId} {r : Bool} (ho : op.op = .binOp .eql 4 x y u) (hx : ev x = .bool (!r)) (hy : ev y = .bool r) (w : World) : (execOp ev op).run Try.prog w = .ok (.value (.bool false)) w := by
  have := Try.underlying4
  simp [execOp, ho, hx, hy, go_sem, this]
theorem run_neqKA {op : Oper} {ev : Operand → Value} {x y : Operand} {u : TypeId} {a : List UInt8} (ho : op.op = .binOp .neq 24 x y u) (hx : ev x = keyV a) (hy : ev y = keyV a) (ha : a.length = 32) (w : World) : (execOp ev op).run Try.prog w = .ok (.value (.bool false)) w := by
  have h1 := keyGuard .neq a x y w
  have h2 := keyNeq a ha w
  simp only [execOp, ho, hx, hy]
  simp [Sem.run_bind, h1, h2]
theorem run_gtrA {op : Oper} {ev : Operand → Value} {x : Operand} {u : TypeId} {n : Nat} (ho : op.op = .binOp .gtr 3 x (.const (.int .i64 0)) u) (hx : ev x = .int .i64 (n : Int)) (hc : ev (.const (.int .i64 0)) = .int .i64 0) (w : World) : (execOp ev op).run Try.prog w = .ok (.value (.bool (decide (0 < n)))) w := by
  simp only [execOp, ho, hx, hc]
  simp [go_sem]
theorem run_subA {op : Oper} {ev : Operand → Value} {x : Operand} {u : TypeId} {n : Nat} (ho : op.op = .binOp .sub 3 x (.const (.int .i64 1)) u) (hx : ev x = .int .i64 (n : Int)) (hc : ev (.const (.int .i64 1)) = .int .i64 1) (h1 : 1 ≤ n) (h2 : n ≤ 9223372036854775807) (w : World) : (execOp ev op).run Try.prog w = .ok (.value (.int .i64 ((n - 1 : Nat) : Int))) w := by
  have h3 : IntKind.i64.wrap ((n : Int) - 1) = ((n - 1 : Nat) : Int) := by
    rw [IntKind.wrap_i64]; omega
  simp only [execOp, ho, hx, hc]
  simp [go_sem, h3]
def al_0 (s : String) : Oper := { dst := some 89, op := Op.move (Operand.tmp 5), type := 36, pos := s, after := #[], guard := none }
def al_1 (s : String) : Oper := { dst := some 90, op := Op.move (Operand.tmp 0), type := 48, pos := s, after := #[], guard := none }
def al_2 (s : String) : Oper := { dst := some 91, op := Op.move (Operand.tmp 11), type := 3, pos := s, after := #[], guard := none }
def al_3 (s : String) : Oper := { dst := some 92, op := Op.indexAddr 48 (Operand.tmp 90) (Operand.tmp 91), type := 0, pos := s, after := #[{ on := 1, ground := Ground.data }, { on := 2, ground := Ground.data }], guard := none }
def al_4 (s : String) : Oper := { dst := some 93, op := Op.load 24 (Operand.tmp 92), type := 24, pos := s, after := #[{ on := 3, ground := Ground.data }], guard := none }
def al_5 (s : String) : Oper := { dst := some 94, op := Op.call { callee := Callee.value (Operand.func 22), args := #[Operand.tmp 89, Operand.tmp 93], argTypes := #[36, 24] }, type := 4, pos := s, after := #[{ on := 0, ground := Ground.data }, { on := 4, ground := Ground.data }], guard := none }
def al_6 (s : String) : Oper := { dst := some 95, op := Op.unOp UnOp.not 4 (Operand.tmp 94), type := 4, pos := s, after := #[{ on := 5, ground := Ground.data }], guard := none }
def al_7 (s : String) : Oper := { dst := some 96, op := Op.move (Operand.tmp 95), type := 4, pos := s, after := #[{ on := 6, ground := Ground.data }, { on := 5, ground := Ground.chain }], guard := none }
def al_8 (s : String) : Oper := { dst := some 97, op := Op.move (Operand.tmp 7), type := 36, pos := s, after := #[{ on := 7, ground := Ground.guard }], guard := some (7, false) }
def al_9 (s : String) : Oper := { dst := some 98, op := Op.move (Operand.tmp 0), type := 48, pos := s, after := #[{ on := 7, ground := Ground.guard }], guard := some (7, false) }
def al_10 (s : String) : Oper := { dst := some 99, op := Op.move (Operand.tmp 11), type := 3, pos := s, after := #[{ on := 7, ground := Ground.guard }], guard := some (7, false) }
def al_11 (s : String) : Oper := { dst := some 100, op := Op.indexAddr 48 (Operand.tmp 98) (Operand.tmp 99), type := 0, pos := s, after := #[{ on := 9, ground := Ground.data }, { on := 10, ground := Ground.data }, { on := 7, ground := Ground.guard }], guard := some (7, false) }
def al_12 (s : String) : Oper := { dst := some 101, op := Op.load 24 (Operand.tmp 100), type := 24, pos := s, after := #[{ on := 11, ground := Ground.data }, { on := 7, ground := Ground.guard }], guard := some (7, false) }
def al_13 (s : String) : Oper := { dst := some 102, op := Op.call { callee := Callee.value (Operand.func 22), args := #[Operand.tmp 97, Operand.tmp 101], argTypes := #[36, 24] }, type := 4, pos := s, after := #[{ on := 8, ground := Ground.data }, { on := 12, ground := Ground.data }, { on := 7, ground := Ground.chain }, { on := 7, ground := Ground.guard }], guard := some (7, false) }
def al_14 (s : String) : Oper := { dst := some 103, op := Op.unOp UnOp.not 4 (Operand.tmp 102), type := 4, pos := s, after := #[{ on := 13, ground := Ground.data }, { on := 7, ground := Ground.guard }], guard := some (7, false) }
def al_15 (s : String) : Oper := { dst := some 104, op := Op.pick (Operand.tmp 96) (Operand.const (Value.bool true)) (Operand.tmp 103), type := 4, pos := s, after := #[{ on := 7, ground := Ground.data }, { on := 14, ground := Ground.data }], guard := none }
def al_16 (s : String) : Oper := { dst := some 105, op := Op.move (Operand.tmp 104), type := 4, pos := s, after := #[{ on := 15, ground := Ground.data }, { on := 13, ground := Ground.chain }], guard := none }
def al_17 (s : String) : Oper := { dst := some 106, op := Op.move (Operand.tmp 8), type := 36, pos := s, after := #[{ on := 16, ground := Ground.guard }], guard := some (16, false) }
def al_18 (s : String) : Oper := { dst := some 107, op := Op.move (Operand.tmp 0), type := 48, pos := s, after := #[{ on := 16, ground := Ground.guard }], guard := some (16, false) }
def al_19 (s : String) : Oper := { dst := some 108, op := Op.move (Operand.tmp 11), type := 3, pos := s, after := #[{ on := 16, ground := Ground.guard }], guard := some (16, false) }
def al_20 (s : String) : Oper := { dst := some 109, op := Op.indexAddr 48 (Operand.tmp 107) (Operand.tmp 108), type := 0, pos := s, after := #[{ on := 18, ground := Ground.data }, { on := 19, ground := Ground.data }, { on := 16, ground := Ground.guard }], guard := some (16, false) }
def al_21 (s : String) : Oper := { dst := some 110, op := Op.load 24 (Operand.tmp 109), type := 24, pos := s, after := #[{ on := 20, ground := Ground.data }, { on := 16, ground := Ground.guard }], guard := some (16, false) }
def al_22 (s : String) : Oper := { dst := some 111, op := Op.call { callee := Callee.value (Operand.func 22), args := #[Operand.tmp 106, Operand.tmp 110], argTypes := #[36, 24] }, type := 4, pos := s, after := #[{ on := 17, ground := Ground.data }, { on := 21, ground := Ground.data }, { on := 16, ground := Ground.chain }, { on := 16, ground := Ground.guard }], guard := some (16, false) }
def al_23 (s : String) : Oper := { dst := some 112, op := Op.move (Operand.tmp 6), type := 36, pos := s, after := #[{ on := 16, ground := Ground.guard }], guard := some (16, false) }
def al_24 (s : String) : Oper := { dst := some 113, op := Op.move (Operand.tmp 0), type := 48, pos := s, after := #[{ on := 16, ground := Ground.guard }], guard := some (16, false) }
def al_25 (s : String) : Oper := { dst := some 114, op := Op.move (Operand.tmp 11), type := 3, pos := s, after := #[{ on := 16, ground := Ground.guard }], guard := some (16, false) }
def al_26 (s : String) : Oper := { dst := some 115, op := Op.indexAddr 48 (Operand.tmp 113) (Operand.tmp 114), type := 0, pos := s, after := #[{ on := 24, ground := Ground.data }, { on := 25, ground := Ground.data }, { on := 16, ground := Ground.guard }], guard := some (16, false) }
def al_27 (s : String) : Oper := { dst := some 116, op := Op.load 24 (Operand.tmp 115), type := 24, pos := s, after := #[{ on := 26, ground := Ground.data }, { on := 16, ground := Ground.guard }], guard := some (16, false) }
def al_28 (s : String) : Oper := { dst := some 117, op := Op.call { callee := Callee.value (Operand.func 22), args := #[Operand.tmp 112, Operand.tmp 116], argTypes := #[36, 24] }, type := 4, pos := s, after := #[{ on := 23, ground := Ground.data }, { on := 27, ground := Ground.data }, { on := 22, ground := Ground.chain }, { on := 16, ground := Ground.guard }], guard := some (16, false) }
def al_29 (s : String) : Oper := { dst := some 118, op := Op.binOp BinOp.neq 4 (Operand.tmp 111) (Operand.tmp 117) 4, type := 4, pos := s, after := #[{ on := 22, ground := Ground.data }, { on := 28, ground := Ground.data }, { on := 16, ground := Ground.guard }], guard := some (16, false) }
def al_30 (s : String) : Oper := { dst := some 119, op := Op.pick (Operand.tmp 105) (Operand.const (Value.bool true)) (Operand.tmp 118), type := 4, pos := s, after := #[{ on := 16, ground := Ground.data }, { on := 29, ground := Ground.data }], guard := none }
def al_31 (s : String) : Oper := { dst := some 120, op := Op.move (Operand.tmp 119), type := 4, pos := s, after := #[{ on := 30, ground := Ground.data }, { on := 28, ground := Ground.chain }], guard := none }
def al_32 (s : String) : Oper := { dst := some 121, op := Op.move (Operand.tmp 9), type := 36, pos := s, after := #[{ on := 31, ground := Ground.guard }], guard := some (31, false) }
def al_33 (s : String) : Oper := { dst := some 122, op := Op.move (Operand.tmp 0), type := 48, pos := s, after := #[{ on := 31, ground := Ground.guard }], guard := some (31, false) }
def al_34 (s : String) : Oper := { dst := some 123, op := Op.move (Operand.tmp 11), type := 3, pos := s, after := #[{ on := 31, ground := Ground.guard }], guard := some (31, false) }
def al_35 (s : String) : Oper := { dst := some 124, op := Op.indexAddr 48 (Operand.tmp 122) (Operand.tmp 123), type := 0, pos := s, after := #[{ on := 33, ground := Ground.data }, { on := 34, ground := Ground.data }, { on := 31, ground := Ground.guard }], guard := some (31, false) }
def al_36 (s : String) : Oper := { dst := some 125, op := Op.load 24 (Operand.tmp 124), type := 24, pos := s, after := #[{ on := 35, ground := Ground.data }, { on := 31, ground := Ground.guard }], guard := some (31, false) }
def al_37 (s : String) : Oper := { dst := some 126, op := Op.call { callee := Callee.value (Operand.func 22), args := #[Operand.tmp 121, Operand.tmp 125], argTypes := #[36, 24] }, type := 4, pos := s, after := #[{ on := 32, ground := Ground.data }, { on := 36, ground := Ground.data }, { on := 31, ground := Ground.chain }, { on := 31, ground := Ground.guard }], guard := some (31, false) }
def al_38 (s : String) : Oper := { dst := some 127, op := Op.move (Operand.tmp 6), type := 36, pos := s, after := #[{ on := 31, ground := Ground.guard }], guard := some (31, false) }
def al_39 (s : String) : Oper := { dst := some 128, op := Op.move (Operand.tmp 0), type := 48, pos := s, after := #[{ on := 31, ground := Ground.guard }], guard := some (31, false) }
def al_40 (s : String) : Oper := { dst := some 129, op := Op.move (Operand.tmp 11), type := 3, pos := s, after := #[{ on := 31, ground := Ground.guard }], guard := some (31, false) }
def al_41 (s : String) : Oper := { dst := some 130, op := Op.indexAddr 48 (Operand.tmp 128) (Operand.tmp 129), type := 0, pos := s, after := #[{ on := 39, ground := Ground.data }, { on := 40, ground := Ground.data }, { on := 31, ground := Ground.guard }], guard := some (31, false) }
def al_42 (s : String) : Oper := { dst := some 131, op := Op.load 24 (Operand.tmp 130), type := 24, pos := s, after := #[{ on := 41, ground := Ground.data }, { on := 31, ground := Ground.guard }], guard := some (31, false) }
def al_43 (s : String) : Oper := { dst := some 132, op := Op.call { callee := Callee.value (Operand.func 22), args := #[Operand.tmp 127, Operand.tmp 131], argTypes := #[36, 24] }, type := 4, pos := s, after := #[{ on := 38, ground := Ground.data }, { on := 42, ground := Ground.data }, { on := 37, ground := Ground.chain }, { on := 31, ground := Ground.guard }], guard := some (31, false) }
def al_44 (s : String) : Oper := { dst := some 133, op := Op.binOp BinOp.eql 4 (Operand.tmp 126) (Operand.tmp 132) 4, type := 4, pos := s, after := #[{ on := 37, ground := Ground.data }, { on := 43, ground := Ground.data }, { on := 31, ground := Ground.guard }], guard := some (31, false) }
def al_45 (s : String) : Oper := { dst := some 134, op := Op.pick (Operand.tmp 120) (Operand.const (Value.bool true)) (Operand.tmp 133), type := 4, pos := s, after := #[{ on := 31, ground := Ground.data }, { on := 44, ground := Ground.data }], guard := none }
def al_ops (s : String) : Array Oper := #[al_0 s, al_1 s, al_2 s, al_3 s, al_4 s, al_5 s, al_6 s, al_7 s, al_8 s, al_9 s, al_10 s, al_11 s, al_12 s, al_13 s, al_14 s, al_15 s, al_16 s, al_17 s, al_18 s, al_19 s, al_20 s, al_21 s, al_22 s, al_23 s, al_24 s, al_25 s, al_26 s, al_27 s, al_28 s, al_29 s, al_30 s, al_31 s, al_32 s, al_33 s, al_34 s, al_35 s, al_36 s, al_37 s, al_38 s, al_39 s, al_40 s, al_41 s, al_42 s, al_43 s, al_44 s, al_45 s]
theorem al_enter5 (s : String) (a : Act) (w : World) : (execOp a.eval (al_5 s)).run Try.prog w = .ok (.enter 22 #[a.eval (.tmp 89), a.eval (.tmp 93)]) w := by kernel_rfl
theorem al_enter13 (s : String) (a : Act) (w : World) : (execOp a.eval (al_13 s)).run Try.prog w = .ok (.enter 22 #[a.eval (.tmp 97), a.eval (.tmp 101)]) w := by kernel_rfl
theorem al_enter22 (s : String) (a : Act) (w : World) : (execOp a.eval (al_22 s)).run Try.prog w = .ok (.enter 22 #[a.eval (.tmp 106), a.eval (.tmp 110)]) w := by kernel_rfl
theorem al_enter28 (s : String) (a : Act) (w : World) : (execOp a.eval (al_28 s)).run Try.prog w = .ok (.enter 22 #[a.eval (.tmp 112), a.eval (.tmp 116)]) w := by kernel_rfl
theorem al_enter37 (s : String) (a : Act) (w : World) : (execOp a.eval (al_37 s)).run Try.prog w = .ok (.enter 22 #[a.eval (.tmp 121), a.eval (.tmp 125)]) w := by kernel_rfl
theorem al_enter43 (s : String) (a : Act) (w : World) : (execOp a.eval (al_43 s)).run Try.prog w = .ok (.enter 22 #[a.eval (.tmp 127), a.eval (.tmp 131)]) w := by kernel_rfl
theorem al_walk (s : String) {Q : Exit → Act → World → Prop} (hQ : ∀ c (a : Act) t v w, Q (.panic c) (a.put (some t) v) w → Q (.panic c) a w) (W : World) (zs zt zu zv zm g o n c i : Nat) (k : List UInt8) (bt : Bool) (hkl : k.length = 32) (hi : i < n) (hk : ∀ w', Below W.heap.size W w' → w'.rangeAt g (o + i * 32) (k.map u8c)) (hs1 : ∀ w1, Below W.heap.size W w1 → Calls Try.prog 22 #[.pointer (some ⟨zs, 0, none⟩), keyV k] w1 fun e w' => e = .returned (.bool true) ∧ Below w1.heap.size w1 w') (hu1 : ∀ w1, Below W.heap.size W w1 → Calls Try.prog 22 #[.pointer (some ⟨zu, 0, none⟩), keyV k] w1 fun e w' => e = .returned (.bool true) ∧ Below w1.heap.size w1 w') (hv1 : ∀ w1, Below W.heap.size W w1 → Calls Try.prog 22 #[.pointer (some ⟨zv, 0, none⟩), keyV k] w1 fun e w' => e = .returned (.bool bt) ∧ Below w1.heap.size w1 w') (ht1 : ∀ w1, Below W.heap.size W w1 → Calls Try.prog 22 #[.pointer (some ⟨zt, 0, none⟩), keyV k] w1 fun e w' => e = .returned (.bool bt) ∧ Below w1.heap.size w1 w') (hm1 : ∀ w1, Below W.heap.size W w1 → Calls Try.prog 22 #[.pointer (some ⟨zm, 0, none⟩), keyV k] w1 fun e w' => e = .returned (.bool (!bt)) ∧ Below w1.heap.size w1 w')
    (a : Act) (hs : 134 < a.tmps.size) (e0 : a.eval (.tmp 0) = .slice (some ⟨g, o, none⟩) n c) (e5 : a.eval (.tmp 5) = .pointer (some ⟨zs, 0, none⟩)) (e6 : a.eval (.tmp 6) = .pointer (some ⟨zt, 0, none⟩)) (e7 : a.eval (.tmp 7) = .pointer (some ⟨zu, 0, none⟩)) (e8 : a.eval (.tmp 8) = .pointer (some ⟨zv, 0, none⟩)) (e9 : a.eval (.tmp 9) = .pointer (some ⟨zm, 0, none⟩)) (e11 : a.eval (.tmp 11) = .int .i64 (i : Int))
    (h0 : ∀ w6, Below W.heap.size W w6 → Q .normal ((((((((((((((((((((((((((((((((((((((((((((((a.put (some 89) (.pointer (some ⟨zs, 0, none⟩))).put (some 90) (.slice (some ⟨g, o, none⟩) n c)).put (some 91) (.int .i64 (i : Int))).put (some 92) (.pointer (some ⟨g, o + i * 32, none⟩))).put (some 93) (keyV k)).put (some 94) (.bool true)).put (some 95) (.bool false)).put (some 96) (.bool false)).put (some 97) (.pointer (some ⟨zu, 0, none⟩))).put (some 98) (.slice (some ⟨g, o, none⟩) n c)).put (some 99) (.int .i64 (i : Int))).put (some 100) (.pointer (some ⟨g, o + i * 32, none⟩))).put (some 101) (keyV k)).put (some 102) (.bool true)).put (some 103) (.bool false)).put (some 104) (.bool false)).put (some 105) (.bool false)).put (some 106) (.pointer (some ⟨zv, 0, none⟩))).put (some 107) (.slice (some ⟨g, o, none⟩) n c)).put (some 108) (.int .i64 (i : Int))).put (some 109) (.pointer (some ⟨g, o + i * 32, none⟩))).put (some 110) (keyV k)).put (some 112) (.pointer (some ⟨zt, 0, none⟩))).put (some 113) (.slice (some ⟨g, o, none⟩) n c)).put (some 114) (.int .i64 (i : Int))).put (some 115) (.pointer (some ⟨g, o + i * 32, none⟩))).put (some 116) (keyV k)).put (some 111) (.bool bt)).put (some 117) (.bool bt)).put (some 118) (.bool false)).put (some 119) (.bool false)).put (some 120) (.bool false)).put (some 121) (.pointer (some ⟨zm, 0, none⟩))).put (some 122) (.slice (some ⟨g, o, none⟩) n c)).put (some 123) (.int .i64 (i : Int))).put (some 124) (.pointer (some ⟨g, o + i * 32, none⟩))).put (some 125) (keyV k)).put (some 127) (.pointer (some ⟨zt, 0, none⟩))).put (some 128) (.slice (some ⟨g, o, none⟩) n c)).put (some 129) (.int .i64 (i : Int))).put (some 130) (.pointer (some ⟨g, o + i * 32, none⟩))).put (some 131) (keyV k)).put (some 126) (.bool (!bt))).put (some 132) (.bool bt)).put (some 133) (.bool false)).put (some 134) (.bool false)) w6) :
    Code.wp Try.prog (.region 11 (al_ops s) true) Q a W := by
  refine wp_region_held_drew (S := fun w => w.rangeAt g (o + i * 32) (k.map u8c)) (by kernel_rfl) (hk _ (below_d W)) (fun hS => ?_)
  change wpAnyH _ _ _ _ _ _ _ _ (World.drew _)
  refine wpAnyH_take (i := 0) (oi := al_0 s) (v := .pointer (some ⟨zs, 0, none⟩)) (by kernel_rfl) (by kernel_rfl) (by kernel_rfl) (by kernel_rfl) (fun c a w h => hQ c _ _ _ w h) (Or.inl ⟨wanted_none rfl, fun w hw => by simp only [execOp, al_0, e5]; rfl⟩) hS ?_
  change wpAnyH _ _ _ _ _ _ _ (a.put (some 89) (.pointer (some ⟨zs, 0, none⟩))) _
  obtain ⟨a0_1, ha1⟩ : ∃ rr : Act, rr = a.put (some 89) (.pointer (some ⟨zs, 0, none⟩)) := ⟨_, rfl⟩
  have qz1 : 134 < a0_1.tmps.size := by rw [ha1, sz_put]; exact hs
  have f1_0 : a0_1.eval (.tmp 0) = .slice (some ⟨g, o, none⟩) n c := by rw [ha1, ev_other _ _ _ _ (by decide)]; exact e0
  have f1_6 : a0_1.eval (.tmp 6) = .pointer (some ⟨zt, 0, none⟩) := by rw [ha1, ev_other _ _ _ _ (by decide)]; exact e6
  have f1_7 : a0_1.eval (.tmp 7) = .pointer (some ⟨zu, 0, none⟩) := by rw [ha1, ev_other _ _ _ _ (by decide)]; exact e7
  have f1_8 : a0_1.eval (.tmp 8) = .pointer (some ⟨zv, 0, none⟩) := by rw [ha1, ev_other _ _ _ _ (by decide)]; exact e8
  have f1_9 : a0_1.eval (.tmp 9) = .pointer (some ⟨zm, 0, none⟩) := by rw [ha1, ev_other _ _ _ _ (by decide)]; exact e9
  have f1_11 : a0_1.eval (.tmp 11) = .int .i64 (i : Int) := by rw [ha1, ev_other _ _ _ _ (by decide)]; exact e11
  have f1_89 : a0_1.eval (.tmp 89) = .pointer (some ⟨zs, 0, none⟩) := by rw [ha1]; exact ev_same _ _ _ (Nat.lt_of_le_of_lt (by decide) hs)
  rw [← ha1] at h0 ⊢
  clear ha1
  refine wpAnyH_take (i := 1) (oi := al_1 s) (v := .slice (some ⟨g, o, none⟩) n c) (by kernel_rfl) (by kernel_rfl) (by kernel_rfl) (by kernel_rfl) (fun c a w h => hQ c _ _ _ w h) (Or.inl ⟨wanted_none rfl, fun w hw => by simp only [execOp, al_1, f1_0]; rfl⟩) hS ?_
  change wpAnyH _ _ _ _ _ _ _ (a0_1.put (some 90) (.slice (some ⟨g, o, none⟩) n c)) _
  obtain ⟨a0_2, ha2⟩ : ∃ rr : Act, rr = a0_1.put (some 90) (.slice (some ⟨g, o, none⟩) n c) := ⟨_, rfl⟩
  have qz2 : 134 < a0_2.tmps.size := by rw [ha2, sz_put]; exact qz1
  have f2_0 : a0_2.eval (.tmp 0) = .slice (some ⟨g, o, none⟩) n c := by rw [ha2, ev_other _ _ _ _ (by decide)]; exact f1_0
  have f2_6 : a0_2.eval (.tmp 6) = .pointer (some ⟨zt, 0, none⟩) := by rw [ha2, ev_other _ _ _ _ (by decide)]; exact f1_6
  have f2_7 : a0_2.eval (.tmp 7) = .pointer (some ⟨zu, 0, none⟩) := by rw [ha2, ev_other _ _ _ _ (by decide)]; exact f1_7
  have f2_8 : a0_2.eval (.tmp 8) = .pointer (some ⟨zv, 0, none⟩) := by rw [ha2, ev_other _ _ _ _ (by decide)]; exact f1_8
  have f2_9 : a0_2.eval (.tmp 9) = .pointer (some ⟨zm, 0, none⟩) := by rw [ha2, ev_other _ _ _ _ (by decide)]; exact f1_9
  have f2_11 : a0_2.eval (.tmp 11) = .int .i64 (i : Int) := by rw [ha2, ev_other _ _ _ _ (by decide)]; exact f1_11
  have f2_89 : a0_2.eval (.tmp 89) = .pointer (some ⟨zs, 0, none⟩) := by rw [ha2, ev_other _ _ _ _ (by decide)]; exact f1_89
  have f2_90 : a0_2.eval (.tmp 90) = .slice (some ⟨g, o, none⟩) n c := by rw [ha2]; exact ev_same _ _ _ (Nat.lt_of_le_of_lt (by decide) qz1)
  rw [← ha2] at h0 ⊢
  clear ha2
  refine wpAnyH_take (i := 2) (oi := al_2 s) (v := .int .i64 (i : Int)) (by kernel_rfl) (by kernel_rfl) (by kernel_rfl) (by kernel_rfl) (fun c a w h => hQ c _ _ _ w h) (Or.inl ⟨wanted_none rfl, fun w hw => by simp only [execOp, al_2, f2_11]; rfl⟩) hS ?_
  change wpAnyH _ _ _ _ _ _ _ (a0_2.put (some 91) (.int .i64 (i : Int))) _
  obtain ⟨a0_3, ha3⟩ : ∃ rr : Act, rr = a0_2.put (some 91) (.int .i64 (i : Int)) := ⟨_, rfl⟩
  have qz3 : 134 < a0_3.tmps.size := by rw [ha3, sz_put]; exact qz2
  have f3_0 : a0_3.eval (.tmp 0) = .slice (some ⟨g, o, none⟩) n c := by rw [ha3, ev_other _ _ _ _ (by decide)]; exact f2_0
  have f3_6 : a0_3.eval (.tmp 6) = .pointer (some ⟨zt, 0, none⟩) := by rw [ha3, ev_other _ _ _ _ (by decide)]; exact f2_6
  have f3_7 : a0_3.eval (.tmp 7) = .pointer (some ⟨zu, 0, none⟩) := by rw [ha3, ev_other _ _ _ _ (by decide)]; exact f2_7
  have f3_8 : a0_3.eval (.tmp 8) = .pointer (some ⟨zv, 0, none⟩) := by rw [ha3, ev_other _ _ _ _ (by decide)]; exact f2_8
  have f3_9 : a0_3.eval (.tmp 9) = .pointer (some ⟨zm, 0, none⟩) := by rw [ha3, ev_other _ _ _ _ (by decide)]; exact f2_9
  have f3_11 : a0_3.eval (.tmp 11) = .int .i64 (i : Int) := by rw [ha3, ev_other _ _ _ _ (by decide)]; exact f2_11
  have f3_89 : a0_3.eval (.tmp 89) = .pointer (some ⟨zs, 0, none⟩) := by rw [ha3, ev_other _ _ _ _ (by decide)]; exact f2_89
  have f3_90 : a0_3.eval (.tmp 90) = .slice (some ⟨g, o, none⟩) n c := by rw [ha3, ev_other _ _ _ _ (by decide)]; exact f2_90
  have f3_91 : a0_3.eval (.tmp 91) = .int .i64 (i : Int) := by rw [ha3]; exact ev_same _ _ _ (Nat.lt_of_le_of_lt (by decide) qz2)
  rw [← ha3] at h0 ⊢
  clear ha3
  refine wpAnyH_take (i := 3) (oi := al_3 s) (v := .pointer (some ⟨g, o + i * 32, none⟩)) (by kernel_rfl) (by kernel_rfl) (by kernel_rfl) (by kernel_rfl) (fun c a w h => hQ c _ _ _ w h) (Or.inl ⟨wanted_none rfl, fun w hw => run_idxA rfl f3_90 f3_91 hi w⟩) hS ?_
  change wpAnyH _ _ _ _ _ _ _ (a0_3.put (some 92) (.pointer (some ⟨g, o + i * 32, none⟩))) _
  obtain ⟨a0_4, ha4⟩ : ∃ rr : Act, rr = a0_3.put (some 92) (.pointer (some ⟨g, o + i * 32, none⟩)) := ⟨_, rfl⟩
  have qz4 : 134 < a0_4.tmps.size := by rw [ha4, sz_put]; exact qz3
  have f4_0 : a0_4.eval (.tmp 0) = .slice (some ⟨g, o, none⟩) n c := by rw [ha4, ev_other _ _ _ _ (by decide)]; exact f3_0
  have f4_6 : a0_4.eval (.tmp 6) = .pointer (some ⟨zt, 0, none⟩) := by rw [ha4, ev_other _ _ _ _ (by decide)]; exact f3_6
  have f4_7 : a0_4.eval (.tmp 7) = .pointer (some ⟨zu, 0, none⟩) := by rw [ha4, ev_other _ _ _ _ (by decide)]; exact f3_7
  have f4_8 : a0_4.eval (.tmp 8) = .pointer (some ⟨zv, 0, none⟩) := by rw [ha4, ev_other _ _ _ _ (by decide)]; exact f3_8
  have f4_9 : a0_4.eval (.tmp 9) = .pointer (some ⟨zm, 0, none⟩) := by rw [ha4, ev_other _ _ _ _ (by decide)]; exact f3_9
  have f4_11 : a0_4.eval (.tmp 11) = .int .i64 (i : Int) := by rw [ha4, ev_other _ _ _ _ (by decide)]; exact f3_11
  have f4_89 : a0_4.eval (.tmp 89) = .pointer (some ⟨zs, 0, none⟩) := by rw [ha4, ev_other _ _ _ _ (by decide)]; exact f3_89
  have f4_92 : a0_4.eval (.tmp 92) = .pointer (some ⟨g, o + i * 32, none⟩) := by rw [ha4]; exact ev_same _ _ _ (Nat.lt_of_le_of_lt (by decide) qz3)
  rw [← ha4] at h0 ⊢
  clear ha4
  refine wpAnyH_take (i := 4) (oi := al_4 s) (v := keyV k) (by kernel_rfl) (by kernel_rfl) (by kernel_rfl) (by kernel_rfl) (fun c a w h => hQ c _ _ _ w h) (Or.inl ⟨wanted_none rfl, fun w hw => run_load rfl f4_92 (loadAt_key hkl hw)⟩) hS ?_
  change wpAnyH _ _ _ _ _ _ _ (a0_4.put (some 93) (keyV k)) _
  obtain ⟨a0_5, ha5⟩ : ∃ rr : Act, rr = a0_4.put (some 93) (keyV k) := ⟨_, rfl⟩
  have qz5 : 134 < a0_5.tmps.size := by rw [ha5, sz_put]; exact qz4
  have f5_0 : a0_5.eval (.tmp 0) = .slice (some ⟨g, o, none⟩) n c := by rw [ha5, ev_other _ _ _ _ (by decide)]; exact f4_0
  have f5_6 : a0_5.eval (.tmp 6) = .pointer (some ⟨zt, 0, none⟩) := by rw [ha5, ev_other _ _ _ _ (by decide)]; exact f4_6
  have f5_7 : a0_5.eval (.tmp 7) = .pointer (some ⟨zu, 0, none⟩) := by rw [ha5, ev_other _ _ _ _ (by decide)]; exact f4_7
  have f5_8 : a0_5.eval (.tmp 8) = .pointer (some ⟨zv, 0, none⟩) := by rw [ha5, ev_other _ _ _ _ (by decide)]; exact f4_8
  have f5_9 : a0_5.eval (.tmp 9) = .pointer (some ⟨zm, 0, none⟩) := by rw [ha5, ev_other _ _ _ _ (by decide)]; exact f4_9
  have f5_11 : a0_5.eval (.tmp 11) = .int .i64 (i : Int) := by rw [ha5, ev_other _ _ _ _ (by decide)]; exact f4_11
  have f5_89 : a0_5.eval (.tmp 89) = .pointer (some ⟨zs, 0, none⟩) := by rw [ha5, ev_other _ _ _ _ (by decide)]; exact f4_89
  have f5_93 : a0_5.eval (.tmp 93) = keyV k := by rw [ha5]; exact ev_same _ _ _ (Nat.lt_of_le_of_lt (by decide) qz4)
  rw [← ha5] at h0 ⊢
  clear ha5
  refine wpAnyH_ready (rs := [5]) (by kernel_rfl) (by simp) ?_
  refine AllReadyH.cons (o := al_5 s) (by kernel_rfl) (fun KQ hKQ => ?_) AllReadyH.nil
  rw [if_pos (wanted_none rfl)]
  refine step_enterE 22 #[.pointer (some ⟨zs, 0, none⟩), keyV k] (by rw [al_enter5, f5_89, f5_93]) (fun V w' => V = .bool true ∧ Below W.heap.size W w') ((hs1 _ (below_d W)).mono (fun e w' h => ⟨_, h.1, rfl, (below_d W).trans (h.2.mono (below_d W).size)⟩)) ?_
  rintro _ w1 ⟨rfl, hb1⟩
  refine hKQ.out _ _ (hk w1 hb1) (fun _ => ?_)
  clear hKQ KQ
  change wpAnyH _ _ _ _ _ _ _ (a0_5.put (some 94) (.bool true)) _
  obtain ⟨a0_6, ha6⟩ : ∃ rr : Act, rr = a0_5.put (some 94) (.bool true) := ⟨_, rfl⟩
  have qz6 : 134 < a0_6.tmps.size := by rw [ha6, sz_put]; exact qz5
  have f6_0 : a0_6.eval (.tmp 0) = .slice (some ⟨g, o, none⟩) n c := by rw [ha6, ev_other _ _ _ _ (by decide)]; exact f5_0
  have f6_6 : a0_6.eval (.tmp 6) = .pointer (some ⟨zt, 0, none⟩) := by rw [ha6, ev_other _ _ _ _ (by decide)]; exact f5_6
  have f6_7 : a0_6.eval (.tmp 7) = .pointer (some ⟨zu, 0, none⟩) := by rw [ha6, ev_other _ _ _ _ (by decide)]; exact f5_7
  have f6_8 : a0_6.eval (.tmp 8) = .pointer (some ⟨zv, 0, none⟩) := by rw [ha6, ev_other _ _ _ _ (by decide)]; exact f5_8
  have f6_9 : a0_6.eval (.tmp 9) = .pointer (some ⟨zm, 0, none⟩) := by rw [ha6, ev_other _ _ _ _ (by decide)]; exact f5_9
  have f6_11 : a0_6.eval (.tmp 11) = .int .i64 (i : Int) := by rw [ha6, ev_other _ _ _ _ (by decide)]; exact f5_11
  have f6_94 : a0_6.eval (.tmp 94) = .bool true := by rw [ha6]; exact ev_same _ _ _ (Nat.lt_of_le_of_lt (by decide) qz5)
  rw [← ha6] at h0 ⊢
  clear ha6
  refine wpAnyH_take (i := 6) (oi := al_6 s) (v := .bool false) (by kernel_rfl) (by kernel_rfl) (by kernel_rfl) (by kernel_rfl) (fun c a w h => hQ c _ _ _ w h) (Or.inl ⟨wanted_none rfl, fun w hw => by simp only [execOp, al_6, f6_94]; kernel_rfl⟩) (hk w1 hb1) ?_
  change wpAnyH _ _ _ _ _ _ _ (a0_6.put (some 95) (.bool false)) _
  obtain ⟨a0_7, ha7⟩ : ∃ rr : Act, rr = a0_6.put (some 95) (.bool false) := ⟨_, rfl⟩
  have qz7 : 134 < a0_7.tmps.size := by rw [ha7, sz_put]; exact qz6
  have f7_0 : a0_7.eval (.tmp 0) = .slice (some ⟨g, o, none⟩) n c := by rw [ha7, ev_other _ _ _ _ (by decide)]; exact f6_0
  have f7_6 : a0_7.eval (.tmp 6) = .pointer (some ⟨zt, 0, none⟩) := by rw [ha7, ev_other _ _ _ _ (by decide)]; exact f6_6
  have f7_7 : a0_7.eval (.tmp 7) = .pointer (some ⟨zu, 0, none⟩) := by rw [ha7, ev_other _ _ _ _ (by decide)]; exact f6_7
  have f7_8 : a0_7.eval (.tmp 8) = .pointer (some ⟨zv, 0, none⟩) := by rw [ha7, ev_other _ _ _ _ (by decide)]; exact f6_8
  have f7_9 : a0_7.eval (.tmp 9) = .pointer (some ⟨zm, 0, none⟩) := by rw [ha7, ev_other _ _ _ _ (by decide)]; exact f6_9
  have f7_11 : a0_7.eval (.tmp 11) = .int .i64 (i : Int) := by rw [ha7, ev_other _ _ _ _ (by decide)]; exact f6_11
  have f7_95 : a0_7.eval (.tmp 95) = .bool false := by rw [ha7]; exact ev_same _ _ _ (Nat.lt_of_le_of_lt (by decide) qz6)
  rw [← ha7] at h0 ⊢
  clear ha7
  refine wpAnyH_take (i := 7) (oi := al_7 s) (v := .bool false) (by kernel_rfl) (by kernel_rfl) (by kernel_rfl) (by kernel_rfl) (fun c a w h => hQ c _ _ _ w h) (Or.inl ⟨wanted_none rfl, fun w hw => by simp only [execOp, al_7, f7_95]; rfl⟩) (hk w1 hb1) ?_
  change wpAnyH _ _ _ _ _ _ _ (a0_7.put (some 96) (.bool false)) _
  obtain ⟨a0_8, ha8⟩ : ∃ rr : Act, rr = a0_7.put (some 96) (.bool false) := ⟨_, rfl⟩
  have qz8 : 134 < a0_8.tmps.size := by rw [ha8, sz_put]; exact qz7
  have f8_0 : a0_8.eval (.tmp 0) = .slice (some ⟨g, o, none⟩) n c := by rw [ha8, ev_other _ _ _ _ (by decide)]; exact f7_0
  have f8_6 : a0_8.eval (.tmp 6) = .pointer (some ⟨zt, 0, none⟩) := by rw [ha8, ev_other _ _ _ _ (by decide)]; exact f7_6
  have f8_7 : a0_8.eval (.tmp 7) = .pointer (some ⟨zu, 0, none⟩) := by rw [ha8, ev_other _ _ _ _ (by decide)]; exact f7_7
  have f8_8 : a0_8.eval (.tmp 8) = .pointer (some ⟨zv, 0, none⟩) := by rw [ha8, ev_other _ _ _ _ (by decide)]; exact f7_8
  have f8_9 : a0_8.eval (.tmp 9) = .pointer (some ⟨zm, 0, none⟩) := by rw [ha8, ev_other _ _ _ _ (by decide)]; exact f7_9
  have f8_11 : a0_8.eval (.tmp 11) = .int .i64 (i : Int) := by rw [ha8, ev_other _ _ _ _ (by decide)]; exact f7_11
  have f8_96 : a0_8.eval (.tmp 96) = .bool false := by rw [ha8]; exact ev_same _ _ _ (Nat.lt_of_le_of_lt (by decide) qz7)
  rw [← ha8] at h0 ⊢
  clear ha8
  refine wpAnyH_take (i := 8) (oi := al_8 s) (v := .pointer (some ⟨zu, 0, none⟩)) (by kernel_rfl) (by kernel_rfl) (by kernel_rfl) (by kernel_rfl) (fun c a w h => hQ c _ _ _ w h) (Or.inl ⟨wanted_some rfl (by kernel_rfl) f8_96 (Nat.lt_of_le_of_lt (by decide) qz8), fun w hw => by simp only [execOp, al_8, f8_7]; rfl⟩) (hk w1 hb1) ?_
  change wpAnyH _ _ _ _ _ _ _ (a0_8.put (some 97) (.pointer (some ⟨zu, 0, none⟩))) _
  obtain ⟨a0_9, ha9⟩ : ∃ rr : Act, rr = a0_8.put (some 97) (.pointer (some ⟨zu, 0, none⟩)) := ⟨_, rfl⟩
  have qz9 : 134 < a0_9.tmps.size := by rw [ha9, sz_put]; exact qz8
  have f9_0 : a0_9.eval (.tmp 0) = .slice (some ⟨g, o, none⟩) n c := by rw [ha9, ev_other _ _ _ _ (by decide)]; exact f8_0
  have f9_6 : a0_9.eval (.tmp 6) = .pointer (some ⟨zt, 0, none⟩) := by rw [ha9, ev_other _ _ _ _ (by decide)]; exact f8_6
  have f9_8 : a0_9.eval (.tmp 8) = .pointer (some ⟨zv, 0, none⟩) := by rw [ha9, ev_other _ _ _ _ (by decide)]; exact f8_8
  have f9_9 : a0_9.eval (.tmp 9) = .pointer (some ⟨zm, 0, none⟩) := by rw [ha9, ev_other _ _ _ _ (by decide)]; exact f8_9
  have f9_11 : a0_9.eval (.tmp 11) = .int .i64 (i : Int) := by rw [ha9, ev_other _ _ _ _ (by decide)]; exact f8_11
  have f9_96 : a0_9.eval (.tmp 96) = .bool false := by rw [ha9, ev_other _ _ _ _ (by decide)]; exact f8_96
  have f9_97 : a0_9.eval (.tmp 97) = .pointer (some ⟨zu, 0, none⟩) := by rw [ha9]; exact ev_same _ _ _ (Nat.lt_of_le_of_lt (by decide) qz8)
  rw [← ha9] at h0 ⊢
  clear ha9
  refine wpAnyH_take (i := 9) (oi := al_9 s) (v := .slice (some ⟨g, o, none⟩) n c) (by kernel_rfl) (by kernel_rfl) (by kernel_rfl) (by kernel_rfl) (fun c a w h => hQ c _ _ _ w h) (Or.inl ⟨wanted_some rfl (by kernel_rfl) f9_96 (Nat.lt_of_le_of_lt (by decide) qz9), fun w hw => by simp only [execOp, al_9, f9_0]; rfl⟩) (hk w1 hb1) ?_
  change wpAnyH _ _ _ _ _ _ _ (a0_9.put (some 98) (.slice (some ⟨g, o, none⟩) n c)) _
  obtain ⟨a0_10, ha10⟩ : ∃ rr : Act, rr = a0_9.put (some 98) (.slice (some ⟨g, o, none⟩) n c) := ⟨_, rfl⟩
  have qz10 : 134 < a0_10.tmps.size := by rw [ha10, sz_put]; exact qz9
  have f10_0 : a0_10.eval (.tmp 0) = .slice (some ⟨g, o, none⟩) n c := by rw [ha10, ev_other _ _ _ _ (by decide)]; exact f9_0
  have f10_6 : a0_10.eval (.tmp 6) = .pointer (some ⟨zt, 0, none⟩) := by rw [ha10, ev_other _ _ _ _ (by decide)]; exact f9_6
  have f10_8 : a0_10.eval (.tmp 8) = .pointer (some ⟨zv, 0, none⟩) := by rw [ha10, ev_other _ _ _ _ (by decide)]; exact f9_8
  have f10_9 : a0_10.eval (.tmp 9) = .pointer (some ⟨zm, 0, none⟩) := by rw [ha10, ev_other _ _ _ _ (by decide)]; exact f9_9
  have f10_11 : a0_10.eval (.tmp 11) = .int .i64 (i : Int) := by rw [ha10, ev_other _ _ _ _ (by decide)]; exact f9_11
  have f10_96 : a0_10.eval (.tmp 96) = .bool false := by rw [ha10, ev_other _ _ _ _ (by decide)]; exact f9_96
  have f10_97 : a0_10.eval (.tmp 97) = .pointer (some ⟨zu, 0, none⟩) := by rw [ha10, ev_other _ _ _ _ (by decide)]; exact f9_97
  have f10_98 : a0_10.eval (.tmp 98) = .slice (some ⟨g, o, none⟩) n c := by rw [ha10]; exact ev_same _ _ _ (Nat.lt_of_le_of_lt (by decide) qz9)
  rw [← ha10] at h0 ⊢
  clear ha10
  refine wpAnyH_take (i := 10) (oi := al_10 s) (v := .int .i64 (i : Int)) (by kernel_rfl) (by kernel_rfl) (by kernel_rfl) (by kernel_rfl) (fun c a w h => hQ c _ _ _ w h) (Or.inl ⟨wanted_some rfl (by kernel_rfl) f10_96 (Nat.lt_of_le_of_lt (by decide) qz10), fun w hw => by simp only [execOp, al_10, f10_11]; rfl⟩) (hk w1 hb1) ?_
  change wpAnyH _ _ _ _ _ _ _ (a0_10.put (some 99) (.int .i64 (i : Int))) _
  obtain ⟨a0_11, ha11⟩ : ∃ rr : Act, rr = a0_10.put (some 99) (.int .i64 (i : Int)) := ⟨_, rfl⟩
  have qz11 : 134 < a0_11.tmps.size := by rw [ha11, sz_put]; exact qz10
  have f11_0 : a0_11.eval (.tmp 0) = .slice (some ⟨g, o, none⟩) n c := by rw [ha11, ev_other _ _ _ _ (by decide)]; exact f10_0
  have f11_6 : a0_11.eval (.tmp 6) = .pointer (some ⟨zt, 0, none⟩) := by rw [ha11, ev_other _ _ _ _ (by decide)]; exact f10_6
  have f11_8 : a0_11.eval (.tmp 8) = .pointer (some ⟨zv, 0, none⟩) := by rw [ha11, ev_other _ _ _ _ (by decide)]; exact f10_8
  have f11_9 : a0_11.eval (.tmp 9) = .pointer (some ⟨zm, 0, none⟩) := by rw [ha11, ev_other _ _ _ _ (by decide)]; exact f10_9
  have f11_11 : a0_11.eval (.tmp 11) = .int .i64 (i : Int) := by rw [ha11, ev_other _ _ _ _ (by decide)]; exact f10_11
  have f11_96 : a0_11.eval (.tmp 96) = .bool false := by rw [ha11, ev_other _ _ _ _ (by decide)]; exact f10_96
  have f11_97 : a0_11.eval (.tmp 97) = .pointer (some ⟨zu, 0, none⟩) := by rw [ha11, ev_other _ _ _ _ (by decide)]; exact f10_97
  have f11_98 : a0_11.eval (.tmp 98) = .slice (some ⟨g, o, none⟩) n c := by rw [ha11, ev_other _ _ _ _ (by decide)]; exact f10_98
  have f11_99 : a0_11.eval (.tmp 99) = .int .i64 (i : Int) := by rw [ha11]; exact ev_same _ _ _ (Nat.lt_of_le_of_lt (by decide) qz10)
  rw [← ha11] at h0 ⊢
  clear ha11
  refine wpAnyH_take (i := 11) (oi := al_11 s) (v := .pointer (some ⟨g, o + i * 32, none⟩)) (by kernel_rfl) (by kernel_rfl) (by kernel_rfl) (by kernel_rfl) (fun c a w h => hQ c _ _ _ w h) (Or.inl ⟨wanted_some rfl (by kernel_rfl) f11_96 (Nat.lt_of_le_of_lt (by decide) qz11), fun w hw => run_idxA rfl f11_98 f11_99 hi w⟩) (hk w1 hb1) ?_
  change wpAnyH _ _ _ _ _ _ _ (a0_11.put (some 100) (.pointer (some ⟨g, o + i * 32, none⟩))) _
  obtain ⟨a0_12, ha12⟩ : ∃ rr : Act, rr = a0_11.put (some 100) (.pointer (some ⟨g, o + i * 32, none⟩)) := ⟨_, rfl⟩
  have qz12 : 134 < a0_12.tmps.size := by rw [ha12, sz_put]; exact qz11
  have f12_0 : a0_12.eval (.tmp 0) = .slice (some ⟨g, o, none⟩) n c := by rw [ha12, ev_other _ _ _ _ (by decide)]; exact f11_0
  have f12_6 : a0_12.eval (.tmp 6) = .pointer (some ⟨zt, 0, none⟩) := by rw [ha12, ev_other _ _ _ _ (by decide)]; exact f11_6
  have f12_8 : a0_12.eval (.tmp 8) = .pointer (some ⟨zv, 0, none⟩) := by rw [ha12, ev_other _ _ _ _ (by decide)]; exact f11_8
  have f12_9 : a0_12.eval (.tmp 9) = .pointer (some ⟨zm, 0, none⟩) := by rw [ha12, ev_other _ _ _ _ (by decide)]; exact f11_9
  have f12_11 : a0_12.eval (.tmp 11) = .int .i64 (i : Int) := by rw [ha12, ev_other _ _ _ _ (by decide)]; exact f11_11
  have f12_96 : a0_12.eval (.tmp 96) = .bool false := by rw [ha12, ev_other _ _ _ _ (by decide)]; exact f11_96
  have f12_97 : a0_12.eval (.tmp 97) = .pointer (some ⟨zu, 0, none⟩) := by rw [ha12, ev_other _ _ _ _ (by decide)]; exact f11_97
  have f12_100 : a0_12.eval (.tmp 100) = .pointer (some ⟨g, o + i * 32, none⟩) := by rw [ha12]; exact ev_same _ _ _ (Nat.lt_of_le_of_lt (by decide) qz11)
  rw [← ha12] at h0 ⊢
  clear ha12
  refine wpAnyH_take (i := 12) (oi := al_12 s) (v := keyV k) (by kernel_rfl) (by kernel_rfl) (by kernel_rfl) (by kernel_rfl) (fun c a w h => hQ c _ _ _ w h) (Or.inl ⟨wanted_some rfl (by kernel_rfl) f12_96 (Nat.lt_of_le_of_lt (by decide) qz12), fun w hw => run_load rfl f12_100 (loadAt_key hkl hw)⟩) (hk w1 hb1) ?_
  change wpAnyH _ _ _ _ _ _ _ (a0_12.put (some 101) (keyV k)) _
  obtain ⟨a0_13, ha13⟩ : ∃ rr : Act, rr = a0_12.put (some 101) (keyV k) := ⟨_, rfl⟩
  have qz13 : 134 < a0_13.tmps.size := by rw [ha13, sz_put]; exact qz12
  have f13_0 : a0_13.eval (.tmp 0) = .slice (some ⟨g, o, none⟩) n c := by rw [ha13, ev_other _ _ _ _ (by decide)]; exact f12_0
  have f13_6 : a0_13.eval (.tmp 6) = .pointer (some ⟨zt, 0, none⟩) := by rw [ha13, ev_other _ _ _ _ (by decide)]; exact f12_6
  have f13_8 : a0_13.eval (.tmp 8) = .pointer (some ⟨zv, 0, none⟩) := by rw [ha13, ev_other _ _ _ _ (by decide)]; exact f12_8
  have f13_9 : a0_13.eval (.tmp 9) = .pointer (some ⟨zm, 0, none⟩) := by rw [ha13, ev_other _ _ _ _ (by decide)]; exact f12_9
  have f13_11 : a0_13.eval (.tmp 11) = .int .i64 (i : Int) := by rw [ha13, ev_other _ _ _ _ (by decide)]; exact f12_11
  have f13_96 : a0_13.eval (.tmp 96) = .bool false := by rw [ha13, ev_other _ _ _ _ (by decide)]; exact f12_96
  have f13_97 : a0_13.eval (.tmp 97) = .pointer (some ⟨zu, 0, none⟩) := by rw [ha13, ev_other _ _ _ _ (by decide)]; exact f12_97
  have f13_101 : a0_13.eval (.tmp 101) = keyV k := by rw [ha13]; exact ev_same _ _ _ (Nat.lt_of_le_of_lt (by decide) qz12)
  rw [← ha13] at h0 ⊢
  clear ha13
  refine wpAnyH_ready (rs := [13]) (by kernel_rfl) (by simp) ?_
  refine AllReadyH.cons (o := al_13 s) (by kernel_rfl) (fun KQ hKQ => ?_) AllReadyH.nil
  rw [if_pos (wanted_some rfl (by kernel_rfl) f13_96 (Nat.lt_of_le_of_lt (by decide) qz13))]
  refine step_enterE 22 #[.pointer (some ⟨zu, 0, none⟩), keyV k] (by rw [al_enter13, f13_97, f13_101]) (fun V w' => V = .bool true ∧ Below W.heap.size W w') ((hu1 _ hb1).mono (fun e w' h => ⟨_, h.1, rfl, hb1.trans (h.2.mono hb1.size)⟩)) ?_
  rintro _ w2 ⟨rfl, hb2⟩
  refine hKQ.out _ _ (hk w2 hb2) (fun _ => ?_)
  clear hKQ KQ
  change wpAnyH _ _ _ _ _ _ _ (a0_13.put (some 102) (.bool true)) _
  obtain ⟨a0_14, ha14⟩ : ∃ rr : Act, rr = a0_13.put (some 102) (.bool true) := ⟨_, rfl⟩
  have qz14 : 134 < a0_14.tmps.size := by rw [ha14, sz_put]; exact qz13
  have f14_0 : a0_14.eval (.tmp 0) = .slice (some ⟨g, o, none⟩) n c := by rw [ha14, ev_other _ _ _ _ (by decide)]; exact f13_0
  have f14_6 : a0_14.eval (.tmp 6) = .pointer (some ⟨zt, 0, none⟩) := by rw [ha14, ev_other _ _ _ _ (by decide)]; exact f13_6
  have f14_8 : a0_14.eval (.tmp 8) = .pointer (some ⟨zv, 0, none⟩) := by rw [ha14, ev_other _ _ _ _ (by decide)]; exact f13_8
  have f14_9 : a0_14.eval (.tmp 9) = .pointer (some ⟨zm, 0, none⟩) := by rw [ha14, ev_other _ _ _ _ (by decide)]; exact f13_9
  have f14_11 : a0_14.eval (.tmp 11) = .int .i64 (i : Int) := by rw [ha14, ev_other _ _ _ _ (by decide)]; exact f13_11
  have f14_96 : a0_14.eval (.tmp 96) = .bool false := by rw [ha14, ev_other _ _ _ _ (by decide)]; exact f13_96
  have f14_102 : a0_14.eval (.tmp 102) = .bool true := by rw [ha14]; exact ev_same _ _ _ (Nat.lt_of_le_of_lt (by decide) qz13)
  rw [← ha14] at h0 ⊢
  clear ha14
  refine wpAnyH_take (i := 14) (oi := al_14 s) (v := .bool false) (by kernel_rfl) (by kernel_rfl) (by kernel_rfl) (by kernel_rfl) (fun c a w h => hQ c _ _ _ w h) (Or.inl ⟨wanted_some rfl (by kernel_rfl) f14_96 (Nat.lt_of_le_of_lt (by decide) qz14), fun w hw => by simp only [execOp, al_14, f14_102]; kernel_rfl⟩) (hk w2 hb2) ?_
  change wpAnyH _ _ _ _ _ _ _ (a0_14.put (some 103) (.bool false)) _
  obtain ⟨a0_15, ha15⟩ : ∃ rr : Act, rr = a0_14.put (some 103) (.bool false) := ⟨_, rfl⟩
  have qz15 : 134 < a0_15.tmps.size := by rw [ha15, sz_put]; exact qz14
  have f15_0 : a0_15.eval (.tmp 0) = .slice (some ⟨g, o, none⟩) n c := by rw [ha15, ev_other _ _ _ _ (by decide)]; exact f14_0
  have f15_6 : a0_15.eval (.tmp 6) = .pointer (some ⟨zt, 0, none⟩) := by rw [ha15, ev_other _ _ _ _ (by decide)]; exact f14_6
  have f15_8 : a0_15.eval (.tmp 8) = .pointer (some ⟨zv, 0, none⟩) := by rw [ha15, ev_other _ _ _ _ (by decide)]; exact f14_8
  have f15_9 : a0_15.eval (.tmp 9) = .pointer (some ⟨zm, 0, none⟩) := by rw [ha15, ev_other _ _ _ _ (by decide)]; exact f14_9
  have f15_11 : a0_15.eval (.tmp 11) = .int .i64 (i : Int) := by rw [ha15, ev_other _ _ _ _ (by decide)]; exact f14_11
  have f15_96 : a0_15.eval (.tmp 96) = .bool false := by rw [ha15, ev_other _ _ _ _ (by decide)]; exact f14_96
  have f15_103 : a0_15.eval (.tmp 103) = .bool false := by rw [ha15]; exact ev_same _ _ _ (Nat.lt_of_le_of_lt (by decide) qz14)
  rw [← ha15] at h0 ⊢
  clear ha15
  refine wpAnyH_take (i := 15) (oi := al_15 s) (v := .bool false) (by kernel_rfl) (by kernel_rfl) (by kernel_rfl) (by kernel_rfl) (fun c a w h => hQ c _ _ _ w h) (Or.inl ⟨wanted_none rfl, fun w hw => by simp only [execOp, al_15, f15_96, f15_103]; rfl⟩) (hk w2 hb2) ?_
  change wpAnyH _ _ _ _ _ _ _ (a0_15.put (some 104) (.bool false)) _
  obtain ⟨a0_16, ha16⟩ : ∃ rr : Act, rr = a0_15.put (some 104) (.bool false) := ⟨_, rfl⟩
  have qz16 : 134 < a0_16.tmps.size := by rw [ha16, sz_put]; exact qz15
  have f16_0 : a0_16.eval (.tmp 0) = .slice (some ⟨g, o, none⟩) n c := by rw [ha16, ev_other _ _ _ _ (by decide)]; exact f15_0
  have f16_6 : a0_16.eval (.tmp 6) = .pointer (some ⟨zt, 0, none⟩) := by rw [ha16, ev_other _ _ _ _ (by decide)]; exact f15_6
  have f16_8 : a0_16.eval (.tmp 8) = .pointer (some ⟨zv, 0, none⟩) := by rw [ha16, ev_other _ _ _ _ (by decide)]; exact f15_8
  have f16_9 : a0_16.eval (.tmp 9) = .pointer (some ⟨zm, 0, none⟩) := by rw [ha16, ev_other _ _ _ _ (by decide)]; exact f15_9
  have f16_11 : a0_16.eval (.tmp 11) = .int .i64 (i : Int) := by rw [ha16, ev_other _ _ _ _ (by decide)]; exact f15_11
  have f16_104 : a0_16.eval (.tmp 104) = .bool false := by rw [ha16]; exact ev_same _ _ _ (Nat.lt_of_le_of_lt (by decide) qz15)
  rw [← ha16] at h0 ⊢
  clear ha16
  refine wpAnyH_take (i := 16) (oi := al_16 s) (v := .bool false) (by kernel_rfl) (by kernel_rfl) (by kernel_rfl) (by kernel_rfl) (fun c a w h => hQ c _ _ _ w h) (Or.inl ⟨wanted_none rfl, fun w hw => by simp only [execOp, al_16, f16_104]; rfl⟩) (hk w2 hb2) ?_
  change wpAnyH _ _ _ _ _ _ _ (a0_16.put (some 105) (.bool false)) _
  obtain ⟨a0_17, ha17⟩ : ∃ rr : Act, rr = a0_16.put (some 105) (.bool false) := ⟨_, rfl⟩
  have qz17 : 134 < a0_17.tmps.size := by rw [ha17, sz_put]; exact qz16
  have f17_0 : a0_17.eval (.tmp 0) = .slice (some ⟨g, o, none⟩) n c := by rw [ha17, ev_other _ _ _ _ (by decide)]; exact f16_0
  have f17_6 : a0_17.eval (.tmp 6) = .pointer (some ⟨zt, 0, none⟩) := by rw [ha17, ev_other _ _ _ _ (by decide)]; exact f16_6
  have f17_8 : a0_17.eval (.tmp 8) = .pointer (some ⟨zv, 0, none⟩) := by rw [ha17, ev_other _ _ _ _ (by decide)]; exact f16_8
  have f17_9 : a0_17.eval (.tmp 9) = .pointer (some ⟨zm, 0, none⟩) := by rw [ha17, ev_other _ _ _ _ (by decide)]; exact f16_9
  have f17_11 : a0_17.eval (.tmp 11) = .int .i64 (i : Int) := by rw [ha17, ev_other _ _ _ _ (by decide)]; exact f16_11
  have f17_105 : a0_17.eval (.tmp 105) = .bool false := by rw [ha17]; exact ev_same _ _ _ (Nat.lt_of_le_of_lt (by decide) qz16)
  rw [← ha17] at h0 ⊢
  clear ha17
  refine wpAnyH_take (i := 17) (oi := al_17 s) (v := .pointer (some ⟨zv, 0, none⟩)) (by kernel_rfl) (by kernel_rfl) (by kernel_rfl) (by kernel_rfl) (fun c a w h => hQ c _ _ _ w h) (Or.inl ⟨wanted_some rfl (by kernel_rfl) f17_105 (Nat.lt_of_le_of_lt (by decide) qz17), fun w hw => by simp only [execOp, al_17, f17_8]; rfl⟩) (hk w2 hb2) ?_
  change wpAnyH _ _ _ _ _ _ _ (a0_17.put (some 106) (.pointer (some ⟨zv, 0, none⟩))) _
  obtain ⟨a0_18, ha18⟩ : ∃ rr : Act, rr = a0_17.put (some 106) (.pointer (some ⟨zv, 0, none⟩)) := ⟨_, rfl⟩
  have qz18 : 134 < a0_18.tmps.size := by rw [ha18, sz_put]; exact qz17
  have f18_0 : a0_18.eval (.tmp 0) = .slice (some ⟨g, o, none⟩) n c := by rw [ha18, ev_other _ _ _ _ (by decide)]; exact f17_0
  have f18_6 : a0_18.eval (.tmp 6) = .pointer (some ⟨zt, 0, none⟩) := by rw [ha18, ev_other _ _ _ _ (by decide)]; exact f17_6
  have f18_9 : a0_18.eval (.tmp 9) = .pointer (some ⟨zm, 0, none⟩) := by rw [ha18, ev_other _ _ _ _ (by decide)]; exact f17_9
  have f18_11 : a0_18.eval (.tmp 11) = .int .i64 (i : Int) := by rw [ha18, ev_other _ _ _ _ (by decide)]; exact f17_11
  have f18_105 : a0_18.eval (.tmp 105) = .bool false := by rw [ha18, ev_other _ _ _ _ (by decide)]; exact f17_105
  have f18_106 : a0_18.eval (.tmp 106) = .pointer (some ⟨zv, 0, none⟩) := by rw [ha18]; exact ev_same _ _ _ (Nat.lt_of_le_of_lt (by decide) qz17)
  rw [← ha18] at h0 ⊢
  clear ha18
  refine wpAnyH_take (i := 18) (oi := al_18 s) (v := .slice (some ⟨g, o, none⟩) n c) (by kernel_rfl) (by kernel_rfl) (by kernel_rfl) (by kernel_rfl) (fun c a w h => hQ c _ _ _ w h) (Or.inl ⟨wanted_some rfl (by kernel_rfl) f18_105 (Nat.lt_of_le_of_lt (by decide) qz18), fun w hw => by simp only [execOp, al_18, f18_0]; rfl⟩) (hk w2 hb2) ?_
  change wpAnyH _ _ _ _ _ _ _ (a0_18.put (some 107) (.slice (some ⟨g, o, none⟩) n c)) _
  obtain ⟨a0_19, ha19⟩ : ∃ rr : Act, rr = a0_18.put (some 107) (.slice (some ⟨g, o, none⟩) n c) := ⟨_, rfl⟩
  have qz19 : 134 < a0_19.tmps.size := by rw [ha19, sz_put]; exact qz18
  have f19_0 : a0_19.eval (.tmp 0) = .slice (some ⟨g, o, none⟩) n c := by rw [ha19, ev_other _ _ _ _ (by decide)]; exact f18_0
  have f19_6 : a0_19.eval (.tmp 6) = .pointer (some ⟨zt, 0, none⟩) := by rw [ha19, ev_other _ _ _ _ (by decide)]; exact f18_6
  have f19_9 : a0_19.eval (.tmp 9) = .pointer (some ⟨zm, 0, none⟩) := by rw [ha19, ev_other _ _ _ _ (by decide)]; exact f18_9
  have f19_11 : a0_19.eval (.tmp 11) = .int .i64 (i : Int) := by rw [ha19, ev_other _ _ _ _ (by decide)]; exact f18_11
  have f19_105 : a0_19.eval (.tmp 105) = .bool false := by rw [ha19, ev_other _ _ _ _ (by decide)]; exact f18_105
  have f19_106 : a0_19.eval (.tmp 106) = .pointer (some ⟨zv, 0, none⟩) := by rw [ha19, ev_other _ _ _ _ (by decide)]; exact f18_106
  have f19_107 : a0_19.eval (.tmp 107) = .slice (some ⟨g, o, none⟩) n c := by rw [ha19]; exact ev_same _ _ _ (Nat.lt_of_le_of_lt (by decide) qz18)
  rw [← ha19] at h0 ⊢
  clear ha19
  refine wpAnyH_take (i := 19) (oi := al_19 s) (v := .int .i64 (i : Int)) (by kernel_rfl) (by kernel_rfl) (by kernel_rfl) (by kernel_rfl) (fun c a w h => hQ c _ _ _ w h) (Or.inl ⟨wanted_some rfl (by kernel_rfl) f19_105 (Nat.lt_of_le_of_lt (by decide) qz19), fun w hw => by simp only [execOp, al_19, f19_11]; rfl⟩) (hk w2 hb2) ?_
  change wpAnyH _ _ _ _ _ _ _ (a0_19.put (some 108) (.int .i64 (i : Int))) _
  obtain ⟨a0_20, ha20⟩ : ∃ rr : Act, rr = a0_19.put (some 108) (.int .i64 (i : Int)) := ⟨_, rfl⟩
  have qz20 : 134 < a0_20.tmps.size := by rw [ha20, sz_put]; exact qz19
  have f20_0 : a0_20.eval (.tmp 0) = .slice (some ⟨g, o, none⟩) n c := by rw [ha20, ev_other _ _ _ _ (by decide)]; exact f19_0
  have f20_6 : a0_20.eval (.tmp 6) = .pointer (some ⟨zt, 0, none⟩) := by rw [ha20, ev_other _ _ _ _ (by decide)]; exact f19_6
  have f20_9 : a0_20.eval (.tmp 9) = .pointer (some ⟨zm, 0, none⟩) := by rw [ha20, ev_other _ _ _ _ (by decide)]; exact f19_9
  have f20_11 : a0_20.eval (.tmp 11) = .int .i64 (i : Int) := by rw [ha20, ev_other _ _ _ _ (by decide)]; exact f19_11
  have f20_105 : a0_20.eval (.tmp 105) = .bool false := by rw [ha20, ev_other _ _ _ _ (by decide)]; exact f19_105
  have f20_106 : a0_20.eval (.tmp 106) = .pointer (some ⟨zv, 0, none⟩) := by rw [ha20, ev_other _ _ _ _ (by decide)]; exact f19_106
  have f20_107 : a0_20.eval (.tmp 107) = .slice (some ⟨g, o, none⟩) n c := by rw [ha20, ev_other _ _ _ _ (by decide)]; exact f19_107
  have f20_108 : a0_20.eval (.tmp 108) = .int .i64 (i : Int) := by rw [ha20]; exact ev_same _ _ _ (Nat.lt_of_le_of_lt (by decide) qz19)
  rw [← ha20] at h0 ⊢
  clear ha20
  refine wpAnyH_take (i := 20) (oi := al_20 s) (v := .pointer (some ⟨g, o + i * 32, none⟩)) (by kernel_rfl) (by kernel_rfl) (by kernel_rfl) (by kernel_rfl) (fun c a w h => hQ c _ _ _ w h) (Or.inl ⟨wanted_some rfl (by kernel_rfl) f20_105 (Nat.lt_of_le_of_lt (by decide) qz20), fun w hw => run_idxA rfl f20_107 f20_108 hi w⟩) (hk w2 hb2) ?_
  change wpAnyH _ _ _ _ _ _ _ (a0_20.put (some 109) (.pointer (some ⟨g, o + i * 32, none⟩))) _
  obtain ⟨a0_21, ha21⟩ : ∃ rr : Act, rr = a0_20.put (some 109) (.pointer (some ⟨g, o + i * 32, none⟩)) := ⟨_, rfl⟩
  have qz21 : 134 < a0_21.tmps.size := by rw [ha21, sz_put]; exact qz20
  have f21_0 : a0_21.eval (.tmp 0) = .slice (some ⟨g, o, none⟩) n c := by rw [ha21, ev_other _ _ _ _ (by decide)]; exact f20_0
  have f21_6 : a0_21.eval (.tmp 6) = .pointer (some ⟨zt, 0, none⟩) := by rw [ha21, ev_other _ _ _ _ (by decide)]; exact f20_6
  have f21_9 : a0_21.eval (.tmp 9) = .pointer (some ⟨zm, 0, none⟩) := by rw [ha21, ev_other _ _ _ _ (by decide)]; exact f20_9
  have f21_11 : a0_21.eval (.tmp 11) = .int .i64 (i : Int) := by rw [ha21, ev_other _ _ _ _ (by decide)]; exact f20_11
  have f21_105 : a0_21.eval (.tmp 105) = .bool false := by rw [ha21, ev_other _ _ _ _ (by decide)]; exact f20_105
  have f21_106 : a0_21.eval (.tmp 106) = .pointer (some ⟨zv, 0, none⟩) := by rw [ha21, ev_other _ _ _ _ (by decide)]; exact f20_106
  have f21_109 : a0_21.eval (.tmp 109) = .pointer (some ⟨g, o + i * 32, none⟩) := by rw [ha21]; exact ev_same _ _ _ (Nat.lt_of_le_of_lt (by decide) qz20)
  rw [← ha21] at h0 ⊢
  clear ha21
  refine wpAnyH_take (i := 21) (oi := al_21 s) (v := keyV k) (by kernel_rfl) (by kernel_rfl) (by kernel_rfl) (by kernel_rfl) (fun c a w h => hQ c _ _ _ w h) (Or.inl ⟨wanted_some rfl (by kernel_rfl) f21_105 (Nat.lt_of_le_of_lt (by decide) qz21), fun w hw => run_load rfl f21_109 (loadAt_key hkl hw)⟩) (hk w2 hb2) ?_
  change wpAnyH _ _ _ _ _ _ _ (a0_21.put (some 110) (keyV k)) _
  obtain ⟨a0_22, ha22⟩ : ∃ rr : Act, rr = a0_21.put (some 110) (keyV k) := ⟨_, rfl⟩
  have qz22 : 134 < a0_22.tmps.size := by rw [ha22, sz_put]; exact qz21
  have f22_0 : a0_22.eval (.tmp 0) = .slice (some ⟨g, o, none⟩) n c := by rw [ha22, ev_other _ _ _ _ (by decide)]; exact f21_0
  have f22_6 : a0_22.eval (.tmp 6) = .pointer (some ⟨zt, 0, none⟩) := by rw [ha22, ev_other _ _ _ _ (by decide)]; exact f21_6
  have f22_9 : a0_22.eval (.tmp 9) = .pointer (some ⟨zm, 0, none⟩) := by rw [ha22, ev_other _ _ _ _ (by decide)]; exact f21_9
  have f22_11 : a0_22.eval (.tmp 11) = .int .i64 (i : Int) := by rw [ha22, ev_other _ _ _ _ (by decide)]; exact f21_11
  have f22_105 : a0_22.eval (.tmp 105) = .bool false := by rw [ha22, ev_other _ _ _ _ (by decide)]; exact f21_105
  have f22_106 : a0_22.eval (.tmp 106) = .pointer (some ⟨zv, 0, none⟩) := by rw [ha22, ev_other _ _ _ _ (by decide)]; exact f21_106
  have f22_110 : a0_22.eval (.tmp 110) = keyV k := by rw [ha22]; exact ev_same _ _ _ (Nat.lt_of_le_of_lt (by decide) qz21)
  rw [← ha22] at h0 ⊢
  clear ha22
  refine wpAnyH_take (i := 23) (oi := al_23 s) (v := .pointer (some ⟨zt, 0, none⟩)) (by kernel_rfl) (by kernel_rfl) (by kernel_rfl) (by kernel_rfl) (fun c a w h => hQ c _ _ _ w h) (Or.inl ⟨wanted_some rfl (by kernel_rfl) f22_105 (Nat.lt_of_le_of_lt (by decide) qz22), fun w hw => by simp only [execOp, al_23, f22_6]; rfl⟩) (hk w2 hb2) ?_
  change wpAnyH _ _ _ _ _ _ _ (a0_22.put (some 112) (.pointer (some ⟨zt, 0, none⟩))) _
  obtain ⟨a0_23, ha23⟩ : ∃ rr : Act, rr = a0_22.put (some 112) (.pointer (some ⟨zt, 0, none⟩)) := ⟨_, rfl⟩
  have qz23 : 134 < a0_23.tmps.size := by rw [ha23, sz_put]; exact qz22
  have f23_0 : a0_23.eval (.tmp 0) = .slice (some ⟨g, o, none⟩) n c := by rw [ha23, ev_other _ _ _ _ (by decide)]; exact f22_0
  have f23_6 : a0_23.eval (.tmp 6) = .pointer (some ⟨zt, 0, none⟩) := by rw [ha23, ev_other _ _ _ _ (by decide)]; exact f22_6
  have f23_9 : a0_23.eval (.tmp 9) = .pointer (some ⟨zm, 0, none⟩) := by rw [ha23, ev_other _ _ _ _ (by decide)]; exact f22_9
  have f23_11 : a0_23.eval (.tmp 11) = .int .i64 (i : Int) := by rw [ha23, ev_other _ _ _ _ (by decide)]; exact f22_11
  have f23_105 : a0_23.eval (.tmp 105) = .bool false := by rw [ha23, ev_other _ _ _ _ (by decide)]; exact f22_105
  have f23_106 : a0_23.eval (.tmp 106) = .pointer (some ⟨zv, 0, none⟩) := by rw [ha23, ev_other _ _ _ _ (by decide)]; exact f22_106
  have f23_110 : a0_23.eval (.tmp 110) = keyV k := by rw [ha23, ev_other _ _ _ _ (by decide)]; exact f22_110
  have f23_112 : a0_23.eval (.tmp 112) = .pointer (some ⟨zt, 0, none⟩) := by rw [ha23]; exact ev_same _ _ _ (Nat.lt_of_le_of_lt (by decide) qz22)
  rw [← ha23] at h0 ⊢
  clear ha23
  refine wpAnyH_take (i := 24) (oi := al_24 s) (v := .slice (some ⟨g, o, none⟩) n c) (by kernel_rfl) (by kernel_rfl) (by kernel_rfl) (by kernel_rfl) (fun c a w h => hQ c _ _ _ w h) (Or.inl ⟨wanted_some rfl (by kernel_rfl) f23_105 (Nat.lt_of_le_of_lt (by decide) qz23), fun w hw => by simp only [execOp, al_24, f23_0]; rfl⟩) (hk w2 hb2) ?_
  change wpAnyH _ _ _ _ _ _ _ (a0_23.put (some 113) (.slice (some ⟨g, o, none⟩) n c)) _
  obtain ⟨a0_24, ha24⟩ : ∃ rr : Act, rr = a0_23.put (some 113) (.slice (some ⟨g, o, none⟩) n c) := ⟨_, rfl⟩
  have qz24 : 134 < a0_24.tmps.size := by rw [ha24, sz_put]; exact qz23
  have f24_0 : a0_24.eval (.tmp 0) = .slice (some ⟨g, o, none⟩) n c := by rw [ha24, ev_other _ _ _ _ (by decide)]; exact f23_0
  have f24_6 : a0_24.eval (.tmp 6) = .pointer (some ⟨zt, 0, none⟩) := by rw [ha24, ev_other _ _ _ _ (by decide)]; exact f23_6
  have f24_9 : a0_24.eval (.tmp 9) = .pointer (some ⟨zm, 0, none⟩) := by rw [ha24, ev_other _ _ _ _ (by decide)]; exact f23_9
  have f24_11 : a0_24.eval (.tmp 11) = .int .i64 (i : Int) := by rw [ha24, ev_other _ _ _ _ (by decide)]; exact f23_11
  have f24_105 : a0_24.eval (.tmp 105) = .bool false := by rw [ha24, ev_other _ _ _ _ (by decide)]; exact f23_105
  have f24_106 : a0_24.eval (.tmp 106) = .pointer (some ⟨zv, 0, none⟩) := by rw [ha24, ev_other _ _ _ _ (by decide)]; exact f23_106
  have f24_110 : a0_24.eval (.tmp 110) = keyV k := by rw [ha24, ev_other _ _ _ _ (by decide)]; exact f23_110
  have f24_112 : a0_24.eval (.tmp 112) = .pointer (some ⟨zt, 0, none⟩) := by rw [ha24, ev_other _ _ _ _ (by decide)]; exact f23_112
  have f24_113 : a0_24.eval (.tmp 113) = .slice (some ⟨g, o, none⟩) n c := by rw [ha24]; exact ev_same _ _ _ (Nat.lt_of_le_of_lt (by decide) qz23)
  rw [← ha24] at h0 ⊢
  clear ha24
  refine wpAnyH_take (i := 25) (oi := al_25 s) (v := .int .i64 (i : Int)) (by kernel_rfl) (by kernel_rfl) (by kernel_rfl) (by kernel_rfl) (fun c a w h => hQ c _ _ _ w h) (Or.inl ⟨wanted_some rfl (by kernel_rfl) f24_105 (Nat.lt_of_le_of_lt (by decide) qz24), fun w hw => by simp only [execOp, al_25, f24_11]; rfl⟩) (hk w2 hb2) ?_
  change wpAnyH _ _ _ _ _ _ _ (a0_24.put (some 114) (.int .i64 (i : Int))) _
  obtain ⟨a0_25, ha25⟩ : ∃ rr : Act, rr = a0_24.put (some 114) (.int .i64 (i : Int)) := ⟨_, rfl⟩
  have qz25 : 134 < a0_25.tmps.size := by rw [ha25, sz_put]; exact qz24
  have f25_0 : a0_25.eval (.tmp 0) = .slice (some ⟨g, o, none⟩) n c := by rw [ha25, ev_other _ _ _ _ (by decide)]; exact f24_0
  have f25_6 : a0_25.eval (.tmp 6) = .pointer (some ⟨zt, 0, none⟩) := by rw [ha25, ev_other _ _ _ _ (by decide)]; exact f24_6
  have f25_9 : a0_25.eval (.tmp 9) = .pointer (some ⟨zm, 0, none⟩) := by rw [ha25, ev_other _ _ _ _ (by decide)]; exact f24_9
  have f25_11 : a0_25.eval (.tmp 11) = .int .i64 (i : Int) := by rw [ha25, ev_other _ _ _ _ (by decide)]; exact f24_11
  have f25_105 : a0_25.eval (.tmp 105) = .bool false := by rw [ha25, ev_other _ _ _ _ (by decide)]; exact f24_105
  have f25_106 : a0_25.eval (.tmp 106) = .pointer (some ⟨zv, 0, none⟩) := by rw [ha25, ev_other _ _ _ _ (by decide)]; exact f24_106
  have f25_110 : a0_25.eval (.tmp 110) = keyV k := by rw [ha25, ev_other _ _ _ _ (by decide)]; exact f24_110
  have f25_112 : a0_25.eval (.tmp 112) = .pointer (some ⟨zt, 0, none⟩) := by rw [ha25, ev_other _ _ _ _ (by decide)]; exact f24_112
  have f25_113 : a0_25.eval (.tmp 113) = .slice (some ⟨g, o, none⟩) n c := by rw [ha25, ev_other _ _ _ _ (by decide)]; exact f24_113
  have f25_114 : a0_25.eval (.tmp 114) = .int .i64 (i : Int) := by rw [ha25]; exact ev_same _ _ _ (Nat.lt_of_le_of_lt (by decide) qz24)
  rw [← ha25] at h0 ⊢
  clear ha25
  refine wpAnyH_take (i := 26) (oi := al_26 s) (v := .pointer (some ⟨g, o + i * 32, none⟩)) (by kernel_rfl) (by kernel_rfl) (by kernel_rfl) (by kernel_rfl) (fun c a w h => hQ c _ _ _ w h) (Or.inl ⟨wanted_some rfl (by kernel_rfl) f25_105 (Nat.lt_of_le_of_lt (by decide) qz25), fun w hw => run_idxA rfl f25_113 f25_114 hi w⟩) (hk w2 hb2) ?_
  change wpAnyH _ _ _ _ _ _ _ (a0_25.put (some 115) (.pointer (some ⟨g, o + i * 32, none⟩))) _
  obtain ⟨a0_26, ha26⟩ : ∃ rr : Act, rr = a0_25.put (some 115) (.pointer (some ⟨g, o + i * 32, none⟩)) := ⟨_, rfl⟩
  have qz26 : 134 < a0_26.tmps.size := by rw [ha26, sz_put]; exact qz25
  have f26_0 : a0_26.eval (.tmp 0) = .slice (some ⟨g, o, none⟩) n c := by rw [ha26, ev_other _ _ _ _ (by decide)]; exact f25_0
  have f26_6 : a0_26.eval (.tmp 6) = .pointer (some ⟨zt, 0, none⟩) := by rw [ha26, ev_other _ _ _ _ (by decide)]; exact f25_6
  have f26_9 : a0_26.eval (.tmp 9) = .pointer (some ⟨zm, 0, none⟩) := by rw [ha26, ev_other _ _ _ _ (by decide)]; exact f25_9
  have f26_11 : a0_26.eval (.tmp 11) = .int .i64 (i : Int) := by rw [ha26, ev_other _ _ _ _ (by decide)]; exact f25_11
  have f26_105 : a0_26.eval (.tmp 105) = .bool false := by rw [ha26, ev_other _ _ _ _ (by decide)]; exact f25_105
  have f26_106 : a0_26.eval (.tmp 106) = .pointer (some ⟨zv, 0, none⟩) := by rw [ha26, ev_other _ _ _ _ (by decide)]; exact f25_106
  have f26_110 : a0_26.eval (.tmp 110) = keyV k := by rw [ha26, ev_other _ _ _ _ (by decide)]; exact f25_110
  have f26_112 : a0_26.eval (.tmp 112) = .pointer (some ⟨zt, 0, none⟩) := by rw [ha26, ev_other _ _ _ _ (by decide)]; exact f25_112
  have f26_115 : a0_26.eval (.tmp 115) = .pointer (some ⟨g, o + i * 32, none⟩) := by rw [ha26]; exact ev_same _ _ _ (Nat.lt_of_le_of_lt (by decide) qz25)
  rw [← ha26] at h0 ⊢
  clear ha26
  refine wpAnyH_take (i := 27) (oi := al_27 s) (v := keyV k) (by kernel_rfl) (by kernel_rfl) (by kernel_rfl) (by kernel_rfl) (fun c a w h => hQ c _ _ _ w h) (Or.inl ⟨wanted_some rfl (by kernel_rfl) f26_105 (Nat.lt_of_le_of_lt (by decide) qz26), fun w hw => run_load rfl f26_115 (loadAt_key hkl hw)⟩) (hk w2 hb2) ?_
  change wpAnyH _ _ _ _ _ _ _ (a0_26.put (some 116) (keyV k)) _
  obtain ⟨a0_27, ha27⟩ : ∃ rr : Act, rr = a0_26.put (some 116) (keyV k) := ⟨_, rfl⟩
  have qz27 : 134 < a0_27.tmps.size := by rw [ha27, sz_put]; exact qz26
  have f27_0 : a0_27.eval (.tmp 0) = .slice (some ⟨g, o, none⟩) n c := by rw [ha27, ev_other _ _ _ _ (by decide)]; exact f26_0
  have f27_6 : a0_27.eval (.tmp 6) = .pointer (some ⟨zt, 0, none⟩) := by rw [ha27, ev_other _ _ _ _ (by decide)]; exact f26_6
  have f27_9 : a0_27.eval (.tmp 9) = .pointer (some ⟨zm, 0, none⟩) := by rw [ha27, ev_other _ _ _ _ (by decide)]; exact f26_9
  have f27_11 : a0_27.eval (.tmp 11) = .int .i64 (i : Int) := by rw [ha27, ev_other _ _ _ _ (by decide)]; exact f26_11
  have f27_105 : a0_27.eval (.tmp 105) = .bool false := by rw [ha27, ev_other _ _ _ _ (by decide)]; exact f26_105
  have f27_106 : a0_27.eval (.tmp 106) = .pointer (some ⟨zv, 0, none⟩) := by rw [ha27, ev_other _ _ _ _ (by decide)]; exact f26_106
  have f27_110 : a0_27.eval (.tmp 110) = keyV k := by rw [ha27, ev_other _ _ _ _ (by decide)]; exact f26_110
  have f27_112 : a0_27.eval (.tmp 112) = .pointer (some ⟨zt, 0, none⟩) := by rw [ha27, ev_other _ _ _ _ (by decide)]; exact f26_112
  have f27_116 : a0_27.eval (.tmp 116) = keyV k := by rw [ha27]; exact ev_same _ _ _ (Nat.lt_of_le_of_lt (by decide) qz26)
  rw [← ha27] at h0 ⊢
  clear ha27
  refine wpAnyH_ready (rs := [22]) (by kernel_rfl) (by simp) ?_
  refine AllReadyH.cons (o := al_22 s) (by kernel_rfl) (fun KQ hKQ => ?_) AllReadyH.nil
  rw [if_pos (wanted_some rfl (by kernel_rfl) f27_105 (Nat.lt_of_le_of_lt (by decide) qz27))]
  refine step_enterE 22 #[.pointer (some ⟨zv, 0, none⟩), keyV k] (by rw [al_enter22, f27_106, f27_110]) (fun V w' => V = .bool bt ∧ Below W.heap.size W w') ((hv1 _ hb2).mono (fun e w' h => ⟨_, h.1, rfl, hb2.trans (h.2.mono hb2.size)⟩)) ?_
  rintro _ w3 ⟨rfl, hb3⟩
  refine hKQ.out _ _ (hk w3 hb3) (fun _ => ?_)
  clear hKQ KQ
  change wpAnyH _ _ _ _ _ _ _ (a0_27.put (some 111) (.bool bt)) _
  obtain ⟨a0_28, ha28⟩ : ∃ rr : Act, rr = a0_27.put (some 111) (.bool bt) := ⟨_, rfl⟩
  have qz28 : 134 < a0_28.tmps.size := by rw [ha28, sz_put]; exact qz27
  have f28_0 : a0_28.eval (.tmp 0) = .slice (some ⟨g, o, none⟩) n c := by rw [ha28, ev_other _ _ _ _ (by decide)]; exact f27_0
  have f28_6 : a0_28.eval (.tmp 6) = .pointer (some ⟨zt, 0, none⟩) := by rw [ha28, ev_other _ _ _ _ (by decide)]; exact f27_6
  have f28_9 : a0_28.eval (.tmp 9) = .pointer (some ⟨zm, 0, none⟩) := by rw [ha28, ev_other _ _ _ _ (by decide)]; exact f27_9
  have f28_11 : a0_28.eval (.tmp 11) = .int .i64 (i : Int) := by rw [ha28, ev_other _ _ _ _ (by decide)]; exact f27_11
  have f28_105 : a0_28.eval (.tmp 105) = .bool false := by rw [ha28, ev_other _ _ _ _ (by decide)]; exact f27_105
  have f28_111 : a0_28.eval (.tmp 111) = .bool bt := by rw [ha28]; exact ev_same _ _ _ (Nat.lt_of_le_of_lt (by decide) qz27)
  have f28_112 : a0_28.eval (.tmp 112) = .pointer (some ⟨zt, 0, none⟩) := by rw [ha28, ev_other _ _ _ _ (by decide)]; exact f27_112
  have f28_116 : a0_28.eval (.tmp 116) = keyV k := by rw [ha28, ev_other _ _ _ _ (by decide)]; exact f27_116
  rw [← ha28] at h0 ⊢
  clear ha28
  refine wpAnyH_ready (rs := [28]) (by kernel_rfl) (by simp) ?_
  refine AllReadyH.cons (o := al_28 s) (by kernel_rfl) (fun KQ hKQ => ?_) AllReadyH.nil
  rw [if_pos (wanted_some rfl (by kernel_rfl) f28_105 (Nat.lt_of_le_of_lt (by decide) qz28))]
  refine step_enterE 22 #[.pointer (some ⟨zt, 0, none⟩), keyV k] (by rw [al_enter28, f28_112, f28_116]) (fun V w' => V = .bool bt ∧ Below W.heap.size W w') ((ht1 _ hb3).mono (fun e w' h => ⟨_, h.1, rfl, hb3.trans (h.2.mono hb3.size)⟩)) ?_
  rintro _ w4 ⟨rfl, hb4⟩
  refine hKQ.out _ _ (hk w4 hb4) (fun _ => ?_)
  clear hKQ KQ
  change wpAnyH _ _ _ _ _ _ _ (a0_28.put (some 117) (.bool bt)) _
  obtain ⟨a0_29, ha29⟩ : ∃ rr : Act, rr = a0_28.put (some 117) (.bool bt) := ⟨_, rfl⟩
  have qz29 : 134 < a0_29.tmps.size := by rw [ha29, sz_put]; exact qz28
  have f29_0 : a0_29.eval (.tmp 0) = .slice (some ⟨g, o, none⟩) n c := by rw [ha29, ev_other _ _ _ _ (by decide)]; exact f28_0
  have f29_6 : a0_29.eval (.tmp 6) = .pointer (some ⟨zt, 0, none⟩) := by rw [ha29, ev_other _ _ _ _ (by decide)]; exact f28_6
  have f29_9 : a0_29.eval (.tmp 9) = .pointer (some ⟨zm, 0, none⟩) := by rw [ha29, ev_other _ _ _ _ (by decide)]; exact f28_9
  have f29_11 : a0_29.eval (.tmp 11) = .int .i64 (i : Int) := by rw [ha29, ev_other _ _ _ _ (by decide)]; exact f28_11
  have f29_105 : a0_29.eval (.tmp 105) = .bool false := by rw [ha29, ev_other _ _ _ _ (by decide)]; exact f28_105
  have f29_111 : a0_29.eval (.tmp 111) = .bool bt := by rw [ha29, ev_other _ _ _ _ (by decide)]; exact f28_111
  have f29_117 : a0_29.eval (.tmp 117) = .bool bt := by rw [ha29]; exact ev_same _ _ _ (Nat.lt_of_le_of_lt (by decide) qz28)
  rw [← ha29] at h0 ⊢
  clear ha29
  refine wpAnyH_take (i := 29) (oi := al_29 s) (v := .bool false) (by kernel_rfl) (by kernel_rfl) (by kernel_rfl) (by kernel_rfl) (fun c a w h => hQ c _ _ _ w h) (Or.inl ⟨wanted_some rfl (by kernel_rfl) f29_105 (Nat.lt_of_le_of_lt (by decide) qz29), fun w hw => run_neqBA rfl f29_111 f29_117 w⟩) (hk w4 hb4) ?_
  change wpAnyH _ _ _ _ _ _ _ (a0_29.put (some 118) (.bool false)) _
  obtain ⟨a0_30, ha30⟩ : ∃ rr : Act, rr = a0_29.put (some 118) (.bool false) := ⟨_, rfl⟩
  have qz30 : 134 < a0_30.tmps.size := by rw [ha30, sz_put]; exact qz29
  have f30_0 : a0_30.eval (.tmp 0) = .slice (some ⟨g, o, none⟩) n c := by rw [ha30, ev_other _ _ _ _ (by decide)]; exact f29_0
  have f30_6 : a0_30.eval (.tmp 6) = .pointer (some ⟨zt, 0, none⟩) := by rw [ha30, ev_other _ _ _ _ (by decide)]; exact f29_6
  have f30_9 : a0_30.eval (.tmp 9) = .pointer (some ⟨zm, 0, none⟩) := by rw [ha30, ev_other _ _ _ _ (by decide)]; exact f29_9
  have f30_11 : a0_30.eval (.tmp 11) = .int .i64 (i : Int) := by rw [ha30, ev_other _ _ _ _ (by decide)]; exact f29_11
  have f30_105 : a0_30.eval (.tmp 105) = .bool false := by rw [ha30, ev_other _ _ _ _ (by decide)]; exact f29_105
  have f30_118 : a0_30.eval (.tmp 118) = .bool false := by rw [ha30]; exact ev_same _ _ _ (Nat.lt_of_le_of_lt (by decide) qz29)
  rw [← ha30] at h0 ⊢
  clear ha30
  refine wpAnyH_take (i := 30) (oi := al_30 s) (v := .bool false) (by kernel_rfl) (by kernel_rfl) (by kernel_rfl) (by kernel_rfl) (fun c a w h => hQ c _ _ _ w h) (Or.inl ⟨wanted_none rfl, fun w hw => by simp only [execOp, al_30, f30_105, f30_118]; rfl⟩) (hk w4 hb4) ?_
  change wpAnyH _ _ _ _ _ _ _ (a0_30.put (some 119) (.bool false)) _
  obtain ⟨a0_31, ha31⟩ : ∃ rr : Act, rr = a0_30.put (some 119) (.bool false) := ⟨_, rfl⟩
  have qz31 : 134 < a0_31.tmps.size := by rw [ha31, sz_put]; exact qz30
  have f31_0 : a0_31.eval (.tmp 0) = .slice (some ⟨g, o, none⟩) n c := by rw [ha31, ev_other _ _ _ _ (by decide)]; exact f30_0
  have f31_6 : a0_31.eval (.tmp 6) = .pointer (some ⟨zt, 0, none⟩) := by rw [ha31, ev_other _ _ _ _ (by decide)]; exact f30_6
  have f31_9 : a0_31.eval (.tmp 9) = .pointer (some ⟨zm, 0, none⟩) := by rw [ha31, ev_other _ _ _ _ (by decide)]; exact f30_9
  have f31_11 : a0_31.eval (.tmp 11) = .int .i64 (i : Int) := by rw [ha31, ev_other _ _ _ _ (by decide)]; exact f30_11
  have f31_119 : a0_31.eval (.tmp 119) = .bool false := by rw [ha31]; exact ev_same _ _ _ (Nat.lt_of_le_of_lt (by decide) qz30)
  rw [← ha31] at h0 ⊢
  clear ha31
  refine wpAnyH_take (i := 31) (oi := al_31 s) (v := .bool false) (by kernel_rfl) (by kernel_rfl) (by kernel_rfl) (by kernel_rfl) (fun c a w h => hQ c _ _ _ w h) (Or.inl ⟨wanted_none rfl, fun w hw => by simp only [execOp, al_31, f31_119]; rfl⟩) (hk w4 hb4) ?_
  change wpAnyH _ _ _ _ _ _ _ (a0_31.put (some 120) (.bool false)) _
  obtain ⟨a0_32, ha32⟩ : ∃ rr : Act, rr = a0_31.put (some 120) (.bool false) := ⟨_, rfl⟩
  have qz32 : 134 < a0_32.tmps.size := by rw [ha32, sz_put]; exact qz31
  have f32_0 : a0_32.eval (.tmp 0) = .slice (some ⟨g, o, none⟩) n c := by rw [ha32, ev_other _ _ _ _ (by decide)]; exact f31_0
  have f32_6 : a0_32.eval (.tmp 6) = .pointer (some ⟨zt, 0, none⟩) := by rw [ha32, ev_other _ _ _ _ (by decide)]; exact f31_6
  have f32_9 : a0_32.eval (.tmp 9) = .pointer (some ⟨zm, 0, none⟩) := by rw [ha32, ev_other _ _ _ _ (by decide)]; exact f31_9
  have f32_11 : a0_32.eval (.tmp 11) = .int .i64 (i : Int) := by rw [ha32, ev_other _ _ _ _ (by decide)]; exact f31_11
  have f32_120 : a0_32.eval (.tmp 120) = .bool false := by rw [ha32]; exact ev_same _ _ _ (Nat.lt_of_le_of_lt (by decide) qz31)
  rw [← ha32] at h0 ⊢
  clear ha32
  refine wpAnyH_take (i := 32) (oi := al_32 s) (v := .pointer (some ⟨zm, 0, none⟩)) (by kernel_rfl) (by kernel_rfl) (by kernel_rfl) (by kernel_rfl) (fun c a w h => hQ c _ _ _ w h) (Or.inl ⟨wanted_some rfl (by kernel_rfl) f32_120 (Nat.lt_of_le_of_lt (by decide) qz32), fun w hw => by simp only [execOp, al_32, f32_9]; rfl⟩) (hk w4 hb4) ?_
  change wpAnyH _ _ _ _ _ _ _ (a0_32.put (some 121) (.pointer (some ⟨zm, 0, none⟩))) _
  obtain ⟨a0_33, ha33⟩ : ∃ rr : Act, rr = a0_32.put (some 121) (.pointer (some ⟨zm, 0, none⟩)) := ⟨_, rfl⟩
  have qz33 : 134 < a0_33.tmps.size := by rw [ha33, sz_put]; exact qz32
  have f33_0 : a0_33.eval (.tmp 0) = .slice (some ⟨g, o, none⟩) n c := by rw [ha33, ev_other _ _ _ _ (by decide)]; exact f32_0
  have f33_6 : a0_33.eval (.tmp 6) = .pointer (some ⟨zt, 0, none⟩) := by rw [ha33, ev_other _ _ _ _ (by decide)]; exact f32_6
  have f33_11 : a0_33.eval (.tmp 11) = .int .i64 (i : Int) := by rw [ha33, ev_other _ _ _ _ (by decide)]; exact f32_11
  have f33_120 : a0_33.eval (.tmp 120) = .bool false := by rw [ha33, ev_other _ _ _ _ (by decide)]; exact f32_120
  have f33_121 : a0_33.eval (.tmp 121) = .pointer (some ⟨zm, 0, none⟩) := by rw [ha33]; exact ev_same _ _ _ (Nat.lt_of_le_of_lt (by decide) qz32)
  rw [← ha33] at h0 ⊢
  clear ha33
  refine wpAnyH_take (i := 33) (oi := al_33 s) (v := .slice (some ⟨g, o, none⟩) n c) (by kernel_rfl) (by kernel_rfl) (by kernel_rfl) (by kernel_rfl) (fun c a w h => hQ c _ _ _ w h) (Or.inl ⟨wanted_some rfl (by kernel_rfl) f33_120 (Nat.lt_of_le_of_lt (by decide) qz33), fun w hw => by simp only [execOp, al_33, f33_0]; rfl⟩) (hk w4 hb4) ?_
  change wpAnyH _ _ _ _ _ _ _ (a0_33.put (some 122) (.slice (some ⟨g, o, none⟩) n c)) _
  obtain ⟨a0_34, ha34⟩ : ∃ rr : Act, rr = a0_33.put (some 122) (.slice (some ⟨g, o, none⟩) n c) := ⟨_, rfl⟩
  have qz34 : 134 < a0_34.tmps.size := by rw [ha34, sz_put]; exact qz33
  have f34_0 : a0_34.eval (.tmp 0) = .slice (some ⟨g, o, none⟩) n c := by rw [ha34, ev_other _ _ _ _ (by decide)]; exact f33_0
  have f34_6 : a0_34.eval (.tmp 6) = .pointer (some ⟨zt, 0, none⟩) := by rw [ha34, ev_other _ _ _ _ (by decide)]; exact f33_6
  have f34_11 : a0_34.eval (.tmp 11) = .int .i64 (i : Int) := by rw [ha34, ev_other _ _ _ _ (by decide)]; exact f33_11
  have f34_120 : a0_34.eval (.tmp 120) = .bool false := by rw [ha34, ev_other _ _ _ _ (by decide)]; exact f33_120
  have f34_121 : a0_34.eval (.tmp 121) = .pointer (some ⟨zm, 0, none⟩) := by rw [ha34, ev_other _ _ _ _ (by decide)]; exact f33_121
  have f34_122 : a0_34.eval (.tmp 122) = .slice (some ⟨g, o, none⟩) n c := by rw [ha34]; exact ev_same _ _ _ (Nat.lt_of_le_of_lt (by decide) qz33)
  rw [← ha34] at h0 ⊢
  clear ha34
  refine wpAnyH_take (i := 34) (oi := al_34 s) (v := .int .i64 (i : Int)) (by kernel_rfl) (by kernel_rfl) (by kernel_rfl) (by kernel_rfl) (fun c a w h => hQ c _ _ _ w h) (Or.inl ⟨wanted_some rfl (by kernel_rfl) f34_120 (Nat.lt_of_le_of_lt (by decide) qz34), fun w hw => by simp only [execOp, al_34, f34_11]; rfl⟩) (hk w4 hb4) ?_
  change wpAnyH _ _ _ _ _ _ _ (a0_34.put (some 123) (.int .i64 (i : Int))) _
  obtain ⟨a0_35, ha35⟩ : ∃ rr : Act, rr = a0_34.put (some 123) (.int .i64 (i : Int)) := ⟨_, rfl⟩
  have qz35 : 134 < a0_35.tmps.size := by rw [ha35, sz_put]; exact qz34
  have f35_0 : a0_35.eval (.tmp 0) = .slice (some ⟨g, o, none⟩) n c := by rw [ha35, ev_other _ _ _ _ (by decide)]; exact f34_0
  have f35_6 : a0_35.eval (.tmp 6) = .pointer (some ⟨zt, 0, none⟩) := by rw [ha35, ev_other _ _ _ _ (by decide)]; exact f34_6
  have f35_11 : a0_35.eval (.tmp 11) = .int .i64 (i : Int) := by rw [ha35, ev_other _ _ _ _ (by decide)]; exact f34_11
  have f35_120 : a0_35.eval (.tmp 120) = .bool false := by rw [ha35, ev_other _ _ _ _ (by decide)]; exact f34_120
  have f35_121 : a0_35.eval (.tmp 121) = .pointer (some ⟨zm, 0, none⟩) := by rw [ha35, ev_other _ _ _ _ (by decide)]; exact f34_121
  have f35_122 : a0_35.eval (.tmp 122) = .slice (some ⟨g, o, none⟩) n c := by rw [ha35, ev_other _ _ _ _ (by decide)]; exact f34_122
  have f35_123 : a0_35.eval (.tmp 123) = .int .i64 (i : Int) := by rw [ha35]; exact ev_same _ _ _ (Nat.lt_of_le_of_lt (by decide) qz34)
  rw [← ha35] at h0 ⊢
  clear ha35
  refine wpAnyH_take (i := 35) (oi := al_35 s) (v := .pointer (some ⟨g, o + i * 32, none⟩)) (by kernel_rfl) (by kernel_rfl) (by kernel_rfl) (by kernel_rfl) (fun c a w h => hQ c _ _ _ w h) (Or.inl ⟨wanted_some rfl (by kernel_rfl) f35_120 (Nat.lt_of_le_of_lt (by decide) qz35), fun w hw => run_idxA rfl f35_122 f35_123 hi w⟩) (hk w4 hb4) ?_
  change wpAnyH _ _ _ _ _ _ _ (a0_35.put (some 124) (.pointer (some ⟨g, o + i * 32, none⟩))) _
  obtain ⟨a0_36, ha36⟩ : ∃ rr : Act, rr = a0_35.put (some 124) (.pointer (some ⟨g, o + i * 32, none⟩)) := ⟨_, rfl⟩
  have qz36 : 134 < a0_36.tmps.size := by rw [ha36, sz_put]; exact qz35
  have f36_0 : a0_36.eval (.tmp 0) = .slice (some ⟨g, o, none⟩) n c := by rw [ha36, ev_other _ _ _ _ (by decide)]; exact f35_0
  have f36_6 : a0_36.eval (.tmp 6) = .pointer (some ⟨zt, 0, none⟩) := by rw [ha36, ev_other _ _ _ _ (by decide)]; exact f35_6
  have f36_11 : a0_36.eval (.tmp 11) = .int .i64 (i : Int) := by rw [ha36, ev_other _ _ _ _ (by decide)]; exact f35_11
  have f36_120 : a0_36.eval (.tmp 120) = .bool false := by rw [ha36, ev_other _ _ _ _ (by decide)]; exact f35_120
  have f36_121 : a0_36.eval (.tmp 121) = .pointer (some ⟨zm, 0, none⟩) := by rw [ha36, ev_other _ _ _ _ (by decide)]; exact f35_121
  have f36_124 : a0_36.eval (.tmp 124) = .pointer (some ⟨g, o + i * 32, none⟩) := by rw [ha36]; exact ev_same _ _ _ (Nat.lt_of_le_of_lt (by decide) qz35)
  rw [← ha36] at h0 ⊢
  clear ha36
  refine wpAnyH_take (i := 36) (oi := al_36 s) (v := keyV k) (by kernel_rfl) (by kernel_rfl) (by kernel_rfl) (by kernel_rfl) (fun c a w h => hQ c _ _ _ w h) (Or.inl ⟨wanted_some rfl (by kernel_rfl) f36_120 (Nat.lt_of_le_of_lt (by decide) qz36), fun w hw => run_load rfl f36_124 (loadAt_key hkl hw)⟩) (hk w4 hb4) ?_
  change wpAnyH _ _ _ _ _ _ _ (a0_36.put (some 125) (keyV k)) _
  obtain ⟨a0_37, ha37⟩ : ∃ rr : Act, rr = a0_36.put (some 125) (keyV k) := ⟨_, rfl⟩
  have qz37 : 134 < a0_37.tmps.size := by rw [ha37, sz_put]; exact qz36
  have f37_0 : a0_37.eval (.tmp 0) = .slice (some ⟨g, o, none⟩) n c := by rw [ha37, ev_other _ _ _ _ (by decide)]; exact f36_0
  have f37_6 : a0_37.eval (.tmp 6) = .pointer (some ⟨zt, 0, none⟩) := by rw [ha37, ev_other _ _ _ _ (by decide)]; exact f36_6
  have f37_11 : a0_37.eval (.tmp 11) = .int .i64 (i : Int) := by rw [ha37, ev_other _ _ _ _ (by decide)]; exact f36_11
  have f37_120 : a0_37.eval (.tmp 120) = .bool false := by rw [ha37, ev_other _ _ _ _ (by decide)]; exact f36_120
  have f37_121 : a0_37.eval (.tmp 121) = .pointer (some ⟨zm, 0, none⟩) := by rw [ha37, ev_other _ _ _ _ (by decide)]; exact f36_121
  have f37_125 : a0_37.eval (.tmp 125) = keyV k := by rw [ha37]; exact ev_same _ _ _ (Nat.lt_of_le_of_lt (by decide) qz36)
  rw [← ha37] at h0 ⊢
  clear ha37
  refine wpAnyH_take (i := 38) (oi := al_38 s) (v := .pointer (some ⟨zt, 0, none⟩)) (by kernel_rfl) (by kernel_rfl) (by kernel_rfl) (by kernel_rfl) (fun c a w h => hQ c _ _ _ w h) (Or.inl ⟨wanted_some rfl (by kernel_rfl) f37_120 (Nat.lt_of_le_of_lt (by decide) qz37), fun w hw => by simp only [execOp, al_38, f37_6]; rfl⟩) (hk w4 hb4) ?_
  change wpAnyH _ _ _ _ _ _ _ (a0_37.put (some 127) (.pointer (some ⟨zt, 0, none⟩))) _
  obtain ⟨a0_38, ha38⟩ : ∃ rr : Act, rr = a0_37.put (some 127) (.pointer (some ⟨zt, 0, none⟩)) := ⟨_, rfl⟩
  have qz38 : 134 < a0_38.tmps.size := by rw [ha38, sz_put]; exact qz37
  have f38_0 : a0_38.eval (.tmp 0) = .slice (some ⟨g, o, none⟩) n c := by rw [ha38, ev_other _ _ _ _ (by decide)]; exact f37_0
  have f38_11 : a0_38.eval (.tmp 11) = .int .i64 (i : Int) := by rw [ha38, ev_other _ _ _ _ (by decide)]; exact f37_11
  have f38_120 : a0_38.eval (.tmp 120) = .bool false := by rw [ha38, ev_other _ _ _ _ (by decide)]; exact f37_120
  have f38_121 : a0_38.eval (.tmp 121) = .pointer (some ⟨zm, 0, none⟩) := by rw [ha38, ev_other _ _ _ _ (by decide)]; exact f37_121
  have f38_125 : a0_38.eval (.tmp 125) = keyV k := by rw [ha38, ev_other _ _ _ _ (by decide)]; exact f37_125
  have f38_127 : a0_38.eval (.tmp 127) = .pointer (some ⟨zt, 0, none⟩) := by rw [ha38]; exact ev_same _ _ _ (Nat.lt_of_le_of_lt (by decide) qz37)
  rw [← ha38] at h0 ⊢
  clear ha38
  refine wpAnyH_take (i := 39) (oi := al_39 s) (v := .slice (some ⟨g, o, none⟩) n c) (by kernel_rfl) (by kernel_rfl) (by kernel_rfl) (by kernel_rfl) (fun c a w h => hQ c _ _ _ w h) (Or.inl ⟨wanted_some rfl (by kernel_rfl) f38_120 (Nat.lt_of_le_of_lt (by decide) qz38), fun w hw => by simp only [execOp, al_39, f38_0]; rfl⟩) (hk w4 hb4) ?_
  change wpAnyH _ _ _ _ _ _ _ (a0_38.put (some 128) (.slice (some ⟨g, o, none⟩) n c)) _
  obtain ⟨a0_39, ha39⟩ : ∃ rr : Act, rr = a0_38.put (some 128) (.slice (some ⟨g, o, none⟩) n c) := ⟨_, rfl⟩
  have qz39 : 134 < a0_39.tmps.size := by rw [ha39, sz_put]; exact qz38
  have f39_11 : a0_39.eval (.tmp 11) = .int .i64 (i : Int) := by rw [ha39, ev_other _ _ _ _ (by decide)]; exact f38_11
  have f39_120 : a0_39.eval (.tmp 120) = .bool false := by rw [ha39, ev_other _ _ _ _ (by decide)]; exact f38_120
  have f39_121 : a0_39.eval (.tmp 121) = .pointer (some ⟨zm, 0, none⟩) := by rw [ha39, ev_other _ _ _ _ (by decide)]; exact f38_121
  have f39_125 : a0_39.eval (.tmp 125) = keyV k := by rw [ha39, ev_other _ _ _ _ (by decide)]; exact f38_125
  have f39_127 : a0_39.eval (.tmp 127) = .pointer (some ⟨zt, 0, none⟩) := by rw [ha39, ev_other _ _ _ _ (by decide)]; exact f38_127
  have f39_128 : a0_39.eval (.tmp 128) = .slice (some ⟨g, o, none⟩) n c := by rw [ha39]; exact ev_same _ _ _ (Nat.lt_of_le_of_lt (by decide) qz38)
  rw [← ha39] at h0 ⊢
  clear ha39
  refine wpAnyH_take (i := 40) (oi := al_40 s) (v := .int .i64 (i : Int)) (by kernel_rfl) (by kernel_rfl) (by kernel_rfl) (by kernel_rfl) (fun c a w h => hQ c _ _ _ w h) (Or.inl ⟨wanted_some rfl (by kernel_rfl) f39_120 (Nat.lt_of_le_of_lt (by decide) qz39), fun w hw => by simp only [execOp, al_40, f39_11]; rfl⟩) (hk w4 hb4) ?_
  change wpAnyH _ _ _ _ _ _ _ (a0_39.put (some 129) (.int .i64 (i : Int))) _
  obtain ⟨a0_40, ha40⟩ : ∃ rr : Act, rr = a0_39.put (some 129) (.int .i64 (i : Int)) := ⟨_, rfl⟩
  have qz40 : 134 < a0_40.tmps.size := by rw [ha40, sz_put]; exact qz39
  have f40_120 : a0_40.eval (.tmp 120) = .bool false := by rw [ha40, ev_other _ _ _ _ (by decide)]; exact f39_120
  have f40_121 : a0_40.eval (.tmp 121) = .pointer (some ⟨zm, 0, none⟩) := by rw [ha40, ev_other _ _ _ _ (by decide)]; exact f39_121
  have f40_125 : a0_40.eval (.tmp 125) = keyV k := by rw [ha40, ev_other _ _ _ _ (by decide)]; exact f39_125
  have f40_127 : a0_40.eval (.tmp 127) = .pointer (some ⟨zt, 0, none⟩) := by rw [ha40, ev_other _ _ _ _ (by decide)]; exact f39_127
  have f40_128 : a0_40.eval (.tmp 128) = .slice (some ⟨g, o, none⟩) n c := by rw [ha40, ev_other _ _ _ _ (by decide)]; exact f39_128
  have f40_129 : a0_40.eval (.tmp 129) = .int .i64 (i : Int) := by rw [ha40]; exact ev_same _ _ _ (Nat.lt_of_le_of_lt (by decide) qz39)
  rw [← ha40] at h0 ⊢
  clear ha40
  refine wpAnyH_take (i := 41) (oi := al_41 s) (v := .pointer (some ⟨g, o + i * 32, none⟩)) (by kernel_rfl) (by kernel_rfl) (by kernel_rfl) (by kernel_rfl) (fun c a w h => hQ c _ _ _ w h) (Or.inl ⟨wanted_some rfl (by kernel_rfl) f40_120 (Nat.lt_of_le_of_lt (by decide) qz40), fun w hw => run_idxA rfl f40_128 f40_129 hi w⟩) (hk w4 hb4) ?_
  change wpAnyH _ _ _ _ _ _ _ (a0_40.put (some 130) (.pointer (some ⟨g, o + i * 32, none⟩))) _
  obtain ⟨a0_41, ha41⟩ : ∃ rr : Act, rr = a0_40.put (some 130) (.pointer (some ⟨g, o + i * 32, none⟩)) := ⟨_, rfl⟩
  have qz41 : 134 < a0_41.tmps.size := by rw [ha41, sz_put]; exact qz40
  have f41_120 : a0_41.eval (.tmp 120) = .bool false := by rw [ha41, ev_other _ _ _ _ (by decide)]; exact f40_120
  have f41_121 : a0_41.eval (.tmp 121) = .pointer (some ⟨zm, 0, none⟩) := by rw [ha41, ev_other _ _ _ _ (by decide)]; exact f40_121
  have f41_125 : a0_41.eval (.tmp 125) = keyV k := by rw [ha41, ev_other _ _ _ _ (by decide)]; exact f40_125
  have f41_127 : a0_41.eval (.tmp 127) = .pointer (some ⟨zt, 0, none⟩) := by rw [ha41, ev_other _ _ _ _ (by decide)]; exact f40_127
  have f41_130 : a0_41.eval (.tmp 130) = .pointer (some ⟨g, o + i * 32, none⟩) := by rw [ha41]; exact ev_same _ _ _ (Nat.lt_of_le_of_lt (by decide) qz40)
  rw [← ha41] at h0 ⊢
  clear ha41
  refine wpAnyH_take (i := 42) (oi := al_42 s) (v := keyV k) (by kernel_rfl) (by kernel_rfl) (by kernel_rfl) (by kernel_rfl) (fun c a w h => hQ c _ _ _ w h) (Or.inl ⟨wanted_some rfl (by kernel_rfl) f41_120 (Nat.lt_of_le_of_lt (by decide) qz41), fun w hw => run_load rfl f41_130 (loadAt_key hkl hw)⟩) (hk w4 hb4) ?_
  change wpAnyH _ _ _ _ _ _ _ (a0_41.put (some 131) (keyV k)) _
  obtain ⟨a0_42, ha42⟩ : ∃ rr : Act, rr = a0_41.put (some 131) (keyV k) := ⟨_, rfl⟩
  have qz42 : 134 < a0_42.tmps.size := by rw [ha42, sz_put]; exact qz41
  have f42_120 : a0_42.eval (.tmp 120) = .bool false := by rw [ha42, ev_other _ _ _ _ (by decide)]; exact f41_120
  have f42_121 : a0_42.eval (.tmp 121) = .pointer (some ⟨zm, 0, none⟩) := by rw [ha42, ev_other _ _ _ _ (by decide)]; exact f41_121
  have f42_125 : a0_42.eval (.tmp 125) = keyV k := by rw [ha42, ev_other _ _ _ _ (by decide)]; exact f41_125
  have f42_127 : a0_42.eval (.tmp 127) = .pointer (some ⟨zt, 0, none⟩) := by rw [ha42, ev_other _ _ _ _ (by decide)]; exact f41_127
  have f42_131 : a0_42.eval (.tmp 131) = keyV k := by rw [ha42]; exact ev_same _ _ _ (Nat.lt_of_le_of_lt (by decide) qz41)
  rw [← ha42] at h0 ⊢
  clear ha42
  refine wpAnyH_ready (rs := [37]) (by kernel_rfl) (by simp) ?_
  refine AllReadyH.cons (o := al_37 s) (by kernel_rfl) (fun KQ hKQ => ?_) AllReadyH.nil
  rw [if_pos (wanted_some rfl (by kernel_rfl) f42_120 (Nat.lt_of_le_of_lt (by decide) qz42))]
  refine step_enterE 22 #[.pointer (some ⟨zm, 0, none⟩), keyV k] (by rw [al_enter37, f42_121, f42_125]) (fun V w' => V = .bool (!bt) ∧ Below W.heap.size W w') ((hm1 _ hb4).mono (fun e w' h => ⟨_, h.1, rfl, hb4.trans (h.2.mono hb4.size)⟩)) ?_
  rintro _ w5 ⟨rfl, hb5⟩
  refine hKQ.out _ _ (hk w5 hb5) (fun _ => ?_)
  clear hKQ KQ
  change wpAnyH _ _ _ _ _ _ _ (a0_42.put (some 126) (.bool (!bt))) _
  obtain ⟨a0_43, ha43⟩ : ∃ rr : Act, rr = a0_42.put (some 126) (.bool (!bt)) := ⟨_, rfl⟩
  have qz43 : 134 < a0_43.tmps.size := by rw [ha43, sz_put]; exact qz42
  have f43_120 : a0_43.eval (.tmp 120) = .bool false := by rw [ha43, ev_other _ _ _ _ (by decide)]; exact f42_120
  have f43_126 : a0_43.eval (.tmp 126) = .bool (!bt) := by rw [ha43]; exact ev_same _ _ _ (Nat.lt_of_le_of_lt (by decide) qz42)
  have f43_127 : a0_43.eval (.tmp 127) = .pointer (some ⟨zt, 0, none⟩) := by rw [ha43, ev_other _ _ _ _ (by decide)]; exact f42_127
  have f43_131 : a0_43.eval (.tmp 131) = keyV k := by rw [ha43, ev_other _ _ _ _ (by decide)]; exact f42_131
  rw [← ha43] at h0 ⊢
  clear ha43
  refine wpAnyH_ready (rs := [43]) (by kernel_rfl) (by simp) ?_
  refine AllReadyH.cons (o := al_43 s) (by kernel_rfl) (fun KQ hKQ => ?_) AllReadyH.nil
  rw [if_pos (wanted_some rfl (by kernel_rfl) f43_120 (Nat.lt_of_le_of_lt (by decide) qz43))]
  refine step_enterE 22 #[.pointer (some ⟨zt, 0, none⟩), keyV k] (by rw [al_enter43, f43_127, f43_131]) (fun V w' => V = .bool bt ∧ Below W.heap.size W w') ((ht1 _ hb5).mono (fun e w' h => ⟨_, h.1, rfl, hb5.trans (h.2.mono hb5.size)⟩)) ?_
  rintro _ w6 ⟨rfl, hb6⟩
  refine hKQ.out _ _ (hk w6 hb6) (fun _ => ?_)
  clear hKQ KQ
  change wpAnyH _ _ _ _ _ _ _ (a0_43.put (some 132) (.bool bt)) _
  have h0 := h0 w6 hb6
  obtain ⟨a0_44, ha44⟩ : ∃ rr : Act, rr = a0_43.put (some 132) (.bool bt) := ⟨_, rfl⟩
  have qz44 : 134 < a0_44.tmps.size := by rw [ha44, sz_put]; exact qz43
  have f44_120 : a0_44.eval (.tmp 120) = .bool false := by rw [ha44, ev_other _ _ _ _ (by decide)]; exact f43_120
  have f44_126 : a0_44.eval (.tmp 126) = .bool (!bt) := by rw [ha44, ev_other _ _ _ _ (by decide)]; exact f43_126
  have f44_132 : a0_44.eval (.tmp 132) = .bool bt := by rw [ha44]; exact ev_same _ _ _ (Nat.lt_of_le_of_lt (by decide) qz43)
  rw [← ha44] at h0 ⊢
  clear ha44
  refine wpAnyH_take (i := 44) (oi := al_44 s) (v := .bool false) (by kernel_rfl) (by kernel_rfl) (by kernel_rfl) (by kernel_rfl) (fun c a w h => hQ c _ _ _ w h) (Or.inl ⟨wanted_some rfl (by kernel_rfl) f44_120 (Nat.lt_of_le_of_lt (by decide) qz44), fun w hw => run_eqlBA rfl f44_126 f44_132 w⟩) (hk w6 hb6) ?_
  change wpAnyH _ _ _ _ _ _ _ (a0_44.put (some 133) (.bool false)) _
  obtain ⟨a0_45, ha45⟩ : ∃ rr : Act, rr = a0_44.put (some 133) (.bool false) := ⟨_, rfl⟩
  have qz45 : 134 < a0_45.tmps.size := by rw [ha45, sz_put]; exact qz44
  have f45_120 : a0_45.eval (.tmp 120) = .bool false := by rw [ha45, ev_other _ _ _ _ (by decide)]; exact f44_120
  have f45_133 : a0_45.eval (.tmp 133) = .bool false := by rw [ha45]; exact ev_same _ _ _ (Nat.lt_of_le_of_lt (by decide) qz44)
  rw [← ha45] at h0 ⊢
  clear ha45
  refine wpAnyH_take (i := 45) (oi := al_45 s) (v := .bool false) (by kernel_rfl) (by kernel_rfl) (by kernel_rfl) (by kernel_rfl) (fun c a w h => hQ c _ _ _ w h) (Or.inl ⟨wanted_none rfl, fun w hw => by simp only [execOp, al_45, f45_120, f45_133]; rfl⟩) (hk w6 hb6) ?_
  change wpAnyH _ _ _ _ _ _ _ (a0_45.put (some 134) (.bool false)) _
  obtain ⟨a0_46, ha46⟩ : ∃ rr : Act, rr = a0_45.put (some 134) (.bool false) := ⟨_, rfl⟩
  have qz46 : 134 < a0_46.tmps.size := by rw [ha46, sz_put]; exact qz45
  rw [← ha46] at h0 ⊢
  clear ha46
  refine wpAnyH_done (by kernel_rfl) ?_ _
  exact h0
def am_0 (s : String) : Oper := { dst := some 141, op := Op.move (Operand.tmp 6), type := 36, pos := s, after := #[], guard := none }
def am_1 (s : String) : Oper := { dst := some 142, op := Op.move (Operand.tmp 1), type := 48, pos := s, after := #[], guard := none }
def am_2 (s : String) : Oper := { dst := some 143, op := Op.move (Operand.tmp 12), type := 3, pos := s, after := #[], guard := none }
def am_3 (s : String) : Oper := { dst := some 144, op := Op.indexAddr 48 (Operand.tmp 142) (Operand.tmp 143), type := 0, pos := s, after := #[{ on := 1, ground := Ground.data }, { on := 2, ground := Ground.data }], guard := none }
def am_4 (s : String) : Oper := { dst := some 145, op := Op.load 24 (Operand.tmp 144), type := 24, pos := s, after := #[{ on := 3, ground := Ground.data }], guard := none }
def am_5 (s : String) : Oper := { dst := some 146, op := Op.call { callee := Callee.value (Operand.func 22), args := #[Operand.tmp 141, Operand.tmp 145], argTypes := #[36, 24] }, type := 4, pos := s, after := #[{ on := 0, ground := Ground.data }, { on := 4, ground := Ground.data }], guard := none }
def am_6 (s : String) : Oper := { dst := some 147, op := Op.unOp UnOp.not 4 (Operand.tmp 146), type := 4, pos := s, after := #[{ on := 5, ground := Ground.data }], guard := none }
def am_7 (s : String) : Oper := { dst := some 148, op := Op.move (Operand.tmp 147), type := 4, pos := s, after := #[{ on := 6, ground := Ground.data }, { on := 5, ground := Ground.chain }], guard := none }
def am_8 (s : String) : Oper := { dst := some 149, op := Op.move (Operand.tmp 7), type := 36, pos := s, after := #[{ on := 7, ground := Ground.guard }], guard := some (7, false) }
def am_9 (s : String) : Oper := { dst := some 150, op := Op.move (Operand.tmp 1), type := 48, pos := s, after := #[{ on := 7, ground := Ground.guard }], guard := some (7, false) }
def am_10 (s : String) : Oper := { dst := some 151, op := Op.move (Operand.tmp 12), type := 3, pos := s, after := #[{ on := 7, ground := Ground.guard }], guard := some (7, false) }
def am_11 (s : String) : Oper := { dst := some 152, op := Op.indexAddr 48 (Operand.tmp 150) (Operand.tmp 151), type := 0, pos := s, after := #[{ on := 9, ground := Ground.data }, { on := 10, ground := Ground.data }, { on := 7, ground := Ground.guard }], guard := some (7, false) }
def am_12 (s : String) : Oper := { dst := some 153, op := Op.load 24 (Operand.tmp 152), type := 24, pos := s, after := #[{ on := 11, ground := Ground.data }, { on := 7, ground := Ground.guard }], guard := some (7, false) }
def am_13 (s : String) : Oper := { dst := some 154, op := Op.call { callee := Callee.value (Operand.func 22), args := #[Operand.tmp 149, Operand.tmp 153], argTypes := #[36, 24] }, type := 4, pos := s, after := #[{ on := 8, ground := Ground.data }, { on := 12, ground := Ground.data }, { on := 7, ground := Ground.chain }, { on := 7, ground := Ground.guard }], guard := some (7, false) }
def am_14 (s : String) : Oper := { dst := some 155, op := Op.unOp UnOp.not 4 (Operand.tmp 154), type := 4, pos := s, after := #[{ on := 13, ground := Ground.data }, { on := 7, ground := Ground.guard }], guard := some (7, false) }
def am_15 (s : String) : Oper := { dst := some 156, op := Op.pick (Operand.tmp 148) (Operand.const (Value.bool true)) (Operand.tmp 155), type := 4, pos := s, after := #[{ on := 7, ground := Ground.data }, { on := 14, ground := Ground.data }], guard := none }
def am_16 (s : String) : Oper := { dst := some 157, op := Op.move (Operand.tmp 156), type := 4, pos := s, after := #[{ on := 15, ground := Ground.data }, { on := 13, ground := Ground.chain }], guard := none }
def am_17 (s : String) : Oper := { dst := some 158, op := Op.move (Operand.tmp 8), type := 36, pos := s, after := #[{ on := 16, ground := Ground.guard }], guard := some (16, false) }
def am_18 (s : String) : Oper := { dst := some 159, op := Op.move (Operand.tmp 1), type := 48, pos := s, after := #[{ on := 16, ground := Ground.guard }], guard := some (16, false) }
def am_19 (s : String) : Oper := { dst := some 160, op := Op.move (Operand.tmp 12), type := 3, pos := s, after := #[{ on := 16, ground := Ground.guard }], guard := some (16, false) }
def am_20 (s : String) : Oper := { dst := some 161, op := Op.indexAddr 48 (Operand.tmp 159) (Operand.tmp 160), type := 0, pos := s, after := #[{ on := 18, ground := Ground.data }, { on := 19, ground := Ground.data }, { on := 16, ground := Ground.guard }], guard := some (16, false) }
def am_21 (s : String) : Oper := { dst := some 162, op := Op.load 24 (Operand.tmp 161), type := 24, pos := s, after := #[{ on := 20, ground := Ground.data }, { on := 16, ground := Ground.guard }], guard := some (16, false) }
def am_22 (s : String) : Oper := { dst := some 163, op := Op.call { callee := Callee.value (Operand.func 22), args := #[Operand.tmp 158, Operand.tmp 162], argTypes := #[36, 24] }, type := 4, pos := s, after := #[{ on := 17, ground := Ground.data }, { on := 21, ground := Ground.data }, { on := 16, ground := Ground.chain }, { on := 16, ground := Ground.guard }], guard := some (16, false) }
def am_23 (s : String) : Oper := { dst := some 164, op := Op.move (Operand.tmp 5), type := 36, pos := s, after := #[{ on := 16, ground := Ground.guard }], guard := some (16, false) }
def am_24 (s : String) : Oper := { dst := some 165, op := Op.move (Operand.tmp 1), type := 48, pos := s, after := #[{ on := 16, ground := Ground.guard }], guard := some (16, false) }
def am_25 (s : String) : Oper := { dst := some 166, op := Op.move (Operand.tmp 12), type := 3, pos := s, after := #[{ on := 16, ground := Ground.guard }], guard := some (16, false) }
def am_26 (s : String) : Oper := { dst := some 167, op := Op.indexAddr 48 (Operand.tmp 165) (Operand.tmp 166), type := 0, pos := s, after := #[{ on := 24, ground := Ground.data }, { on := 25, ground := Ground.data }, { on := 16, ground := Ground.guard }], guard := some (16, false) }
def am_27 (s : String) : Oper := { dst := some 168, op := Op.load 24 (Operand.tmp 167), type := 24, pos := s, after := #[{ on := 26, ground := Ground.data }, { on := 16, ground := Ground.guard }], guard := some (16, false) }
def am_28 (s : String) : Oper := { dst := some 169, op := Op.call { callee := Callee.value (Operand.func 22), args := #[Operand.tmp 164, Operand.tmp 168], argTypes := #[36, 24] }, type := 4, pos := s, after := #[{ on := 23, ground := Ground.data }, { on := 27, ground := Ground.data }, { on := 22, ground := Ground.chain }, { on := 16, ground := Ground.guard }], guard := some (16, false) }
def am_29 (s : String) : Oper := { dst := some 170, op := Op.binOp BinOp.neq 4 (Operand.tmp 163) (Operand.tmp 169) 4, type := 4, pos := s, after := #[{ on := 22, ground := Ground.data }, { on := 28, ground := Ground.data }, { on := 16, ground := Ground.guard }], guard := some (16, false) }
def am_30 (s : String) : Oper := { dst := some 171, op := Op.pick (Operand.tmp 157) (Operand.const (Value.bool true)) (Operand.tmp 170), type := 4, pos := s, after := #[{ on := 16, ground := Ground.data }, { on := 29, ground := Ground.data }], guard := none }
def am_31 (s : String) : Oper := { dst := some 172, op := Op.move (Operand.tmp 171), type := 4, pos := s, after := #[{ on := 30, ground := Ground.data }, { on := 28, ground := Ground.chain }], guard := none }
def am_32 (s : String) : Oper := { dst := some 173, op := Op.move (Operand.tmp 9), type := 36, pos := s, after := #[{ on := 31, ground := Ground.guard }], guard := some (31, false) }
def am_33 (s : String) : Oper := { dst := some 174, op := Op.move (Operand.tmp 1), type := 48, pos := s, after := #[{ on := 31, ground := Ground.guard }], guard := some (31, false) }
def am_34 (s : String) : Oper := { dst := some 175, op := Op.move (Operand.tmp 12), type := 3, pos := s, after := #[{ on := 31, ground := Ground.guard }], guard := some (31, false) }
def am_35 (s : String) : Oper := { dst := some 176, op := Op.indexAddr 48 (Operand.tmp 174) (Operand.tmp 175), type := 0, pos := s, after := #[{ on := 33, ground := Ground.data }, { on := 34, ground := Ground.data }, { on := 31, ground := Ground.guard }], guard := some (31, false) }
def am_36 (s : String) : Oper := { dst := some 177, op := Op.load 24 (Operand.tmp 176), type := 24, pos := s, after := #[{ on := 35, ground := Ground.data }, { on := 31, ground := Ground.guard }], guard := some (31, false) }
def am_37 (s : String) : Oper := { dst := some 178, op := Op.call { callee := Callee.value (Operand.func 22), args := #[Operand.tmp 173, Operand.tmp 177], argTypes := #[36, 24] }, type := 4, pos := s, after := #[{ on := 32, ground := Ground.data }, { on := 36, ground := Ground.data }, { on := 31, ground := Ground.chain }, { on := 31, ground := Ground.guard }], guard := some (31, false) }
def am_38 (s : String) : Oper := { dst := some 179, op := Op.pick (Operand.tmp 172) (Operand.const (Value.bool true)) (Operand.tmp 178), type := 4, pos := s, after := #[{ on := 31, ground := Ground.data }, { on := 37, ground := Ground.data }], guard := none }
def am_ops (s : String) : Array Oper := #[am_0 s, am_1 s, am_2 s, am_3 s, am_4 s, am_5 s, am_6 s, am_7 s, am_8 s, am_9 s, am_10 s, am_11 s, am_12 s, am_13 s, am_14 s, am_15 s, am_16 s, am_17 s, am_18 s, am_19 s, am_20 s, am_21 s, am_22 s, am_23 s, am_24 s, am_25 s, am_26 s, am_27 s, am_28 s, am_29 s, am_30 s, am_31 s, am_32 s, am_33 s, am_34 s, am_35 s, am_36 s, am_37 s, am_38 s]
theorem am_enter5 (s : String) (a : Act) (w : World) : (execOp a.eval (am_5 s)).run Try.prog w = .ok (.enter 22 #[a.eval (.tmp 141), a.eval (.tmp 145)]) w := by kernel_rfl
theorem am_enter13 (s : String) (a : Act) (w : World) : (execOp a.eval (am_13 s)).run Try.prog w = .ok (.enter 22 #[a.eval (.tmp 149), a.eval (.tmp 153)]) w := by kernel_rfl
theorem am_enter22 (s : String) (a : Act) (w : World) : (execOp a.eval (am_22 s)).run Try.prog w = .ok (.enter 22 #[a.eval (.tmp 158), a.eval (.tmp 162)]) w := by kernel_rfl
theorem am_enter28 (s : String) (a : Act) (w : World) : (execOp a.eval (am_28 s)).run Try.prog w = .ok (.enter 22 #[a.eval (.tmp 164), a.eval (.tmp 168)]) w := by kernel_rfl
theorem am_enter37 (s : String) (a : Act) (w : World) : (execOp a.eval (am_37 s)).run Try.prog w = .ok (.enter 22 #[a.eval (.tmp 173), a.eval (.tmp 177)]) w := by kernel_rfl
theorem am_walk (s : String) {Q : Exit → Act → World → Prop} (hQ : ∀ c (a : Act) t v w, Q (.panic c) (a.put (some t) v) w → Q (.panic c) a w) (W : World) (zs zt zu zv zm g o n c i : Nat) (k : List UInt8) (bt : Bool) (hkl : k.length = 32) (hi : i < n) (hk : ∀ w', Below W.heap.size W w' → w'.rangeAt g (o + i * 32) (k.map u8c)) (hs1 : ∀ w1, Below W.heap.size W w1 → Calls Try.prog 22 #[.pointer (some ⟨zs, 0, none⟩), keyV k] w1 fun e w' => e = .returned (.bool bt) ∧ Below w1.heap.size w1 w') (hu1 : ∀ w1, Below W.heap.size W w1 → Calls Try.prog 22 #[.pointer (some ⟨zu, 0, none⟩), keyV k] w1 fun e w' => e = .returned (.bool true) ∧ Below w1.heap.size w1 w') (hv1 : ∀ w1, Below W.heap.size W w1 → Calls Try.prog 22 #[.pointer (some ⟨zv, 0, none⟩), keyV k] w1 fun e w' => e = .returned (.bool bt) ∧ Below w1.heap.size w1 w') (ht1 : ∀ w1, Below W.heap.size W w1 → Calls Try.prog 22 #[.pointer (some ⟨zt, 0, none⟩), keyV k] w1 fun e w' => e = .returned (.bool true) ∧ Below w1.heap.size w1 w') (hm1 : ∀ w1, Below W.heap.size W w1 → Calls Try.prog 22 #[.pointer (some ⟨zm, 0, none⟩), keyV k] w1 fun e w' => e = .returned (.bool false) ∧ Below w1.heap.size w1 w')
    (a : Act) (hs : 179 < a.tmps.size) (e1 : a.eval (.tmp 1) = .slice (some ⟨g, o, none⟩) n c) (e5 : a.eval (.tmp 5) = .pointer (some ⟨zs, 0, none⟩)) (e6 : a.eval (.tmp 6) = .pointer (some ⟨zt, 0, none⟩)) (e7 : a.eval (.tmp 7) = .pointer (some ⟨zu, 0, none⟩)) (e8 : a.eval (.tmp 8) = .pointer (some ⟨zv, 0, none⟩)) (e9 : a.eval (.tmp 9) = .pointer (some ⟨zm, 0, none⟩)) (e12 : a.eval (.tmp 12) = .int .i64 (i : Int))
    (h0 : ∀ w5, Below W.heap.size W w5 → Q .normal (((((((((((((((((((((((((((((((((((((((a.put (some 141) (.pointer (some ⟨zt, 0, none⟩))).put (some 142) (.slice (some ⟨g, o, none⟩) n c)).put (some 143) (.int .i64 (i : Int))).put (some 144) (.pointer (some ⟨g, o + i * 32, none⟩))).put (some 145) (keyV k)).put (some 146) (.bool true)).put (some 147) (.bool false)).put (some 148) (.bool false)).put (some 149) (.pointer (some ⟨zu, 0, none⟩))).put (some 150) (.slice (some ⟨g, o, none⟩) n c)).put (some 151) (.int .i64 (i : Int))).put (some 152) (.pointer (some ⟨g, o + i * 32, none⟩))).put (some 153) (keyV k)).put (some 154) (.bool true)).put (some 155) (.bool false)).put (some 156) (.bool false)).put (some 157) (.bool false)).put (some 158) (.pointer (some ⟨zv, 0, none⟩))).put (some 159) (.slice (some ⟨g, o, none⟩) n c)).put (some 160) (.int .i64 (i : Int))).put (some 161) (.pointer (some ⟨g, o + i * 32, none⟩))).put (some 162) (keyV k)).put (some 164) (.pointer (some ⟨zs, 0, none⟩))).put (some 165) (.slice (some ⟨g, o, none⟩) n c)).put (some 166) (.int .i64 (i : Int))).put (some 167) (.pointer (some ⟨g, o + i * 32, none⟩))).put (some 168) (keyV k)).put (some 163) (.bool bt)).put (some 169) (.bool bt)).put (some 170) (.bool false)).put (some 171) (.bool false)).put (some 172) (.bool false)).put (some 173) (.pointer (some ⟨zm, 0, none⟩))).put (some 174) (.slice (some ⟨g, o, none⟩) n c)).put (some 175) (.int .i64 (i : Int))).put (some 176) (.pointer (some ⟨g, o + i * 32, none⟩))).put (some 177) (keyV k)).put (some 178) (.bool false)).put (some 179) (.bool false)) w5) :
    Code.wp Try.prog (.region 16 (am_ops s) true) Q a W := by
  refine wp_region_held_drew (S := fun w => w.rangeAt g (o + i * 32) (k.map u8c)) (by kernel_rfl) (hk _ (below_d W)) (fun hS => ?_)
  change wpAnyH _ _ _ _ _ _ _ _ (World.drew _)
  refine wpAnyH_take (i := 0) (oi := am_0 s) (v := .pointer (some ⟨zt, 0, none⟩)) (by kernel_rfl) (by kernel_rfl) (by kernel_rfl) (by kernel_rfl) (fun c a w h => hQ c _ _ _ w h) (Or.inl ⟨wanted_none rfl, fun w hw => by simp only [execOp, am_0, e6]; rfl⟩) hS ?_
  change wpAnyH _ _ _ _ _ _ _ (a.put (some 141) (.pointer (some ⟨zt, 0, none⟩))) _
  obtain ⟨a0_1, ha1⟩ : ∃ rr : Act, rr = a.put (some 141) (.pointer (some ⟨zt, 0, none⟩)) := ⟨_, rfl⟩
  have qz1 : 179 < a0_1.tmps.size := by rw [ha1, sz_put]; exact hs
  have f1_1 : a0_1.eval (.tmp 1) = .slice (some ⟨g, o, none⟩) n c := by rw [ha1, ev_other _ _ _ _ (by decide)]; exact e1
  have f1_5 : a0_1.eval (.tmp 5) = .pointer (some ⟨zs, 0, none⟩) := by rw [ha1, ev_other _ _ _ _ (by decide)]; exact e5
  have f1_7 : a0_1.eval (.tmp 7) = .pointer (some ⟨zu, 0, none⟩) := by rw [ha1, ev_other _ _ _ _ (by decide)]; exact e7
  have f1_8 : a0_1.eval (.tmp 8) = .pointer (some ⟨zv, 0, none⟩) := by rw [ha1, ev_other _ _ _ _ (by decide)]; exact e8
  have f1_9 : a0_1.eval (.tmp 9) = .pointer (some ⟨zm, 0, none⟩) := by rw [ha1, ev_other _ _ _ _ (by decide)]; exact e9
  have f1_12 : a0_1.eval (.tmp 12) = .int .i64 (i : Int) := by rw [ha1, ev_other _ _ _ _ (by decide)]; exact e12
  have f1_141 : a0_1.eval (.tmp 141) = .pointer (some ⟨zt, 0, none⟩) := by rw [ha1]; exact ev_same _ _ _ (Nat.lt_of_le_of_lt (by decide) hs)
  rw [← ha1] at h0 ⊢
  clear ha1
  refine wpAnyH_take (i := 1) (oi := am_1 s) (v := .slice (some ⟨g, o, none⟩) n c) (by kernel_rfl) (by kernel_rfl) (by kernel_rfl) (by kernel_rfl) (fun c a w h => hQ c _ _ _ w h) (Or.inl ⟨wanted_none rfl, fun w hw => by simp only [execOp, am_1, f1_1]; rfl⟩) hS ?_
  change wpAnyH _ _ _ _ _ _ _ (a0_1.put (some 142) (.slice (some ⟨g, o, none⟩) n c)) _
  obtain ⟨a0_2, ha2⟩ : ∃ rr : Act, rr = a0_1.put (some 142) (.slice (some ⟨g, o, none⟩) n c) := ⟨_, rfl⟩
  have qz2 : 179 < a0_2.tmps.size := by rw [ha2, sz_put]; exact qz1
  have f2_1 : a0_2.eval (.tmp 1) = .slice (some ⟨g, o, none⟩) n c := by rw [ha2, ev_other _ _ _ _ (by decide)]; exact f1_1
  have f2_5 : a0_2.eval (.tmp 5) = .pointer (some ⟨zs, 0, none⟩) := by rw [ha2, ev_other _ _ _ _ (by decide)]; exact f1_5
  have f2_7 : a0_2.eval (.tmp 7) = .pointer (some ⟨zu, 0, none⟩) := by rw [ha2, ev_other _ _ _ _ (by decide)]; exact f1_7
  have f2_8 : a0_2.eval (.tmp 8) = .pointer (some ⟨zv, 0, none⟩) := by rw [ha2, ev_other _ _ _ _ (by decide)]; exact f1_8
  have f2_9 : a0_2.eval (.tmp 9) = .pointer (some ⟨zm, 0, none⟩) := by rw [ha2, ev_other _ _ _ _ (by decide)]; exact f1_9
  have f2_12 : a0_2.eval (.tmp 12) = .int .i64 (i : Int) := by rw [ha2, ev_other _ _ _ _ (by decide)]; exact f1_12
  have f2_141 : a0_2.eval (.tmp 141) = .pointer (some ⟨zt, 0, none⟩) := by rw [ha2, ev_other _ _ _ _ (by decide)]; exact f1_141
  have f2_142 : a0_2.eval (.tmp 142) = .slice (some ⟨g, o, none⟩) n c := by rw [ha2]; exact ev_same _ _ _ (Nat.lt_of_le_of_lt (by decide) qz1)
  rw [← ha2] at h0 ⊢
  clear ha2
  refine wpAnyH_take (i := 2) (oi := am_2 s) (v := .int .i64 (i : Int)) (by kernel_rfl) (by kernel_rfl) (by kernel_rfl) (by kernel_rfl) (fun c a w h => hQ c _ _ _ w h) (Or.inl ⟨wanted_none rfl, fun w hw => by simp only [execOp, am_2, f2_12]; rfl⟩) hS ?_
  change wpAnyH _ _ _ _ _ _ _ (a0_2.put (some 143) (.int .i64 (i : Int))) _
  obtain ⟨a0_3, ha3⟩ : ∃ rr : Act, rr = a0_2.put (some 143) (.int .i64 (i : Int)) := ⟨_, rfl⟩
  have qz3 : 179 < a0_3.tmps.size := by rw [ha3, sz_put]; exact qz2
  have f3_1 : a0_3.eval (.tmp 1) = .slice (some ⟨g, o, none⟩) n c := by rw [ha3, ev_other _ _ _ _ (by decide)]; exact f2_1
  have f3_5 : a0_3.eval (.tmp 5) = .pointer (some ⟨zs, 0, none⟩) := by rw [ha3, ev_other _ _ _ _ (by decide)]; exact f2_5
  have f3_7 : a0_3.eval (.tmp 7) = .pointer (some ⟨zu, 0, none⟩) := by rw [ha3, ev_other _ _ _ _ (by decide)]; exact f2_7
  have f3_8 : a0_3.eval (.tmp 8) = .pointer (some ⟨zv, 0, none⟩) := by rw [ha3, ev_other _ _ _ _ (by decide)]; exact f2_8
  have f3_9 : a0_3.eval (.tmp 9) = .pointer (some ⟨zm, 0, none⟩) := by rw [ha3, ev_other _ _ _ _ (by decide)]; exact f2_9
  have f3_12 : a0_3.eval (.tmp 12) = .int .i64 (i : Int) := by rw [ha3, ev_other _ _ _ _ (by decide)]; exact f2_12
  have f3_141 : a0_3.eval (.tmp 141) = .pointer (some ⟨zt, 0, none⟩) := by rw [ha3, ev_other _ _ _ _ (by decide)]; exact f2_141
  have f3_142 : a0_3.eval (.tmp 142) = .slice (some ⟨g, o, none⟩) n c := by rw [ha3, ev_other _ _ _ _ (by decide)]; exact f2_142
  have f3_143 : a0_3.eval (.tmp 143) = .int .i64 (i : Int) := by rw [ha3]; exact ev_same _ _ _ (Nat.lt_of_le_of_lt (by decide) qz2)
  rw [← ha3] at h0 ⊢
  clear ha3
  refine wpAnyH_take (i := 3) (oi := am_3 s) (v := .pointer (some ⟨g, o + i * 32, none⟩)) (by kernel_rfl) (by kernel_rfl) (by kernel_rfl) (by kernel_rfl) (fun c a w h => hQ c _ _ _ w h) (Or.inl ⟨wanted_none rfl, fun w hw => run_idxA rfl f3_142 f3_143 hi w⟩) hS ?_
  change wpAnyH _ _ _ _ _ _ _ (a0_3.put (some 144) (.pointer (some ⟨g, o + i * 32, none⟩))) _
  obtain ⟨a0_4, ha4⟩ : ∃ rr : Act, rr = a0_3.put (some 144) (.pointer (some ⟨g, o + i * 32, none⟩)) := ⟨_, rfl⟩
  have qz4 : 179 < a0_4.tmps.size := by rw [ha4, sz_put]; exact qz3
  have f4_1 : a0_4.eval (.tmp 1) = .slice (some ⟨g, o, none⟩) n c := by rw [ha4, ev_other _ _ _ _ (by decide)]; exact f3_1
  have f4_5 : a0_4.eval (.tmp 5) = .pointer (some ⟨zs, 0, none⟩) := by rw [ha4, ev_other _ _ _ _ (by decide)]; exact f3_5
  have f4_7 : a0_4.eval (.tmp 7) = .pointer (some ⟨zu, 0, none⟩) := by rw [ha4, ev_other _ _ _ _ (by decide)]; exact f3_7
  have f4_8 : a0_4.eval (.tmp 8) = .pointer (some ⟨zv, 0, none⟩) := by rw [ha4, ev_other _ _ _ _ (by decide)]; exact f3_8
  have f4_9 : a0_4.eval (.tmp 9) = .pointer (some ⟨zm, 0, none⟩) := by rw [ha4, ev_other _ _ _ _ (by decide)]; exact f3_9
  have f4_12 : a0_4.eval (.tmp 12) = .int .i64 (i : Int) := by rw [ha4, ev_other _ _ _ _ (by decide)]; exact f3_12
  have f4_141 : a0_4.eval (.tmp 141) = .pointer (some ⟨zt, 0, none⟩) := by rw [ha4, ev_other _ _ _ _ (by decide)]; exact f3_141
  have f4_144 : a0_4.eval (.tmp 144) = .pointer (some ⟨g, o + i * 32, none⟩) := by rw [ha4]; exact ev_same _ _ _ (Nat.lt_of_le_of_lt (by decide) qz3)
  rw [← ha4] at h0 ⊢
  clear ha4
  refine wpAnyH_take (i := 4) (oi := am_4 s) (v := keyV k) (by kernel_rfl) (by kernel_rfl) (by kernel_rfl) (by kernel_rfl) (fun c a w h => hQ c _ _ _ w h) (Or.inl ⟨wanted_none rfl, fun w hw => run_load rfl f4_144 (loadAt_key hkl hw)⟩) hS ?_
  change wpAnyH _ _ _ _ _ _ _ (a0_4.put (some 145) (keyV k)) _
  obtain ⟨a0_5, ha5⟩ : ∃ rr : Act, rr = a0_4.put (some 145) (keyV k) := ⟨_, rfl⟩
  have qz5 : 179 < a0_5.tmps.size := by rw [ha5, sz_put]; exact qz4
  have f5_1 : a0_5.eval (.tmp 1) = .slice (some ⟨g, o, none⟩) n c := by rw [ha5, ev_other _ _ _ _ (by decide)]; exact f4_1
  have f5_5 : a0_5.eval (.tmp 5) = .pointer (some ⟨zs, 0, none⟩) := by rw [ha5, ev_other _ _ _ _ (by decide)]; exact f4_5
  have f5_7 : a0_5.eval (.tmp 7) = .pointer (some ⟨zu, 0, none⟩) := by rw [ha5, ev_other _ _ _ _ (by decide)]; exact f4_7
  have f5_8 : a0_5.eval (.tmp 8) = .pointer (some ⟨zv, 0, none⟩) := by rw [ha5, ev_other _ _ _ _ (by decide)]; exact f4_8
  have f5_9 : a0_5.eval (.tmp 9) = .pointer (some ⟨zm, 0, none⟩) := by rw [ha5, ev_other _ _ _ _ (by decide)]; exact f4_9
  have f5_12 : a0_5.eval (.tmp 12) = .int .i64 (i : Int) := by rw [ha5, ev_other _ _ _ _ (by decide)]; exact f4_12
  have f5_141 : a0_5.eval (.tmp 141) = .pointer (some ⟨zt, 0, none⟩) := by rw [ha5, ev_other _ _ _ _ (by decide)]; exact f4_141
  have f5_145 : a0_5.eval (.tmp 145) = keyV k := by rw [ha5]; exact ev_same _ _ _ (Nat.lt_of_le_of_lt (by decide) qz4)
  rw [← ha5] at h0 ⊢
  clear ha5
  refine wpAnyH_ready (rs := [5]) (by kernel_rfl) (by simp) ?_
  refine AllReadyH.cons (o := am_5 s) (by kernel_rfl) (fun KQ hKQ => ?_) AllReadyH.nil
  rw [if_pos (wanted_none rfl)]
  refine step_enterE 22 #[.pointer (some ⟨zt, 0, none⟩), keyV k] (by rw [am_enter5, f5_141, f5_145]) (fun V w' => V = .bool true ∧ Below W.heap.size W w') ((ht1 _ (below_d W)).mono (fun e w' h => ⟨_, h.1, rfl, (below_d W).trans (h.2.mono (below_d W).size)⟩)) ?_
  rintro _ w1 ⟨rfl, hb1⟩
  refine hKQ.out _ _ (hk w1 hb1) (fun _ => ?_)
  clear hKQ KQ
  change wpAnyH _ _ _ _ _ _ _ (a0_5.put (some 146) (.bool true)) _
  obtain ⟨a0_6, ha6⟩ : ∃ rr : Act, rr = a0_5.put (some 146) (.bool true) := ⟨_, rfl⟩
  have qz6 : 179 < a0_6.tmps.size := by rw [ha6, sz_put]; exact qz5
  have f6_1 : a0_6.eval (.tmp 1) = .slice (some ⟨g, o, none⟩) n c := by rw [ha6, ev_other _ _ _ _ (by decide)]; exact f5_1
  have f6_5 : a0_6.eval (.tmp 5) = .pointer (some ⟨zs, 0, none⟩) := by rw [ha6, ev_other _ _ _ _ (by decide)]; exact f5_5
  have f6_7 : a0_6.eval (.tmp 7) = .pointer (some ⟨zu, 0, none⟩) := by rw [ha6, ev_other _ _ _ _ (by decide)]; exact f5_7
  have f6_8 : a0_6.eval (.tmp 8) = .pointer (some ⟨zv, 0, none⟩) := by rw [ha6, ev_other _ _ _ _ (by decide)]; exact f5_8
  have f6_9 : a0_6.eval (.tmp 9) = .pointer (some ⟨zm, 0, none⟩) := by rw [ha6, ev_other _ _ _ _ (by decide)]; exact f5_9
  have f6_12 : a0_6.eval (.tmp 12) = .int .i64 (i : Int) := by rw [ha6, ev_other _ _ _ _ (by decide)]; exact f5_12
  have f6_146 : a0_6.eval (.tmp 146) = .bool true := by rw [ha6]; exact ev_same _ _ _ (Nat.lt_of_le_of_lt (by decide) qz5)
  rw [← ha6] at h0 ⊢
  clear ha6
  refine wpAnyH_take (i := 6) (oi := am_6 s) (v := .bool false) (by kernel_rfl) (by kernel_rfl) (by kernel_rfl) (by kernel_rfl) (fun c a w h => hQ c _ _ _ w h) (Or.inl ⟨wanted_none rfl, fun w hw => by simp only [execOp, am_6, f6_146]; kernel_rfl⟩) (hk w1 hb1) ?_
  change wpAnyH _ _ _ _ _ _ _ (a0_6.put (some 147) (.bool false)) _
  obtain ⟨a0_7, ha7⟩ : ∃ rr : Act, rr = a0_6.put (some 147) (.bool false) := ⟨_, rfl⟩
  have qz7 : 179 < a0_7.tmps.size := by rw [ha7, sz_put]; exact qz6
  have f7_1 : a0_7.eval (.tmp 1) = .slice (some ⟨g, o, none⟩) n c := by rw [ha7, ev_other _ _ _ _ (by decide)]; exact f6_1
  have f7_5 : a0_7.eval (.tmp 5) = .pointer (some ⟨zs, 0, none⟩) := by rw [ha7, ev_other _ _ _ _ (by decide)]; exact f6_5
  have f7_7 : a0_7.eval (.tmp 7) = .pointer (some ⟨zu, 0, none⟩) := by rw [ha7, ev_other _ _ _ _ (by decide)]; exact f6_7
  have f7_8 : a0_7.eval (.tmp 8) = .pointer (some ⟨zv, 0, none⟩) := by rw [ha7, ev_other _ _ _ _ (by decide)]; exact f6_8
  have f7_9 : a0_7.eval (.tmp 9) = .pointer (some ⟨zm, 0, none⟩) := by rw [ha7, ev_other _ _ _ _ (by decide)]; exact f6_9
  have f7_12 : a0_7.eval (.tmp 12) = .int .i64 (i : Int) := by rw [ha7, ev_other _ _ _ _ (by decide)]; exact f6_12
  have f7_147 : a0_7.eval (.tmp 147) = .bool false := by rw [ha7]; exact ev_same _ _ _ (Nat.lt_of_le_of_lt (by decide) qz6)
  rw [← ha7] at h0 ⊢
  clear ha7
  refine wpAnyH_take (i := 7) (oi := am_7 s) (v := .bool false) (by kernel_rfl) (by kernel_rfl) (by kernel_rfl) (by kernel_rfl) (fun c a w h => hQ c _ _ _ w h) (Or.inl ⟨wanted_none rfl, fun w hw => by simp only [execOp, am_7, f7_147]; rfl⟩) (hk w1 hb1) ?_
  change wpAnyH _ _ _ _ _ _ _ (a0_7.put (some 148) (.bool false)) _
  obtain ⟨a0_8, ha8⟩ : ∃ rr : Act, rr = a0_7.put (some 148) (.bool false) := ⟨_, rfl⟩
  have qz8 : 179 < a0_8.tmps.size := by rw [ha8, sz_put]; exact qz7
  have f8_1 : a0_8.eval (.tmp 1) = .slice (some ⟨g, o, none⟩) n c := by rw [ha8, ev_other _ _ _ _ (by decide)]; exact f7_1
  have f8_5 : a0_8.eval (.tmp 5) = .pointer (some ⟨zs, 0, none⟩) := by rw [ha8, ev_other _ _ _ _ (by decide)]; exact f7_5
  have f8_7 : a0_8.eval (.tmp 7) = .pointer (some ⟨zu, 0, none⟩) := by rw [ha8, ev_other _ _ _ _ (by decide)]; exact f7_7
  have f8_8 : a0_8.eval (.tmp 8) = .pointer (some ⟨zv, 0, none⟩) := by rw [ha8, ev_other _ _ _ _ (by decide)]; exact f7_8
  have f8_9 : a0_8.eval (.tmp 9) = .pointer (some ⟨zm, 0, none⟩) := by rw [ha8, ev_other _ _ _ _ (by decide)]; exact f7_9
  have f8_12 : a0_8.eval (.tmp 12) = .int .i64 (i : Int) := by rw [ha8, ev_other _ _ _ _ (by decide)]; exact f7_12
  have f8_148 : a0_8.eval (.tmp 148) = .bool false := by rw [ha8]; exact ev_same _ _ _ (Nat.lt_of_le_of_lt (by decide) qz7)
  rw [← ha8] at h0 ⊢
  clear ha8
  refine wpAnyH_take (i := 8) (oi := am_8 s) (v := .pointer (some ⟨zu, 0, none⟩)) (by kernel_rfl) (by kernel_rfl) (by kernel_rfl) (by kernel_rfl) (fun c a w h => hQ c _ _ _ w h) (Or.inl ⟨wanted_some rfl (by kernel_rfl) f8_148 (Nat.lt_of_le_of_lt (by decide) qz8), fun w hw => by simp only [execOp, am_8, f8_7]; rfl⟩) (hk w1 hb1) ?_
  change wpAnyH _ _ _ _ _ _ _ (a0_8.put (some 149) (.pointer (some ⟨zu, 0, none⟩))) _
  obtain ⟨a0_9, ha9⟩ : ∃ rr : Act, rr = a0_8.put (some 149) (.pointer (some ⟨zu, 0, none⟩)) := ⟨_, rfl⟩
  have qz9 : 179 < a0_9.tmps.size := by rw [ha9, sz_put]; exact qz8
  have f9_1 : a0_9.eval (.tmp 1) = .slice (some ⟨g, o, none⟩) n c := by rw [ha9, ev_other _ _ _ _ (by decide)]; exact f8_1
  have f9_5 : a0_9.eval (.tmp 5) = .pointer (some ⟨zs, 0, none⟩) := by rw [ha9, ev_other _ _ _ _ (by decide)]; exact f8_5
  have f9_8 : a0_9.eval (.tmp 8) = .pointer (some ⟨zv, 0, none⟩) := by rw [ha9, ev_other _ _ _ _ (by decide)]; exact f8_8
  have f9_9 : a0_9.eval (.tmp 9) = .pointer (some ⟨zm, 0, none⟩) := by rw [ha9, ev_other _ _ _ _ (by decide)]; exact f8_9
  have f9_12 : a0_9.eval (.tmp 12) = .int .i64 (i : Int) := by rw [ha9, ev_other _ _ _ _ (by decide)]; exact f8_12
  have f9_148 : a0_9.eval (.tmp 148) = .bool false := by rw [ha9, ev_other _ _ _ _ (by decide)]; exact f8_148
  have f9_149 : a0_9.eval (.tmp 149) = .pointer (some ⟨zu, 0, none⟩) := by rw [ha9]; exact ev_same _ _ _ (Nat.lt_of_le_of_lt (by decide) qz8)
  rw [← ha9] at h0 ⊢
  clear ha9
  refine wpAnyH_take (i := 9) (oi := am_9 s) (v := .slice (some ⟨g, o, none⟩) n c) (by kernel_rfl) (by kernel_rfl) (by kernel_rfl) (by kernel_rfl) (fun c a w h => hQ c _ _ _ w h) (Or.inl ⟨wanted_some rfl (by kernel_rfl) f9_148 (Nat.lt_of_le_of_lt (by decide) qz9), fun w hw => by simp only [execOp, am_9, f9_1]; rfl⟩) (hk w1 hb1) ?_
  change wpAnyH _ _ _ _ _ _ _ (a0_9.put (some 150) (.slice (some ⟨g, o, none⟩) n c)) _
  obtain ⟨a0_10, ha10⟩ : ∃ rr : Act, rr = a0_9.put (some 150) (.slice (some ⟨g, o, none⟩) n c) := ⟨_, rfl⟩
  have qz10 : 179 < a0_10.tmps.size := by rw [ha10, sz_put]; exact qz9
  have f10_1 : a0_10.eval (.tmp 1) = .slice (some ⟨g, o, none⟩) n c := by rw [ha10, ev_other _ _ _ _ (by decide)]; exact f9_1
  have f10_5 : a0_10.eval (.tmp 5) = .pointer (some ⟨zs, 0, none⟩) := by rw [ha10, ev_other _ _ _ _ (by decide)]; exact f9_5
  have f10_8 : a0_10.eval (.tmp 8) = .pointer (some ⟨zv, 0, none⟩) := by rw [ha10, ev_other _ _ _ _ (by decide)]; exact f9_8
  have f10_9 : a0_10.eval (.tmp 9) = .pointer (some ⟨zm, 0, none⟩) := by rw [ha10, ev_other _ _ _ _ (by decide)]; exact f9_9
  have f10_12 : a0_10.eval (.tmp 12) = .int .i64 (i : Int) := by rw [ha10, ev_other _ _ _ _ (by decide)]; exact f9_12
  have f10_148 : a0_10.eval (.tmp 148) = .bool false := by rw [ha10, ev_other _ _ _ _ (by decide)]; exact f9_148
  have f10_149 : a0_10.eval (.tmp 149) = .pointer (some ⟨zu, 0, none⟩) := by rw [ha10, ev_other _ _ _ _ (by decide)]; exact f9_149
  have f10_150 : a0_10.eval (.tmp 150) = .slice (some ⟨g, o, none⟩) n c := by rw [ha10]; exact ev_same _ _ _ (Nat.lt_of_le_of_lt (by decide) qz9)
  rw [← ha10] at h0 ⊢
  clear ha10
  refine wpAnyH_take (i := 10) (oi := am_10 s) (v := .int .i64 (i : Int)) (by kernel_rfl) (by kernel_rfl) (by kernel_rfl) (by kernel_rfl) (fun c a w h => hQ c _ _ _ w h) (Or.inl ⟨wanted_some rfl (by kernel_rfl) f10_148 (Nat.lt_of_le_of_lt (by decide) qz10), fun w hw => by simp only [execOp, am_10, f10_12]; rfl⟩) (hk w1 hb1) ?_
  change wpAnyH _ _ _ _ _ _ _ (a0_10.put (some 151) (.int .i64 (i : Int))) _
  obtain ⟨a0_11, ha11⟩ : ∃ rr : Act, rr = a0_10.put (some 151) (.int .i64 (i : Int)) := ⟨_, rfl⟩
  have qz11 : 179 < a0_11.tmps.size := by rw [ha11, sz_put]; exact qz10
  have f11_1 : a0_11.eval (.tmp 1) = .slice (some ⟨g, o, none⟩) n c := by rw [ha11, ev_other _ _ _ _ (by decide)]; exact f10_1
  have f11_5 : a0_11.eval (.tmp 5) = .pointer (some ⟨zs, 0, none⟩) := by rw [ha11, ev_other _ _ _ _ (by decide)]; exact f10_5
  have f11_8 : a0_11.eval (.tmp 8) = .pointer (some ⟨zv, 0, none⟩) := by rw [ha11, ev_other _ _ _ _ (by decide)]; exact f10_8
  have f11_9 : a0_11.eval (.tmp 9) = .pointer (some ⟨zm, 0, none⟩) := by rw [ha11, ev_other _ _ _ _ (by decide)]; exact f10_9
  have f11_12 : a0_11.eval (.tmp 12) = .int .i64 (i : Int) := by rw [ha11, ev_other _ _ _ _ (by decide)]; exact f10_12
  have f11_148 : a0_11.eval (.tmp 148) = .bool false := by rw [ha11, ev_other _ _ _ _ (by decide)]; exact f10_148
  have f11_149 : a0_11.eval (.tmp 149) = .pointer (some ⟨zu, 0, none⟩) := by rw [ha11, ev_other _ _ _ _ (by decide)]; exact f10_149
  have f11_150 : a0_11.eval (.tmp 150) = .slice (some ⟨g, o, none⟩) n c := by rw [ha11, ev_other _ _ _ _ (by decide)]; exact f10_150
  have f11_151 : a0_11.eval (.tmp 151) = .int .i64 (i : Int) := by rw [ha11]; exact ev_same _ _ _ (Nat.lt_of_le_of_lt (by decide) qz10)
  rw [← ha11] at h0 ⊢
  clear ha11
  refine wpAnyH_take (i := 11) (oi := am_11 s) (v := .pointer (some ⟨g, o + i * 32, none⟩)) (by kernel_rfl) (by kernel_rfl) (by kernel_rfl) (by kernel_rfl) (fun c a w h => hQ c _ _ _ w h) (Or.inl ⟨wanted_some rfl (by kernel_rfl) f11_148 (Nat.lt_of_le_of_lt (by decide) qz11), fun w hw => run_idxA rfl f11_150 f11_151 hi w⟩) (hk w1 hb1) ?_
  change wpAnyH _ _ _ _ _ _ _ (a0_11.put (some 152) (.pointer (some ⟨g, o + i * 32, none⟩))) _
  obtain ⟨a0_12, ha12⟩ : ∃ rr : Act, rr = a0_11.put (some 152) (.pointer (some ⟨g, o + i * 32, none⟩)) := ⟨_, rfl⟩
  have qz12 : 179 < a0_12.tmps.size := by rw [ha12, sz_put]; exact qz11
  have f12_1 : a0_12.eval (.tmp 1) = .slice (some ⟨g, o, none⟩) n c := by rw [ha12, ev_other _ _ _ _ (by decide)]; exact f11_1
  have f12_5 : a0_12.eval (.tmp 5) = .pointer (some ⟨zs, 0, none⟩) := by rw [ha12, ev_other _ _ _ _ (by decide)]; exact f11_5
  have f12_8 : a0_12.eval (.tmp 8) = .pointer (some ⟨zv, 0, none⟩) := by rw [ha12, ev_other _ _ _ _ (by decide)]; exact f11_8
  have f12_9 : a0_12.eval (.tmp 9) = .pointer (some ⟨zm, 0, none⟩) := by rw [ha12, ev_other _ _ _ _ (by decide)]; exact f11_9
  have f12_12 : a0_12.eval (.tmp 12) = .int .i64 (i : Int) := by rw [ha12, ev_other _ _ _ _ (by decide)]; exact f11_12
  have f12_148 : a0_12.eval (.tmp 148) = .bool false := by rw [ha12, ev_other _ _ _ _ (by decide)]; exact f11_148
  have f12_149 : a0_12.eval (.tmp 149) = .pointer (some ⟨zu, 0, none⟩) := by rw [ha12, ev_other _ _ _ _ (by decide)]; exact f11_149
  have f12_152 : a0_12.eval (.tmp 152) = .pointer (some ⟨g, o + i * 32, none⟩) := by rw [ha12]; exact ev_same _ _ _ (Nat.lt_of_le_of_lt (by decide) qz11)
  rw [← ha12] at h0 ⊢
  clear ha12
  refine wpAnyH_take (i := 12) (oi := am_12 s) (v := keyV k) (by kernel_rfl) (by kernel_rfl) (by kernel_rfl) (by kernel_rfl) (fun c a w h => hQ c _ _ _ w h) (Or.inl ⟨wanted_some rfl (by kernel_rfl) f12_148 (Nat.lt_of_le_of_lt (by decide) qz12), fun w hw => run_load rfl f12_152 (loadAt_key hkl hw)⟩) (hk w1 hb1) ?_
  change wpAnyH _ _ _ _ _ _ _ (a0_12.put (some 153) (keyV k)) _
  obtain ⟨a0_13, ha13⟩ : ∃ rr : Act, rr = a0_12.put (some 153) (keyV k) := ⟨_, rfl⟩
  have qz13 : 179 < a0_13.tmps.size := by rw [ha13, sz_put]; exact qz12
  have f13_1 : a0_13.eval (.tmp 1) = .slice (some ⟨g, o, none⟩) n c := by rw [ha13, ev_other _ _ _ _ (by decide)]; exact f12_1
  have f13_5 : a0_13.eval (.tmp 5) = .pointer (some ⟨zs, 0, none⟩) := by rw [ha13, ev_other _ _ _ _ (by decide)]; exact f12_5
  have f13_8 : a0_13.eval (.tmp 8) = .pointer (some ⟨zv, 0, none⟩) := by rw [ha13, ev_other _ _ _ _ (by decide)]; exact f12_8
  have f13_9 : a0_13.eval (.tmp 9) = .pointer (some ⟨zm, 0, none⟩) := by rw [ha13, ev_other _ _ _ _ (by decide)]; exact f12_9
  have f13_12 : a0_13.eval (.tmp 12) = .int .i64 (i : Int) := by rw [ha13, ev_other _ _ _ _ (by decide)]; exact f12_12
  have f13_148 : a0_13.eval (.tmp 148) = .bool false := by rw [ha13, ev_other _ _ _ _ (by decide)]; exact f12_148
  have f13_149 : a0_13.eval (.tmp 149) = .pointer (some ⟨zu, 0, none⟩) := by rw [ha13, ev_other _ _ _ _ (by decide)]; exact f12_149
  have f13_153 : a0_13.eval (.tmp 153) = keyV k := by rw [ha13]; exact ev_same _ _ _ (Nat.lt_of_le_of_lt (by decide) qz12)
  rw [← ha13] at h0 ⊢
  clear ha13
  refine wpAnyH_ready (rs := [13]) (by kernel_rfl) (by simp) ?_
  refine AllReadyH.cons (o := am_13 s) (by kernel_rfl) (fun KQ hKQ => ?_) AllReadyH.nil
  rw [if_pos (wanted_some rfl (by kernel_rfl) f13_148 (Nat.lt_of_le_of_lt (by decide) qz13))]
  refine step_enterE 22 #[.pointer (some ⟨zu, 0, none⟩), keyV k] (by rw [am_enter13, f13_149, f13_153]) (fun V w' => V = .bool true ∧ Below W.heap.size W w') ((hu1 _ hb1).mono (fun e w' h => ⟨_, h.1, rfl, hb1.trans (h.2.mono hb1.size)⟩)) ?_
  rintro _ w2 ⟨rfl, hb2⟩
  refine hKQ.out _ _ (hk w2 hb2) (fun _ => ?_)
  clear hKQ KQ
  change wpAnyH _ _ _ _ _ _ _ (a0_13.put (some 154) (.bool true)) _
  obtain ⟨a0_14, ha14⟩ : ∃ rr : Act, rr = a0_13.put (some 154) (.bool true) := ⟨_, rfl⟩
  have qz14 : 179 < a0_14.tmps.size := by rw [ha14, sz_put]; exact qz13
  have f14_1 : a0_14.eval (.tmp 1) = .slice (some ⟨g, o, none⟩) n c := by rw [ha14, ev_other _ _ _ _ (by decide)]; exact f13_1
  have f14_5 : a0_14.eval (.tmp 5) = .pointer (some ⟨zs, 0, none⟩) := by rw [ha14, ev_other _ _ _ _ (by decide)]; exact f13_5
  have f14_8 : a0_14.eval (.tmp 8) = .pointer (some ⟨zv, 0, none⟩) := by rw [ha14, ev_other _ _ _ _ (by decide)]; exact f13_8
  have f14_9 : a0_14.eval (.tmp 9) = .pointer (some ⟨zm, 0, none⟩) := by rw [ha14, ev_other _ _ _ _ (by decide)]; exact f13_9
  have f14_12 : a0_14.eval (.tmp 12) = .int .i64 (i : Int) := by rw [ha14, ev_other _ _ _ _ (by decide)]; exact f13_12
  have f14_148 : a0_14.eval (.tmp 148) = .bool false := by rw [ha14, ev_other _ _ _ _ (by decide)]; exact f13_148
  have f14_154 : a0_14.eval (.tmp 154) = .bool true := by rw [ha14]; exact ev_same _ _ _ (Nat.lt_of_le_of_lt (by decide) qz13)
  rw [← ha14] at h0 ⊢
  clear ha14
  refine wpAnyH_take (i := 14) (oi := am_14 s) (v := .bool false) (by kernel_rfl) (by kernel_rfl) (by kernel_rfl) (by kernel_rfl) (fun c a w h => hQ c _ _ _ w h) (Or.inl ⟨wanted_some rfl (by kernel_rfl) f14_148 (Nat.lt_of_le_of_lt (by decide) qz14), fun w hw => by simp only [execOp, am_14, f14_154]; kernel_rfl⟩) (hk w2 hb2) ?_
  change wpAnyH _ _ _ _ _ _ _ (a0_14.put (some 155) (.bool false)) _
  obtain ⟨a0_15, ha15⟩ : ∃ rr : Act, rr = a0_14.put (some 155) (.bool false) := ⟨_, rfl⟩
  have qz15 : 179 < a0_15.tmps.size := by rw [ha15, sz_put]; exact qz14
  have f15_1 : a0_15.eval (.tmp 1) = .slice (some ⟨g, o, none⟩) n c := by rw [ha15, ev_other _ _ _ _ (by decide)]; exact f14_1
  have f15_5 : a0_15.eval (.tmp 5) = .pointer (some ⟨zs, 0, none⟩) := by rw [ha15, ev_other _ _ _ _ (by decide)]; exact f14_5
  have f15_8 : a0_15.eval (.tmp 8) = .pointer (some ⟨zv, 0, none⟩) := by rw [ha15, ev_other _ _ _ _ (by decide)]; exact f14_8
  have f15_9 : a0_15.eval (.tmp 9) = .pointer (some ⟨zm, 0, none⟩) := by rw [ha15, ev_other _ _ _ _ (by decide)]; exact f14_9
  have f15_12 : a0_15.eval (.tmp 12) = .int .i64 (i : Int) := by rw [ha15, ev_other _ _ _ _ (by decide)]; exact f14_12
  have f15_148 : a0_15.eval (.tmp 148) = .bool false := by rw [ha15, ev_other _ _ _ _ (by decide)]; exact f14_148
  have f15_155 : a0_15.eval (.tmp 155) = .bool false := by rw [ha15]; exact ev_same _ _ _ (Nat.lt_of_le_of_lt (by decide) qz14)
  rw [← ha15] at h0 ⊢
  clear ha15
  refine wpAnyH_take (i := 15) (oi := am_15 s) (v := .bool false) (by kernel_rfl) (by kernel_rfl) (by kernel_rfl) (by kernel_rfl) (fun c a w h => hQ c _ _ _ w h) (Or.inl ⟨wanted_none rfl, fun w hw => by simp only [execOp, am_15, f15_148, f15_155]; rfl⟩) (hk w2 hb2) ?_
  change wpAnyH _ _ _ _ _ _ _ (a0_15.put (some 156) (.bool false)) _
  obtain ⟨a0_16, ha16⟩ : ∃ rr : Act, rr = a0_15.put (some 156) (.bool false) := ⟨_, rfl⟩
  have qz16 : 179 < a0_16.tmps.size := by rw [ha16, sz_put]; exact qz15
  have f16_1 : a0_16.eval (.tmp 1) = .slice (some ⟨g, o, none⟩) n c := by rw [ha16, ev_other _ _ _ _ (by decide)]; exact f15_1
  have f16_5 : a0_16.eval (.tmp 5) = .pointer (some ⟨zs, 0, none⟩) := by rw [ha16, ev_other _ _ _ _ (by decide)]; exact f15_5
  have f16_8 : a0_16.eval (.tmp 8) = .pointer (some ⟨zv, 0, none⟩) := by rw [ha16, ev_other _ _ _ _ (by decide)]; exact f15_8
  have f16_9 : a0_16.eval (.tmp 9) = .pointer (some ⟨zm, 0, none⟩) := by rw [ha16, ev_other _ _ _ _ (by decide)]; exact f15_9
  have f16_12 : a0_16.eval (.tmp 12) = .int .i64 (i : Int) := by rw [ha16, ev_other _ _ _ _ (by decide)]; exact f15_12
  have f16_156 : a0_16.eval (.tmp 156) = .bool false := by rw [ha16]; exact ev_same _ _ _ (Nat.lt_of_le_of_lt (by decide) qz15)
  rw [← ha16] at h0 ⊢
  clear ha16
  refine wpAnyH_take (i := 16) (oi := am_16 s) (v := .bool false) (by kernel_rfl) (by kernel_rfl) (by kernel_rfl) (by kernel_rfl) (fun c a w h => hQ c _ _ _ w h) (Or.inl ⟨wanted_none rfl, fun w hw => by simp only [execOp, am_16, f16_156]; rfl⟩) (hk w2 hb2) ?_
  change wpAnyH _ _ _ _ _ _ _ (a0_16.put (some 157) (.bool false)) _
  obtain ⟨a0_17, ha17⟩ : ∃ rr : Act, rr = a0_16.put (some 157) (.bool false) := ⟨_, rfl⟩
  have qz17 : 179 < a0_17.tmps.size := by rw [ha17, sz_put]; exact qz16
  have f17_1 : a0_17.eval (.tmp 1) = .slice (some ⟨g, o, none⟩) n c := by rw [ha17, ev_other _ _ _ _ (by decide)]; exact f16_1
  have f17_5 : a0_17.eval (.tmp 5) = .pointer (some ⟨zs, 0, none⟩) := by rw [ha17, ev_other _ _ _ _ (by decide)]; exact f16_5
  have f17_8 : a0_17.eval (.tmp 8) = .pointer (some ⟨zv, 0, none⟩) := by rw [ha17, ev_other _ _ _ _ (by decide)]; exact f16_8
  have f17_9 : a0_17.eval (.tmp 9) = .pointer (some ⟨zm, 0, none⟩) := by rw [ha17, ev_other _ _ _ _ (by decide)]; exact f16_9
  have f17_12 : a0_17.eval (.tmp 12) = .int .i64 (i : Int) := by rw [ha17, ev_other _ _ _ _ (by decide)]; exact f16_12
  have f17_157 : a0_17.eval (.tmp 157) = .bool false := by rw [ha17]; exact ev_same _ _ _ (Nat.lt_of_le_of_lt (by decide) qz16)
  rw [← ha17] at h0 ⊢
  clear ha17
  refine wpAnyH_take (i := 17) (oi := am_17 s) (v := .pointer (some ⟨zv, 0, none⟩)) (by kernel_rfl) (by kernel_rfl) (by kernel_rfl) (by kernel_rfl) (fun c a w h => hQ c _ _ _ w h) (Or.inl ⟨wanted_some rfl (by kernel_rfl) f17_157 (Nat.lt_of_le_of_lt (by decide) qz17), fun w hw => by simp only [execOp, am_17, f17_8]; rfl⟩) (hk w2 hb2) ?_
  change wpAnyH _ _ _ _ _ _ _ (a0_17.put (some 158) (.pointer (some ⟨zv, 0, none⟩))) _
  obtain ⟨a0_18, ha18⟩ : ∃ rr : Act, rr = a0_17.put (some 158) (.pointer (some ⟨zv, 0, none⟩)) := ⟨_, rfl⟩
  have qz18 : 179 < a0_18.tmps.size := by rw [ha18, sz_put]; exact qz17
  have f18_1 : a0_18.eval (.tmp 1) = .slice (some ⟨g, o, none⟩) n c := by rw [ha18, ev_other _ _ _ _ (by decide)]; exact f17_1
  have f18_5 : a0_18.eval (.tmp 5) = .pointer (some ⟨zs, 0, none⟩) := by rw [ha18, ev_other _ _ _ _ (by decide)]; exact f17_5
  have f18_9 : a0_18.eval (.tmp 9) = .pointer (some ⟨zm, 0, none⟩) := by rw [ha18, ev_other _ _ _ _ (by decide)]; exact f17_9
  have f18_12 : a0_18.eval (.tmp 12) = .int .i64 (i : Int) := by rw [ha18, ev_other _ _ _ _ (by decide)]; exact f17_12
  have f18_157 : a0_18.eval (.tmp 157) = .bool false := by rw [ha18, ev_other _ _ _ _ (by decide)]; exact f17_157
  have f18_158 : a0_18.eval (.tmp 158) = .pointer (some ⟨zv, 0, none⟩) := by rw [ha18]; exact ev_same _ _ _ (Nat.lt_of_le_of_lt (by decide) qz17)
  rw [← ha18] at h0 ⊢
  clear ha18
  refine wpAnyH_take (i := 18) (oi := am_18 s) (v := .slice (some ⟨g, o, none⟩) n c) (by kernel_rfl) (by kernel_rfl) (by kernel_rfl) (by kernel_rfl) (fun c a w h => hQ c _ _ _ w h) (Or.inl ⟨wanted_some rfl (by kernel_rfl) f18_157 (Nat.lt_of_le_of_lt (by decide) qz18), fun w hw => by simp only [execOp, am_18, f18_1]; rfl⟩) (hk w2 hb2) ?_
  change wpAnyH _ _ _ _ _ _ _ (a0_18.put (some 159) (.slice (some ⟨g, o, none⟩) n c)) _
  obtain ⟨a0_19, ha19⟩ : ∃ rr : Act, rr = a0_18.put (some 159) (.slice (some ⟨g, o, none⟩) n c) := ⟨_, rfl⟩
  have qz19 : 179 < a0_19.tmps.size := by rw [ha19, sz_put]; exact qz18
  have f19_1 : a0_19.eval (.tmp 1) = .slice (some ⟨g, o, none⟩) n c := by rw [ha19, ev_other _ _ _ _ (by decide)]; exact f18_1
  have f19_5 : a0_19.eval (.tmp 5) = .pointer (some ⟨zs, 0, none⟩) := by rw [ha19, ev_other _ _ _ _ (by decide)]; exact f18_5
  have f19_9 : a0_19.eval (.tmp 9) = .pointer (some ⟨zm, 0, none⟩) := by rw [ha19, ev_other _ _ _ _ (by decide)]; exact f18_9
  have f19_12 : a0_19.eval (.tmp 12) = .int .i64 (i : Int) := by rw [ha19, ev_other _ _ _ _ (by decide)]; exact f18_12
  have f19_157 : a0_19.eval (.tmp 157) = .bool false := by rw [ha19, ev_other _ _ _ _ (by decide)]; exact f18_157
  have f19_158 : a0_19.eval (.tmp 158) = .pointer (some ⟨zv, 0, none⟩) := by rw [ha19, ev_other _ _ _ _ (by decide)]; exact f18_158
  have f19_159 : a0_19.eval (.tmp 159) = .slice (some ⟨g, o, none⟩) n c := by rw [ha19]; exact ev_same _ _ _ (Nat.lt_of_le_of_lt (by decide) qz18)
  rw [← ha19] at h0 ⊢
  clear ha19
  refine wpAnyH_take (i := 19) (oi := am_19 s) (v := .int .i64 (i : Int)) (by kernel_rfl) (by kernel_rfl) (by kernel_rfl) (by kernel_rfl) (fun c a w h => hQ c _ _ _ w h) (Or.inl ⟨wanted_some rfl (by kernel_rfl) f19_157 (Nat.lt_of_le_of_lt (by decide) qz19), fun w hw => by simp only [execOp, am_19, f19_12]; rfl⟩) (hk w2 hb2) ?_
  change wpAnyH _ _ _ _ _ _ _ (a0_19.put (some 160) (.int .i64 (i : Int))) _
  obtain ⟨a0_20, ha20⟩ : ∃ rr : Act, rr = a0_19.put (some 160) (.int .i64 (i : Int)) := ⟨_, rfl⟩
  have qz20 : 179 < a0_20.tmps.size := by rw [ha20, sz_put]; exact qz19
  have f20_1 : a0_20.eval (.tmp 1) = .slice (some ⟨g, o, none⟩) n c := by rw [ha20, ev_other _ _ _ _ (by decide)]; exact f19_1
  have f20_5 : a0_20.eval (.tmp 5) = .pointer (some ⟨zs, 0, none⟩) := by rw [ha20, ev_other _ _ _ _ (by decide)]; exact f19_5
  have f20_9 : a0_20.eval (.tmp 9) = .pointer (some ⟨zm, 0, none⟩) := by rw [ha20, ev_other _ _ _ _ (by decide)]; exact f19_9
  have f20_12 : a0_20.eval (.tmp 12) = .int .i64 (i : Int) := by rw [ha20, ev_other _ _ _ _ (by decide)]; exact f19_12
  have f20_157 : a0_20.eval (.tmp 157) = .bool false := by rw [ha20, ev_other _ _ _ _ (by decide)]; exact f19_157
  have f20_158 : a0_20.eval (.tmp 158) = .pointer (some ⟨zv, 0, none⟩) := by rw [ha20, ev_other _ _ _ _ (by decide)]; exact f19_158
  have f20_159 : a0_20.eval (.tmp 159) = .slice (some ⟨g, o, none⟩) n c := by rw [ha20, ev_other _ _ _ _ (by decide)]; exact f19_159
  have f20_160 : a0_20.eval (.tmp 160) = .int .i64 (i : Int) := by rw [ha20]; exact ev_same _ _ _ (Nat.lt_of_le_of_lt (by decide) qz19)
  rw [← ha20] at h0 ⊢
  clear ha20
  refine wpAnyH_take (i := 20) (oi := am_20 s) (v := .pointer (some ⟨g, o + i * 32, none⟩)) (by kernel_rfl) (by kernel_rfl) (by kernel_rfl) (by kernel_rfl) (fun c a w h => hQ c _ _ _ w h) (Or.inl ⟨wanted_some rfl (by kernel_rfl) f20_157 (Nat.lt_of_le_of_lt (by decide) qz20), fun w hw => run_idxA rfl f20_159 f20_160 hi w⟩) (hk w2 hb2) ?_
  change wpAnyH _ _ _ _ _ _ _ (a0_20.put (some 161) (.pointer (some ⟨g, o + i * 32, none⟩))) _
  obtain ⟨a0_21, ha21⟩ : ∃ rr : Act, rr = a0_20.put (some 161) (.pointer (some ⟨g, o + i * 32, none⟩)) := ⟨_, rfl⟩
  have qz21 : 179 < a0_21.tmps.size := by rw [ha21, sz_put]; exact qz20
  have f21_1 : a0_21.eval (.tmp 1) = .slice (some ⟨g, o, none⟩) n c := by rw [ha21, ev_other _ _ _ _ (by decide)]; exact f20_1
  have f21_5 : a0_21.eval (.tmp 5) = .pointer (some ⟨zs, 0, none⟩) := by rw [ha21, ev_other _ _ _ _ (by decide)]; exact f20_5
  have f21_9 : a0_21.eval (.tmp 9) = .pointer (some ⟨zm, 0, none⟩) := by rw [ha21, ev_other _ _ _ _ (by decide)]; exact f20_9
  have f21_12 : a0_21.eval (.tmp 12) = .int .i64 (i : Int) := by rw [ha21, ev_other _ _ _ _ (by decide)]; exact f20_12
  have f21_157 : a0_21.eval (.tmp 157) = .bool false := by rw [ha21, ev_other _ _ _ _ (by decide)]; exact f20_157
  have f21_158 : a0_21.eval (.tmp 158) = .pointer (some ⟨zv, 0, none⟩) := by rw [ha21, ev_other _ _ _ _ (by decide)]; exact f20_158
  have f21_161 : a0_21.eval (.tmp 161) = .pointer (some ⟨g, o + i * 32, none⟩) := by rw [ha21]; exact ev_same _ _ _ (Nat.lt_of_le_of_lt (by decide) qz20)
  rw [← ha21] at h0 ⊢
  clear ha21
  refine wpAnyH_take (i := 21) (oi := am_21 s) (v := keyV k) (by kernel_rfl) (by kernel_rfl) (by kernel_rfl) (by kernel_rfl) (fun c a w h => hQ c _ _ _ w h) (Or.inl ⟨wanted_some rfl (by kernel_rfl) f21_157 (Nat.lt_of_le_of_lt (by decide) qz21), fun w hw => run_load rfl f21_161 (loadAt_key hkl hw)⟩) (hk w2 hb2) ?_
  change wpAnyH _ _ _ _ _ _ _ (a0_21.put (some 162) (keyV k)) _
  obtain ⟨a0_22, ha22⟩ : ∃ rr : Act, rr = a0_21.put (some 162) (keyV k) := ⟨_, rfl⟩
  have qz22 : 179 < a0_22.tmps.size := by rw [ha22, sz_put]; exact qz21
  have f22_1 : a0_22.eval (.tmp 1) = .slice (some ⟨g, o, none⟩) n c := by rw [ha22, ev_other _ _ _ _ (by decide)]; exact f21_1
  have f22_5 : a0_22.eval (.tmp 5) = .pointer (some ⟨zs, 0, none⟩) := by rw [ha22, ev_other _ _ _ _ (by decide)]; exact f21_5
  have f22_9 : a0_22.eval (.tmp 9) = .pointer (some ⟨zm, 0, none⟩) := by rw [ha22, ev_other _ _ _ _ (by decide)]; exact f21_9
  have f22_12 : a0_22.eval (.tmp 12) = .int .i64 (i : Int) := by rw [ha22, ev_other _ _ _ _ (by decide)]; exact f21_12
  have f22_157 : a0_22.eval (.tmp 157) = .bool false := by rw [ha22, ev_other _ _ _ _ (by decide)]; exact f21_157
  have f22_158 : a0_22.eval (.tmp 158) = .pointer (some ⟨zv, 0, none⟩) := by rw [ha22, ev_other _ _ _ _ (by decide)]; exact f21_158
  have f22_162 : a0_22.eval (.tmp 162) = keyV k := by rw [ha22]; exact ev_same _ _ _ (Nat.lt_of_le_of_lt (by decide) qz21)
  rw [← ha22] at h0 ⊢
  clear ha22
  refine wpAnyH_take (i := 23) (oi := am_23 s) (v := .pointer (some ⟨zs, 0, none⟩)) (by kernel_rfl) (by kernel_rfl) (by kernel_rfl) (by kernel_rfl) (fun c a w h => hQ c _ _ _ w h) (Or.inl ⟨wanted_some rfl (by kernel_rfl) f22_157 (Nat.lt_of_le_of_lt (by decide) qz22), fun w hw => by simp only [execOp, am_23, f22_5]; rfl⟩) (hk w2 hb2) ?_
  change wpAnyH _ _ _ _ _ _ _ (a0_22.put (some 164) (.pointer (some ⟨zs, 0, none⟩))) _
  obtain ⟨a0_23, ha23⟩ : ∃ rr : Act, rr = a0_22.put (some 164) (.pointer (some ⟨zs, 0, none⟩)) := ⟨_, rfl⟩
  have qz23 : 179 < a0_23.tmps.size := by rw [ha23, sz_put]; exact qz22
  have f23_1 : a0_23.eval (.tmp 1) = .slice (some ⟨g, o, none⟩) n c := by rw [ha23, ev_other _ _ _ _ (by decide)]; exact f22_1
  have f23_9 : a0_23.eval (.tmp 9) = .pointer (some ⟨zm, 0, none⟩) := by rw [ha23, ev_other _ _ _ _ (by decide)]; exact f22_9
  have f23_12 : a0_23.eval (.tmp 12) = .int .i64 (i : Int) := by rw [ha23, ev_other _ _ _ _ (by decide)]; exact f22_12
  have f23_157 : a0_23.eval (.tmp 157) = .bool false := by rw [ha23, ev_other _ _ _ _ (by decide)]; exact f22_157
  have f23_158 : a0_23.eval (.tmp 158) = .pointer (some ⟨zv, 0, none⟩) := by rw [ha23, ev_other _ _ _ _ (by decide)]; exact f22_158
  have f23_162 : a0_23.eval (.tmp 162) = keyV k := by rw [ha23, ev_other _ _ _ _ (by decide)]; exact f22_162
  have f23_164 : a0_23.eval (.tmp 164) = .pointer (some ⟨zs, 0, none⟩) := by rw [ha23]; exact ev_same _ _ _ (Nat.lt_of_le_of_lt (by decide) qz22)
  rw [← ha23] at h0 ⊢
  clear ha23
  refine wpAnyH_take (i := 24) (oi := am_24 s) (v := .slice (some ⟨g, o, none⟩) n c) (by kernel_rfl) (by kernel_rfl) (by kernel_rfl) (by kernel_rfl) (fun c a w h => hQ c _ _ _ w h) (Or.inl ⟨wanted_some rfl (by kernel_rfl) f23_157 (Nat.lt_of_le_of_lt (by decide) qz23), fun w hw => by simp only [execOp, am_24, f23_1]; rfl⟩) (hk w2 hb2) ?_
  change wpAnyH _ _ _ _ _ _ _ (a0_23.put (some 165) (.slice (some ⟨g, o, none⟩) n c)) _
  obtain ⟨a0_24, ha24⟩ : ∃ rr : Act, rr = a0_23.put (some 165) (.slice (some ⟨g, o, none⟩) n c) := ⟨_, rfl⟩
  have qz24 : 179 < a0_24.tmps.size := by rw [ha24, sz_put]; exact qz23
  have f24_1 : a0_24.eval (.tmp 1) = .slice (some ⟨g, o, none⟩) n c := by rw [ha24, ev_other _ _ _ _ (by decide)]; exact f23_1
  have f24_9 : a0_24.eval (.tmp 9) = .pointer (some ⟨zm, 0, none⟩) := by rw [ha24, ev_other _ _ _ _ (by decide)]; exact f23_9
  have f24_12 : a0_24.eval (.tmp 12) = .int .i64 (i : Int) := by rw [ha24, ev_other _ _ _ _ (by decide)]; exact f23_12
  have f24_157 : a0_24.eval (.tmp 157) = .bool false := by rw [ha24, ev_other _ _ _ _ (by decide)]; exact f23_157
  have f24_158 : a0_24.eval (.tmp 158) = .pointer (some ⟨zv, 0, none⟩) := by rw [ha24, ev_other _ _ _ _ (by decide)]; exact f23_158
  have f24_162 : a0_24.eval (.tmp 162) = keyV k := by rw [ha24, ev_other _ _ _ _ (by decide)]; exact f23_162
  have f24_164 : a0_24.eval (.tmp 164) = .pointer (some ⟨zs, 0, none⟩) := by rw [ha24, ev_other _ _ _ _ (by decide)]; exact f23_164
  have f24_165 : a0_24.eval (.tmp 165) = .slice (some ⟨g, o, none⟩) n c := by rw [ha24]; exact ev_same _ _ _ (Nat.lt_of_le_of_lt (by decide) qz23)
  rw [← ha24] at h0 ⊢
  clear ha24
  refine wpAnyH_take (i := 25) (oi := am_25 s) (v := .int .i64 (i : Int)) (by kernel_rfl) (by kernel_rfl) (by kernel_rfl) (by kernel_rfl) (fun c a w h => hQ c _ _ _ w h) (Or.inl ⟨wanted_some rfl (by kernel_rfl) f24_157 (Nat.lt_of_le_of_lt (by decide) qz24), fun w hw => by simp only [execOp, am_25, f24_12]; rfl⟩) (hk w2 hb2) ?_
  change wpAnyH _ _ _ _ _ _ _ (a0_24.put (some 166) (.int .i64 (i : Int))) _
  obtain ⟨a0_25, ha25⟩ : ∃ rr : Act, rr = a0_24.put (some 166) (.int .i64 (i : Int)) := ⟨_, rfl⟩
  have qz25 : 179 < a0_25.tmps.size := by rw [ha25, sz_put]; exact qz24
  have f25_1 : a0_25.eval (.tmp 1) = .slice (some ⟨g, o, none⟩) n c := by rw [ha25, ev_other _ _ _ _ (by decide)]; exact f24_1
  have f25_9 : a0_25.eval (.tmp 9) = .pointer (some ⟨zm, 0, none⟩) := by rw [ha25, ev_other _ _ _ _ (by decide)]; exact f24_9
  have f25_12 : a0_25.eval (.tmp 12) = .int .i64 (i : Int) := by rw [ha25, ev_other _ _ _ _ (by decide)]; exact f24_12
  have f25_157 : a0_25.eval (.tmp 157) = .bool false := by rw [ha25, ev_other _ _ _ _ (by decide)]; exact f24_157
  have f25_158 : a0_25.eval (.tmp 158) = .pointer (some ⟨zv, 0, none⟩) := by rw [ha25, ev_other _ _ _ _ (by decide)]; exact f24_158
  have f25_162 : a0_25.eval (.tmp 162) = keyV k := by rw [ha25, ev_other _ _ _ _ (by decide)]; exact f24_162
  have f25_164 : a0_25.eval (.tmp 164) = .pointer (some ⟨zs, 0, none⟩) := by rw [ha25, ev_other _ _ _ _ (by decide)]; exact f24_164
  have f25_165 : a0_25.eval (.tmp 165) = .slice (some ⟨g, o, none⟩) n c := by rw [ha25, ev_other _ _ _ _ (by decide)]; exact f24_165
  have f25_166 : a0_25.eval (.tmp 166) = .int .i64 (i : Int) := by rw [ha25]; exact ev_same _ _ _ (Nat.lt_of_le_of_lt (by decide) qz24)
  rw [← ha25] at h0 ⊢
  clear ha25
  refine wpAnyH_take (i := 26) (oi := am_26 s) (v := .pointer (some ⟨g, o + i * 32, none⟩)) (by kernel_rfl) (by kernel_rfl) (by kernel_rfl) (by kernel_rfl) (fun c a w h => hQ c _ _ _ w h) (Or.inl ⟨wanted_some rfl (by kernel_rfl) f25_157 (Nat.lt_of_le_of_lt (by decide) qz25), fun w hw => run_idxA rfl f25_165 f25_166 hi w⟩) (hk w2 hb2) ?_
  change wpAnyH _ _ _ _ _ _ _ (a0_25.put (some 167) (.pointer (some ⟨g, o + i * 32, none⟩))) _
  obtain ⟨a0_26, ha26⟩ : ∃ rr : Act, rr = a0_25.put (some 167) (.pointer (some ⟨g, o + i * 32, none⟩)) := ⟨_, rfl⟩
  have qz26 : 179 < a0_26.tmps.size := by rw [ha26, sz_put]; exact qz25
  have f26_1 : a0_26.eval (.tmp 1) = .slice (some ⟨g, o, none⟩) n c := by rw [ha26, ev_other _ _ _ _ (by decide)]; exact f25_1
  have f26_9 : a0_26.eval (.tmp 9) = .pointer (some ⟨zm, 0, none⟩) := by rw [ha26, ev_other _ _ _ _ (by decide)]; exact f25_9
  have f26_12 : a0_26.eval (.tmp 12) = .int .i64 (i : Int) := by rw [ha26, ev_other _ _ _ _ (by decide)]; exact f25_12
  have f26_157 : a0_26.eval (.tmp 157) = .bool false := by rw [ha26, ev_other _ _ _ _ (by decide)]; exact f25_157
  have f26_158 : a0_26.eval (.tmp 158) = .pointer (some ⟨zv, 0, none⟩) := by rw [ha26, ev_other _ _ _ _ (by decide)]; exact f25_158
  have f26_162 : a0_26.eval (.tmp 162) = keyV k := by rw [ha26, ev_other _ _ _ _ (by decide)]; exact f25_162
  have f26_164 : a0_26.eval (.tmp 164) = .pointer (some ⟨zs, 0, none⟩) := by rw [ha26, ev_other _ _ _ _ (by decide)]; exact f25_164
  have f26_167 : a0_26.eval (.tmp 167) = .pointer (some ⟨g, o + i * 32, none⟩) := by rw [ha26]; exact ev_same _ _ _ (Nat.lt_of_le_of_lt (by decide) qz25)
  rw [← ha26] at h0 ⊢
  clear ha26
  refine wpAnyH_take (i := 27) (oi := am_27 s) (v := keyV k) (by kernel_rfl) (by kernel_rfl) (by kernel_rfl) (by kernel_rfl) (fun c a w h => hQ c _ _ _ w h) (Or.inl ⟨wanted_some rfl (by kernel_rfl) f26_157 (Nat.lt_of_le_of_lt (by decide) qz26), fun w hw => run_load rfl f26_167 (loadAt_key hkl hw)⟩) (hk w2 hb2) ?_
  change wpAnyH _ _ _ _ _ _ _ (a0_26.put (some 168) (keyV k)) _
  obtain ⟨a0_27, ha27⟩ : ∃ rr : Act, rr = a0_26.put (some 168) (keyV k) := ⟨_, rfl⟩
  have qz27 : 179 < a0_27.tmps.size := by rw [ha27, sz_put]; exact qz26
  have f27_1 : a0_27.eval (.tmp 1) = .slice (some ⟨g, o, none⟩) n c := by rw [ha27, ev_other _ _ _ _ (by decide)]; exact f26_1
  have f27_9 : a0_27.eval (.tmp 9) = .pointer (some ⟨zm, 0, none⟩) := by rw [ha27, ev_other _ _ _ _ (by decide)]; exact f26_9
  have f27_12 : a0_27.eval (.tmp 12) = .int .i64 (i : Int) := by rw [ha27, ev_other _ _ _ _ (by decide)]; exact f26_12
  have f27_157 : a0_27.eval (.tmp 157) = .bool false := by rw [ha27, ev_other _ _ _ _ (by decide)]; exact f26_157
  have f27_158 : a0_27.eval (.tmp 158) = .pointer (some ⟨zv, 0, none⟩) := by rw [ha27, ev_other _ _ _ _ (by decide)]; exact f26_158
  have f27_162 : a0_27.eval (.tmp 162) = keyV k := by rw [ha27, ev_other _ _ _ _ (by decide)]; exact f26_162
  have f27_164 : a0_27.eval (.tmp 164) = .pointer (some ⟨zs, 0, none⟩) := by rw [ha27, ev_other _ _ _ _ (by decide)]; exact f26_164
  have f27_168 : a0_27.eval (.tmp 168) = keyV k := by rw [ha27]; exact ev_same _ _ _ (Nat.lt_of_le_of_lt (by decide) qz26)
  rw [← ha27] at h0 ⊢
  clear ha27
  refine wpAnyH_ready (rs := [22]) (by kernel_rfl) (by simp) ?_
  refine AllReadyH.cons (o := am_22 s) (by kernel_rfl) (fun KQ hKQ => ?_) AllReadyH.nil
  rw [if_pos (wanted_some rfl (by kernel_rfl) f27_157 (Nat.lt_of_le_of_lt (by decide) qz27))]
  refine step_enterE 22 #[.pointer (some ⟨zv, 0, none⟩), keyV k] (by rw [am_enter22, f27_158, f27_162]) (fun V w' => V = .bool bt ∧ Below W.heap.size W w') ((hv1 _ hb2).mono (fun e w' h => ⟨_, h.1, rfl, hb2.trans (h.2.mono hb2.size)⟩)) ?_
  rintro _ w3 ⟨rfl, hb3⟩
  refine hKQ.out _ _ (hk w3 hb3) (fun _ => ?_)
  clear hKQ KQ
  change wpAnyH _ _ _ _ _ _ _ (a0_27.put (some 163) (.bool bt)) _
  obtain ⟨a0_28, ha28⟩ : ∃ rr : Act, rr = a0_27.put (some 163) (.bool bt) := ⟨_, rfl⟩
  have qz28 : 179 < a0_28.tmps.size := by rw [ha28, sz_put]; exact qz27
  have f28_1 : a0_28.eval (.tmp 1) = .slice (some ⟨g, o, none⟩) n c := by rw [ha28, ev_other _ _ _ _ (by decide)]; exact f27_1
  have f28_9 : a0_28.eval (.tmp 9) = .pointer (some ⟨zm, 0, none⟩) := by rw [ha28, ev_other _ _ _ _ (by decide)]; exact f27_9
  have f28_12 : a0_28.eval (.tmp 12) = .int .i64 (i : Int) := by rw [ha28, ev_other _ _ _ _ (by decide)]; exact f27_12
  have f28_157 : a0_28.eval (.tmp 157) = .bool false := by rw [ha28, ev_other _ _ _ _ (by decide)]; exact f27_157
  have f28_163 : a0_28.eval (.tmp 163) = .bool bt := by rw [ha28]; exact ev_same _ _ _ (Nat.lt_of_le_of_lt (by decide) qz27)
  have f28_164 : a0_28.eval (.tmp 164) = .pointer (some ⟨zs, 0, none⟩) := by rw [ha28, ev_other _ _ _ _ (by decide)]; exact f27_164
  have f28_168 : a0_28.eval (.tmp 168) = keyV k := by rw [ha28, ev_other _ _ _ _ (by decide)]; exact f27_168
  rw [← ha28] at h0 ⊢
  clear ha28
  refine wpAnyH_ready (rs := [28]) (by kernel_rfl) (by simp) ?_
  refine AllReadyH.cons (o := am_28 s) (by kernel_rfl) (fun KQ hKQ => ?_) AllReadyH.nil
  rw [if_pos (wanted_some rfl (by kernel_rfl) f28_157 (Nat.lt_of_le_of_lt (by decide) qz28))]
  refine step_enterE 22 #[.pointer (some ⟨zs, 0, none⟩), keyV k] (by rw [am_enter28, f28_164, f28_168]) (fun V w' => V = .bool bt ∧ Below W.heap.size W w') ((hs1 _ hb3).mono (fun e w' h => ⟨_, h.1, rfl, hb3.trans (h.2.mono hb3.size)⟩)) ?_
  rintro _ w4 ⟨rfl, hb4⟩
  refine hKQ.out _ _ (hk w4 hb4) (fun _ => ?_)
  clear hKQ KQ
  change wpAnyH _ _ _ _ _ _ _ (a0_28.put (some 169) (.bool bt)) _
  obtain ⟨a0_29, ha29⟩ : ∃ rr : Act, rr = a0_28.put (some 169) (.bool bt) := ⟨_, rfl⟩
  have qz29 : 179 < a0_29.tmps.size := by rw [ha29, sz_put]; exact qz28
  have f29_1 : a0_29.eval (.tmp 1) = .slice (some ⟨g, o, none⟩) n c := by rw [ha29, ev_other _ _ _ _ (by decide)]; exact f28_1
  have f29_9 : a0_29.eval (.tmp 9) = .pointer (some ⟨zm, 0, none⟩) := by rw [ha29, ev_other _ _ _ _ (by decide)]; exact f28_9
  have f29_12 : a0_29.eval (.tmp 12) = .int .i64 (i : Int) := by rw [ha29, ev_other _ _ _ _ (by decide)]; exact f28_12
  have f29_157 : a0_29.eval (.tmp 157) = .bool false := by rw [ha29, ev_other _ _ _ _ (by decide)]; exact f28_157
  have f29_163 : a0_29.eval (.tmp 163) = .bool bt := by rw [ha29, ev_other _ _ _ _ (by decide)]; exact f28_163
  have f29_169 : a0_29.eval (.tmp 169) = .bool bt := by rw [ha29]; exact ev_same _ _ _ (Nat.lt_of_le_of_lt (by decide) qz28)
  rw [← ha29] at h0 ⊢
  clear ha29
  refine wpAnyH_take (i := 29) (oi := am_29 s) (v := .bool false) (by kernel_rfl) (by kernel_rfl) (by kernel_rfl) (by kernel_rfl) (fun c a w h => hQ c _ _ _ w h) (Or.inl ⟨wanted_some rfl (by kernel_rfl) f29_157 (Nat.lt_of_le_of_lt (by decide) qz29), fun w hw => run_neqBA rfl f29_163 f29_169 w⟩) (hk w4 hb4) ?_
  change wpAnyH _ _ _ _ _ _ _ (a0_29.put (some 170) (.bool false)) _
  obtain ⟨a0_30, ha30⟩ : ∃ rr : Act, rr = a0_29.put (some 170) (.bool false) := ⟨_, rfl⟩
  have qz30 : 179 < a0_30.tmps.size := by rw [ha30, sz_put]; exact qz29
  have f30_1 : a0_30.eval (.tmp 1) = .slice (some ⟨g, o, none⟩) n c := by rw [ha30, ev_other _ _ _ _ (by decide)]; exact f29_1
  have f30_9 : a0_30.eval (.tmp 9) = .pointer (some ⟨zm, 0, none⟩) := by rw [ha30, ev_other _ _ _ _ (by decide)]; exact f29_9
  have f30_12 : a0_30.eval (.tmp 12) = .int .i64 (i : Int) := by rw [ha30, ev_other _ _ _ _ (by decide)]; exact f29_12
  have f30_157 : a0_30.eval (.tmp 157) = .bool false := by rw [ha30, ev_other _ _ _ _ (by decide)]; exact f29_157
  have f30_170 : a0_30.eval (.tmp 170) = .bool false := by rw [ha30]; exact ev_same _ _ _ (Nat.lt_of_le_of_lt (by decide) qz29)
  rw [← ha30] at h0 ⊢
  clear ha30
  refine wpAnyH_take (i := 30) (oi := am_30 s) (v := .bool false) (by kernel_rfl) (by kernel_rfl) (by kernel_rfl) (by kernel_rfl) (fun c a w h => hQ c _ _ _ w h) (Or.inl ⟨wanted_none rfl, fun w hw => by simp only [execOp, am_30, f30_157, f30_170]; rfl⟩) (hk w4 hb4) ?_
  change wpAnyH _ _ _ _ _ _ _ (a0_30.put (some 171) (.bool false)) _
  obtain ⟨a0_31, ha31⟩ : ∃ rr : Act, rr = a0_30.put (some 171) (.bool false) := ⟨_, rfl⟩
  have qz31 : 179 < a0_31.tmps.size := by rw [ha31, sz_put]; exact qz30
  have f31_1 : a0_31.eval (.tmp 1) = .slice (some ⟨g, o, none⟩) n c := by rw [ha31, ev_other _ _ _ _ (by decide)]; exact f30_1
  have f31_9 : a0_31.eval (.tmp 9) = .pointer (some ⟨zm, 0, none⟩) := by rw [ha31, ev_other _ _ _ _ (by decide)]; exact f30_9
  have f31_12 : a0_31.eval (.tmp 12) = .int .i64 (i : Int) := by rw [ha31, ev_other _ _ _ _ (by decide)]; exact f30_12
  have f31_171 : a0_31.eval (.tmp 171) = .bool false := by rw [ha31]; exact ev_same _ _ _ (Nat.lt_of_le_of_lt (by decide) qz30)
  rw [← ha31] at h0 ⊢
  clear ha31
  refine wpAnyH_take (i := 31) (oi := am_31 s) (v := .bool false) (by kernel_rfl) (by kernel_rfl) (by kernel_rfl) (by kernel_rfl) (fun c a w h => hQ c _ _ _ w h) (Or.inl ⟨wanted_none rfl, fun w hw => by simp only [execOp, am_31, f31_171]; rfl⟩) (hk w4 hb4) ?_
  change wpAnyH _ _ _ _ _ _ _ (a0_31.put (some 172) (.bool false)) _
  obtain ⟨a0_32, ha32⟩ : ∃ rr : Act, rr = a0_31.put (some 172) (.bool false) := ⟨_, rfl⟩
  have qz32 : 179 < a0_32.tmps.size := by rw [ha32, sz_put]; exact qz31
  have f32_1 : a0_32.eval (.tmp 1) = .slice (some ⟨g, o, none⟩) n c := by rw [ha32, ev_other _ _ _ _ (by decide)]; exact f31_1
  have f32_9 : a0_32.eval (.tmp 9) = .pointer (some ⟨zm, 0, none⟩) := by rw [ha32, ev_other _ _ _ _ (by decide)]; exact f31_9
  have f32_12 : a0_32.eval (.tmp 12) = .int .i64 (i : Int) := by rw [ha32, ev_other _ _ _ _ (by decide)]; exact f31_12
  have f32_172 : a0_32.eval (.tmp 172) = .bool false := by rw [ha32]; exact ev_same _ _ _ (Nat.lt_of_le_of_lt (by decide) qz31)
  rw [← ha32] at h0 ⊢
  clear ha32
  refine wpAnyH_take (i := 32) (oi := am_32 s) (v := .pointer (some ⟨zm, 0, none⟩)) (by kernel_rfl) (by kernel_rfl) (by kernel_rfl) (by kernel_rfl) (fun c a w h => hQ c _ _ _ w h) (Or.inl ⟨wanted_some rfl (by kernel_rfl) f32_172 (Nat.lt_of_le_of_lt (by decide) qz32), fun w hw => by simp only [execOp, am_32, f32_9]; rfl⟩) (hk w4 hb4) ?_
  change wpAnyH _ _ _ _ _ _ _ (a0_32.put (some 173) (.pointer (some ⟨zm, 0, none⟩))) _
  obtain ⟨a0_33, ha33⟩ : ∃ rr : Act, rr = a0_32.put (some 173) (.pointer (some ⟨zm, 0, none⟩)) := ⟨_, rfl⟩
  have qz33 : 179 < a0_33.tmps.size := by rw [ha33, sz_put]; exact qz32
  have f33_1 : a0_33.eval (.tmp 1) = .slice (some ⟨g, o, none⟩) n c := by rw [ha33, ev_other _ _ _ _ (by decide)]; exact f32_1
  have f33_12 : a0_33.eval (.tmp 12) = .int .i64 (i : Int) := by rw [ha33, ev_other _ _ _ _ (by decide)]; exact f32_12
  have f33_172 : a0_33.eval (.tmp 172) = .bool false := by rw [ha33, ev_other _ _ _ _ (by decide)]; exact f32_172
  have f33_173 : a0_33.eval (.tmp 173) = .pointer (some ⟨zm, 0, none⟩) := by rw [ha33]; exact ev_same _ _ _ (Nat.lt_of_le_of_lt (by decide) qz32)
  rw [← ha33] at h0 ⊢
  clear ha33
  refine wpAnyH_take (i := 33) (oi := am_33 s) (v := .slice (some ⟨g, o, none⟩) n c) (by kernel_rfl) (by kernel_rfl) (by kernel_rfl) (by kernel_rfl) (fun c a w h => hQ c _ _ _ w h) (Or.inl ⟨wanted_some rfl (by kernel_rfl) f33_172 (Nat.lt_of_le_of_lt (by decide) qz33), fun w hw => by simp only [execOp, am_33, f33_1]; rfl⟩) (hk w4 hb4) ?_
  change wpAnyH _ _ _ _ _ _ _ (a0_33.put (some 174) (.slice (some ⟨g, o, none⟩) n c)) _
  obtain ⟨a0_34, ha34⟩ : ∃ rr : Act, rr = a0_33.put (some 174) (.slice (some ⟨g, o, none⟩) n c) := ⟨_, rfl⟩
  have qz34 : 179 < a0_34.tmps.size := by rw [ha34, sz_put]; exact qz33
  have f34_12 : a0_34.eval (.tmp 12) = .int .i64 (i : Int) := by rw [ha34, ev_other _ _ _ _ (by decide)]; exact f33_12
  have f34_172 : a0_34.eval (.tmp 172) = .bool false := by rw [ha34, ev_other _ _ _ _ (by decide)]; exact f33_172
  have f34_173 : a0_34.eval (.tmp 173) = .pointer (some ⟨zm, 0, none⟩) := by rw [ha34, ev_other _ _ _ _ (by decide)]; exact f33_173
  have f34_174 : a0_34.eval (.tmp 174) = .slice (some ⟨g, o, none⟩) n c := by rw [ha34]; exact ev_same _ _ _ (Nat.lt_of_le_of_lt (by decide) qz33)
  rw [← ha34] at h0 ⊢
  clear ha34
  refine wpAnyH_take (i := 34) (oi := am_34 s) (v := .int .i64 (i : Int)) (by kernel_rfl) (by kernel_rfl) (by kernel_rfl) (by kernel_rfl) (fun c a w h => hQ c _ _ _ w h) (Or.inl ⟨wanted_some rfl (by kernel_rfl) f34_172 (Nat.lt_of_le_of_lt (by decide) qz34), fun w hw => by simp only [execOp, am_34, f34_12]; rfl⟩) (hk w4 hb4) ?_
  change wpAnyH _ _ _ _ _ _ _ (a0_34.put (some 175) (.int .i64 (i : Int))) _
  obtain ⟨a0_35, ha35⟩ : ∃ rr : Act, rr = a0_34.put (some 175) (.int .i64 (i : Int)) := ⟨_, rfl⟩
  have qz35 : 179 < a0_35.tmps.size := by rw [ha35, sz_put]; exact qz34
  have f35_172 : a0_35.eval (.tmp 172) = .bool false := by rw [ha35, ev_other _ _ _ _ (by decide)]; exact f34_172
  have f35_173 : a0_35.eval (.tmp 173) = .pointer (some ⟨zm, 0, none⟩) := by rw [ha35, ev_other _ _ _ _ (by decide)]; exact f34_173
  have f35_174 : a0_35.eval (.tmp 174) = .slice (some ⟨g, o, none⟩) n c := by rw [ha35, ev_other _ _ _ _ (by decide)]; exact f34_174
  have f35_175 : a0_35.eval (.tmp 175) = .int .i64 (i : Int) := by rw [ha35]; exact ev_same _ _ _ (Nat.lt_of_le_of_lt (by decide) qz34)
  rw [← ha35] at h0 ⊢
  clear ha35
  refine wpAnyH_take (i := 35) (oi := am_35 s) (v := .pointer (some ⟨g, o + i * 32, none⟩)) (by kernel_rfl) (by kernel_rfl) (by kernel_rfl) (by kernel_rfl) (fun c a w h => hQ c _ _ _ w h) (Or.inl ⟨wanted_some rfl (by kernel_rfl) f35_172 (Nat.lt_of_le_of_lt (by decide) qz35), fun w hw => run_idxA rfl f35_174 f35_175 hi w⟩) (hk w4 hb4) ?_
  change wpAnyH _ _ _ _ _ _ _ (a0_35.put (some 176) (.pointer (some ⟨g, o + i * 32, none⟩))) _
  obtain ⟨a0_36, ha36⟩ : ∃ rr : Act, rr = a0_35.put (some 176) (.pointer (some ⟨g, o + i * 32, none⟩)) := ⟨_, rfl⟩
  have qz36 : 179 < a0_36.tmps.size := by rw [ha36, sz_put]; exact qz35
  have f36_172 : a0_36.eval (.tmp 172) = .bool false := by rw [ha36, ev_other _ _ _ _ (by decide)]; exact f35_172
  have f36_173 : a0_36.eval (.tmp 173) = .pointer (some ⟨zm, 0, none⟩) := by rw [ha36, ev_other _ _ _ _ (by decide)]; exact f35_173
  have f36_176 : a0_36.eval (.tmp 176) = .pointer (some ⟨g, o + i * 32, none⟩) := by rw [ha36]; exact ev_same _ _ _ (Nat.lt_of_le_of_lt (by decide) qz35)
  rw [← ha36] at h0 ⊢
  clear ha36
  refine wpAnyH_take (i := 36) (oi := am_36 s) (v := keyV k) (by kernel_rfl) (by kernel_rfl) (by kernel_rfl) (by kernel_rfl) (fun c a w h => hQ c _ _ _ w h) (Or.inl ⟨wanted_some rfl (by kernel_rfl) f36_172 (Nat.lt_of_le_of_lt (by decide) qz36), fun w hw => run_load rfl f36_176 (loadAt_key hkl hw)⟩) (hk w4 hb4) ?_
  change wpAnyH _ _ _ _ _ _ _ (a0_36.put (some 177) (keyV k)) _
  obtain ⟨a0_37, ha37⟩ : ∃ rr : Act, rr = a0_36.put (some 177) (keyV k) := ⟨_, rfl⟩
  have qz37 : 179 < a0_37.tmps.size := by rw [ha37, sz_put]; exact qz36
  have f37_172 : a0_37.eval (.tmp 172) = .bool false := by rw [ha37, ev_other _ _ _ _ (by decide)]; exact f36_172
  have f37_173 : a0_37.eval (.tmp 173) = .pointer (some ⟨zm, 0, none⟩) := by rw [ha37, ev_other _ _ _ _ (by decide)]; exact f36_173
  have f37_177 : a0_37.eval (.tmp 177) = keyV k := by rw [ha37]; exact ev_same _ _ _ (Nat.lt_of_le_of_lt (by decide) qz36)
  rw [← ha37] at h0 ⊢
  clear ha37
  refine wpAnyH_ready (rs := [37]) (by kernel_rfl) (by simp) ?_
  refine AllReadyH.cons (o := am_37 s) (by kernel_rfl) (fun KQ hKQ => ?_) AllReadyH.nil
  rw [if_pos (wanted_some rfl (by kernel_rfl) f37_172 (Nat.lt_of_le_of_lt (by decide) qz37))]
  refine step_enterE 22 #[.pointer (some ⟨zm, 0, none⟩), keyV k] (by rw [am_enter37, f37_173, f37_177]) (fun V w' => V = .bool false ∧ Below W.heap.size W w') ((hm1 _ hb4).mono (fun e w' h => ⟨_, h.1, rfl, hb4.trans (h.2.mono hb4.size)⟩)) ?_
  rintro _ w5 ⟨rfl, hb5⟩
  refine hKQ.out _ _ (hk w5 hb5) (fun _ => ?_)
  clear hKQ KQ
  change wpAnyH _ _ _ _ _ _ _ (a0_37.put (some 178) (.bool false)) _
  have h0 := h0 w5 hb5
  obtain ⟨a0_38, ha38⟩ : ∃ rr : Act, rr = a0_37.put (some 178) (.bool false) := ⟨_, rfl⟩
  have qz38 : 179 < a0_38.tmps.size := by rw [ha38, sz_put]; exact qz37
  have f38_172 : a0_38.eval (.tmp 172) = .bool false := by rw [ha38, ev_other _ _ _ _ (by decide)]; exact f37_172
  have f38_178 : a0_38.eval (.tmp 178) = .bool false := by rw [ha38]; exact ev_same _ _ _ (Nat.lt_of_le_of_lt (by decide) qz37)
  rw [← ha38] at h0 ⊢
  clear ha38
  refine wpAnyH_take (i := 38) (oi := am_38 s) (v := .bool false) (by kernel_rfl) (by kernel_rfl) (by kernel_rfl) (by kernel_rfl) (fun c a w h => hQ c _ _ _ w h) (Or.inl ⟨wanted_none rfl, fun w hw => by simp only [execOp, am_38, f38_172, f38_178]; rfl⟩) (hk w5 hb5) ?_
  change wpAnyH _ _ _ _ _ _ _ (a0_38.put (some 179) (.bool false)) _
  obtain ⟨a0_39, ha39⟩ : ∃ rr : Act, rr = a0_38.put (some 179) (.bool false) := ⟨_, rfl⟩
  have qz39 : 179 < a0_39.tmps.size := by rw [ha39, sz_put]; exact qz38
  rw [← ha39] at h0 ⊢
  clear ha39
  refine wpAnyH_done (by kernel_rfl) ?_ _
  exact h0
def an_0 (s : String) : Oper := { dst := some 192, op := Op.move (Operand.tmp 14), type := 4, pos := s, after := #[], guard := none }
def an_1 (s : String) : Oper := { dst := some 193, op := Op.unOp UnOp.not 4 (Operand.tmp 192), type := 4, pos := s, after := #[{ on := 0, ground := Ground.data }], guard := none }
def an_2 (s : String) : Oper := { dst := some 194, op := Op.move (Operand.tmp 193), type := 4, pos := s, after := #[{ on := 1, ground := Ground.data }], guard := none }
def an_3 (s : String) : Oper := { dst := some 195, op := Op.load 24 (Operand.tmp 13), type := 24, pos := s, after := #[{ on := 2, ground := Ground.guard }], guard := some (2, false) }
def an_4 (s : String) : Oper := { dst := some 196, op := Op.move (Operand.tmp 10), type := 48, pos := s, after := #[{ on := 2, ground := Ground.guard }], guard := some (2, false) }
def an_5 (s : String) : Oper := { dst := some 197, op := Op.move (Operand.tmp 15), type := 3, pos := s, after := #[{ on := 2, ground := Ground.guard }], guard := some (2, false) }
def an_6 (s : String) : Oper := { dst := some 198, op := Op.indexAddr 48 (Operand.tmp 196) (Operand.tmp 197), type := 0, pos := s, after := #[{ on := 4, ground := Ground.data }, { on := 5, ground := Ground.data }, { on := 2, ground := Ground.guard }], guard := some (2, false) }
def an_7 (s : String) : Oper := { dst := some 199, op := Op.load 24 (Operand.tmp 198), type := 24, pos := s, after := #[{ on := 6, ground := Ground.data }, { on := 2, ground := Ground.guard }], guard := some (2, false) }
def an_8 (s : String) : Oper := { dst := some 200, op := Op.binOp BinOp.neq 24 (Operand.tmp 195) (Operand.tmp 199) 24, type := 4, pos := s, after := #[{ on := 3, ground := Ground.data }, { on := 7, ground := Ground.data }, { on := 2, ground := Ground.guard }], guard := some (2, false) }
def an_9 (s : String) : Oper := { dst := some 201, op := Op.pick (Operand.tmp 194) (Operand.const (Value.bool true)) (Operand.tmp 200), type := 4, pos := s, after := #[{ on := 2, ground := Ground.data }, { on := 8, ground := Ground.data }], guard := none }
def an_10 (s : String) : Oper := { dst := some 202, op := Op.move (Operand.tmp 201), type := 4, pos := s, after := #[{ on := 9, ground := Ground.data }, { on := 2, ground := Ground.chain }], guard := none }
def an_11 (s : String) : Oper := { dst := some 203, op := Op.move (Operand.tmp 15), type := 3, pos := s, after := #[{ on := 10, ground := Ground.guard }], guard := some (10, false) }
def an_12 (s : String) : Oper := { dst := some 204, op := Op.binOp BinOp.gtr 3 (Operand.tmp 203) (Operand.const (Value.int IntKind.i64 0)) 3, type := 4, pos := s, after := #[{ on := 11, ground := Ground.data }, { on := 10, ground := Ground.guard }], guard := some (10, false) }
def an_13 (s : String) : Oper := { dst := some 205, op := Op.move (Operand.tmp 204), type := 4, pos := s, after := #[{ on := 12, ground := Ground.data }, { on := 10, ground := Ground.chain }, { on := 10, ground := Ground.guard }], guard := some (10, false) }
def an_14 (s : String) : Oper := { dst := some 206, op := Op.move (Operand.tmp 10), type := 48, pos := s, after := #[{ on := 13, ground := Ground.guard }], guard := some (13, true) }
def an_15 (s : String) : Oper := { dst := some 207, op := Op.move (Operand.tmp 15), type := 3, pos := s, after := #[{ on := 13, ground := Ground.guard }], guard := some (13, true) }
def an_16 (s : String) : Oper := { dst := some 208, op := Op.binOp BinOp.sub 3 (Operand.tmp 207) (Operand.const (Value.int IntKind.i64 1)) 3, type := 3, pos := s, after := #[{ on := 15, ground := Ground.data }, { on := 13, ground := Ground.guard }], guard := some (13, true) }
def an_17 (s : String) : Oper := { dst := some 209, op := Op.indexAddr 48 (Operand.tmp 206) (Operand.tmp 208), type := 0, pos := s, after := #[{ on := 14, ground := Ground.data }, { on := 16, ground := Ground.data }, { on := 13, ground := Ground.guard }], guard := some (13, true) }
def an_18 (s : String) : Oper := { dst := some 210, op := Op.load 24 (Operand.tmp 209), type := 24, pos := s, after := #[{ on := 17, ground := Ground.data }, { on := 13, ground := Ground.guard }], guard := some (13, true) }
def an_19 (s : String) : Oper := { dst := some 211, op := Op.move (Operand.tmp 10), type := 48, pos := s, after := #[{ on := 13, ground := Ground.guard }], guard := some (13, true) }
def an_20 (s : String) : Oper := { dst := some 212, op := Op.move (Operand.tmp 15), type := 3, pos := s, after := #[{ on := 13, ground := Ground.guard }], guard := some (13, true) }
def an_21 (s : String) : Oper := { dst := some 213, op := Op.indexAddr 48 (Operand.tmp 211) (Operand.tmp 212), type := 0, pos := s, after := #[{ on := 19, ground := Ground.data }, { on := 20, ground := Ground.data }, { on := 13, ground := Ground.guard }], guard := some (13, true) }
def an_22 (s : String) : Oper := { dst := some 214, op := Op.load 24 (Operand.tmp 213), type := 24, pos := s, after := #[{ on := 21, ground := Ground.data }, { on := 13, ground := Ground.guard }], guard := some (13, true) }
def an_23 (s : String) : Oper := { dst := some 215, op := Op.call { callee := Callee.value (Operand.func 8), args := #[Operand.tmp 210, Operand.tmp 214], argTypes := #[24, 24] }, type := 3, pos := s, after := #[{ on := 18, ground := Ground.data }, { on := 22, ground := Ground.data }, { on := 13, ground := Ground.chain }, { on := 13, ground := Ground.guard }], guard := some (13, true) }
def an_24 (s : String) : Oper := { dst := some 216, op := Op.binOp BinOp.neq 3 (Operand.tmp 215) (Operand.const (Value.int IntKind.i64 (-1))) 3, type := 4, pos := s, after := #[{ on := 23, ground := Ground.data }, { on := 13, ground := Ground.guard }], guard := some (13, true) }
def an_25 (s : String) : Oper := { dst := some 217, op := Op.pick (Operand.tmp 205) (Operand.tmp 216) (Operand.const (Value.bool false)), type := 4, pos := s, after := #[{ on := 13, ground := Ground.data }, { on := 24, ground := Ground.data }, { on := 10, ground := Ground.guard }], guard := some (10, false) }
def an_26 (s : String) : Oper := { dst := some 218, op := Op.pick (Operand.tmp 202) (Operand.const (Value.bool true)) (Operand.tmp 217), type := 4, pos := s, after := #[{ on := 10, ground := Ground.data }, { on := 25, ground := Ground.data }], guard := none }
def an_ops (s : String) : Array Oper := #[an_0 s, an_1 s, an_2 s, an_3 s, an_4 s, an_5 s, an_6 s, an_7 s, an_8 s, an_9 s, an_10 s, an_11 s, an_12 s, an_13 s, an_14 s, an_15 s, an_16 s, an_17 s, an_18 s, an_19 s, an_20 s, an_21 s, an_22 s, an_23 s, an_24 s, an_25 s, an_26 s]
theorem an_enter23 (s : String) (a : Act) (w : World) : (execOp a.eval (an_23 s)).run Try.prog w = .ok (.enter 8 #[a.eval (.tmp 210), a.eval (.tmp 214)]) w := by kernel_rfl
theorem an_walk (s : String) {Q : Exit → Act → World → Prop} (hQ : ∀ c (a : Act) t v w, Q (.panic c) (a.put (some t) v) w → Q (.panic c) a w) (W : World) (za g o n c i : Nat) (k : List UInt8) (hkl : k.length = 32) (hi : i < n) (h0i : i = 0) (hS0 : KeyAt W.drew za k ∧ W.drew.rangeAt g (o + i * 32) (k.map u8c) ∧ True)
    (a : Act) (hs : 218 < a.tmps.size) (e10 : a.eval (.tmp 10) = .slice (some ⟨g, o, none⟩) n c) (e13 : a.eval (.tmp 13) = .pointer (some ⟨za, 0, none⟩)) (e14 : a.eval (.tmp 14) = .bool true) (e15 : a.eval (.tmp 15) = .int .i64 (i : Int))
    (h0 :  Q .normal (((((((((((((((((((((((((((a.put (some 192) (.bool true)).put (some 193) (.bool false)).put (some 194) (.bool false)).put (some 195) (keyV k)).put (some 196) (.slice (some ⟨g, o, none⟩) n c)).put (some 197) (.int .i64 (i : Int))).put (some 198) (.pointer (some ⟨g, o + i * 32, none⟩))).put (some 199) (keyV k)).put (some 200) (.bool false)).put (some 201) (.bool false)).put (some 202) (.bool false)).put (some 203) (.int .i64 (i : Int))).put (some 204) (.bool false)).put (some 205) (.bool false)).put (some 206) (undef)).put (some 207) (undef)).put (some 208) (undef)).put (some 209) (undef)).put (some 210) (undef)).put (some 211) (undef)).put (some 212) (undef)).put (some 213) (undef)).put (some 214) (undef)).put (some 215) (undef)).put (some 216) (undef)).put (some 217) (.bool false)).put (some 218) (.bool false)) W.drew) :
    Code.wp Try.prog (.region 22 (an_ops s) true) Q a W := by
  refine wp_region_held_drew (S := fun w => KeyAt w za k ∧ w.rangeAt g (o + i * 32) (k.map u8c) ∧ True) (by kernel_rfl) hS0 (fun hS => ?_)
  change wpAnyH _ _ _ _ _ _ _ _ (World.drew _)
  refine wpAnyH_take (i := 0) (oi := an_0 s) (v := .bool true) (by kernel_rfl) (by kernel_rfl) (by kernel_rfl) (by kernel_rfl) (fun c a w h => hQ c _ _ _ w h) (Or.inl ⟨wanted_none rfl, fun w hw => by simp only [execOp, an_0, e14]; rfl⟩) hS ?_
  change wpAnyH _ _ _ _ _ _ _ (a.put (some 192) (.bool true)) _
  obtain ⟨a0_1, ha1⟩ : ∃ rr : Act, rr = a.put (some 192) (.bool true) := ⟨_, rfl⟩
  have qz1 : 218 < a0_1.tmps.size := by rw [ha1, sz_put]; exact hs
  have f1_10 : a0_1.eval (.tmp 10) = .slice (some ⟨g, o, none⟩) n c := by rw [ha1, ev_other _ _ _ _ (by decide)]; exact e10
  have f1_13 : a0_1.eval (.tmp 13) = .pointer (some ⟨za, 0, none⟩) := by rw [ha1, ev_other _ _ _ _ (by decide)]; exact e13
  have f1_15 : a0_1.eval (.tmp 15) = .int .i64 (i : Int) := by rw [ha1, ev_other _ _ _ _ (by decide)]; exact e15
  have f1_192 : a0_1.eval (.tmp 192) = .bool true := by rw [ha1]; exact ev_same _ _ _ (Nat.lt_of_le_of_lt (by decide) hs)
  rw [← ha1] at h0 ⊢
  clear ha1
  refine wpAnyH_take (i := 1) (oi := an_1 s) (v := .bool false) (by kernel_rfl) (by kernel_rfl) (by kernel_rfl) (by kernel_rfl) (fun c a w h => hQ c _ _ _ w h) (Or.inl ⟨wanted_none rfl, fun w hw => by simp only [execOp, an_1, f1_192]; kernel_rfl⟩) hS ?_
  change wpAnyH _ _ _ _ _ _ _ (a0_1.put (some 193) (.bool false)) _
  obtain ⟨a0_2, ha2⟩ : ∃ rr : Act, rr = a0_1.put (some 193) (.bool false) := ⟨_, rfl⟩
  have qz2 : 218 < a0_2.tmps.size := by rw [ha2, sz_put]; exact qz1
  have f2_10 : a0_2.eval (.tmp 10) = .slice (some ⟨g, o, none⟩) n c := by rw [ha2, ev_other _ _ _ _ (by decide)]; exact f1_10
  have f2_13 : a0_2.eval (.tmp 13) = .pointer (some ⟨za, 0, none⟩) := by rw [ha2, ev_other _ _ _ _ (by decide)]; exact f1_13
  have f2_15 : a0_2.eval (.tmp 15) = .int .i64 (i : Int) := by rw [ha2, ev_other _ _ _ _ (by decide)]; exact f1_15
  have f2_193 : a0_2.eval (.tmp 193) = .bool false := by rw [ha2]; exact ev_same _ _ _ (Nat.lt_of_le_of_lt (by decide) qz1)
  rw [← ha2] at h0 ⊢
  clear ha2
  refine wpAnyH_take (i := 2) (oi := an_2 s) (v := .bool false) (by kernel_rfl) (by kernel_rfl) (by kernel_rfl) (by kernel_rfl) (fun c a w h => hQ c _ _ _ w h) (Or.inl ⟨wanted_none rfl, fun w hw => by simp only [execOp, an_2, f2_193]; rfl⟩) hS ?_
  change wpAnyH _ _ _ _ _ _ _ (a0_2.put (some 194) (.bool false)) _
  obtain ⟨a0_3, ha3⟩ : ∃ rr : Act, rr = a0_2.put (some 194) (.bool false) := ⟨_, rfl⟩
  have qz3 : 218 < a0_3.tmps.size := by rw [ha3, sz_put]; exact qz2
  have f3_10 : a0_3.eval (.tmp 10) = .slice (some ⟨g, o, none⟩) n c := by rw [ha3, ev_other _ _ _ _ (by decide)]; exact f2_10
  have f3_13 : a0_3.eval (.tmp 13) = .pointer (some ⟨za, 0, none⟩) := by rw [ha3, ev_other _ _ _ _ (by decide)]; exact f2_13
  have f3_15 : a0_3.eval (.tmp 15) = .int .i64 (i : Int) := by rw [ha3, ev_other _ _ _ _ (by decide)]; exact f2_15
  have f3_194 : a0_3.eval (.tmp 194) = .bool false := by rw [ha3]; exact ev_same _ _ _ (Nat.lt_of_le_of_lt (by decide) qz2)
  rw [← ha3] at h0 ⊢
  clear ha3
  refine wpAnyH_take (i := 3) (oi := an_3 s) (v := keyV k) (by kernel_rfl) (by kernel_rfl) (by kernel_rfl) (by kernel_rfl) (fun c a w h => hQ c _ _ _ w h) (Or.inl ⟨wanted_some rfl (by kernel_rfl) f3_194 (Nat.lt_of_le_of_lt (by decide) qz3), fun w hw => run_load rfl f3_13 hw.1.load⟩) hS ?_
  change wpAnyH _ _ _ _ _ _ _ (a0_3.put (some 195) (keyV k)) _
  obtain ⟨a0_4, ha4⟩ : ∃ rr : Act, rr = a0_3.put (some 195) (keyV k) := ⟨_, rfl⟩
  have qz4 : 218 < a0_4.tmps.size := by rw [ha4, sz_put]; exact qz3
  have f4_10 : a0_4.eval (.tmp 10) = .slice (some ⟨g, o, none⟩) n c := by rw [ha4, ev_other _ _ _ _ (by decide)]; exact f3_10
  have f4_15 : a0_4.eval (.tmp 15) = .int .i64 (i : Int) := by rw [ha4, ev_other _ _ _ _ (by decide)]; exact f3_15
  have f4_194 : a0_4.eval (.tmp 194) = .bool false := by rw [ha4, ev_other _ _ _ _ (by decide)]; exact f3_194
  have f4_195 : a0_4.eval (.tmp 195) = keyV k := by rw [ha4]; exact ev_same _ _ _ (Nat.lt_of_le_of_lt (by decide) qz3)
  rw [← ha4] at h0 ⊢
  clear ha4
  refine wpAnyH_take (i := 4) (oi := an_4 s) (v := .slice (some ⟨g, o, none⟩) n c) (by kernel_rfl) (by kernel_rfl) (by kernel_rfl) (by kernel_rfl) (fun c a w h => hQ c _ _ _ w h) (Or.inl ⟨wanted_some rfl (by kernel_rfl) f4_194 (Nat.lt_of_le_of_lt (by decide) qz4), fun w hw => by simp only [execOp, an_4, f4_10]; rfl⟩) hS ?_
  change wpAnyH _ _ _ _ _ _ _ (a0_4.put (some 196) (.slice (some ⟨g, o, none⟩) n c)) _
  obtain ⟨a0_5, ha5⟩ : ∃ rr : Act, rr = a0_4.put (some 196) (.slice (some ⟨g, o, none⟩) n c) := ⟨_, rfl⟩
  have qz5 : 218 < a0_5.tmps.size := by rw [ha5, sz_put]; exact qz4
  have f5_15 : a0_5.eval (.tmp 15) = .int .i64 (i : Int) := by rw [ha5, ev_other _ _ _ _ (by decide)]; exact f4_15
  have f5_194 : a0_5.eval (.tmp 194) = .bool false := by rw [ha5, ev_other _ _ _ _ (by decide)]; exact f4_194
  have f5_195 : a0_5.eval (.tmp 195) = keyV k := by rw [ha5, ev_other _ _ _ _ (by decide)]; exact f4_195
  have f5_196 : a0_5.eval (.tmp 196) = .slice (some ⟨g, o, none⟩) n c := by rw [ha5]; exact ev_same _ _ _ (Nat.lt_of_le_of_lt (by decide) qz4)
  rw [← ha5] at h0 ⊢
  clear ha5
  refine wpAnyH_take (i := 5) (oi := an_5 s) (v := .int .i64 (i : Int)) (by kernel_rfl) (by kernel_rfl) (by kernel_rfl) (by kernel_rfl) (fun c a w h => hQ c _ _ _ w h) (Or.inl ⟨wanted_some rfl (by kernel_rfl) f5_194 (Nat.lt_of_le_of_lt (by decide) qz5), fun w hw => by simp only [execOp, an_5, f5_15]; rfl⟩) hS ?_
  change wpAnyH _ _ _ _ _ _ _ (a0_5.put (some 197) (.int .i64 (i : Int))) _
  obtain ⟨a0_6, ha6⟩ : ∃ rr : Act, rr = a0_5.put (some 197) (.int .i64 (i : Int)) := ⟨_, rfl⟩
  have qz6 : 218 < a0_6.tmps.size := by rw [ha6, sz_put]; exact qz5
  have f6_15 : a0_6.eval (.tmp 15) = .int .i64 (i : Int) := by rw [ha6, ev_other _ _ _ _ (by decide)]; exact f5_15
  have f6_194 : a0_6.eval (.tmp 194) = .bool false := by rw [ha6, ev_other _ _ _ _ (by decide)]; exact f5_194
  have f6_195 : a0_6.eval (.tmp 195) = keyV k := by rw [ha6, ev_other _ _ _ _ (by decide)]; exact f5_195
  have f6_196 : a0_6.eval (.tmp 196) = .slice (some ⟨g, o, none⟩) n c := by rw [ha6, ev_other _ _ _ _ (by decide)]; exact f5_196
  have f6_197 : a0_6.eval (.tmp 197) = .int .i64 (i : Int) := by rw [ha6]; exact ev_same _ _ _ (Nat.lt_of_le_of_lt (by decide) qz5)
  rw [← ha6] at h0 ⊢
  clear ha6
  refine wpAnyH_take (i := 6) (oi := an_6 s) (v := .pointer (some ⟨g, o + i * 32, none⟩)) (by kernel_rfl) (by kernel_rfl) (by kernel_rfl) (by kernel_rfl) (fun c a w h => hQ c _ _ _ w h) (Or.inl ⟨wanted_some rfl (by kernel_rfl) f6_194 (Nat.lt_of_le_of_lt (by decide) qz6), fun w hw => run_idxA rfl f6_196 f6_197 hi w⟩) hS ?_
  change wpAnyH _ _ _ _ _ _ _ (a0_6.put (some 198) (.pointer (some ⟨g, o + i * 32, none⟩))) _
  obtain ⟨a0_7, ha7⟩ : ∃ rr : Act, rr = a0_6.put (some 198) (.pointer (some ⟨g, o + i * 32, none⟩)) := ⟨_, rfl⟩
  have qz7 : 218 < a0_7.tmps.size := by rw [ha7, sz_put]; exact qz6
  have f7_15 : a0_7.eval (.tmp 15) = .int .i64 (i : Int) := by rw [ha7, ev_other _ _ _ _ (by decide)]; exact f6_15
  have f7_194 : a0_7.eval (.tmp 194) = .bool false := by rw [ha7, ev_other _ _ _ _ (by decide)]; exact f6_194
  have f7_195 : a0_7.eval (.tmp 195) = keyV k := by rw [ha7, ev_other _ _ _ _ (by decide)]; exact f6_195
  have f7_198 : a0_7.eval (.tmp 198) = .pointer (some ⟨g, o + i * 32, none⟩) := by rw [ha7]; exact ev_same _ _ _ (Nat.lt_of_le_of_lt (by decide) qz6)
  rw [← ha7] at h0 ⊢
  clear ha7
  refine wpAnyH_take (i := 7) (oi := an_7 s) (v := keyV k) (by kernel_rfl) (by kernel_rfl) (by kernel_rfl) (by kernel_rfl) (fun c a w h => hQ c _ _ _ w h) (Or.inl ⟨wanted_some rfl (by kernel_rfl) f7_194 (Nat.lt_of_le_of_lt (by decide) qz7), fun w hw => run_load rfl f7_198 (loadAt_key hkl hw.2.1)⟩) hS ?_
  change wpAnyH _ _ _ _ _ _ _ (a0_7.put (some 199) (keyV k)) _
  obtain ⟨a0_8, ha8⟩ : ∃ rr : Act, rr = a0_7.put (some 199) (keyV k) := ⟨_, rfl⟩
  have qz8 : 218 < a0_8.tmps.size := by rw [ha8, sz_put]; exact qz7
  have f8_15 : a0_8.eval (.tmp 15) = .int .i64 (i : Int) := by rw [ha8, ev_other _ _ _ _ (by decide)]; exact f7_15
  have f8_194 : a0_8.eval (.tmp 194) = .bool false := by rw [ha8, ev_other _ _ _ _ (by decide)]; exact f7_194
  have f8_195 : a0_8.eval (.tmp 195) = keyV k := by rw [ha8, ev_other _ _ _ _ (by decide)]; exact f7_195
  have f8_199 : a0_8.eval (.tmp 199) = keyV k := by rw [ha8]; exact ev_same _ _ _ (Nat.lt_of_le_of_lt (by decide) qz7)
  rw [← ha8] at h0 ⊢
  clear ha8
  refine wpAnyH_take (i := 8) (oi := an_8 s) (v := .bool false) (by kernel_rfl) (by kernel_rfl) (by kernel_rfl) (by kernel_rfl) (fun c a w h => hQ c _ _ _ w h) (Or.inl ⟨wanted_some rfl (by kernel_rfl) f8_194 (Nat.lt_of_le_of_lt (by decide) qz8), fun w hw => run_neqKA rfl f8_195 f8_199 hkl w⟩) hS ?_
  change wpAnyH _ _ _ _ _ _ _ (a0_8.put (some 200) (.bool false)) _
  obtain ⟨a0_9, ha9⟩ : ∃ rr : Act, rr = a0_8.put (some 200) (.bool false) := ⟨_, rfl⟩
  have qz9 : 218 < a0_9.tmps.size := by rw [ha9, sz_put]; exact qz8
  have f9_15 : a0_9.eval (.tmp 15) = .int .i64 (i : Int) := by rw [ha9, ev_other _ _ _ _ (by decide)]; exact f8_15
  have f9_194 : a0_9.eval (.tmp 194) = .bool false := by rw [ha9, ev_other _ _ _ _ (by decide)]; exact f8_194
  have f9_200 : a0_9.eval (.tmp 200) = .bool false := by rw [ha9]; exact ev_same _ _ _ (Nat.lt_of_le_of_lt (by decide) qz8)
  rw [← ha9] at h0 ⊢
  clear ha9
  refine wpAnyH_take (i := 9) (oi := an_9 s) (v := .bool false) (by kernel_rfl) (by kernel_rfl) (by kernel_rfl) (by kernel_rfl) (fun c a w h => hQ c _ _ _ w h) (Or.inl ⟨wanted_none rfl, fun w hw => by simp only [execOp, an_9, f9_194, f9_200]; rfl⟩) hS ?_
  change wpAnyH _ _ _ _ _ _ _ (a0_9.put (some 201) (.bool false)) _
  obtain ⟨a0_10, ha10⟩ : ∃ rr : Act, rr = a0_9.put (some 201) (.bool false) := ⟨_, rfl⟩
  have qz10 : 218 < a0_10.tmps.size := by rw [ha10, sz_put]; exact qz9
  have f10_15 : a0_10.eval (.tmp 15) = .int .i64 (i : Int) := by rw [ha10, ev_other _ _ _ _ (by decide)]; exact f9_15
  have f10_201 : a0_10.eval (.tmp 201) = .bool false := by rw [ha10]; exact ev_same _ _ _ (Nat.lt_of_le_of_lt (by decide) qz9)
  rw [← ha10] at h0 ⊢
  clear ha10
  refine wpAnyH_take (i := 10) (oi := an_10 s) (v := .bool false) (by kernel_rfl) (by kernel_rfl) (by kernel_rfl) (by kernel_rfl) (fun c a w h => hQ c _ _ _ w h) (Or.inl ⟨wanted_none rfl, fun w hw => by simp only [execOp, an_10, f10_201]; rfl⟩) hS ?_
  change wpAnyH _ _ _ _ _ _ _ (a0_10.put (some 202) (.bool false)) _
  obtain ⟨a0_11, ha11⟩ : ∃ rr : Act, rr = a0_10.put (some 202) (.bool false) := ⟨_, rfl⟩
  have qz11 : 218 < a0_11.tmps.size := by rw [ha11, sz_put]; exact qz10
  have f11_15 : a0_11.eval (.tmp 15) = .int .i64 (i : Int) := by rw [ha11, ev_other _ _ _ _ (by decide)]; exact f10_15
  have f11_202 : a0_11.eval (.tmp 202) = .bool false := by rw [ha11]; exact ev_same _ _ _ (Nat.lt_of_le_of_lt (by decide) qz10)
  rw [← ha11] at h0 ⊢
  clear ha11
  refine wpAnyH_take (i := 11) (oi := an_11 s) (v := .int .i64 (i : Int)) (by kernel_rfl) (by kernel_rfl) (by kernel_rfl) (by kernel_rfl) (fun c a w h => hQ c _ _ _ w h) (Or.inl ⟨wanted_some rfl (by kernel_rfl) f11_202 (Nat.lt_of_le_of_lt (by decide) qz11), fun w hw => by simp only [execOp, an_11, f11_15]; rfl⟩) hS ?_
  change wpAnyH _ _ _ _ _ _ _ (a0_11.put (some 203) (.int .i64 (i : Int))) _
  obtain ⟨a0_12, ha12⟩ : ∃ rr : Act, rr = a0_11.put (some 203) (.int .i64 (i : Int)) := ⟨_, rfl⟩
  have qz12 : 218 < a0_12.tmps.size := by rw [ha12, sz_put]; exact qz11
  have f12_202 : a0_12.eval (.tmp 202) = .bool false := by rw [ha12, ev_other _ _ _ _ (by decide)]; exact f11_202
  have f12_203 : a0_12.eval (.tmp 203) = .int .i64 (i : Int) := by rw [ha12]; exact ev_same _ _ _ (Nat.lt_of_le_of_lt (by decide) qz11)
  rw [← ha12] at h0 ⊢
  clear ha12
  refine wpAnyH_take (i := 12) (oi := an_12 s) (v := .bool false) (by kernel_rfl) (by kernel_rfl) (by kernel_rfl) (by kernel_rfl) (fun c a w h => hQ c _ _ _ w h) (Or.inl ⟨wanted_some rfl (by kernel_rfl) f12_202 (Nat.lt_of_le_of_lt (by decide) qz12), fun w hw => by rw [run_gtrA rfl f12_203 rfl w, decide_eq_false (show ¬ 0 < i by omega)]⟩) hS ?_
  change wpAnyH _ _ _ _ _ _ _ (a0_12.put (some 204) (.bool false)) _
  obtain ⟨a0_13, ha13⟩ : ∃ rr : Act, rr = a0_12.put (some 204) (.bool false) := ⟨_, rfl⟩
  have qz13 : 218 < a0_13.tmps.size := by rw [ha13, sz_put]; exact qz12
  have f13_202 : a0_13.eval (.tmp 202) = .bool false := by rw [ha13, ev_other _ _ _ _ (by decide)]; exact f12_202
  have f13_204 : a0_13.eval (.tmp 204) = .bool false := by rw [ha13]; exact ev_same _ _ _ (Nat.lt_of_le_of_lt (by decide) qz12)
  rw [← ha13] at h0 ⊢
  clear ha13
  refine wpAnyH_take (i := 13) (oi := an_13 s) (v := .bool false) (by kernel_rfl) (by kernel_rfl) (by kernel_rfl) (by kernel_rfl) (fun c a w h => hQ c _ _ _ w h) (Or.inl ⟨wanted_some rfl (by kernel_rfl) f13_202 (Nat.lt_of_le_of_lt (by decide) qz13), fun w hw => by simp only [execOp, an_13, f13_204]; rfl⟩) hS ?_
  change wpAnyH _ _ _ _ _ _ _ (a0_13.put (some 205) (.bool false)) _
  obtain ⟨a0_14, ha14⟩ : ∃ rr : Act, rr = a0_13.put (some 205) (.bool false) := ⟨_, rfl⟩
  have qz14 : 218 < a0_14.tmps.size := by rw [ha14, sz_put]; exact qz13
  have f14_202 : a0_14.eval (.tmp 202) = .bool false := by rw [ha14, ev_other _ _ _ _ (by decide)]; exact f13_202
  have f14_205 : a0_14.eval (.tmp 205) = .bool false := by rw [ha14]; exact ev_same _ _ _ (Nat.lt_of_le_of_lt (by decide) qz13)
  rw [← ha14] at h0 ⊢
  clear ha14
  refine wpAnyH_take (i := 14) (oi := an_14 s) (v := undef) (by kernel_rfl) (by kernel_rfl) (by kernel_rfl) (by kernel_rfl) (fun c a w h => hQ c _ _ _ w h) (Or.inr ⟨wanted_noA rfl (by kernel_rfl) f14_205 (Nat.lt_of_le_of_lt (by decide) qz14), rfl⟩) hS ?_
  change wpAnyH _ _ _ _ _ _ _ (a0_14.put (some 206) (undef)) _
  obtain ⟨a0_15, ha15⟩ : ∃ rr : Act, rr = a0_14.put (some 206) (undef) := ⟨_, rfl⟩
  have qz15 : 218 < a0_15.tmps.size := by rw [ha15, sz_put]; exact qz14
  have f15_202 : a0_15.eval (.tmp 202) = .bool false := by rw [ha15, ev_other _ _ _ _ (by decide)]; exact f14_202
  have f15_205 : a0_15.eval (.tmp 205) = .bool false := by rw [ha15, ev_other _ _ _ _ (by decide)]; exact f14_205
  rw [← ha15] at h0 ⊢
  clear ha15
  refine wpAnyH_take (i := 15) (oi := an_15 s) (v := undef) (by kernel_rfl) (by kernel_rfl) (by kernel_rfl) (by kernel_rfl) (fun c a w h => hQ c _ _ _ w h) (Or.inr ⟨wanted_noA rfl (by kernel_rfl) f15_205 (Nat.lt_of_le_of_lt (by decide) qz15), rfl⟩) hS ?_
  change wpAnyH _ _ _ _ _ _ _ (a0_15.put (some 207) (undef)) _
  obtain ⟨a0_16, ha16⟩ : ∃ rr : Act, rr = a0_15.put (some 207) (undef) := ⟨_, rfl⟩
  have qz16 : 218 < a0_16.tmps.size := by rw [ha16, sz_put]; exact qz15
  have f16_202 : a0_16.eval (.tmp 202) = .bool false := by rw [ha16, ev_other _ _ _ _ (by decide)]; exact f15_202
  have f16_205 : a0_16.eval (.tmp 205) = .bool false := by rw [ha16, ev_other _ _ _ _ (by decide)]; exact f15_205
  rw [← ha16] at h0 ⊢
  clear ha16
  refine wpAnyH_take (i := 16) (oi := an_16 s) (v := undef) (by kernel_rfl) (by kernel_rfl) (by kernel_rfl) (by kernel_rfl) (fun c a w h => hQ c _ _ _ w h) (Or.inr ⟨wanted_noA rfl (by kernel_rfl) f16_205 (Nat.lt_of_le_of_lt (by decide) qz16), rfl⟩) hS ?_
  change wpAnyH _ _ _ _ _ _ _ (a0_16.put (some 208) (undef)) _
  obtain ⟨a0_17, ha17⟩ : ∃ rr : Act, rr = a0_16.put (some 208) (undef) := ⟨_, rfl⟩
  have qz17 : 218 < a0_17.tmps.size := by rw [ha17, sz_put]; exact qz16
  have f17_202 : a0_17.eval (.tmp 202) = .bool false := by rw [ha17, ev_other _ _ _ _ (by decide)]; exact f16_202
  have f17_205 : a0_17.eval (.tmp 205) = .bool false := by rw [ha17, ev_other _ _ _ _ (by decide)]; exact f16_205
  rw [← ha17] at h0 ⊢
  clear ha17
  refine wpAnyH_take (i := 17) (oi := an_17 s) (v := undef) (by kernel_rfl) (by kernel_rfl) (by kernel_rfl) (by kernel_rfl) (fun c a w h => hQ c _ _ _ w h) (Or.inr ⟨wanted_noA rfl (by kernel_rfl) f17_205 (Nat.lt_of_le_of_lt (by decide) qz17), rfl⟩) hS ?_
  change wpAnyH _ _ _ _ _ _ _ (a0_17.put (some 209) (undef)) _
  obtain ⟨a0_18, ha18⟩ : ∃ rr : Act, rr = a0_17.put (some 209) (undef) := ⟨_, rfl⟩
  have qz18 : 218 < a0_18.tmps.size := by rw [ha18, sz_put]; exact qz17
  have f18_202 : a0_18.eval (.tmp 202) = .bool false := by rw [ha18, ev_other _ _ _ _ (by decide)]; exact f17_202
  have f18_205 : a0_18.eval (.tmp 205) = .bool false := by rw [ha18, ev_other _ _ _ _ (by decide)]; exact f17_205
  rw [← ha18] at h0 ⊢
  clear ha18
  refine wpAnyH_take (i := 18) (oi := an_18 s) (v := undef) (by kernel_rfl) (by kernel_rfl) (by kernel_rfl) (by kernel_rfl) (fun c a w h => hQ c _ _ _ w h) (Or.inr ⟨wanted_noA rfl (by kernel_rfl) f18_205 (Nat.lt_of_le_of_lt (by decide) qz18), rfl⟩) hS ?_
  change wpAnyH _ _ _ _ _ _ _ (a0_18.put (some 210) (undef)) _
  obtain ⟨a0_19, ha19⟩ : ∃ rr : Act, rr = a0_18.put (some 210) (undef) := ⟨_, rfl⟩
  have qz19 : 218 < a0_19.tmps.size := by rw [ha19, sz_put]; exact qz18
  have f19_202 : a0_19.eval (.tmp 202) = .bool false := by rw [ha19, ev_other _ _ _ _ (by decide)]; exact f18_202
  have f19_205 : a0_19.eval (.tmp 205) = .bool false := by rw [ha19, ev_other _ _ _ _ (by decide)]; exact f18_205
  rw [← ha19] at h0 ⊢
  clear ha19
  refine wpAnyH_take (i := 19) (oi := an_19 s) (v := undef) (by kernel_rfl) (by kernel_rfl) (by kernel_rfl) (by kernel_rfl) (fun c a w h => hQ c _ _ _ w h) (Or.inr ⟨wanted_noA rfl (by kernel_rfl) f19_205 (Nat.lt_of_le_of_lt (by decide) qz19), rfl⟩) hS ?_
  change wpAnyH _ _ _ _ _ _ _ (a0_19.put (some 211) (undef)) _
  obtain ⟨a0_20, ha20⟩ : ∃ rr : Act, rr = a0_19.put (some 211) (undef) := ⟨_, rfl⟩
  have qz20 : 218 < a0_20.tmps.size := by rw [ha20, sz_put]; exact qz19
  have f20_202 : a0_20.eval (.tmp 202) = .bool false := by rw [ha20, ev_other _ _ _ _ (by decide)]; exact f19_202
  have f20_205 : a0_20.eval (.tmp 205) = .bool false := by rw [ha20, ev_other _ _ _ _ (by decide)]; exact f19_205
  rw [← ha20] at h0 ⊢
  clear ha20
  refine wpAnyH_take (i := 20) (oi := an_20 s) (v := undef) (by kernel_rfl) (by kernel_rfl) (by kernel_rfl) (by kernel_rfl) (fun c a w h => hQ c _ _ _ w h) (Or.inr ⟨wanted_noA rfl (by kernel_rfl) f20_205 (Nat.lt_of_le_of_lt (by decide) qz20), rfl⟩) hS ?_
  change wpAnyH _ _ _ _ _ _ _ (a0_20.put (some 212) (undef)) _
  obtain ⟨a0_21, ha21⟩ : ∃ rr : Act, rr = a0_20.put (some 212) (undef) := ⟨_, rfl⟩
  have qz21 : 218 < a0_21.tmps.size := by rw [ha21, sz_put]; exact qz20
  have f21_202 : a0_21.eval (.tmp 202) = .bool false := by rw [ha21, ev_other _ _ _ _ (by decide)]; exact f20_202
  have f21_205 : a0_21.eval (.tmp 205) = .bool false := by rw [ha21, ev_other _ _ _ _ (by decide)]; exact f20_205
  rw [← ha21] at h0 ⊢
  clear ha21
  refine wpAnyH_take (i := 21) (oi := an_21 s) (v := undef) (by kernel_rfl) (by kernel_rfl) (by kernel_rfl) (by kernel_rfl) (fun c a w h => hQ c _ _ _ w h) (Or.inr ⟨wanted_noA rfl (by kernel_rfl) f21_205 (Nat.lt_of_le_of_lt (by decide) qz21), rfl⟩) hS ?_
  change wpAnyH _ _ _ _ _ _ _ (a0_21.put (some 213) (undef)) _
  obtain ⟨a0_22, ha22⟩ : ∃ rr : Act, rr = a0_21.put (some 213) (undef) := ⟨_, rfl⟩
  have qz22 : 218 < a0_22.tmps.size := by rw [ha22, sz_put]; exact qz21
  have f22_202 : a0_22.eval (.tmp 202) = .bool false := by rw [ha22, ev_other _ _ _ _ (by decide)]; exact f21_202
  have f22_205 : a0_22.eval (.tmp 205) = .bool false := by rw [ha22, ev_other _ _ _ _ (by decide)]; exact f21_205
  rw [← ha22] at h0 ⊢
  clear ha22
  refine wpAnyH_take (i := 22) (oi := an_22 s) (v := undef) (by kernel_rfl) (by kernel_rfl) (by kernel_rfl) (by kernel_rfl) (fun c a w h => hQ c _ _ _ w h) (Or.inr ⟨wanted_noA rfl (by kernel_rfl) f22_205 (Nat.lt_of_le_of_lt (by decide) qz22), rfl⟩) hS ?_
  change wpAnyH _ _ _ _ _ _ _ (a0_22.put (some 214) (undef)) _
  obtain ⟨a0_23, ha23⟩ : ∃ rr : Act, rr = a0_22.put (some 214) (undef) := ⟨_, rfl⟩
  have qz23 : 218 < a0_23.tmps.size := by rw [ha23, sz_put]; exact qz22
  have f23_202 : a0_23.eval (.tmp 202) = .bool false := by rw [ha23, ev_other _ _ _ _ (by decide)]; exact f22_202
  have f23_205 : a0_23.eval (.tmp 205) = .bool false := by rw [ha23, ev_other _ _ _ _ (by decide)]; exact f22_205
  rw [← ha23] at h0 ⊢
  clear ha23
  refine wpAnyH_take (i := 23) (oi := an_23 s) (v := undef) (by kernel_rfl) (by kernel_rfl) (by kernel_rfl) (by kernel_rfl) (fun c a w h => hQ c _ _ _ w h) (Or.inr ⟨wanted_noA rfl (by kernel_rfl) f23_205 (Nat.lt_of_le_of_lt (by decide) qz23), rfl⟩) hS ?_
  change wpAnyH _ _ _ _ _ _ _ (a0_23.put (some 215) (undef)) _
  obtain ⟨a0_24, ha24⟩ : ∃ rr : Act, rr = a0_23.put (some 215) (undef) := ⟨_, rfl⟩
  have qz24 : 218 < a0_24.tmps.size := by rw [ha24, sz_put]; exact qz23
  have f24_202 : a0_24.eval (.tmp 202) = .bool false := by rw [ha24, ev_other _ _ _ _ (by decide)]; exact f23_202
  have f24_205 : a0_24.eval (.tmp 205) = .bool false := by rw [ha24, ev_other _ _ _ _ (by decide)]; exact f23_205
  rw [← ha24] at h0 ⊢
  clear ha24
  refine wpAnyH_take (i := 24) (oi := an_24 s) (v := undef) (by kernel_rfl) (by kernel_rfl) (by kernel_rfl) (by kernel_rfl) (fun c a w h => hQ c _ _ _ w h) (Or.inr ⟨wanted_noA rfl (by kernel_rfl) f24_205 (Nat.lt_of_le_of_lt (by decide) qz24), rfl⟩) hS ?_
  change wpAnyH _ _ _ _ _ _ _ (a0_24.put (some 216) (undef)) _
  obtain ⟨a0_25, ha25⟩ : ∃ rr : Act, rr = a0_24.put (some 216) (undef) := ⟨_, rfl⟩
  have qz25 : 218 < a0_25.tmps.size := by rw [ha25, sz_put]; exact qz24
  have f25_202 : a0_25.eval (.tmp 202) = .bool false := by rw [ha25, ev_other _ _ _ _ (by decide)]; exact f24_202
  have f25_205 : a0_25.eval (.tmp 205) = .bool false := by rw [ha25, ev_other _ _ _ _ (by decide)]; exact f24_205
  have f25_216 : a0_25.eval (.tmp 216) = undef := by rw [ha25]; exact ev_same _ _ _ (Nat.lt_of_le_of_lt (by decide) qz24)
  rw [← ha25] at h0 ⊢
  clear ha25
  refine wpAnyH_take (i := 25) (oi := an_25 s) (v := .bool false) (by kernel_rfl) (by kernel_rfl) (by kernel_rfl) (by kernel_rfl) (fun c a w h => hQ c _ _ _ w h) (Or.inl ⟨wanted_some rfl (by kernel_rfl) f25_202 (Nat.lt_of_le_of_lt (by decide) qz25), fun w hw => by simp only [execOp, an_25, f25_205]; rfl⟩) hS ?_
  change wpAnyH _ _ _ _ _ _ _ (a0_25.put (some 217) (.bool false)) _
  obtain ⟨a0_26, ha26⟩ : ∃ rr : Act, rr = a0_25.put (some 217) (.bool false) := ⟨_, rfl⟩
  have qz26 : 218 < a0_26.tmps.size := by rw [ha26, sz_put]; exact qz25
  have f26_202 : a0_26.eval (.tmp 202) = .bool false := by rw [ha26, ev_other _ _ _ _ (by decide)]; exact f25_202
  have f26_217 : a0_26.eval (.tmp 217) = .bool false := by rw [ha26]; exact ev_same _ _ _ (Nat.lt_of_le_of_lt (by decide) qz25)
  rw [← ha26] at h0 ⊢
  clear ha26
  refine wpAnyH_take (i := 26) (oi := an_26 s) (v := .bool false) (by kernel_rfl) (by kernel_rfl) (by kernel_rfl) (by kernel_rfl) (fun c a w h => hQ c _ _ _ w h) (Or.inl ⟨wanted_none rfl, fun w hw => by simp only [execOp, an_26, f26_202, f26_217]; rfl⟩) hS ?_
  change wpAnyH _ _ _ _ _ _ _ (a0_26.put (some 218) (.bool false)) _
  obtain ⟨a0_27, ha27⟩ : ∃ rr : Act, rr = a0_26.put (some 218) (.bool false) := ⟨_, rfl⟩
  have qz27 : 218 < a0_27.tmps.size := by rw [ha27, sz_put]; exact qz26
  rw [← ha27] at h0 ⊢
  clear ha27
  refine wpAnyH_done (by kernel_rfl) ?_ _
  exact h0
def ao_0 (s : String) : Oper := { dst := some 192, op := Op.move (Operand.tmp 14), type := 4, pos := s, after := #[], guard := none }
def ao_1 (s : String) : Oper := { dst := some 193, op := Op.unOp UnOp.not 4 (Operand.tmp 192), type := 4, pos := s, after := #[{ on := 0, ground := Ground.data }], guard := none }
def ao_2 (s : String) : Oper := { dst := some 194, op := Op.move (Operand.tmp 193), type := 4, pos := s, after := #[{ on := 1, ground := Ground.data }], guard := none }
def ao_3 (s : String) : Oper := { dst := some 195, op := Op.load 24 (Operand.tmp 13), type := 24, pos := s, after := #[{ on := 2, ground := Ground.guard }], guard := some (2, false) }
def ao_4 (s : String) : Oper := { dst := some 196, op := Op.move (Operand.tmp 10), type := 48, pos := s, after := #[{ on := 2, ground := Ground.guard }], guard := some (2, false) }
def ao_5 (s : String) : Oper := { dst := some 197, op := Op.move (Operand.tmp 15), type := 3, pos := s, after := #[{ on := 2, ground := Ground.guard }], guard := some (2, false) }
def ao_6 (s : String) : Oper := { dst := some 198, op := Op.indexAddr 48 (Operand.tmp 196) (Operand.tmp 197), type := 0, pos := s, after := #[{ on := 4, ground := Ground.data }, { on := 5, ground := Ground.data }, { on := 2, ground := Ground.guard }], guard := some (2, false) }
def ao_7 (s : String) : Oper := { dst := some 199, op := Op.load 24 (Operand.tmp 198), type := 24, pos := s, after := #[{ on := 6, ground := Ground.data }, { on := 2, ground := Ground.guard }], guard := some (2, false) }
def ao_8 (s : String) : Oper := { dst := some 200, op := Op.binOp BinOp.neq 24 (Operand.tmp 195) (Operand.tmp 199) 24, type := 4, pos := s, after := #[{ on := 3, ground := Ground.data }, { on := 7, ground := Ground.data }, { on := 2, ground := Ground.guard }], guard := some (2, false) }
def ao_9 (s : String) : Oper := { dst := some 201, op := Op.pick (Operand.tmp 194) (Operand.const (Value.bool true)) (Operand.tmp 200), type := 4, pos := s, after := #[{ on := 2, ground := Ground.data }, { on := 8, ground := Ground.data }], guard := none }
def ao_10 (s : String) : Oper := { dst := some 202, op := Op.move (Operand.tmp 201), type := 4, pos := s, after := #[{ on := 9, ground := Ground.data }, { on := 2, ground := Ground.chain }], guard := none }
def ao_11 (s : String) : Oper := { dst := some 203, op := Op.move (Operand.tmp 15), type := 3, pos := s, after := #[{ on := 10, ground := Ground.guard }], guard := some (10, false) }
def ao_12 (s : String) : Oper := { dst := some 204, op := Op.binOp BinOp.gtr 3 (Operand.tmp 203) (Operand.const (Value.int IntKind.i64 0)) 3, type := 4, pos := s, after := #[{ on := 11, ground := Ground.data }, { on := 10, ground := Ground.guard }], guard := some (10, false) }
def ao_13 (s : String) : Oper := { dst := some 205, op := Op.move (Operand.tmp 204), type := 4, pos := s, after := #[{ on := 12, ground := Ground.data }, { on := 10, ground := Ground.chain }, { on := 10, ground := Ground.guard }], guard := some (10, false) }
def ao_14 (s : String) : Oper := { dst := some 206, op := Op.move (Operand.tmp 10), type := 48, pos := s, after := #[{ on := 13, ground := Ground.guard }], guard := some (13, true) }
def ao_15 (s : String) : Oper := { dst := some 207, op := Op.move (Operand.tmp 15), type := 3, pos := s, after := #[{ on := 13, ground := Ground.guard }], guard := some (13, true) }
def ao_16 (s : String) : Oper := { dst := some 208, op := Op.binOp BinOp.sub 3 (Operand.tmp 207) (Operand.const (Value.int IntKind.i64 1)) 3, type := 3, pos := s, after := #[{ on := 15, ground := Ground.data }, { on := 13, ground := Ground.guard }], guard := some (13, true) }
def ao_17 (s : String) : Oper := { dst := some 209, op := Op.indexAddr 48 (Operand.tmp 206) (Operand.tmp 208), type := 0, pos := s, after := #[{ on := 14, ground := Ground.data }, { on := 16, ground := Ground.data }, { on := 13, ground := Ground.guard }], guard := some (13, true) }
def ao_18 (s : String) : Oper := { dst := some 210, op := Op.load 24 (Operand.tmp 209), type := 24, pos := s, after := #[{ on := 17, ground := Ground.data }, { on := 13, ground := Ground.guard }], guard := some (13, true) }
def ao_19 (s : String) : Oper := { dst := some 211, op := Op.move (Operand.tmp 10), type := 48, pos := s, after := #[{ on := 13, ground := Ground.guard }], guard := some (13, true) }
def ao_20 (s : String) : Oper := { dst := some 212, op := Op.move (Operand.tmp 15), type := 3, pos := s, after := #[{ on := 13, ground := Ground.guard }], guard := some (13, true) }
def ao_21 (s : String) : Oper := { dst := some 213, op := Op.indexAddr 48 (Operand.tmp 211) (Operand.tmp 212), type := 0, pos := s, after := #[{ on := 19, ground := Ground.data }, { on := 20, ground := Ground.data }, { on := 13, ground := Ground.guard }], guard := some (13, true) }
def ao_22 (s : String) : Oper := { dst := some 214, op := Op.load 24 (Operand.tmp 213), type := 24, pos := s, after := #[{ on := 21, ground := Ground.data }, { on := 13, ground := Ground.guard }], guard := some (13, true) }
def ao_23 (s : String) : Oper := { dst := some 215, op := Op.call { callee := Callee.value (Operand.func 8), args := #[Operand.tmp 210, Operand.tmp 214], argTypes := #[24, 24] }, type := 3, pos := s, after := #[{ on := 18, ground := Ground.data }, { on := 22, ground := Ground.data }, { on := 13, ground := Ground.chain }, { on := 13, ground := Ground.guard }], guard := some (13, true) }
def ao_24 (s : String) : Oper := { dst := some 216, op := Op.binOp BinOp.neq 3 (Operand.tmp 215) (Operand.const (Value.int IntKind.i64 (-1))) 3, type := 4, pos := s, after := #[{ on := 23, ground := Ground.data }, { on := 13, ground := Ground.guard }], guard := some (13, true) }
def ao_25 (s : String) : Oper := { dst := some 217, op := Op.pick (Operand.tmp 205) (Operand.tmp 216) (Operand.const (Value.bool false)), type := 4, pos := s, after := #[{ on := 13, ground := Ground.data }, { on := 24, ground := Ground.data }, { on := 10, ground := Ground.guard }], guard := some (10, false) }
def ao_26 (s : String) : Oper := { dst := some 218, op := Op.pick (Operand.tmp 202) (Operand.const (Value.bool true)) (Operand.tmp 217), type := 4, pos := s, after := #[{ on := 10, ground := Ground.data }, { on := 25, ground := Ground.data }], guard := none }
def ao_ops (s : String) : Array Oper := #[ao_0 s, ao_1 s, ao_2 s, ao_3 s, ao_4 s, ao_5 s, ao_6 s, ao_7 s, ao_8 s, ao_9 s, ao_10 s, ao_11 s, ao_12 s, ao_13 s, ao_14 s, ao_15 s, ao_16 s, ao_17 s, ao_18 s, ao_19 s, ao_20 s, ao_21 s, ao_22 s, ao_23 s, ao_24 s, ao_25 s, ao_26 s]
theorem ao_enter23 (s : String) (a : Act) (w : World) : (execOp a.eval (ao_23 s)).run Try.prog w = .ok (.enter 8 #[a.eval (.tmp 210), a.eval (.tmp 214)]) w := by kernel_rfl
theorem ao_walk (s : String) {Q : Exit → Act → World → Prop} (hQ : ∀ c (a : Act) t v w, Q (.panic c) (a.put (some t) v) w → Q (.panic c) a w) (W : World) (za g o n c i : Nat) (k y : List UInt8) (hkl : k.length = 32) (hyl : y.length = 32) (hi : i < n) (h0i : 1 ≤ i) (h1i : i ≤ 9223372036854775807) (hk : ∀ w', Below W.heap.size W w' → KeyAt w' za k ∧ w'.rangeAt g (o + i * 32) (k.map u8c) ∧ w'.rangeAt g (o + (i - 1) * 32) (y.map u8c)) (hc1 : Calls Try.prog 8 #[keyV y, keyV k] W.drew fun e w' => e = .returned (.int .i64 (-1)) ∧ Below W.drew.heap.size W.drew w')
    (a : Act) (hs : 218 < a.tmps.size) (e10 : a.eval (.tmp 10) = .slice (some ⟨g, o, none⟩) n c) (e13 : a.eval (.tmp 13) = .pointer (some ⟨za, 0, none⟩)) (e14 : a.eval (.tmp 14) = .bool true) (e15 : a.eval (.tmp 15) = .int .i64 (i : Int))
    (h0 : ∀ w1, Below W.heap.size W w1 → Q .normal (((((((((((((((((((((((((((a.put (some 192) (.bool true)).put (some 193) (.bool false)).put (some 194) (.bool false)).put (some 195) (keyV k)).put (some 196) (.slice (some ⟨g, o, none⟩) n c)).put (some 197) (.int .i64 (i : Int))).put (some 198) (.pointer (some ⟨g, o + i * 32, none⟩))).put (some 199) (keyV k)).put (some 200) (.bool false)).put (some 201) (.bool false)).put (some 202) (.bool false)).put (some 203) (.int .i64 (i : Int))).put (some 204) (.bool true)).put (some 205) (.bool true)).put (some 206) (.slice (some ⟨g, o, none⟩) n c)).put (some 207) (.int .i64 (i : Int))).put (some 208) (.int .i64 ((i - 1 : Nat) : Int))).put (some 209) (.pointer (some ⟨g, o + (i - 1) * 32, none⟩))).put (some 210) (keyV y)).put (some 211) (.slice (some ⟨g, o, none⟩) n c)).put (some 212) (.int .i64 (i : Int))).put (some 213) (.pointer (some ⟨g, o + i * 32, none⟩))).put (some 214) (keyV k)).put (some 215) (.int .i64 (-1))).put (some 216) (.bool false)).put (some 217) (.bool false)).put (some 218) (.bool false)) w1) :
    Code.wp Try.prog (.region 22 (ao_ops s) true) Q a W := by
  refine wp_region_held_drew (S := fun w => KeyAt w za k ∧ w.rangeAt g (o + i * 32) (k.map u8c) ∧ w.rangeAt g (o + (i - 1) * 32) (y.map u8c)) (by kernel_rfl) (hk _ (below_d W)) (fun hS => ?_)
  change wpAnyH _ _ _ _ _ _ _ _ (World.drew _)
  refine wpAnyH_take (i := 0) (oi := ao_0 s) (v := .bool true) (by kernel_rfl) (by kernel_rfl) (by kernel_rfl) (by kernel_rfl) (fun c a w h => hQ c _ _ _ w h) (Or.inl ⟨wanted_none rfl, fun w hw => by simp only [execOp, ao_0, e14]; rfl⟩) hS ?_
  change wpAnyH _ _ _ _ _ _ _ (a.put (some 192) (.bool true)) _
  obtain ⟨a0_1, ha1⟩ : ∃ rr : Act, rr = a.put (some 192) (.bool true) := ⟨_, rfl⟩
  have qz1 : 218 < a0_1.tmps.size := by rw [ha1, sz_put]; exact hs
  have f1_10 : a0_1.eval (.tmp 10) = .slice (some ⟨g, o, none⟩) n c := by rw [ha1, ev_other _ _ _ _ (by decide)]; exact e10
  have f1_13 : a0_1.eval (.tmp 13) = .pointer (some ⟨za, 0, none⟩) := by rw [ha1, ev_other _ _ _ _ (by decide)]; exact e13
  have f1_15 : a0_1.eval (.tmp 15) = .int .i64 (i : Int) := by rw [ha1, ev_other _ _ _ _ (by decide)]; exact e15
  have f1_192 : a0_1.eval (.tmp 192) = .bool true := by rw [ha1]; exact ev_same _ _ _ (Nat.lt_of_le_of_lt (by decide) hs)
  rw [← ha1] at h0 ⊢
  clear ha1
  refine wpAnyH_take (i := 1) (oi := ao_1 s) (v := .bool false) (by kernel_rfl) (by kernel_rfl) (by kernel_rfl) (by kernel_rfl) (fun c a w h => hQ c _ _ _ w h) (Or.inl ⟨wanted_none rfl, fun w hw => by simp only [execOp, ao_1, f1_192]; kernel_rfl⟩) hS ?_
  change wpAnyH _ _ _ _ _ _ _ (a0_1.put (some 193) (.bool false)) _
  obtain ⟨a0_2, ha2⟩ : ∃ rr : Act, rr = a0_1.put (some 193) (.bool false) := ⟨_, rfl⟩
  have qz2 : 218 < a0_2.tmps.size := by rw [ha2, sz_put]; exact qz1
  have f2_10 : a0_2.eval (.tmp 10) = .slice (some ⟨g, o, none⟩) n c := by rw [ha2, ev_other _ _ _ _ (by decide)]; exact f1_10
  have f2_13 : a0_2.eval (.tmp 13) = .pointer (some ⟨za, 0, none⟩) := by rw [ha2, ev_other _ _ _ _ (by decide)]; exact f1_13
  have f2_15 : a0_2.eval (.tmp 15) = .int .i64 (i : Int) := by rw [ha2, ev_other _ _ _ _ (by decide)]; exact f1_15
  have f2_193 : a0_2.eval (.tmp 193) = .bool false := by rw [ha2]; exact ev_same _ _ _ (Nat.lt_of_le_of_lt (by decide) qz1)
  rw [← ha2] at h0 ⊢
  clear ha2
  refine wpAnyH_take (i := 2) (oi := ao_2 s) (v := .bool false) (by kernel_rfl) (by kernel_rfl) (by kernel_rfl) (by kernel_rfl) (fun c a w h => hQ c _ _ _ w h) (Or.inl ⟨wanted_none rfl, fun w hw => by simp only [execOp, ao_2, f2_193]; rfl⟩) hS ?_
  change wpAnyH _ _ _ _ _ _ _ (a0_2.put (some 194) (.bool false)) _
  obtain ⟨a0_3, ha3⟩ : ∃ rr : Act, rr = a0_2.put (some 194) (.bool false) := ⟨_, rfl⟩
  have qz3 : 218 < a0_3.tmps.size := by rw [ha3, sz_put]; exact qz2
  have f3_10 : a0_3.eval (.tmp 10) = .slice (some ⟨g, o, none⟩) n c := by rw [ha3, ev_other _ _ _ _ (by decide)]; exact f2_10
  have f3_13 : a0_3.eval (.tmp 13) = .pointer (some ⟨za, 0, none⟩) := by rw [ha3, ev_other _ _ _ _ (by decide)]; exact f2_13
  have f3_15 : a0_3.eval (.tmp 15) = .int .i64 (i : Int) := by rw [ha3, ev_other _ _ _ _ (by decide)]; exact f2_15
  have f3_194 : a0_3.eval (.tmp 194) = .bool false := by rw [ha3]; exact ev_same _ _ _ (Nat.lt_of_le_of_lt (by decide) qz2)
  rw [← ha3] at h0 ⊢
  clear ha3
  refine wpAnyH_take (i := 3) (oi := ao_3 s) (v := keyV k) (by kernel_rfl) (by kernel_rfl) (by kernel_rfl) (by kernel_rfl) (fun c a w h => hQ c _ _ _ w h) (Or.inl ⟨wanted_some rfl (by kernel_rfl) f3_194 (Nat.lt_of_le_of_lt (by decide) qz3), fun w hw => run_load rfl f3_13 hw.1.load⟩) hS ?_
  change wpAnyH _ _ _ _ _ _ _ (a0_3.put (some 195) (keyV k)) _
  obtain ⟨a0_4, ha4⟩ : ∃ rr : Act, rr = a0_3.put (some 195) (keyV k) := ⟨_, rfl⟩
  have qz4 : 218 < a0_4.tmps.size := by rw [ha4, sz_put]; exact qz3
  have f4_10 : a0_4.eval (.tmp 10) = .slice (some ⟨g, o, none⟩) n c := by rw [ha4, ev_other _ _ _ _ (by decide)]; exact f3_10
  have f4_15 : a0_4.eval (.tmp 15) = .int .i64 (i : Int) := by rw [ha4, ev_other _ _ _ _ (by decide)]; exact f3_15
  have f4_194 : a0_4.eval (.tmp 194) = .bool false := by rw [ha4, ev_other _ _ _ _ (by decide)]; exact f3_194
  have f4_195 : a0_4.eval (.tmp 195) = keyV k := by rw [ha4]; exact ev_same _ _ _ (Nat.lt_of_le_of_lt (by decide) qz3)
  rw [← ha4] at h0 ⊢
  clear ha4
  refine wpAnyH_take (i := 4) (oi := ao_4 s) (v := .slice (some ⟨g, o, none⟩) n c) (by kernel_rfl) (by kernel_rfl) (by kernel_rfl) (by kernel_rfl) (fun c a w h => hQ c _ _ _ w h) (Or.inl ⟨wanted_some rfl (by kernel_rfl) f4_194 (Nat.lt_of_le_of_lt (by decide) qz4), fun w hw => by simp only [execOp, ao_4, f4_10]; rfl⟩) hS ?_
  change wpAnyH _ _ _ _ _ _ _ (a0_4.put (some 196) (.slice (some ⟨g, o, none⟩) n c)) _
  obtain ⟨a0_5, ha5⟩ : ∃ rr : Act, rr = a0_4.put (some 196) (.slice (some ⟨g, o, none⟩) n c) := ⟨_, rfl⟩
  have qz5 : 218 < a0_5.tmps.size := by rw [ha5, sz_put]; exact qz4
  have f5_10 : a0_5.eval (.tmp 10) = .slice (some ⟨g, o, none⟩) n c := by rw [ha5, ev_other _ _ _ _ (by decide)]; exact f4_10
  have f5_15 : a0_5.eval (.tmp 15) = .int .i64 (i : Int) := by rw [ha5, ev_other _ _ _ _ (by decide)]; exact f4_15
  have f5_194 : a0_5.eval (.tmp 194) = .bool false := by rw [ha5, ev_other _ _ _ _ (by decide)]; exact f4_194
  have f5_195 : a0_5.eval (.tmp 195) = keyV k := by rw [ha5, ev_other _ _ _ _ (by decide)]; exact f4_195
  have f5_196 : a0_5.eval (.tmp 196) = .slice (some ⟨g, o, none⟩) n c := by rw [ha5]; exact ev_same _ _ _ (Nat.lt_of_le_of_lt (by decide) qz4)
  rw [← ha5] at h0 ⊢
  clear ha5
  refine wpAnyH_take (i := 5) (oi := ao_5 s) (v := .int .i64 (i : Int)) (by kernel_rfl) (by kernel_rfl) (by kernel_rfl) (by kernel_rfl) (fun c a w h => hQ c _ _ _ w h) (Or.inl ⟨wanted_some rfl (by kernel_rfl) f5_194 (Nat.lt_of_le_of_lt (by decide) qz5), fun w hw => by simp only [execOp, ao_5, f5_15]; rfl⟩) hS ?_
  change wpAnyH _ _ _ _ _ _ _ (a0_5.put (some 197) (.int .i64 (i : Int))) _
  obtain ⟨a0_6, ha6⟩ : ∃ rr : Act, rr = a0_5.put (some 197) (.int .i64 (i : Int)) := ⟨_, rfl⟩
  have qz6 : 218 < a0_6.tmps.size := by rw [ha6, sz_put]; exact qz5
  have f6_10 : a0_6.eval (.tmp 10) = .slice (some ⟨g, o, none⟩) n c := by rw [ha6, ev_other _ _ _ _ (by decide)]; exact f5_10
  have f6_15 : a0_6.eval (.tmp 15) = .int .i64 (i : Int) := by rw [ha6, ev_other _ _ _ _ (by decide)]; exact f5_15
  have f6_194 : a0_6.eval (.tmp 194) = .bool false := by rw [ha6, ev_other _ _ _ _ (by decide)]; exact f5_194
  have f6_195 : a0_6.eval (.tmp 195) = keyV k := by rw [ha6, ev_other _ _ _ _ (by decide)]; exact f5_195
  have f6_196 : a0_6.eval (.tmp 196) = .slice (some ⟨g, o, none⟩) n c := by rw [ha6, ev_other _ _ _ _ (by decide)]; exact f5_196
  have f6_197 : a0_6.eval (.tmp 197) = .int .i64 (i : Int) := by rw [ha6]; exact ev_same _ _ _ (Nat.lt_of_le_of_lt (by decide) qz5)
  rw [← ha6] at h0 ⊢
  clear ha6
  refine wpAnyH_take (i := 6) (oi := ao_6 s) (v := .pointer (some ⟨g, o + i * 32, none⟩)) (by kernel_rfl) (by kernel_rfl) (by kernel_rfl) (by kernel_rfl) (fun c a w h => hQ c _ _ _ w h) (Or.inl ⟨wanted_some rfl (by kernel_rfl) f6_194 (Nat.lt_of_le_of_lt (by decide) qz6), fun w hw => run_idxA rfl f6_196 f6_197 hi w⟩) hS ?_
  change wpAnyH _ _ _ _ _ _ _ (a0_6.put (some 198) (.pointer (some ⟨g, o + i * 32, none⟩))) _
  obtain ⟨a0_7, ha7⟩ : ∃ rr : Act, rr = a0_6.put (some 198) (.pointer (some ⟨g, o + i * 32, none⟩)) := ⟨_, rfl⟩
  have qz7 : 218 < a0_7.tmps.size := by rw [ha7, sz_put]; exact qz6
  have f7_10 : a0_7.eval (.tmp 10) = .slice (some ⟨g, o, none⟩) n c := by rw [ha7, ev_other _ _ _ _ (by decide)]; exact f6_10
  have f7_15 : a0_7.eval (.tmp 15) = .int .i64 (i : Int) := by rw [ha7, ev_other _ _ _ _ (by decide)]; exact f6_15
  have f7_194 : a0_7.eval (.tmp 194) = .bool false := by rw [ha7, ev_other _ _ _ _ (by decide)]; exact f6_194
  have f7_195 : a0_7.eval (.tmp 195) = keyV k := by rw [ha7, ev_other _ _ _ _ (by decide)]; exact f6_195
  have f7_198 : a0_7.eval (.tmp 198) = .pointer (some ⟨g, o + i * 32, none⟩) := by rw [ha7]; exact ev_same _ _ _ (Nat.lt_of_le_of_lt (by decide) qz6)
  rw [← ha7] at h0 ⊢
  clear ha7
  refine wpAnyH_take (i := 7) (oi := ao_7 s) (v := keyV k) (by kernel_rfl) (by kernel_rfl) (by kernel_rfl) (by kernel_rfl) (fun c a w h => hQ c _ _ _ w h) (Or.inl ⟨wanted_some rfl (by kernel_rfl) f7_194 (Nat.lt_of_le_of_lt (by decide) qz7), fun w hw => run_load rfl f7_198 (loadAt_key hkl hw.2.1)⟩) hS ?_
  change wpAnyH _ _ _ _ _ _ _ (a0_7.put (some 199) (keyV k)) _
  obtain ⟨a0_8, ha8⟩ : ∃ rr : Act, rr = a0_7.put (some 199) (keyV k) := ⟨_, rfl⟩
  have qz8 : 218 < a0_8.tmps.size := by rw [ha8, sz_put]; exact qz7
  have f8_10 : a0_8.eval (.tmp 10) = .slice (some ⟨g, o, none⟩) n c := by rw [ha8, ev_other _ _ _ _ (by decide)]; exact f7_10
  have f8_15 : a0_8.eval (.tmp 15) = .int .i64 (i : Int) := by rw [ha8, ev_other _ _ _ _ (by decide)]; exact f7_15
  have f8_194 : a0_8.eval (.tmp 194) = .bool false := by rw [ha8, ev_other _ _ _ _ (by decide)]; exact f7_194
  have f8_195 : a0_8.eval (.tmp 195) = keyV k := by rw [ha8, ev_other _ _ _ _ (by decide)]; exact f7_195
  have f8_199 : a0_8.eval (.tmp 199) = keyV k := by rw [ha8]; exact ev_same _ _ _ (Nat.lt_of_le_of_lt (by decide) qz7)
  rw [← ha8] at h0 ⊢
  clear ha8
  refine wpAnyH_take (i := 8) (oi := ao_8 s) (v := .bool false) (by kernel_rfl) (by kernel_rfl) (by kernel_rfl) (by kernel_rfl) (fun c a w h => hQ c _ _ _ w h) (Or.inl ⟨wanted_some rfl (by kernel_rfl) f8_194 (Nat.lt_of_le_of_lt (by decide) qz8), fun w hw => run_neqKA rfl f8_195 f8_199 hkl w⟩) hS ?_
  change wpAnyH _ _ _ _ _ _ _ (a0_8.put (some 200) (.bool false)) _
  obtain ⟨a0_9, ha9⟩ : ∃ rr : Act, rr = a0_8.put (some 200) (.bool false) := ⟨_, rfl⟩
  have qz9 : 218 < a0_9.tmps.size := by rw [ha9, sz_put]; exact qz8
  have f9_10 : a0_9.eval (.tmp 10) = .slice (some ⟨g, o, none⟩) n c := by rw [ha9, ev_other _ _ _ _ (by decide)]; exact f8_10
  have f9_15 : a0_9.eval (.tmp 15) = .int .i64 (i : Int) := by rw [ha9, ev_other _ _ _ _ (by decide)]; exact f8_15
  have f9_194 : a0_9.eval (.tmp 194) = .bool false := by rw [ha9, ev_other _ _ _ _ (by decide)]; exact f8_194
  have f9_200 : a0_9.eval (.tmp 200) = .bool false := by rw [ha9]; exact ev_same _ _ _ (Nat.lt_of_le_of_lt (by decide) qz8)
  rw [← ha9] at h0 ⊢
  clear ha9
  refine wpAnyH_take (i := 9) (oi := ao_9 s) (v := .bool false) (by kernel_rfl) (by kernel_rfl) (by kernel_rfl) (by kernel_rfl) (fun c a w h => hQ c _ _ _ w h) (Or.inl ⟨wanted_none rfl, fun w hw => by simp only [execOp, ao_9, f9_194, f9_200]; rfl⟩) hS ?_
  change wpAnyH _ _ _ _ _ _ _ (a0_9.put (some 201) (.bool false)) _
  obtain ⟨a0_10, ha10⟩ : ∃ rr : Act, rr = a0_9.put (some 201) (.bool false) := ⟨_, rfl⟩
  have qz10 : 218 < a0_10.tmps.size := by rw [ha10, sz_put]; exact qz9
  have f10_10 : a0_10.eval (.tmp 10) = .slice (some ⟨g, o, none⟩) n c := by rw [ha10, ev_other _ _ _ _ (by decide)]; exact f9_10
  have f10_15 : a0_10.eval (.tmp 15) = .int .i64 (i : Int) := by rw [ha10, ev_other _ _ _ _ (by decide)]; exact f9_15
  have f10_201 : a0_10.eval (.tmp 201) = .bool false := by rw [ha10]; exact ev_same _ _ _ (Nat.lt_of_le_of_lt (by decide) qz9)
  rw [← ha10] at h0 ⊢
  clear ha10
  refine wpAnyH_take (i := 10) (oi := ao_10 s) (v := .bool false) (by kernel_rfl) (by kernel_rfl) (by kernel_rfl) (by kernel_rfl) (fun c a w h => hQ c _ _ _ w h) (Or.inl ⟨wanted_none rfl, fun w hw => by simp only [execOp, ao_10, f10_201]; rfl⟩) hS ?_
  change wpAnyH _ _ _ _ _ _ _ (a0_10.put (some 202) (.bool false)) _
  obtain ⟨a0_11, ha11⟩ : ∃ rr : Act, rr = a0_10.put (some 202) (.bool false) := ⟨_, rfl⟩
  have qz11 : 218 < a0_11.tmps.size := by rw [ha11, sz_put]; exact qz10
  have f11_10 : a0_11.eval (.tmp 10) = .slice (some ⟨g, o, none⟩) n c := by rw [ha11, ev_other _ _ _ _ (by decide)]; exact f10_10
  have f11_15 : a0_11.eval (.tmp 15) = .int .i64 (i : Int) := by rw [ha11, ev_other _ _ _ _ (by decide)]; exact f10_15
  have f11_202 : a0_11.eval (.tmp 202) = .bool false := by rw [ha11]; exact ev_same _ _ _ (Nat.lt_of_le_of_lt (by decide) qz10)
  rw [← ha11] at h0 ⊢
  clear ha11
  refine wpAnyH_take (i := 11) (oi := ao_11 s) (v := .int .i64 (i : Int)) (by kernel_rfl) (by kernel_rfl) (by kernel_rfl) (by kernel_rfl) (fun c a w h => hQ c _ _ _ w h) (Or.inl ⟨wanted_some rfl (by kernel_rfl) f11_202 (Nat.lt_of_le_of_lt (by decide) qz11), fun w hw => by simp only [execOp, ao_11, f11_15]; rfl⟩) hS ?_
  change wpAnyH _ _ _ _ _ _ _ (a0_11.put (some 203) (.int .i64 (i : Int))) _
  obtain ⟨a0_12, ha12⟩ : ∃ rr : Act, rr = a0_11.put (some 203) (.int .i64 (i : Int)) := ⟨_, rfl⟩
  have qz12 : 218 < a0_12.tmps.size := by rw [ha12, sz_put]; exact qz11
  have f12_10 : a0_12.eval (.tmp 10) = .slice (some ⟨g, o, none⟩) n c := by rw [ha12, ev_other _ _ _ _ (by decide)]; exact f11_10
  have f12_15 : a0_12.eval (.tmp 15) = .int .i64 (i : Int) := by rw [ha12, ev_other _ _ _ _ (by decide)]; exact f11_15
  have f12_202 : a0_12.eval (.tmp 202) = .bool false := by rw [ha12, ev_other _ _ _ _ (by decide)]; exact f11_202
  have f12_203 : a0_12.eval (.tmp 203) = .int .i64 (i : Int) := by rw [ha12]; exact ev_same _ _ _ (Nat.lt_of_le_of_lt (by decide) qz11)
  rw [← ha12] at h0 ⊢
  clear ha12
  refine wpAnyH_take (i := 12) (oi := ao_12 s) (v := .bool true) (by kernel_rfl) (by kernel_rfl) (by kernel_rfl) (by kernel_rfl) (fun c a w h => hQ c _ _ _ w h) (Or.inl ⟨wanted_some rfl (by kernel_rfl) f12_202 (Nat.lt_of_le_of_lt (by decide) qz12), fun w hw => by rw [run_gtrA rfl f12_203 rfl w, decide_eq_true (show 0 < i by omega)]⟩) hS ?_
  change wpAnyH _ _ _ _ _ _ _ (a0_12.put (some 204) (.bool true)) _
  obtain ⟨a0_13, ha13⟩ : ∃ rr : Act, rr = a0_12.put (some 204) (.bool true) := ⟨_, rfl⟩
  have qz13 : 218 < a0_13.tmps.size := by rw [ha13, sz_put]; exact qz12
  have f13_10 : a0_13.eval (.tmp 10) = .slice (some ⟨g, o, none⟩) n c := by rw [ha13, ev_other _ _ _ _ (by decide)]; exact f12_10
  have f13_15 : a0_13.eval (.tmp 15) = .int .i64 (i : Int) := by rw [ha13, ev_other _ _ _ _ (by decide)]; exact f12_15
  have f13_202 : a0_13.eval (.tmp 202) = .bool false := by rw [ha13, ev_other _ _ _ _ (by decide)]; exact f12_202
  have f13_204 : a0_13.eval (.tmp 204) = .bool true := by rw [ha13]; exact ev_same _ _ _ (Nat.lt_of_le_of_lt (by decide) qz12)
  rw [← ha13] at h0 ⊢
  clear ha13
  refine wpAnyH_take (i := 13) (oi := ao_13 s) (v := .bool true) (by kernel_rfl) (by kernel_rfl) (by kernel_rfl) (by kernel_rfl) (fun c a w h => hQ c _ _ _ w h) (Or.inl ⟨wanted_some rfl (by kernel_rfl) f13_202 (Nat.lt_of_le_of_lt (by decide) qz13), fun w hw => by simp only [execOp, ao_13, f13_204]; rfl⟩) hS ?_
  change wpAnyH _ _ _ _ _ _ _ (a0_13.put (some 205) (.bool true)) _
  obtain ⟨a0_14, ha14⟩ : ∃ rr : Act, rr = a0_13.put (some 205) (.bool true) := ⟨_, rfl⟩
  have qz14 : 218 < a0_14.tmps.size := by rw [ha14, sz_put]; exact qz13
  have f14_10 : a0_14.eval (.tmp 10) = .slice (some ⟨g, o, none⟩) n c := by rw [ha14, ev_other _ _ _ _ (by decide)]; exact f13_10
  have f14_15 : a0_14.eval (.tmp 15) = .int .i64 (i : Int) := by rw [ha14, ev_other _ _ _ _ (by decide)]; exact f13_15
  have f14_202 : a0_14.eval (.tmp 202) = .bool false := by rw [ha14, ev_other _ _ _ _ (by decide)]; exact f13_202
  have f14_205 : a0_14.eval (.tmp 205) = .bool true := by rw [ha14]; exact ev_same _ _ _ (Nat.lt_of_le_of_lt (by decide) qz13)
  rw [← ha14] at h0 ⊢
  clear ha14
  refine wpAnyH_take (i := 14) (oi := ao_14 s) (v := .slice (some ⟨g, o, none⟩) n c) (by kernel_rfl) (by kernel_rfl) (by kernel_rfl) (by kernel_rfl) (fun c a w h => hQ c _ _ _ w h) (Or.inl ⟨wanted_some rfl (by kernel_rfl) f14_205 (Nat.lt_of_le_of_lt (by decide) qz14), fun w hw => by simp only [execOp, ao_14, f14_10]; rfl⟩) hS ?_
  change wpAnyH _ _ _ _ _ _ _ (a0_14.put (some 206) (.slice (some ⟨g, o, none⟩) n c)) _
  obtain ⟨a0_15, ha15⟩ : ∃ rr : Act, rr = a0_14.put (some 206) (.slice (some ⟨g, o, none⟩) n c) := ⟨_, rfl⟩
  have qz15 : 218 < a0_15.tmps.size := by rw [ha15, sz_put]; exact qz14
  have f15_10 : a0_15.eval (.tmp 10) = .slice (some ⟨g, o, none⟩) n c := by rw [ha15, ev_other _ _ _ _ (by decide)]; exact f14_10
  have f15_15 : a0_15.eval (.tmp 15) = .int .i64 (i : Int) := by rw [ha15, ev_other _ _ _ _ (by decide)]; exact f14_15
  have f15_202 : a0_15.eval (.tmp 202) = .bool false := by rw [ha15, ev_other _ _ _ _ (by decide)]; exact f14_202
  have f15_205 : a0_15.eval (.tmp 205) = .bool true := by rw [ha15, ev_other _ _ _ _ (by decide)]; exact f14_205
  have f15_206 : a0_15.eval (.tmp 206) = .slice (some ⟨g, o, none⟩) n c := by rw [ha15]; exact ev_same _ _ _ (Nat.lt_of_le_of_lt (by decide) qz14)
  rw [← ha15] at h0 ⊢
  clear ha15
  refine wpAnyH_take (i := 15) (oi := ao_15 s) (v := .int .i64 (i : Int)) (by kernel_rfl) (by kernel_rfl) (by kernel_rfl) (by kernel_rfl) (fun c a w h => hQ c _ _ _ w h) (Or.inl ⟨wanted_some rfl (by kernel_rfl) f15_205 (Nat.lt_of_le_of_lt (by decide) qz15), fun w hw => by simp only [execOp, ao_15, f15_15]; rfl⟩) hS ?_
  change wpAnyH _ _ _ _ _ _ _ (a0_15.put (some 207) (.int .i64 (i : Int))) _
  obtain ⟨a0_16, ha16⟩ : ∃ rr : Act, rr = a0_15.put (some 207) (.int .i64 (i : Int)) := ⟨_, rfl⟩
  have qz16 : 218 < a0_16.tmps.size := by rw [ha16, sz_put]; exact qz15
  have f16_10 : a0_16.eval (.tmp 10) = .slice (some ⟨g, o, none⟩) n c := by rw [ha16, ev_other _ _ _ _ (by decide)]; exact f15_10
  have f16_15 : a0_16.eval (.tmp 15) = .int .i64 (i : Int) := by rw [ha16, ev_other _ _ _ _ (by decide)]; exact f15_15
  have f16_202 : a0_16.eval (.tmp 202) = .bool false := by rw [ha16, ev_other _ _ _ _ (by decide)]; exact f15_202
  have f16_205 : a0_16.eval (.tmp 205) = .bool true := by rw [ha16, ev_other _ _ _ _ (by decide)]; exact f15_205
  have f16_206 : a0_16.eval (.tmp 206) = .slice (some ⟨g, o, none⟩) n c := by rw [ha16, ev_other _ _ _ _ (by decide)]; exact f15_206
  have f16_207 : a0_16.eval (.tmp 207) = .int .i64 (i : Int) := by rw [ha16]; exact ev_same _ _ _ (Nat.lt_of_le_of_lt (by decide) qz15)
  rw [← ha16] at h0 ⊢
  clear ha16
  refine wpAnyH_take (i := 16) (oi := ao_16 s) (v := .int .i64 ((i - 1 : Nat) : Int)) (by kernel_rfl) (by kernel_rfl) (by kernel_rfl) (by kernel_rfl) (fun c a w h => hQ c _ _ _ w h) (Or.inl ⟨wanted_some rfl (by kernel_rfl) f16_205 (Nat.lt_of_le_of_lt (by decide) qz16), fun w hw => run_subA rfl f16_207 rfl h0i h1i w⟩) hS ?_
  change wpAnyH _ _ _ _ _ _ _ (a0_16.put (some 208) (.int .i64 ((i - 1 : Nat) : Int))) _
  obtain ⟨a0_17, ha17⟩ : ∃ rr : Act, rr = a0_16.put (some 208) (.int .i64 ((i - 1 : Nat) : Int)) := ⟨_, rfl⟩
  have qz17 : 218 < a0_17.tmps.size := by rw [ha17, sz_put]; exact qz16
  have f17_10 : a0_17.eval (.tmp 10) = .slice (some ⟨g, o, none⟩) n c := by rw [ha17, ev_other _ _ _ _ (by decide)]; exact f16_10
  have f17_15 : a0_17.eval (.tmp 15) = .int .i64 (i : Int) := by rw [ha17, ev_other _ _ _ _ (by decide)]; exact f16_15
  have f17_202 : a0_17.eval (.tmp 202) = .bool false := by rw [ha17, ev_other _ _ _ _ (by decide)]; exact f16_202
  have f17_205 : a0_17.eval (.tmp 205) = .bool true := by rw [ha17, ev_other _ _ _ _ (by decide)]; exact f16_205
  have f17_206 : a0_17.eval (.tmp 206) = .slice (some ⟨g, o, none⟩) n c := by rw [ha17, ev_other _ _ _ _ (by decide)]; exact f16_206
  have f17_208 : a0_17.eval (.tmp 208) = .int .i64 ((i - 1 : Nat) : Int) := by rw [ha17]; exact ev_same _ _ _ (Nat.lt_of_le_of_lt (by decide) qz16)
  rw [← ha17] at h0 ⊢
  clear ha17
  refine wpAnyH_take (i := 17) (oi := ao_17 s) (v := .pointer (some ⟨g, o + (i - 1) * 32, none⟩)) (by kernel_rfl) (by kernel_rfl) (by kernel_rfl) (by kernel_rfl) (fun c a w h => hQ c _ _ _ w h) (Or.inl ⟨wanted_some rfl (by kernel_rfl) f17_205 (Nat.lt_of_le_of_lt (by decide) qz17), fun w hw => run_idxA rfl f17_206 f17_208 (by omega) w⟩) hS ?_
  change wpAnyH _ _ _ _ _ _ _ (a0_17.put (some 209) (.pointer (some ⟨g, o + (i - 1) * 32, none⟩))) _
  obtain ⟨a0_18, ha18⟩ : ∃ rr : Act, rr = a0_17.put (some 209) (.pointer (some ⟨g, o + (i - 1) * 32, none⟩)) := ⟨_, rfl⟩
  have qz18 : 218 < a0_18.tmps.size := by rw [ha18, sz_put]; exact qz17
  have f18_10 : a0_18.eval (.tmp 10) = .slice (some ⟨g, o, none⟩) n c := by rw [ha18, ev_other _ _ _ _ (by decide)]; exact f17_10
  have f18_15 : a0_18.eval (.tmp 15) = .int .i64 (i : Int) := by rw [ha18, ev_other _ _ _ _ (by decide)]; exact f17_15
  have f18_202 : a0_18.eval (.tmp 202) = .bool false := by rw [ha18, ev_other _ _ _ _ (by decide)]; exact f17_202
  have f18_205 : a0_18.eval (.tmp 205) = .bool true := by rw [ha18, ev_other _ _ _ _ (by decide)]; exact f17_205
  have f18_209 : a0_18.eval (.tmp 209) = .pointer (some ⟨g, o + (i - 1) * 32, none⟩) := by rw [ha18]; exact ev_same _ _ _ (Nat.lt_of_le_of_lt (by decide) qz17)
  rw [← ha18] at h0 ⊢
  clear ha18
  refine wpAnyH_take (i := 18) (oi := ao_18 s) (v := keyV y) (by kernel_rfl) (by kernel_rfl) (by kernel_rfl) (by kernel_rfl) (fun c a w h => hQ c _ _ _ w h) (Or.inl ⟨wanted_some rfl (by kernel_rfl) f18_205 (Nat.lt_of_le_of_lt (by decide) qz18), fun w hw => run_load rfl f18_209 (loadAt_key hyl hw.2.2)⟩) hS ?_
  change wpAnyH _ _ _ _ _ _ _ (a0_18.put (some 210) (keyV y)) _
  obtain ⟨a0_19, ha19⟩ : ∃ rr : Act, rr = a0_18.put (some 210) (keyV y) := ⟨_, rfl⟩
  have qz19 : 218 < a0_19.tmps.size := by rw [ha19, sz_put]; exact qz18
  have f19_10 : a0_19.eval (.tmp 10) = .slice (some ⟨g, o, none⟩) n c := by rw [ha19, ev_other _ _ _ _ (by decide)]; exact f18_10
  have f19_15 : a0_19.eval (.tmp 15) = .int .i64 (i : Int) := by rw [ha19, ev_other _ _ _ _ (by decide)]; exact f18_15
  have f19_202 : a0_19.eval (.tmp 202) = .bool false := by rw [ha19, ev_other _ _ _ _ (by decide)]; exact f18_202
  have f19_205 : a0_19.eval (.tmp 205) = .bool true := by rw [ha19, ev_other _ _ _ _ (by decide)]; exact f18_205
  have f19_210 : a0_19.eval (.tmp 210) = keyV y := by rw [ha19]; exact ev_same _ _ _ (Nat.lt_of_le_of_lt (by decide) qz18)
  rw [← ha19] at h0 ⊢
  clear ha19
  refine wpAnyH_take (i := 19) (oi := ao_19 s) (v := .slice (some ⟨g, o, none⟩) n c) (by kernel_rfl) (by kernel_rfl) (by kernel_rfl) (by kernel_rfl) (fun c a w h => hQ c _ _ _ w h) (Or.inl ⟨wanted_some rfl (by kernel_rfl) f19_205 (Nat.lt_of_le_of_lt (by decide) qz19), fun w hw => by simp only [execOp, ao_19, f19_10]; rfl⟩) hS ?_
  change wpAnyH _ _ _ _ _ _ _ (a0_19.put (some 211) (.slice (some ⟨g, o, none⟩) n c)) _
  obtain ⟨a0_20, ha20⟩ : ∃ rr : Act, rr = a0_19.put (some 211) (.slice (some ⟨g, o, none⟩) n c) := ⟨_, rfl⟩
  have qz20 : 218 < a0_20.tmps.size := by rw [ha20, sz_put]; exact qz19
  have f20_15 : a0_20.eval (.tmp 15) = .int .i64 (i : Int) := by rw [ha20, ev_other _ _ _ _ (by decide)]; exact f19_15
  have f20_202 : a0_20.eval (.tmp 202) = .bool false := by rw [ha20, ev_other _ _ _ _ (by decide)]; exact f19_202
  have f20_205 : a0_20.eval (.tmp 205) = .bool true := by rw [ha20, ev_other _ _ _ _ (by decide)]; exact f19_205
  have f20_210 : a0_20.eval (.tmp 210) = keyV y := by rw [ha20, ev_other _ _ _ _ (by decide)]; exact f19_210
  have f20_211 : a0_20.eval (.tmp 211) = .slice (some ⟨g, o, none⟩) n c := by rw [ha20]; exact ev_same _ _ _ (Nat.lt_of_le_of_lt (by decide) qz19)
  rw [← ha20] at h0 ⊢
  clear ha20
  refine wpAnyH_take (i := 20) (oi := ao_20 s) (v := .int .i64 (i : Int)) (by kernel_rfl) (by kernel_rfl) (by kernel_rfl) (by kernel_rfl) (fun c a w h => hQ c _ _ _ w h) (Or.inl ⟨wanted_some rfl (by kernel_rfl) f20_205 (Nat.lt_of_le_of_lt (by decide) qz20), fun w hw => by simp only [execOp, ao_20, f20_15]; rfl⟩) hS ?_
  change wpAnyH _ _ _ _ _ _ _ (a0_20.put (some 212) (.int .i64 (i : Int))) _
  obtain ⟨a0_21, ha21⟩ : ∃ rr : Act, rr = a0_20.put (some 212) (.int .i64 (i : Int)) := ⟨_, rfl⟩
  have qz21 : 218 < a0_21.tmps.size := by rw [ha21, sz_put]; exact qz20
  have f21_202 : a0_21.eval (.tmp 202) = .bool false := by rw [ha21, ev_other _ _ _ _ (by decide)]; exact f20_202
  have f21_205 : a0_21.eval (.tmp 205) = .bool true := by rw [ha21, ev_other _ _ _ _ (by decide)]; exact f20_205
  have f21_210 : a0_21.eval (.tmp 210) = keyV y := by rw [ha21, ev_other _ _ _ _ (by decide)]; exact f20_210
  have f21_211 : a0_21.eval (.tmp 211) = .slice (some ⟨g, o, none⟩) n c := by rw [ha21, ev_other _ _ _ _ (by decide)]; exact f20_211
  have f21_212 : a0_21.eval (.tmp 212) = .int .i64 (i : Int) := by rw [ha21]; exact ev_same _ _ _ (Nat.lt_of_le_of_lt (by decide) qz20)
  rw [← ha21] at h0 ⊢
  clear ha21
  refine wpAnyH_take (i := 21) (oi := ao_21 s) (v := .pointer (some ⟨g, o + i * 32, none⟩)) (by kernel_rfl) (by kernel_rfl) (by kernel_rfl) (by kernel_rfl) (fun c a w h => hQ c _ _ _ w h) (Or.inl ⟨wanted_some rfl (by kernel_rfl) f21_205 (Nat.lt_of_le_of_lt (by decide) qz21), fun w hw => run_idxA rfl f21_211 f21_212 hi w⟩) hS ?_
  change wpAnyH _ _ _ _ _ _ _ (a0_21.put (some 213) (.pointer (some ⟨g, o + i * 32, none⟩))) _
  obtain ⟨a0_22, ha22⟩ : ∃ rr : Act, rr = a0_21.put (some 213) (.pointer (some ⟨g, o + i * 32, none⟩)) := ⟨_, rfl⟩
  have qz22 : 218 < a0_22.tmps.size := by rw [ha22, sz_put]; exact qz21
  have f22_202 : a0_22.eval (.tmp 202) = .bool false := by rw [ha22, ev_other _ _ _ _ (by decide)]; exact f21_202
  have f22_205 : a0_22.eval (.tmp 205) = .bool true := by rw [ha22, ev_other _ _ _ _ (by decide)]; exact f21_205
  have f22_210 : a0_22.eval (.tmp 210) = keyV y := by rw [ha22, ev_other _ _ _ _ (by decide)]; exact f21_210
  have f22_213 : a0_22.eval (.tmp 213) = .pointer (some ⟨g, o + i * 32, none⟩) := by rw [ha22]; exact ev_same _ _ _ (Nat.lt_of_le_of_lt (by decide) qz21)
  rw [← ha22] at h0 ⊢
  clear ha22
  refine wpAnyH_take (i := 22) (oi := ao_22 s) (v := keyV k) (by kernel_rfl) (by kernel_rfl) (by kernel_rfl) (by kernel_rfl) (fun c a w h => hQ c _ _ _ w h) (Or.inl ⟨wanted_some rfl (by kernel_rfl) f22_205 (Nat.lt_of_le_of_lt (by decide) qz22), fun w hw => run_load rfl f22_213 (loadAt_key hkl hw.2.1)⟩) hS ?_
  change wpAnyH _ _ _ _ _ _ _ (a0_22.put (some 214) (keyV k)) _
  obtain ⟨a0_23, ha23⟩ : ∃ rr : Act, rr = a0_22.put (some 214) (keyV k) := ⟨_, rfl⟩
  have qz23 : 218 < a0_23.tmps.size := by rw [ha23, sz_put]; exact qz22
  have f23_202 : a0_23.eval (.tmp 202) = .bool false := by rw [ha23, ev_other _ _ _ _ (by decide)]; exact f22_202
  have f23_205 : a0_23.eval (.tmp 205) = .bool true := by rw [ha23, ev_other _ _ _ _ (by decide)]; exact f22_205
  have f23_210 : a0_23.eval (.tmp 210) = keyV y := by rw [ha23, ev_other _ _ _ _ (by decide)]; exact f22_210
  have f23_214 : a0_23.eval (.tmp 214) = keyV k := by rw [ha23]; exact ev_same _ _ _ (Nat.lt_of_le_of_lt (by decide) qz22)
  rw [← ha23] at h0 ⊢
  clear ha23
  refine wpAnyH_ready (rs := [23]) (by kernel_rfl) (by simp) ?_
  refine AllReadyH.cons (o := ao_23 s) (by kernel_rfl) (fun KQ hKQ => ?_) AllReadyH.nil
  rw [if_pos (wanted_some rfl (by kernel_rfl) f23_205 (Nat.lt_of_le_of_lt (by decide) qz23))]
  refine step_enterE 8 #[keyV y, keyV k] (by rw [ao_enter23, f23_210, f23_214]) (fun V w' => V = .int .i64 (-1) ∧ Below W.heap.size W w') (hc1.mono (fun e w' h => ⟨_, h.1, rfl, (below_d W).trans h.2⟩)) ?_
  rintro _ w1 ⟨rfl, hb1⟩
  refine hKQ.out _ _ (hk w1 hb1) (fun _ => ?_)
  clear hKQ KQ
  change wpAnyH _ _ _ _ _ _ _ (a0_23.put (some 215) (.int .i64 (-1))) _
  have h0 := h0 w1 hb1
  obtain ⟨a0_24, ha24⟩ : ∃ rr : Act, rr = a0_23.put (some 215) (.int .i64 (-1)) := ⟨_, rfl⟩
  have qz24 : 218 < a0_24.tmps.size := by rw [ha24, sz_put]; exact qz23
  have f24_202 : a0_24.eval (.tmp 202) = .bool false := by rw [ha24, ev_other _ _ _ _ (by decide)]; exact f23_202
  have f24_205 : a0_24.eval (.tmp 205) = .bool true := by rw [ha24, ev_other _ _ _ _ (by decide)]; exact f23_205
  have f24_215 : a0_24.eval (.tmp 215) = .int .i64 (-1) := by rw [ha24]; exact ev_same _ _ _ (Nat.lt_of_le_of_lt (by decide) qz23)
  rw [← ha24] at h0 ⊢
  clear ha24
  refine wpAnyH_take (i := 24) (oi := ao_24 s) (v := .bool false) (by kernel_rfl) (by kernel_rfl) (by kernel_rfl) (by kernel_rfl) (fun c a w h => hQ c _ _ _ w h) (Or.inl ⟨wanted_some rfl (by kernel_rfl) f24_205 (Nat.lt_of_le_of_lt (by decide) qz24), fun w hw => by simp only [execOp, ao_24, f24_215]; kernel_rfl⟩) (hk w1 hb1) ?_
  change wpAnyH _ _ _ _ _ _ _ (a0_24.put (some 216) (.bool false)) _
  obtain ⟨a0_25, ha25⟩ : ∃ rr : Act, rr = a0_24.put (some 216) (.bool false) := ⟨_, rfl⟩
  have qz25 : 218 < a0_25.tmps.size := by rw [ha25, sz_put]; exact qz24
  have f25_202 : a0_25.eval (.tmp 202) = .bool false := by rw [ha25, ev_other _ _ _ _ (by decide)]; exact f24_202
  have f25_205 : a0_25.eval (.tmp 205) = .bool true := by rw [ha25, ev_other _ _ _ _ (by decide)]; exact f24_205
  have f25_216 : a0_25.eval (.tmp 216) = .bool false := by rw [ha25]; exact ev_same _ _ _ (Nat.lt_of_le_of_lt (by decide) qz24)
  rw [← ha25] at h0 ⊢
  clear ha25
  refine wpAnyH_take (i := 25) (oi := ao_25 s) (v := .bool false) (by kernel_rfl) (by kernel_rfl) (by kernel_rfl) (by kernel_rfl) (fun c a w h => hQ c _ _ _ w h) (Or.inl ⟨wanted_some rfl (by kernel_rfl) f25_202 (Nat.lt_of_le_of_lt (by decide) qz25), fun w hw => by simp only [execOp, ao_25, f25_205, f25_216]; rfl⟩) (hk w1 hb1) ?_
  change wpAnyH _ _ _ _ _ _ _ (a0_25.put (some 217) (.bool false)) _
  obtain ⟨a0_26, ha26⟩ : ∃ rr : Act, rr = a0_25.put (some 217) (.bool false) := ⟨_, rfl⟩
  have qz26 : 218 < a0_26.tmps.size := by rw [ha26, sz_put]; exact qz25
  have f26_202 : a0_26.eval (.tmp 202) = .bool false := by rw [ha26, ev_other _ _ _ _ (by decide)]; exact f25_202
  have f26_217 : a0_26.eval (.tmp 217) = .bool false := by rw [ha26]; exact ev_same _ _ _ (Nat.lt_of_le_of_lt (by decide) qz25)
  rw [← ha26] at h0 ⊢
  clear ha26
  refine wpAnyH_take (i := 26) (oi := ao_26 s) (v := .bool false) (by kernel_rfl) (by kernel_rfl) (by kernel_rfl) (by kernel_rfl) (fun c a w h => hQ c _ _ _ w h) (Or.inl ⟨wanted_none rfl, fun w hw => by simp only [execOp, ao_26, f26_202, f26_217]; rfl⟩) (hk w1 hb1) ?_
  change wpAnyH _ _ _ _ _ _ _ (a0_26.put (some 218) (.bool false)) _
  obtain ⟨a0_27, ha27⟩ : ∃ rr : Act, rr = a0_26.put (some 218) (.bool false) := ⟨_, rfl⟩
  have qz27 : 218 < a0_27.tmps.size := by rw [ha27, sz_put]; exact qz26
  rw [← ha27] at h0 ⊢
  clear ha27
  refine wpAnyH_done (by kernel_rfl) ?_ _
  exact h0
def aq_0 (s : String) : Oper := { dst := some 258, op := Op.move (Operand.tmp 19), type := 28, pos := s, after := #[], guard := none }
def aq_1 (s : String) : Oper := { dst := some 259, op := Op.binOp BinOp.neq 28 (Operand.tmp 258) (Operand.const (Value.int IntKind.i64 0)) 28, type := 4, pos := s, after := #[{ on := 0, ground := Ground.data }], guard := none }
def aq_2 (s : String) : Oper := { dst := some 260, op := Op.move (Operand.tmp 259), type := 4, pos := s, after := #[{ on := 1, ground := Ground.data }], guard := none }
def aq_3 (s : String) : Oper := { dst := some 261, op := Op.load 24 (Operand.tmp 18), type := 24, pos := s, after := #[{ on := 2, ground := Ground.guard }], guard := some (2, false) }
def aq_4 (s : String) : Oper := { dst := some 262, op := Op.move (Operand.tmp 10), type := 48, pos := s, after := #[{ on := 2, ground := Ground.guard }], guard := some (2, false) }
def aq_5 (s : String) : Oper := { dst := some 263, op := Op.move (Operand.tmp 15), type := 3, pos := s, after := #[{ on := 2, ground := Ground.guard }], guard := some (2, false) }
def aq_6 (s : String) : Oper := { dst := some 264, op := Op.indexAddr 48 (Operand.tmp 262) (Operand.tmp 263), type := 0, pos := s, after := #[{ on := 4, ground := Ground.data }, { on := 5, ground := Ground.data }, { on := 2, ground := Ground.guard }], guard := some (2, false) }
def aq_7 (s : String) : Oper := { dst := some 265, op := Op.load 24 (Operand.tmp 264), type := 24, pos := s, after := #[{ on := 6, ground := Ground.data }, { on := 2, ground := Ground.guard }], guard := some (2, false) }
def aq_8 (s : String) : Oper := { dst := some 266, op := Op.binOp BinOp.neq 24 (Operand.tmp 261) (Operand.tmp 265) 24, type := 4, pos := s, after := #[{ on := 3, ground := Ground.data }, { on := 7, ground := Ground.data }, { on := 2, ground := Ground.guard }], guard := some (2, false) }
def aq_9 (s : String) : Oper := { dst := some 267, op := Op.pick (Operand.tmp 260) (Operand.const (Value.bool true)) (Operand.tmp 266), type := 4, pos := s, after := #[{ on := 2, ground := Ground.data }, { on := 8, ground := Ground.data }], guard := none }
def aq_ops (s : String) : Array Oper := #[aq_0 s, aq_1 s, aq_2 s, aq_3 s, aq_4 s, aq_5 s, aq_6 s, aq_7 s, aq_8 s, aq_9 s]
theorem aq_walk (s : String) {Q : Exit → Act → World → Prop} (hQ : ∀ c (a : Act) t v w, Q (.panic c) (a.put (some t) v) w → Q (.panic c) a w) (W : World) (zf g o n c i : Nat) (k : List UInt8) (hkl : k.length = 32) (hi : i < n) (hS0 : KeyAt W.drew zf k ∧ W.drew.rangeAt g (o + i * 32) (k.map u8c))
    (a : Act) (hs : 267 < a.tmps.size) (e10 : a.eval (.tmp 10) = .slice (some ⟨g, o, none⟩) n c) (e15 : a.eval (.tmp 15) = .int .i64 (i : Int)) (e18 : a.eval (.tmp 18) = .pointer (some ⟨zf, 0, none⟩)) (e19 : a.eval (.tmp 19) = .int .i64 0)
    (h0 :  Q .normal ((((((((((a.put (some 258) (.int .i64 0)).put (some 259) (.bool false)).put (some 260) (.bool false)).put (some 261) (keyV k)).put (some 262) (.slice (some ⟨g, o, none⟩) n c)).put (some 263) (.int .i64 (i : Int))).put (some 264) (.pointer (some ⟨g, o + i * 32, none⟩))).put (some 265) (keyV k)).put (some 266) (.bool false)).put (some 267) (.bool false)) W.drew) :
    Code.wp Try.prog (.region 28 (aq_ops s) true) Q a W := by
  refine wp_region_held_drew (S := fun w => KeyAt w zf k ∧ w.rangeAt g (o + i * 32) (k.map u8c)) (by kernel_rfl) hS0 (fun hS => ?_)
  change wpAnyH _ _ _ _ _ _ _ _ (World.drew _)
  refine wpAnyH_take (i := 0) (oi := aq_0 s) (v := .int .i64 0) (by kernel_rfl) (by kernel_rfl) (by kernel_rfl) (by kernel_rfl) (fun c a w h => hQ c _ _ _ w h) (Or.inl ⟨wanted_none rfl, fun w hw => by simp only [execOp, aq_0, e19]; rfl⟩) hS ?_
  change wpAnyH _ _ _ _ _ _ _ (a.put (some 258) (.int .i64 0)) _
  obtain ⟨a0_1, ha1⟩ : ∃ rr : Act, rr = a.put (some 258) (.int .i64 0) := ⟨_, rfl⟩
  have qz1 : 267 < a0_1.tmps.size := by rw [ha1, sz_put]; exact hs
  have f1_10 : a0_1.eval (.tmp 10) = .slice (some ⟨g, o, none⟩) n c := by rw [ha1, ev_other _ _ _ _ (by decide)]; exact e10
  have f1_15 : a0_1.eval (.tmp 15) = .int .i64 (i : Int) := by rw [ha1, ev_other _ _ _ _ (by decide)]; exact e15
  have f1_18 : a0_1.eval (.tmp 18) = .pointer (some ⟨zf, 0, none⟩) := by rw [ha1, ev_other _ _ _ _ (by decide)]; exact e18
  have f1_258 : a0_1.eval (.tmp 258) = .int .i64 0 := by rw [ha1]; exact ev_same _ _ _ (Nat.lt_of_le_of_lt (by decide) hs)
  rw [← ha1] at h0 ⊢
  clear ha1
  refine wpAnyH_take (i := 1) (oi := aq_1 s) (v := .bool false) (by kernel_rfl) (by kernel_rfl) (by kernel_rfl) (by kernel_rfl) (fun c a w h => hQ c _ _ _ w h) (Or.inl ⟨wanted_none rfl, fun w hw => by simp only [execOp, aq_1, f1_258]; kernel_rfl⟩) hS ?_
  change wpAnyH _ _ _ _ _ _ _ (a0_1.put (some 259) (.bool false)) _
  obtain ⟨a0_2, ha2⟩ : ∃ rr : Act, rr = a0_1.put (some 259) (.bool false) := ⟨_, rfl⟩
  have qz2 : 267 < a0_2.tmps.size := by rw [ha2, sz_put]; exact qz1
  have f2_10 : a0_2.eval (.tmp 10) = .slice (some ⟨g, o, none⟩) n c := by rw [ha2, ev_other _ _ _ _ (by decide)]; exact f1_10
  have f2_15 : a0_2.eval (.tmp 15) = .int .i64 (i : Int) := by rw [ha2, ev_other _ _ _ _ (by decide)]; exact f1_15
  have f2_18 : a0_2.eval (.tmp 18) = .pointer (some ⟨zf, 0, none⟩) := by rw [ha2, ev_other _ _ _ _ (by decide)]; exact f1_18
  have f2_259 : a0_2.eval (.tmp 259) = .bool false := by rw [ha2]; exact ev_same _ _ _ (Nat.lt_of_le_of_lt (by decide) qz1)
  rw [← ha2] at h0 ⊢
  clear ha2
  refine wpAnyH_take (i := 2) (oi := aq_2 s) (v := .bool false) (by kernel_rfl) (by kernel_rfl) (by kernel_rfl) (by kernel_rfl) (fun c a w h => hQ c _ _ _ w h) (Or.inl ⟨wanted_none rfl, fun w hw => by simp only [execOp, aq_2, f2_259]; rfl⟩) hS ?_
  change wpAnyH _ _ _ _ _ _ _ (a0_2.put (some 260) (.bool false)) _
  obtain ⟨a0_3, ha3⟩ : ∃ rr : Act, rr = a0_2.put (some 260) (.bool false) := ⟨_, rfl⟩
  have qz3 : 267 < a0_3.tmps.size := by rw [ha3, sz_put]; exact qz2
  have f3_10 : a0_3.eval (.tmp 10) = .slice (some ⟨g, o, none⟩) n c := by rw [ha3, ev_other _ _ _ _ (by decide)]; exact f2_10
  have f3_15 : a0_3.eval (.tmp 15) = .int .i64 (i : Int) := by rw [ha3, ev_other _ _ _ _ (by decide)]; exact f2_15
  have f3_18 : a0_3.eval (.tmp 18) = .pointer (some ⟨zf, 0, none⟩) := by rw [ha3, ev_other _ _ _ _ (by decide)]; exact f2_18
  have f3_260 : a0_3.eval (.tmp 260) = .bool false := by rw [ha3]; exact ev_same _ _ _ (Nat.lt_of_le_of_lt (by decide) qz2)
  rw [← ha3] at h0 ⊢
  clear ha3
  refine wpAnyH_take (i := 3) (oi := aq_3 s) (v := keyV k) (by kernel_rfl) (by kernel_rfl) (by kernel_rfl) (by kernel_rfl) (fun c a w h => hQ c _ _ _ w h) (Or.inl ⟨wanted_some rfl (by kernel_rfl) f3_260 (Nat.lt_of_le_of_lt (by decide) qz3), fun w hw => run_load rfl f3_18 hw.1.load⟩) hS ?_
  change wpAnyH _ _ _ _ _ _ _ (a0_3.put (some 261) (keyV k)) _
  obtain ⟨a0_4, ha4⟩ : ∃ rr : Act, rr = a0_3.put (some 261) (keyV k) := ⟨_, rfl⟩
  have qz4 : 267 < a0_4.tmps.size := by rw [ha4, sz_put]; exact qz3
  have f4_10 : a0_4.eval (.tmp 10) = .slice (some ⟨g, o, none⟩) n c := by rw [ha4, ev_other _ _ _ _ (by decide)]; exact f3_10
  have f4_15 : a0_4.eval (.tmp 15) = .int .i64 (i : Int) := by rw [ha4, ev_other _ _ _ _ (by decide)]; exact f3_15
  have f4_260 : a0_4.eval (.tmp 260) = .bool false := by rw [ha4, ev_other _ _ _ _ (by decide)]; exact f3_260
  have f4_261 : a0_4.eval (.tmp 261) = keyV k := by rw [ha4]; exact ev_same _ _ _ (Nat.lt_of_le_of_lt (by decide) qz3)
  rw [← ha4] at h0 ⊢
  clear ha4
  refine wpAnyH_take (i := 4) (oi := aq_4 s) (v := .slice (some ⟨g, o, none⟩) n c) (by kernel_rfl) (by kernel_rfl) (by kernel_rfl) (by kernel_rfl) (fun c a w h => hQ c _ _ _ w h) (Or.inl ⟨wanted_some rfl (by kernel_rfl) f4_260 (Nat.lt_of_le_of_lt (by decide) qz4), fun w hw => by simp only [execOp, aq_4, f4_10]; rfl⟩) hS ?_
  change wpAnyH _ _ _ _ _ _ _ (a0_4.put (some 262) (.slice (some ⟨g, o, none⟩) n c)) _
  obtain ⟨a0_5, ha5⟩ : ∃ rr : Act, rr = a0_4.put (some 262) (.slice (some ⟨g, o, none⟩) n c) := ⟨_, rfl⟩
  have qz5 : 267 < a0_5.tmps.size := by rw [ha5, sz_put]; exact qz4
  have f5_15 : a0_5.eval (.tmp 15) = .int .i64 (i : Int) := by rw [ha5, ev_other _ _ _ _ (by decide)]; exact f4_15
  have f5_260 : a0_5.eval (.tmp 260) = .bool false := by rw [ha5, ev_other _ _ _ _ (by decide)]; exact f4_260
  have f5_261 : a0_5.eval (.tmp 261) = keyV k := by rw [ha5, ev_other _ _ _ _ (by decide)]; exact f4_261
  have f5_262 : a0_5.eval (.tmp 262) = .slice (some ⟨g, o, none⟩) n c := by rw [ha5]; exact ev_same _ _ _ (Nat.lt_of_le_of_lt (by decide) qz4)
  rw [← ha5] at h0 ⊢
  clear ha5
  refine wpAnyH_take (i := 5) (oi := aq_5 s) (v := .int .i64 (i : Int)) (by kernel_rfl) (by kernel_rfl) (by kernel_rfl) (by kernel_rfl) (fun c a w h => hQ c _ _ _ w h) (Or.inl ⟨wanted_some rfl (by kernel_rfl) f5_260 (Nat.lt_of_le_of_lt (by decide) qz5), fun w hw => by simp only [execOp, aq_5, f5_15]; rfl⟩) hS ?_
  change wpAnyH _ _ _ _ _ _ _ (a0_5.put (some 263) (.int .i64 (i : Int))) _
  obtain ⟨a0_6, ha6⟩ : ∃ rr : Act, rr = a0_5.put (some 263) (.int .i64 (i : Int)) := ⟨_, rfl⟩
  have qz6 : 267 < a0_6.tmps.size := by rw [ha6, sz_put]; exact qz5
  have f6_260 : a0_6.eval (.tmp 260) = .bool false := by rw [ha6, ev_other _ _ _ _ (by decide)]; exact f5_260
  have f6_261 : a0_6.eval (.tmp 261) = keyV k := by rw [ha6, ev_other _ _ _ _ (by decide)]; exact f5_261
  have f6_262 : a0_6.eval (.tmp 262) = .slice (some ⟨g, o, none⟩) n c := by rw [ha6, ev_other _ _ _ _ (by decide)]; exact f5_262
  have f6_263 : a0_6.eval (.tmp 263) = .int .i64 (i : Int) := by rw [ha6]; exact ev_same _ _ _ (Nat.lt_of_le_of_lt (by decide) qz5)
  rw [← ha6] at h0 ⊢
  clear ha6
  refine wpAnyH_take (i := 6) (oi := aq_6 s) (v := .pointer (some ⟨g, o + i * 32, none⟩)) (by kernel_rfl) (by kernel_rfl) (by kernel_rfl) (by kernel_rfl) (fun c a w h => hQ c _ _ _ w h) (Or.inl ⟨wanted_some rfl (by kernel_rfl) f6_260 (Nat.lt_of_le_of_lt (by decide) qz6), fun w hw => run_idxA rfl f6_262 f6_263 hi w⟩) hS ?_
  change wpAnyH _ _ _ _ _ _ _ (a0_6.put (some 264) (.pointer (some ⟨g, o + i * 32, none⟩))) _
  obtain ⟨a0_7, ha7⟩ : ∃ rr : Act, rr = a0_6.put (some 264) (.pointer (some ⟨g, o + i * 32, none⟩)) := ⟨_, rfl⟩
  have qz7 : 267 < a0_7.tmps.size := by rw [ha7, sz_put]; exact qz6
  have f7_260 : a0_7.eval (.tmp 260) = .bool false := by rw [ha7, ev_other _ _ _ _ (by decide)]; exact f6_260
  have f7_261 : a0_7.eval (.tmp 261) = keyV k := by rw [ha7, ev_other _ _ _ _ (by decide)]; exact f6_261
  have f7_264 : a0_7.eval (.tmp 264) = .pointer (some ⟨g, o + i * 32, none⟩) := by rw [ha7]; exact ev_same _ _ _ (Nat.lt_of_le_of_lt (by decide) qz6)
  rw [← ha7] at h0 ⊢
  clear ha7
  refine wpAnyH_take (i := 7) (oi := aq_7 s) (v := keyV k) (by kernel_rfl) (by kernel_rfl) (by kernel_rfl) (by kernel_rfl) (fun c a w h => hQ c _ _ _ w h) (Or.inl ⟨wanted_some rfl (by kernel_rfl) f7_260 (Nat.lt_of_le_of_lt (by decide) qz7), fun w hw => run_load rfl f7_264 (loadAt_key hkl hw.2)⟩) hS ?_
  change wpAnyH _ _ _ _ _ _ _ (a0_7.put (some 265) (keyV k)) _
  obtain ⟨a0_8, ha8⟩ : ∃ rr : Act, rr = a0_7.put (some 265) (keyV k) := ⟨_, rfl⟩
  have qz8 : 267 < a0_8.tmps.size := by rw [ha8, sz_put]; exact qz7
  have f8_260 : a0_8.eval (.tmp 260) = .bool false := by rw [ha8, ev_other _ _ _ _ (by decide)]; exact f7_260
  have f8_261 : a0_8.eval (.tmp 261) = keyV k := by rw [ha8, ev_other _ _ _ _ (by decide)]; exact f7_261
  have f8_265 : a0_8.eval (.tmp 265) = keyV k := by rw [ha8]; exact ev_same _ _ _ (Nat.lt_of_le_of_lt (by decide) qz7)
  rw [← ha8] at h0 ⊢
  clear ha8
  refine wpAnyH_take (i := 8) (oi := aq_8 s) (v := .bool false) (by kernel_rfl) (by kernel_rfl) (by kernel_rfl) (by kernel_rfl) (fun c a w h => hQ c _ _ _ w h) (Or.inl ⟨wanted_some rfl (by kernel_rfl) f8_260 (Nat.lt_of_le_of_lt (by decide) qz8), fun w hw => run_neqKA rfl f8_261 f8_265 hkl w⟩) hS ?_
  change wpAnyH _ _ _ _ _ _ _ (a0_8.put (some 266) (.bool false)) _
  obtain ⟨a0_9, ha9⟩ : ∃ rr : Act, rr = a0_8.put (some 266) (.bool false) := ⟨_, rfl⟩
  have qz9 : 267 < a0_9.tmps.size := by rw [ha9, sz_put]; exact qz8
  have f9_260 : a0_9.eval (.tmp 260) = .bool false := by rw [ha9, ev_other _ _ _ _ (by decide)]; exact f8_260
  have f9_266 : a0_9.eval (.tmp 266) = .bool false := by rw [ha9]; exact ev_same _ _ _ (Nat.lt_of_le_of_lt (by decide) qz8)
  rw [← ha9] at h0 ⊢
  clear ha9
  refine wpAnyH_take (i := 9) (oi := aq_9 s) (v := .bool false) (by kernel_rfl) (by kernel_rfl) (by kernel_rfl) (by kernel_rfl) (fun c a w h => hQ c _ _ _ w h) (Or.inl ⟨wanted_none rfl, fun w hw => by simp only [execOp, aq_9, f9_260, f9_266]; rfl⟩) hS ?_
  change wpAnyH _ _ _ _ _ _ _ (a0_9.put (some 267) (.bool false)) _
  obtain ⟨a0_10, ha10⟩ : ∃ rr : Act, rr = a0_9.put (some 267) (.bool false) := ⟨_, rfl⟩
  have qz10 : 267 < a0_10.tmps.size := by rw [ha10, sz_put]; exact qz9
  rw [← ha10] at h0 ⊢
  clear ha10
  refine wpAnyH_done (by kernel_rfl) ?_ _
  exact h0
end Go.Proofs.Ytjmjnecobaoofaa
