/- Texts of numbers: strconv.Itoa and the statement's own digits. -/
import Derived.Test.YtinjcefekbpabaaDoorS1
import Derived.WalkKit
import Derived.WalkSpells
import Derived.WalkLawsBesides
import Derived.Handy
import Derived.Deep.QuietTactic
import Derived.BigQuiet
import Derived.Deep.RegionHeld3
import Derived.Lib.QuietBelow
import Derived.Lib.AppendIntMem
import Derived.Laws.BytesArg
namespace Go.Proofs.YtinjcefekbpabaaDoor
set_option linter.unusedVariables false
set_option linter.unusedSimpArgs false
open Go.RowKit Go.Sort

def StrC (w : World) (s : ByteArray) (e : Ending) (w' : World) : Prop := e = .returned (.string s) ∧ Below w.heap.size w w'
def Tab (w : World) : Prop := Lib.TabIs Tryd.prog w "internal/strconv.uint64pow10" .u64 Lib.pow10Tab
theorem Tab.below {w w' : World} (h : Tab w) (hb : Below w.heap.size w w') : Tab w' := Lib.tabBelow_of_tabIs h w' hb
def str (xs : List UInt8) : ByteArray := ⟨xs.toArray⟩
theorem itoa_st (n : Int) (h0 : -9223372036854775808 ≤ n) (h1 : n ≤ 9223372036854775807) (w : World) (h : Tab w) : Calls Tryd.prog 9 #[.int .i64 n] w (StrC w (str (Lib.itoa n))) :=
  (Tryd.strconv_Itoa n h0 h1 w h).mono fun e w' ⟨he, k, os, hw⟩ => ⟨he, hw ▸ Lib.below_grow _ _ (Nat.le_refl _) k os⟩

theorem itoa_min : Lib.itoa (-9223372036854775808) = [45, 57, 50, 50, 51, 51, 55, 50, 48, 51, 54, 56, 53, 52, 55, 55, 53, 56, 48, 56] := by
  have h : (-9223372036854775808 : Int) < 0 := by decide
  unfold Lib.itoa
  rw [if_pos h, show (-9223372036854775808 : Int).natAbs = 9223372036854775808 from rfl, Lib.decDigits_eq, Lib.nDigits_unique 18 9223372036854775808 (by decide) (by decide)]
  decide +kernel
theorem itoa_neg (n : Int) (h : n < 0) : Lib.itoa n = 45 :: Lib.decDigits n.natAbs := by unfold Lib.itoa; rw [if_pos h]
theorem itoa_nat (u : Nat) : Lib.itoa u = Lib.decDigits u := by unfold Lib.itoa; rw [if_neg (by omega), Int.toNat_natCast]

theorem conv_one (w : World) (g c : Nat) (u : UInt8) (h : w.cell? ⟨g, 0, none⟩ = some (.int .u8 (u.toNat : Int))) : (convert 36 9 (.slice (some ⟨g, 0, none⟩) 1 c)).run Tryd.prog w = .ok (.string (str [u])) w := by
  have := run_convert_bytes_arg (P := Tryd.prog) w 36 5 Tryd.underlying36 Tryd.underlying5 g 0 1 c [(u.toNat : Int)] rfl (fun i hi => by
    obtain rfl : i = 0 := by omega
    simpa using h) 9 Tryd.underlying9
  rw [this]
  simp [strOfNums, str]
theorem digit_u8 (u : Nat) (h : u < 10) : ((UInt8.ofNat (48 + u)).toNat : Int) = 48 + u := by simp; omega

set_option maxRecDepth 20000 in
theorem digits_min (w : World) : Calls Tryd.prog 5 #[.int .i64 (-9223372036854775808)] w (StrC w (str (Lib.itoa (-9223372036854775808)))) := by
  rw [itoa_min]
  go_enter Tryd.func5, Tryd.ntmps5
  go_wp2
  go_ret
  exact ⟨rfl, Below.refl _ _⟩
set_option maxRecDepth 20000 in
theorem digits_one (u : Nat) (h : u < 10) (w : World) : Calls Tryd.prog 5 #[.int .i64 u] w (StrC w (str (Lib.decDigits u))) := by
  have hd : Lib.decDigits u = [UInt8.ofNat (48 + u)] := Lib.decDigits_one h
  have hu := digit_u8 u h
  rw [hd]
  obtain ⟨c, hc⟩ : ∃ c, c = UInt8.ofNat (48 + u) := ⟨_, rfl⟩
  rw [← hc] at hu ⊢
  have hcv := conv_one (w.alloc (.cells #[.int .u8 (48 + (u : Int))] 5)) w.heap.size 1 c (by rw [hu]; simp)
  have i1 : ¬ ((u : Int) = -9223372036854775808) := by omega
  have i2 : ¬ ((u : Int) < 0) := by omega
  have i3 : (u : Int) < 10 := by omega
  have i4 : IntKind.i64.wrap (48 + (u : Int)) = 48 + (u : Int) := by rw [IntKind.wrap_i64]; omega
  have i5 : IntKind.u8.wrap (48 + (u : Int)) = 48 + (u : Int) := by unfold IntKind.wrap; simp [IntKind.bits, IntKind.signed]; omega
  clear hc hd
  go_enter Tryd.func5, Tryd.ntmps5
  go_wp2
  go_ret
  exact ⟨rfl, (Below.refl _ _).alloc (Nat.le_refl _) _⟩
theorem str_add (xs ys : List UInt8) : str xs ++ str ys = str (xs ++ ys) := by
  unfold str
  apply ByteArray.ext
  rw [ByteArray.data_append]
  simp
theorem str_size (xs : List UInt8) : (str xs).size = xs.length := rfl
theorem digits_len (u : Nat) (h : u ≤ 9223372036854775808) : (Lib.decDigits u).length ≤ 19 := by
  rw [Lib.decDigits_length]
  have key : ∀ k v, v < 10 ^ (k + 1) → Lib.nDigits v ≤ k + 1 := by
    intro k
    induction k with
    | zero => intro v hv; rw [Lib.nDigits_small (by simpa using hv)]; exact Nat.le_refl _
    | succ k ih =>
      intro v hv
      by_cases h10 : v < 10
      · rw [Lib.nDigits_small h10]; omega
      · rw [Lib.nDigits_big h10]
        have := ih (v / 10) (by rw [Nat.pow_succ] at hv; omega)
        omega
  exact key 18 u (by omega)
theorem wpAnyH_mono {P : Program} {md : Region.Mode} {ops : Array Oper} {Q : Exit → Act → World → Prop} {S S' : World → Prop} (hs : ∀ w, S' w → S w) :
    ∀ (fuel : Nat) (listed : Array Bool) (a : Act) (w : World), wpAnyH P md ops Q S' fuel listed a w → wpAnyH P md ops Q S fuel listed a w
  | 0, _, _, _, h => h
  | fuel + 1, _, _, _, h => ⟨h.1, fun i hi => wpOp_mono (fun a' w' h' => ⟨hs w' h'.1, wpAnyH_mono hs fuel _ a' w' h'.2⟩) (h.2 i hi)⟩
theorem step_enterE {op : Oper} {a : Act} {w : World} {K : Act → World → Prop} {Q : Exit → Act → World → Prop} (f : FuncId) (args : Array Value) (hr : (execOp a.eval op).run Tryd.prog w = .ok (.enter f args) w) (R : Value → World → Prop) (hc : Calls Tryd.prog f args w fun e w' => ∃ V, e = .returned V ∧ R V w') (h : ∀ V w', R V w' → K (a.put op.dst V) w') : op.wp Tryd.prog a w K Q := by
  unfold Oper.wp
  rw [hr]
  refine Calls.mono hc ?_
  rintro e w' ⟨V, rfl, hR⟩
  exact h V w' hR
theorem step_runE {op : Oper} {a : Act} {w : World} {K : Act → World → Prop} {Q : Exit → Act → World → Prop} (v : Value) (w' : World) (hr : (execOp a.eval op).run Tryd.prog w = .ok (.value v) w') (h : K (a.put op.dst v) w') : op.wp Tryd.prog a w K Q := by
  unfold Oper.wp
  rw [hr]
  exact h
theorem wanted_none {o : Oper} {y : _} (h : o.guard = none) : Region.wanted o y = true := by simp [Region.wanted, h]
theorem ev_same (a : Act) (t : Tmp) (v : Value) (h : t < a.tmps.size) : (a.put (some t) v).eval (.tmp t) = v := by simp [Act.put, Act.eval, h]
theorem ev_other (a : Act) (s t : Tmp) (v : Value) (h : s ≠ t) : (a.put (some s) v).eval (.tmp t) = a.eval (.tmp t) := by simp [Act.put, Act.eval, h]
theorem sz_put (a : Act) (s : Tmp) (v : Value) : (a.put (some s) v).tmps.size = a.tmps.size := by simp [Act.put]
theorem run_conv {op : Oper} {ev : Operand → Value} {t u : TypeId} {x : Operand} {v r : Value} {w : World} (ho : op.op = .convert t u x) (hx : ev x = v) (hc : (convert t u v).run Tryd.prog w = .ok r w) : (execOp ev op).run Tryd.prog w = .ok (.value r) w := by
  simp only [execOp, ho, hx, Sem.run_bind, hc, Result.andThen_ok, Sem.run_pure]
theorem run_addS {op : Oper} {ev : Operand → Value} {x y : Operand} {u : TypeId} {s t : ByteArray} (ho : op.op = .binOp .add 9 x y u) (hx : ev x = .string s) (hy : ev y = .string t) (hl : s.size + t.size ≤ 281474976710656) (w : World) : (execOp ev op).run Tryd.prog w = .ok (.value (.string (s ++ t))) w := by
  simp only [execOp, ho, hx, hy]
  simp [go_sem]
  omega
theorem cell_made (w : World) (v : Value) (t : TypeId) : (w.alloc (.cells #[v] t)).cell? ⟨w.heap.size, 0, none⟩ = some v := by simp
theorem run_build1 {op : Oper} {ev : Operand → Value} {x : Operand} {q : Int} (ho : op.op = .buildSlice 36 1 #[(0, x)]) (hx : ev x = .int .u8 q) (w : World) : (execOp ev op).run Tryd.prog w = .ok (.value (.slice (some ⟨w.heap.size, 0, none⟩) 1 1)) (w.alloc (.cells #[.int .u8 q] 5)) := by
  have hu := Tryd.underlying36
  have hz := Tryd.zeroValue5
  have hs := Tryd.sizeOf5
  simp only [execOp, ho]
  simp [hx, go_sem, hu, hz, hs]
def d7_0 (s : String) : Oper := { dst := some 18, op := Op.move (Operand.tmp 0), type := 3, pos := s, after := #[], guard := none }
def d7_1 (s : String) : Oper := { dst := some 19, op := Op.binOp BinOp.quo 3 (Operand.tmp 18) (Operand.const (Value.int IntKind.i64 10)) 3, type := 3, pos := s, after := #[{ on := 0, ground := Ground.data }], guard := none }
def d7_2 (s : String) : Oper := { dst := some 20, op := Op.call { callee := Callee.value (Operand.func 5), args := #[Operand.tmp 19], argTypes := #[3] }, type := 9, pos := s, after := #[{ on := 1, ground := Ground.data }], guard := none }
def d7_3 (s : String) : Oper := { dst := some 21, op := Op.move (Operand.tmp 0), type := 3, pos := s, after := #[], guard := none }
def d7_4 (s : String) : Oper := { dst := some 22, op := Op.binOp BinOp.rem 3 (Operand.tmp 21) (Operand.const (Value.int IntKind.i64 10)) 3, type := 3, pos := s, after := #[{ on := 3, ground := Ground.data }], guard := none }
def d7_5 (s : String) : Oper := { dst := some 23, op := Op.binOp BinOp.add 3 (Operand.const (Value.int IntKind.i64 48)) (Operand.tmp 22) 3, type := 3, pos := s, after := #[{ on := 4, ground := Ground.data }], guard := none }
def d7_6 (s : String) : Oper := { dst := some 24, op := Op.convert 3 5 (Operand.tmp 23), type := 5, pos := s, after := #[{ on := 5, ground := Ground.data }], guard := none }
def d7_7 (s : String) : Oper := { dst := some 25, op := Op.buildSlice 36 1 #[(0, Operand.tmp 24)], type := 36, pos := s, after := #[{ on := 6, ground := Ground.data }], guard := none }
def d7_8 (s : String) : Oper := { dst := some 26, op := Op.convert 36 9 (Operand.tmp 25), type := 9, pos := s, after := #[{ on := 7, ground := Ground.data }], guard := none }
def d7_9 (s : String) : Oper := { dst := some 27, op := Op.binOp BinOp.add 9 (Operand.tmp 20) (Operand.tmp 26) 9, type := 9, pos := s, after := #[{ on := 2, ground := Ground.data }, { on := 8, ground := Ground.data }], guard := none }
def d7_10 (s : String) : Oper := { dst := some 2, op := Op.assign (Operand.tmp 27), type := 9, pos := s, after := #[{ on := 9, ground := Ground.data }, { on := 2, ground := Ground.chain }, { on := 0, ground := Ground.phase }, { on := 1, ground := Ground.phase }, { on := 2, ground := Ground.phase }, { on := 3, ground := Ground.phase }, { on := 4, ground := Ground.phase }, { on := 5, ground := Ground.phase }, { on := 6, ground := Ground.phase }, { on := 7, ground := Ground.phase }, { on := 8, ground := Ground.phase }, { on := 9, ground := Ground.phase }], guard := none }
def d7_ops (s : String) : Array Oper := #[d7_0 s, d7_1 s, d7_2 s, d7_3 s, d7_4 s, d7_5 s, d7_6 s, d7_7 s, d7_8 s, d7_9 s, d7_10 s]
theorem d7_enter2 (s : String) (a : Act) (w : World) : (execOp a.eval (d7_2 s)).run Tryd.prog w = .ok (.enter 5 #[a.eval (.tmp 19)]) w := by kernel_rfl
theorem d7_walk (s : String) {Q : Exit → Act → World → Prop} (hQ : ∀ c (a : Act) t v w, Q (.panic c) (a.put (some t) v) w → Q (.panic c) a w) (W : World) (n v r : Int) (c : UInt8) (t : ByteArray) (hq : n.tdiv 10 = v) (hm : n.tmod 10 = r) (i4 : IntKind.i64.wrap (48 + r) = 48 + r) (i5 : IntKind.u8.wrap (48 + r) = 48 + r) (i6 : IntKind.i64.wrap v = v) (i7 : IntKind.i64.wrap r = r) (hl : t.size + (str [c]).size ≤ 281474976710656) (ih : ∀ w, Calls Tryd.prog 5 #[.int .i64 v] w (StrC w t)) (hcv : ∀ W : World, (convert 36 9 (.slice (some ⟨W.heap.size, 0, none⟩) 1 1)).run Tryd.prog (W.alloc (.cells #[.int .u8 (48 + r)] 5)) = .ok (.string (str [c])) (W.alloc (.cells #[.int .u8 (48 + r)] 5))) (hcv2 : ∀ W' : World, W'.cell? ⟨W.heap.size, 0, none⟩ = some (.int .u8 (48 + r)) → (convert 36 9 (.slice (some ⟨W.heap.size, 0, none⟩) 1 1)).run Tryd.prog W' = .ok (.string (str [c])) W')
    (a : Act) (hs : 27 < a.tmps.size) (e0 : a.eval (.tmp 0) = .int .i64 n)
    (h0 : ∀ w1, Below W.drew.heap.size W.drew w1 → Q .normal (((((((((((a.put (some 18) (.int .i64 n)).put (some 19) (.int .i64 v)).put (some 21) (.int .i64 n)).put (some 22) (.int .i64 r)).put (some 23) (.int .i64 (48 + r))).put (some 24) (.int .u8 (48 + r))).put (some 20) (.string t)).put (some 25) (.slice (some ⟨(w1).heap.size, 0, none⟩) 1 1)).put (some 26) (.string (str [c]))).put (some 27) (.string (t ++ str [c]))).put (some 2) (.string (t ++ str [c]))) (w1.alloc (.cells #[.int .u8 (48 + r)] 5))) (h1 : ∀ w1, Below (W.drew.alloc (.cells #[.int .u8 (48 + r)] 5)).heap.size (W.drew.alloc (.cells #[.int .u8 (48 + r)] 5)) w1 → Q .normal (((((((((((a.put (some 18) (.int .i64 n)).put (some 19) (.int .i64 v)).put (some 21) (.int .i64 n)).put (some 22) (.int .i64 r)).put (some 23) (.int .i64 (48 + r))).put (some 24) (.int .u8 (48 + r))).put (some 25) (.slice (some ⟨(W.drew).heap.size, 0, none⟩) 1 1)).put (some 26) (.string (str [c]))).put (some 20) (.string t)).put (some 27) (.string (t ++ str [c]))).put (some 2) (.string (t ++ str [c]))) w1) :
    Code.wp Tryd.prog (.region 7 (d7_ops s) true) Q a W := by
  refine wp_region_held_drew (S := fun _ => True) (by kernel_rfl) True.intro (fun hS => ?_)
  change wpAnyH _ _ _ _ _ _ _ _ (World.drew _)
  refine wpAnyH_take (i := 0) (oi := d7_0 s) (v := .int .i64 n) (by kernel_rfl) (by kernel_rfl) (by kernel_rfl) (by kernel_rfl) (fun c a w h => hQ c _ _ _ w h) (Or.inl ⟨wanted_none rfl, fun w hw => by simp only [execOp, d7_0, e0]; rfl⟩) hS ?_
  change wpAnyH _ _ _ _ _ _ _ (a.put (some 18) (.int .i64 n)) _
  obtain ⟨a0_1, ha1⟩ : ∃ rr : Act, rr = a.put (some 18) (.int .i64 n) := ⟨_, rfl⟩
  have qz1 : 27 < a0_1.tmps.size := by rw [ha1, sz_put]; exact hs
  have f1_0 : a0_1.eval (.tmp 0) = .int .i64 n := by rw [ha1, ev_other _ _ _ _ (by decide)]; exact e0
  have f1_18 : a0_1.eval (.tmp 18) = .int .i64 n := by rw [ha1]; exact ev_same _ _ _ (Nat.lt_of_le_of_lt (by decide) hs)
  rw [← ha1] at h0 h1 ⊢
  clear ha1
  refine wpAnyH_take (i := 1) (oi := d7_1 s) (v := .int .i64 v) (by kernel_rfl) (by kernel_rfl) (by kernel_rfl) (by kernel_rfl) (fun c a w h => hQ c _ _ _ w h) (Or.inl ⟨wanted_none rfl, fun w hw => by simp only [execOp, d7_1, f1_18]; simp [go_sem, hq, i6]⟩) hS ?_
  change wpAnyH _ _ _ _ _ _ _ (a0_1.put (some 19) (.int .i64 v)) _
  obtain ⟨a0_2, ha2⟩ : ∃ rr : Act, rr = a0_1.put (some 19) (.int .i64 v) := ⟨_, rfl⟩
  have qz2 : 27 < a0_2.tmps.size := by rw [ha2, sz_put]; exact qz1
  have f2_0 : a0_2.eval (.tmp 0) = .int .i64 n := by rw [ha2, ev_other _ _ _ _ (by decide)]; exact f1_0
  have f2_19 : a0_2.eval (.tmp 19) = .int .i64 v := by rw [ha2]; exact ev_same _ _ _ (Nat.lt_of_le_of_lt (by decide) qz1)
  rw [← ha2] at h0 h1 ⊢
  clear ha2
  refine wpAnyH_take (i := 3) (oi := d7_3 s) (v := .int .i64 n) (by kernel_rfl) (by kernel_rfl) (by kernel_rfl) (by kernel_rfl) (fun c a w h => hQ c _ _ _ w h) (Or.inl ⟨wanted_none rfl, fun w hw => by simp only [execOp, d7_3, f2_0]; rfl⟩) hS ?_
  change wpAnyH _ _ _ _ _ _ _ (a0_2.put (some 21) (.int .i64 n)) _
  obtain ⟨a0_3, ha3⟩ : ∃ rr : Act, rr = a0_2.put (some 21) (.int .i64 n) := ⟨_, rfl⟩
  have qz3 : 27 < a0_3.tmps.size := by rw [ha3, sz_put]; exact qz2
  have f3_19 : a0_3.eval (.tmp 19) = .int .i64 v := by rw [ha3, ev_other _ _ _ _ (by decide)]; exact f2_19
  have f3_21 : a0_3.eval (.tmp 21) = .int .i64 n := by rw [ha3]; exact ev_same _ _ _ (Nat.lt_of_le_of_lt (by decide) qz2)
  rw [← ha3] at h0 h1 ⊢
  clear ha3
  refine wpAnyH_take (i := 4) (oi := d7_4 s) (v := .int .i64 r) (by kernel_rfl) (by kernel_rfl) (by kernel_rfl) (by kernel_rfl) (fun c a w h => hQ c _ _ _ w h) (Or.inl ⟨wanted_none rfl, fun w hw => by simp only [execOp, d7_4, f3_21]; simp [go_sem, hm, i7]⟩) hS ?_
  change wpAnyH _ _ _ _ _ _ _ (a0_3.put (some 22) (.int .i64 r)) _
  obtain ⟨a0_4, ha4⟩ : ∃ rr : Act, rr = a0_3.put (some 22) (.int .i64 r) := ⟨_, rfl⟩
  have qz4 : 27 < a0_4.tmps.size := by rw [ha4, sz_put]; exact qz3
  have f4_19 : a0_4.eval (.tmp 19) = .int .i64 v := by rw [ha4, ev_other _ _ _ _ (by decide)]; exact f3_19
  have f4_22 : a0_4.eval (.tmp 22) = .int .i64 r := by rw [ha4]; exact ev_same _ _ _ (Nat.lt_of_le_of_lt (by decide) qz3)
  rw [← ha4] at h0 h1 ⊢
  clear ha4
  refine wpAnyH_take (i := 5) (oi := d7_5 s) (v := .int .i64 (48 + r)) (by kernel_rfl) (by kernel_rfl) (by kernel_rfl) (by kernel_rfl) (fun c a w h => hQ c _ _ _ w h) (Or.inl ⟨wanted_none rfl, fun w hw => by simp only [execOp, d7_5, f4_22]; simp [go_sem, i4]⟩) hS ?_
  change wpAnyH _ _ _ _ _ _ _ (a0_4.put (some 23) (.int .i64 (48 + r))) _
  obtain ⟨a0_5, ha5⟩ : ∃ rr : Act, rr = a0_4.put (some 23) (.int .i64 (48 + r)) := ⟨_, rfl⟩
  have qz5 : 27 < a0_5.tmps.size := by rw [ha5, sz_put]; exact qz4
  have f5_19 : a0_5.eval (.tmp 19) = .int .i64 v := by rw [ha5, ev_other _ _ _ _ (by decide)]; exact f4_19
  have f5_23 : a0_5.eval (.tmp 23) = .int .i64 (48 + r) := by rw [ha5]; exact ev_same _ _ _ (Nat.lt_of_le_of_lt (by decide) qz4)
  rw [← ha5] at h0 h1 ⊢
  clear ha5
  refine wpAnyH_take (i := 6) (oi := d7_6 s) (v := .int .u8 (48 + r)) (by kernel_rfl) (by kernel_rfl) (by kernel_rfl) (by kernel_rfl) (fun c a w h => hQ c _ _ _ w h) (Or.inl ⟨wanted_none rfl, fun w hw => by simp only [execOp, d7_6, f5_23]; simp [go_sem, Tryd.underlying3, Tryd.underlying5, i5]⟩) hS ?_
  change wpAnyH _ _ _ _ _ _ _ (a0_5.put (some 24) (.int .u8 (48 + r))) _
  obtain ⟨a0_6, ha6⟩ : ∃ rr : Act, rr = a0_5.put (some 24) (.int .u8 (48 + r)) := ⟨_, rfl⟩
  have qz6 : 27 < a0_6.tmps.size := by rw [ha6, sz_put]; exact qz5
  have f6_19 : a0_6.eval (.tmp 19) = .int .i64 v := by rw [ha6, ev_other _ _ _ _ (by decide)]; exact f5_19
  have f6_24 : a0_6.eval (.tmp 24) = .int .u8 (48 + r) := by rw [ha6]; exact ev_same _ _ _ (Nat.lt_of_le_of_lt (by decide) qz5)
  rw [← ha6] at h0 h1 ⊢
  clear ha6
  refine wpAnyH_ready (rs := [2, 7]) (by kernel_rfl) (by simp) ?_
  refine (AllReadyH.cons (o := d7_2 s) (by kernel_rfl) (fun KQ hKQ => ?_) (AllReadyH.cons (o := d7_7 s) (by kernel_rfl) (fun KQ hKQ => ?_) AllReadyH.nil))
  · skip
    rw [if_pos (wanted_none rfl)]
    refine step_enterE 5 #[.int .i64 v] (by rw [d7_enter2, f6_19]) (fun V w' => V = .string t ∧ Below (W.drew).heap.size (W.drew) w') ((ih _).mono (fun e w' h => ⟨_, h.1, rfl, h.2⟩)) ?_
    rintro _ w1 ⟨rfl, hb1⟩
    refine hKQ.out _ _ (True.intro) (fun _ => ?_)
    clear hKQ KQ
    change wpAnyH _ _ _ _ _ _ _ (a0_6.put (some 20) (.string t)) _
    have h0 := h0 w1 hb1
    obtain ⟨a0_7, ha7⟩ : ∃ rr : Act, rr = a0_6.put (some 20) (.string t) := ⟨_, rfl⟩
    have qz7 : 27 < a0_7.tmps.size := by rw [ha7, sz_put]; exact qz6
    have f7_20 : a0_7.eval (.tmp 20) = .string t := by rw [ha7]; exact ev_same _ _ _ (Nat.lt_of_le_of_lt (by decide) qz6)
    have f7_24 : a0_7.eval (.tmp 24) = .int .u8 (48 + r) := by rw [ha7, ev_other _ _ _ _ (by decide)]; exact f6_24
    rw [← ha7] at h0 ⊢
    clear ha7
    refine wpAnyH_ready (rs := [7]) (by kernel_rfl) (by simp) ?_
    refine AllReadyH.cons (o := d7_7 s) (by kernel_rfl) (fun KQ hKQ => ?_) AllReadyH.nil
    rw [if_pos (wanted_none rfl)]
    refine step_runE (.slice (some ⟨(w1).heap.size, 0, none⟩) 1 1) ((w1).alloc (.cells #[.int .u8 (48 + r)] 5)) (run_build1 rfl f7_24 _) ?_
    refine hKQ.out _ _ (True.intro) (fun _ => ?_)
    clear hKQ KQ
    change wpAnyH _ _ _ _ _ _ _ (a0_7.put (some 25) (.slice (some ⟨(w1).heap.size, 0, none⟩) 1 1)) _
    refine wpAnyH_mono (S' := fun W' => (convert 36 9 (.slice (some ⟨w1.heap.size, 0, none⟩) 1 1)).run Tryd.prog W' = .ok (.string (str [c])) W') (fun _ _ => True.intro) _ _ _ _ ?_
    have hS8 : (fun W' => (convert 36 9 (.slice (some ⟨w1.heap.size, 0, none⟩) 1 1)).run Tryd.prog W' = .ok (.string (str [c])) W') _ := hcv w1
    obtain ⟨a0_8, ha8⟩ : ∃ rr : Act, rr = a0_7.put (some 25) (.slice (some ⟨(w1).heap.size, 0, none⟩) 1 1) := ⟨_, rfl⟩
    have qz8 : 27 < a0_8.tmps.size := by rw [ha8, sz_put]; exact qz7
    have f8_20 : a0_8.eval (.tmp 20) = .string t := by rw [ha8, ev_other _ _ _ _ (by decide)]; exact f7_20
    have f8_25 : a0_8.eval (.tmp 25) = .slice (some ⟨(w1).heap.size, 0, none⟩) 1 1 := by rw [ha8]; exact ev_same _ _ _ (Nat.lt_of_le_of_lt (by decide) qz7)
    rw [← ha8] at h0 ⊢
    clear ha8
    refine wpAnyH_take (i := 8) (oi := d7_8 s) (v := .string (str [c])) (by kernel_rfl) (by kernel_rfl) (by kernel_rfl) (by kernel_rfl) (fun c a w h => hQ c _ _ _ w h) (Or.inl ⟨wanted_none rfl, fun w hw => run_conv rfl f8_25 hw⟩) hS8 ?_
    change wpAnyH _ _ _ _ _ _ _ (a0_8.put (some 26) (.string (str [c]))) _
    obtain ⟨a0_9, ha9⟩ : ∃ rr : Act, rr = a0_8.put (some 26) (.string (str [c])) := ⟨_, rfl⟩
    have qz9 : 27 < a0_9.tmps.size := by rw [ha9, sz_put]; exact qz8
    have f9_20 : a0_9.eval (.tmp 20) = .string t := by rw [ha9, ev_other _ _ _ _ (by decide)]; exact f8_20
    have f9_26 : a0_9.eval (.tmp 26) = .string (str [c]) := by rw [ha9]; exact ev_same _ _ _ (Nat.lt_of_le_of_lt (by decide) qz8)
    rw [← ha9] at h0 ⊢
    clear ha9
    refine wpAnyH_take (i := 9) (oi := d7_9 s) (v := .string (t ++ str [c])) (by kernel_rfl) (by kernel_rfl) (by kernel_rfl) (by kernel_rfl) (fun c a w h => hQ c _ _ _ w h) (Or.inl ⟨wanted_none rfl, fun w hw => run_addS rfl f9_20 f9_26 hl w⟩) hS8 ?_
    change wpAnyH _ _ _ _ _ _ _ (a0_9.put (some 27) (.string (t ++ str [c]))) _
    obtain ⟨a0_10, ha10⟩ : ∃ rr : Act, rr = a0_9.put (some 27) (.string (t ++ str [c])) := ⟨_, rfl⟩
    have qz10 : 27 < a0_10.tmps.size := by rw [ha10, sz_put]; exact qz9
    have f10_27 : a0_10.eval (.tmp 27) = .string (t ++ str [c]) := by rw [ha10]; exact ev_same _ _ _ (Nat.lt_of_le_of_lt (by decide) qz9)
    rw [← ha10] at h0 ⊢
    clear ha10
    refine wpAnyH_take (i := 10) (oi := d7_10 s) (v := .string (t ++ str [c])) (by kernel_rfl) (by kernel_rfl) (by kernel_rfl) (by kernel_rfl) (fun c a w h => hQ c _ _ _ w h) (Or.inl ⟨wanted_none rfl, fun w hw => by simp only [execOp, d7_10, f10_27]; rfl⟩) hS8 ?_
    change wpAnyH _ _ _ _ _ _ _ (a0_10.put (some 2) (.string (t ++ str [c]))) _
    obtain ⟨a0_11, ha11⟩ : ∃ rr : Act, rr = a0_10.put (some 2) (.string (t ++ str [c])) := ⟨_, rfl⟩
    have qz11 : 27 < a0_11.tmps.size := by rw [ha11, sz_put]; exact qz10
    rw [← ha11] at h0 ⊢
    clear ha11
    refine wpAnyH_done (by kernel_rfl) ?_ _
    exact h0
  · skip
    rw [if_pos (wanted_none rfl)]
    refine step_runE (.slice (some ⟨(W.drew).heap.size, 0, none⟩) 1 1) ((W.drew).alloc (.cells #[.int .u8 (48 + r)] 5)) (run_build1 rfl f6_24 _) ?_
    refine hKQ.out _ _ (True.intro) (fun _ => ?_)
    clear hKQ KQ
    change wpAnyH _ _ _ _ _ _ _ (a0_6.put (some 25) (.slice (some ⟨(W.drew).heap.size, 0, none⟩) 1 1)) _
    refine wpAnyH_mono (S' := fun W' : World => W'.cell? ⟨W.heap.size, 0, none⟩ = some (.int .u8 (48 + r))) (fun _ _ => True.intro) _ _ _ _ ?_
    have hS7 : (fun W' : World => W'.cell? ⟨W.heap.size, 0, none⟩ = some (.int .u8 (48 + r))) _ := cell_made W.drew (.int .u8 (48 + r)) 5
    obtain ⟨a1_7, ha7⟩ : ∃ rr : Act, rr = a0_6.put (some 25) (.slice (some ⟨(W.drew).heap.size, 0, none⟩) 1 1) := ⟨_, rfl⟩
    have qz7 : 27 < a1_7.tmps.size := by rw [ha7, sz_put]; exact qz6
    have f7_19 : a1_7.eval (.tmp 19) = .int .i64 v := by rw [ha7, ev_other _ _ _ _ (by decide)]; exact f6_19
    have f7_25 : a1_7.eval (.tmp 25) = .slice (some ⟨(W.drew).heap.size, 0, none⟩) 1 1 := by rw [ha7]; exact ev_same _ _ _ (Nat.lt_of_le_of_lt (by decide) qz6)
    rw [← ha7] at h1 ⊢
    clear ha7
    refine wpAnyH_take (i := 8) (oi := d7_8 s) (v := .string (str [c])) (by kernel_rfl) (by kernel_rfl) (by kernel_rfl) (by kernel_rfl) (fun c a w h => hQ c _ _ _ w h) (Or.inl ⟨wanted_none rfl, fun w hw => run_conv rfl f7_25 (hcv2 w hw)⟩) hS7 ?_
    change wpAnyH _ _ _ _ _ _ _ (a1_7.put (some 26) (.string (str [c]))) _
    obtain ⟨a1_8, ha8⟩ : ∃ rr : Act, rr = a1_7.put (some 26) (.string (str [c])) := ⟨_, rfl⟩
    have qz8 : 27 < a1_8.tmps.size := by rw [ha8, sz_put]; exact qz7
    have f8_19 : a1_8.eval (.tmp 19) = .int .i64 v := by rw [ha8, ev_other _ _ _ _ (by decide)]; exact f7_19
    have f8_26 : a1_8.eval (.tmp 26) = .string (str [c]) := by rw [ha8]; exact ev_same _ _ _ (Nat.lt_of_le_of_lt (by decide) qz7)
    rw [← ha8] at h1 ⊢
    clear ha8
    refine wpAnyH_ready (rs := [2]) (by kernel_rfl) (by simp) ?_
    refine AllReadyH.cons (o := d7_2 s) (by kernel_rfl) (fun KQ hKQ => ?_) AllReadyH.nil
    rw [if_pos (wanted_none rfl)]
    refine step_enterE 5 #[.int .i64 v] (by rw [d7_enter2, f8_19]) (fun V w' => V = .string t ∧ Below (W.drew.alloc (.cells #[.int .u8 (48 + r)] 5)).heap.size (W.drew.alloc (.cells #[.int .u8 (48 + r)] 5)) w') ((ih _).mono (fun e w' h => ⟨_, h.1, rfl, h.2⟩)) ?_
    rintro _ w1 ⟨rfl, hb1⟩
    have hk : w1.cell? ⟨W.heap.size, 0, none⟩ = some (.int .u8 (48 + r)) := (hb1.cell (p := ⟨W.heap.size, 0, none⟩) (by rw [World.size_alloc]; exact Nat.lt_succ_self _)).trans (cell_made W.drew _ _)
    refine hKQ.out _ _ (hk) (fun _ => ?_)
    clear hKQ KQ
    change wpAnyH _ _ _ _ _ _ _ (a1_8.put (some 20) (.string t)) _
    have h1 := h1 w1 hb1
    obtain ⟨a1_9, ha9⟩ : ∃ rr : Act, rr = a1_8.put (some 20) (.string t) := ⟨_, rfl⟩
    have qz9 : 27 < a1_9.tmps.size := by rw [ha9, sz_put]; exact qz8
    have f9_20 : a1_9.eval (.tmp 20) = .string t := by rw [ha9]; exact ev_same _ _ _ (Nat.lt_of_le_of_lt (by decide) qz8)
    have f9_26 : a1_9.eval (.tmp 26) = .string (str [c]) := by rw [ha9, ev_other _ _ _ _ (by decide)]; exact f8_26
    rw [← ha9] at h1 ⊢
    clear ha9
    refine wpAnyH_take (i := 9) (oi := d7_9 s) (v := .string (t ++ str [c])) (by kernel_rfl) (by kernel_rfl) (by kernel_rfl) (by kernel_rfl) (fun c a w h => hQ c _ _ _ w h) (Or.inl ⟨wanted_none rfl, fun w hw => run_addS rfl f9_20 f9_26 hl w⟩) hk ?_
    change wpAnyH _ _ _ _ _ _ _ (a1_9.put (some 27) (.string (t ++ str [c]))) _
    obtain ⟨a1_10, ha10⟩ : ∃ rr : Act, rr = a1_9.put (some 27) (.string (t ++ str [c])) := ⟨_, rfl⟩
    have qz10 : 27 < a1_10.tmps.size := by rw [ha10, sz_put]; exact qz9
    have f10_27 : a1_10.eval (.tmp 27) = .string (t ++ str [c]) := by rw [ha10]; exact ev_same _ _ _ (Nat.lt_of_le_of_lt (by decide) qz9)
    rw [← ha10] at h1 ⊢
    clear ha10
    refine wpAnyH_take (i := 10) (oi := d7_10 s) (v := .string (t ++ str [c])) (by kernel_rfl) (by kernel_rfl) (by kernel_rfl) (by kernel_rfl) (fun c a w h => hQ c _ _ _ w h) (Or.inl ⟨wanted_none rfl, fun w hw => by simp only [execOp, d7_10, f10_27]; rfl⟩) hk ?_
    change wpAnyH _ _ _ _ _ _ _ (a1_10.put (some 2) (.string (t ++ str [c]))) _
    obtain ⟨a1_11, ha11⟩ : ∃ rr : Act, rr = a1_10.put (some 2) (.string (t ++ str [c])) := ⟨_, rfl⟩
    have qz11 : 27 < a1_11.tmps.size := by rw [ha11, sz_put]; exact qz10
    rw [← ha11] at h1 ⊢
    clear ha11
    refine wpAnyH_done (by kernel_rfl) ?_ _
    exact h1
set_option maxRecDepth 20000 in
theorem digits_more (u : Nat) (h : ¬ u < 10) (hu : u ≤ 9223372036854775807) (ih : ∀ w, Calls Tryd.prog 5 #[.int .i64 ((u / 10 : Nat) : Int)] w (StrC w (str (Lib.decDigits (u / 10))))) (w : World) : Calls Tryd.prog 5 #[.int .i64 u] w (StrC w (str (Lib.decDigits u))) := by
  have hd : Lib.decDigits u = Lib.decDigits (u / 10) ++ [UInt8.ofNat (48 + u % 10)] := by rw [Lib.decDigits, dif_neg h]
  have hc8 := digit_u8 (u % 10) (by omega)
  have hl := digits_len (u / 10) (by omega)
  rw [hd, ← str_add]
  obtain ⟨c, hc⟩ : ∃ c, c = UInt8.ofNat (48 + u % 10) := ⟨_, rfl⟩
  rw [← hc] at hc8 ⊢
  obtain ⟨v, hv⟩ : ∃ v : Int, v = ((u / 10 : Nat) : Int) := ⟨_, rfl⟩
  obtain ⟨r, hr⟩ : ∃ r : Int, r = ((u % 10 : Nat) : Int) := ⟨_, rfl⟩
  obtain ⟨n, hn⟩ : ∃ n : Int, n = (u : Int) := ⟨_, rfl⟩
  have hq : n.tdiv 10 = v := by rw [Int.tdiv_eq_ediv_of_nonneg (by omega)]; omega
  have hm : n.tmod 10 = r := by rw [Int.tmod_eq_emod_of_nonneg (by omega)]; omega
  have hs : (str (Lib.decDigits (u / 10))).size + (str [c]).size ≤ 281474976710656 := by rw [str_size, str_size, List.length_singleton]; omega
  have hcv2 : ∀ (g : Nat) (W : World), W.cell? ⟨g, 0, none⟩ = some (.int .u8 (48 + r)) → (convert 36 9 (.slice (some ⟨g, 0, none⟩) 1 1)).run Tryd.prog W = .ok (.string (str [c])) W := fun g W h => conv_one _ _ 1 c (by rw [hc8, h, hr])
  have i1 : ¬ (n = -9223372036854775808) := by omega
  have i2 : ¬ (n < 0) := by omega
  have i3 : ¬ (n < 10) := by omega
  have i4 : IntKind.i64.wrap (48 + r) = 48 + r := by rw [IntKind.wrap_i64]; omega
  have i5 : IntKind.u8.wrap (48 + r) = 48 + r := by unfold IntKind.wrap; simp [IntKind.bits, IntKind.signed]; omega
  have i6 : IntKind.i64.wrap v = v := by rw [IntKind.wrap_i64]; omega
  have i7 : IntKind.i64.wrap r = r := by rw [IntKind.wrap_i64]; omega
  rw [← hn]
  rw [← hv] at ih
  generalize str (Lib.decDigits (u / 10)) = t at ih hs ⊢
  clear hc hd hc8 hl hv hr hn
  go_enter Tryd.func5, Tryd.ntmps5
  go_wp2_with fail
  refine d7_walk _ (fun _ _ _ _ _ h => h) w n v r c t hq hm i4 i5 i6 i7 hs ih (fun W => hcv2 _ _ (cell_made W _ _)) (fun W' h => hcv2 _ _ h) _ (Nat.lt_of_sub_pos (by exact Nat.succ_pos _)) rfl ?_ ?_
  · intro w1 hb
    simp only [Act.put, List.setIfInBounds_toArray, List.set_cons_zero, List.set_cons_succ]
    go_wp2
    go_ret
    exact ⟨rfl, (show Below w.heap.size w w1 from ⟨hb.os, hb.tape, hb.output, hb.size, hb.block⟩).alloc hb.size _⟩
  · intro w1 hb
    simp only [Act.put, List.setIfInBounds_toArray, List.set_cons_zero, List.set_cons_succ]
    go_wp2
    go_ret
    exact ⟨rfl, (show Below w.heap.size w (w.drew.alloc (.cells #[.int .u8 (48 + r)] 5)) from (show Below w.heap.size w w.drew from ⟨rfl, rfl, rfl, Nat.le_refl _, fun _ _ => rfl⟩).alloc (Nat.le_refl _) _).trans (hb.mono (by simp))⟩
theorem digits_nat (u : Nat) : u ≤ 9223372036854775807 → ∀ w, Calls Tryd.prog 5 #[.int .i64 u] w (StrC w (str (Lib.decDigits u))) := by
  induction u using Nat.strongRecOn with
  | _ u ih =>
    intro hu w
    by_cases h : u < 10
    · exact digits_one u h w
    · exact digits_more u h hu (fun w => ih (u / 10) (by omega) (by omega) w) w
set_option maxRecDepth 20000 in
theorem digits_st (n : Int) (h0 : -9223372036854775808 ≤ n) (h1 : n ≤ 9223372036854775807) (w : World) : Calls Tryd.prog 5 #[.int .i64 n] w (StrC w (str (Lib.itoa n))) := by
  by_cases hm : n = -9223372036854775808
  · subst hm
    exact digits_min w
  by_cases hn : n < 0
  · have hx := digits_nat n.natAbs (by omega) w
    have hl := digits_len n.natAbs (by omega)
    have e : ((n.natAbs : Nat) : Int) = -n := by omega
    rw [e] at hx
    have hs : Lib.itoa n = [45] ++ Lib.decDigits n.natAbs := itoa_neg n hn
    rw [hs, ← str_add]
    have hz : (str (Lib.decDigits n.natAbs)).size ≤ 19 := hl
    generalize str (Lib.decDigits n.natAbs) = t at hx hz ⊢
    have i1 : IntKind.i64.wrap (-n) = -n := by rw [IntKind.wrap_i64]; omega
    have hz2 : ¬ 9223372036854775807 < 1 + t.size := by omega
    clear hl e hs
    go_enter Tryd.func5, Tryd.ntmps5
    go_wp2_with (go_at_call 5; refine hx.mono ?_; rintro e w1 ⟨rfl, hb⟩)
    go_ret
    exact ⟨rfl, hb⟩
  · have hx := digits_nat n.toNat (by omega) w
    rwa [Int.toNat_of_nonneg (by omega), ← itoa_nat, Int.toNat_of_nonneg (by omega)] at hx
end Go.Proofs.YtinjcefekbpabaaDoor
