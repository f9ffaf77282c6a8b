/- A table in memory, between two steps; lay. -/
import Derived.Test.YtjhbebaephmcgaaVXB
namespace Go.Proofs.Ytjhbebaephmcgaa
set_option linter.unusedVariables false
set_option linter.unusedSimpArgs false
namespace TX
set_option maxRecDepth 100000
open Go.RowKit Go.Sort

/-- Of the old blocks those alone of which S speaks may be others. -/
structure Frm (w w' : World) (S : Nat → Prop) : Prop where
  os : w'.os = w.os
  tape : w'.tape = w.tape
  output : w'.output = w.output
  size : w.heap.size ≤ w'.heap.size
  block : ∀ k, k < w.heap.size → ¬ S k → w'.heap[k]? = w.heap[k]?
theorem Frm.refl (w : World) (S : Nat → Prop) : Frm w w S := ⟨rfl, rfl, rfl, Nat.le_refl _, fun _ _ _ => rfl⟩
theorem Frm.of_below {w w' : World} {S : Nat → Prop} (h : Below w.heap.size w w') : Frm w w' S := ⟨h.os, h.tape, h.output, h.size, fun k hk _ => h.block k hk⟩
theorem Frm.trans {a b c : World} {S S' : Nat → Prop} (h : Frm a b S) (k : Frm b c S') (hs : ∀ i, i < a.heap.size → S' i → S i) : Frm a c S :=
  ⟨k.os.trans h.os, k.tape.trans h.tape, k.output.trans h.output, Nat.le_trans h.size k.size, fun i hi hS => (k.block i (Nat.lt_of_lt_of_le hi h.size) (fun e => hS (hs i hi e))).trans (h.block i hi hS)⟩
theorem Frm.grown {w w1 w' : World} {S : Nat → Prop} (h : Frm w w1 S) {b : Nat} (hg : w1.grownBy w' (some b)) (hb : S b ∨ w.heap.size ≤ b) : Frm w w' S :=
  ⟨hg.os.trans h.os, hg.tape.trans h.tape, hg.output.trans h.output, Nat.le_trans h.size hg.size, fun k hk hS => (hg.block k (Nat.lt_of_lt_of_le hk h.size) (fun e => by
    have e' := Option.some.inj e
    subst e'
    rcases hb with h1 | h1
    · exact hS h1
    · omega)).trans (h.block k hk hS)⟩
theorem Frm.put {w w' : World} {S : Nat → Prop} (h : Frm w w' S) (g i : Nat) (v : Value) (hg : S g) : Frm w (w'.setCell ⟨g, i, none⟩ v) S := h.grown (grownBy_set w' g i v) (.inl hg)
theorem Frm.below {w w1 w' : World} {S : Nat → Prop} (h : Frm w w1 S) (hb : Below w1.heap.size w1 w') : Frm w w' S := h.trans (S' := S) (Frm.of_below hb) (fun _ _ e => e)
theorem Frm.drewN {w w' : World} {S : Nat → Prop} (h : Frm w w' S) (n : Nat) : Frm w (w'.drewN n) S := ⟨h.os, h.tape, h.output, h.size, h.block⟩
theorem cnt_set {K V : Type} (L : List (Slt K V)) (p : Nat) (hp : p < L.length) (s : Slt K V) (q : Nat) : cnt (L.set p s) q + (if (sat L p).st = q then 1 else 0) = cnt L q + (if s.st = q then 1 else 0) := by
  unfold cnt
  induction L generalizing p with
  | nil => simp at hp
  | cons x L ih =>
    cases p with
    | zero => simp [sat, List.countP_cons]; omega
    | succ p =>
      have := ih p (by simpa using hp)
      simp only [List.set_cons_succ, List.countP_cons]
      have e : sat (x :: L) (p + 1) = sat L p := by simp [sat]
      rw [e]
      omega
theorem cnt_le {K V : Type} (L : List (Slt K V)) (q : Nat) : cnt L q ≤ L.length := List.countP_le_length
def evS (g n : Nat) : Value := if n = 0 then .slice none 0 0 else .slice (some ⟨g, 0, none⟩) n n
def tbL (hv : Value) (yg yn yf yt eg en ef et m : Nat) : Array Value := #[hv, .slice (some ⟨yg, 0, none⟩) yn yn, .int .i64 (yf : Int), .int .i64 (yt : Int), evS eg en, .int .i64 (ef : Int), .int .i64 (et : Int), .int .i64 (m : Int)]
abbrev TB := Tb KY EN
/-- A table's block z, the rows of its two arrays, the numbers as they stand. -/
structure TbX (w : World) (z gy ge : Nat) (hv : Value) (Y E : List SL) (yf yt ef et m : Nat) : Prop where
  blk : Blk w z (tbL hv gy Y.length yf yt ge E.length ef et m) TT
  ry : RowAt w gy Y
  re : E.length ≠ 0 → RowAt w ge E
  ne : E.length ≠ 0 → ge ≠ gy
  nil : E.length = 0 → ge = gy
  ly : ∃ a, a ≤ 43 ∧ Y.length = 2 ^ a
  le : E.length ≠ 0 → ∃ a, a ≤ 43 ∧ E.length = 2 ^ a
  mm : m ≤ E.length
def TbB (z gy ge k : Nat) : Prop := k = z ∨ k = gy ∨ k = ge
section
variable {w : World} {z gy ge : Nat} {hv : Value} {Y E : List SL} {yf yt ef et m : Nat}
theorem blk_ne {a b : Nat} {cs ds : Array Value} {t u : TypeId} (h : Blk w a cs t) (k : Blk w b ds u) (ht : t ≠ u) : a ≠ b := by
  unfold Blk at h k
  intro e
  rw [e, k] at h
  exact ht (by injection h with h; injection h with h1 h2; exact h2.symm)
theorem TbX.zy (h : TbX w z gy ge hv Y E yf yt ef et m) : z ≠ gy := by
  exact blk_ne h.blk h.ry.blk (by decide)
theorem TbX.ze (h : TbX w z gy ge hv Y E yf yt ef et m) : z ≠ ge := by
  by_cases h0 : E.length = 0
  · rw [h.nil h0]; exact h.zy
  · exact blk_ne h.blk (h.re h0).blk (by decide)
theorem TbX.same {w' : World} (h : TbX w z gy ge hv Y E yf yt ef et m) (hs : ∀ k, TbB z gy ge k → w'.heap[k]? = w.heap[k]?) : TbX w' z gy ge hv Y E yf yt ef et m :=
  ⟨(hs z (.inl rfl)).trans h.blk, h.ry.same (hs gy (.inr (.inl rfl))), fun h0 => (h.re h0).same (hs ge (.inr (.inr rfl))), h.ne, h.nil, h.ly, h.le, h.mm⟩
theorem TbX.lt (h : TbX w z gy ge hv Y E yf yt ef et m) {k : Nat} (hk : TbB z gy ge k) : k < w.heap.size := by
  rcases hk with rfl | rfl | rfl
  · exact h.blk.lt
  · exact h.ry.lt
  · by_cases h0 : E.length = 0
    · rw [h.nil h0]; exact h.ry.lt
    · exact (h.re h0).lt
theorem TbX.below {w' : World} (h : TbX w z gy ge hv Y E yf yt ef et m) (hb : Below w.heap.size w w') : TbX w' z gy ge hv Y E yf yt ef et m := h.same (fun k hk => hb.block k (h.lt hk))
theorem TbX.drewN (h : TbX w z gy ge hv Y E yf yt ef et m) (n : Nat) : TbX (w.drewN n) z gy ge hv Y E yf yt ef et m := h.same (fun _ _ => rfl)
theorem TbX.grown {w' : World} (h : TbX w z gy ge hv Y E yf yt ef et m) {b : Nat} (hg : w.grownBy w' (some b)) (hb : ¬ TbB z gy ge b) : TbX w' z gy ge hv Y E yf yt ef et m :=
  h.same (fun k hk => hg.block k (h.lt hk) (fun e => hb (by rw [← Option.some.inj e]; exact hk)))
theorem TbX.old (h : TbX w z gy ge hv Y E yf yt ef et m) {b : Nat} (hb : w.heap.size ≤ b) : ¬ TbB z gy ge b := fun e => by have := h.lt e; omega
/-- A slot of the younger array is written over. -/
theorem TbX.rowY {w' : World} (h : TbX w z gy ge hv Y E yf yt ef et m) {p : Nat} {s : SL} (hr : RowAt w' gy (Y.set p s)) (hg : w.grownBy w' (some gy)) : TbX w' z gy ge hv (Y.set p s) E yf yt ef et m :=
  ⟨by rw [List.length_set]; exact h.blk.grown hg (fun e => h.zy (Option.some.inj e)), hr, fun h0 => (h.re h0).same (hg.block ge (h.re h0).lt (fun e => h.ne h0 (Option.some.inj e))), h.ne, h.nil, by rw [List.length_set]; exact h.ly, h.le, h.mm⟩
theorem TbX.rowE {w' : World} (h : TbX w z gy ge hv Y E yf yt ef et m) (h0 : E.length ≠ 0) {p : Nat} {s : SL} (hr : RowAt w' ge (E.set p s)) (hg : w.grownBy w' (some ge)) : TbX w' z gy ge hv Y (E.set p s) yf yt ef et m :=
  ⟨by rw [List.length_set]; exact h.blk.grown hg (fun e => h.ze (Option.some.inj e)), h.ry.same (hg.block gy h.ry.lt (fun e => h.ne h0 (Option.some.inj e).symm)), fun _ => hr, fun _ => h.ne h0, fun e => absurd (by rw [List.length_set] at e; exact e) h0, h.ly, fun _ => by rw [List.length_set]; exact h.le h0, by rw [List.length_set]; exact h.mm⟩
theorem TbX.setB (h : TbX w z gy ge hv Y E yf yt ef et m) (i : Nat) (v : Value) {yf' yt' ef' et' m' : Nat} (hs : (tbL hv gy Y.length yf yt ge E.length ef et m).setIfInBounds i v = tbL hv gy Y.length yf' yt' ge E.length ef' et' m') (hm : m' ≤ E.length) : TbX (w.setCell ⟨z, i, none⟩ v) z gy ge hv Y E yf' yt' ef' et' m' :=
  ⟨by rw [← hs]; exact h.blk.set i v, h.ry.same (heap_setCell_other _ _ _ _ h.zy.symm), fun h0 => (h.re h0).same (heap_setCell_other _ _ _ _ h.ze.symm), h.ne, h.nil, h.ly, h.le, hm⟩
theorem TbX.setYF (h : TbX w z gy ge hv Y E yf yt ef et m) (n : Nat) : TbX (w.setCell ⟨z, 2, none⟩ (.int .i64 (n : Int))) z gy ge hv Y E n yt ef et m := h.setB 2 _ rfl h.mm
theorem TbX.setYT (h : TbX w z gy ge hv Y E yf yt ef et m) (n : Nat) : TbX (w.setCell ⟨z, 3, none⟩ (.int .i64 (n : Int))) z gy ge hv Y E yf n ef et m := h.setB 3 _ rfl h.mm
theorem TbX.setEF (h : TbX w z gy ge hv Y E yf yt ef et m) (n : Nat) : TbX (w.setCell ⟨z, 5, none⟩ (.int .i64 (n : Int))) z gy ge hv Y E yf yt n et m := h.setB 5 _ rfl h.mm
theorem TbX.setET (h : TbX w z gy ge hv Y E yf yt ef et m) (n : Nat) : TbX (w.setCell ⟨z, 6, none⟩ (.int .i64 (n : Int))) z gy ge hv Y E yf yt ef n m := h.setB 6 _ rfl h.mm
theorem TbX.setM (h : TbX w z gy ge hv Y E yf yt ef et m) (n : Nat) (hn : n ≤ E.length) : TbX (w.setCell ⟨z, 7, none⟩ (.int .i64 (n : Int))) z gy ge hv Y E yf yt ef et n := h.setB 7 _ rfl hn
theorem TbX.cellE (h : TbX w z gy ge hv Y E yf yt ef et m) (h0 : E.length ≠ 0) {n : Nat} (hn : n = E.length) : w.cell? ⟨z, 4, none⟩ = some (.slice (some ⟨ge, 0, none⟩) n n) := by
  rw [h.blk.cell, hn]
  show some (evS ge E.length) = _
  unfold evS
  rw [if_neg h0]
theorem TbX.cellE0 (h : TbX w z gy ge hv Y E yf yt ef et m) (h0 : E.length = 0) : w.cell? ⟨z, 4, none⟩ = some (.slice none 0 0) := by
  rw [h.blk.cell]
  show some (evS ge E.length) = _
  unfold evS
  rw [if_pos h0]
theorem TbX.cellY (h : TbX w z gy ge hv Y E yf yt ef et m) {n : Nat} (hn : n = Y.length) : w.cell? ⟨z, 1, none⟩ = some (.slice (some ⟨gy, 0, none⟩) n n) := by rw [h.blk.cell, hn]; rfl
theorem TbX.c2 (h : TbX w z gy ge hv Y E yf yt ef et m) : w.cell? ⟨z, 2, none⟩ = some (.int .i64 (yf : Int)) := by rw [h.blk.cell]; rfl
theorem TbX.c3 (h : TbX w z gy ge hv Y E yf yt ef et m) : w.cell? ⟨z, 3, none⟩ = some (.int .i64 (yt : Int)) := by rw [h.blk.cell]; rfl
theorem TbX.c5 (h : TbX w z gy ge hv Y E yf yt ef et m) : w.cell? ⟨z, 5, none⟩ = some (.int .i64 (ef : Int)) := by rw [h.blk.cell]; rfl
theorem TbX.c6 (h : TbX w z gy ge hv Y E yf yt ef et m) : w.cell? ⟨z, 6, none⟩ = some (.int .i64 (et : Int)) := by rw [h.blk.cell]; rfl
theorem TbX.c7 (h : TbX w z gy ge hv Y E yf yt ef et m) : w.cell? ⟨z, 7, none⟩ = some (.int .i64 (m : Int)) := by rw [h.blk.cell]; rfl
theorem TbX.c0 (h : TbX w z gy ge hv Y E yf yt ef et m) : w.cell? ⟨z, 0, none⟩ = some hv := by rw [h.blk.cell]; rfl
theorem TbX.b43 (H : TbX w z gy ge hv Y E yf yt ef et m) : Y.length ≤ 8796093022208 ∧ E.length ≤ 8796093022208 := by
  obtain ⟨a, ha, hn⟩ := H.ly
  refine ⟨by rw [hn]; exact Nat.pow_le_pow_right (by decide) ha, ?_⟩
  by_cases h0 : E.length = 0
  · omega
  · obtain ⟨a, ha, hn⟩ := H.le h0
    rw [hn]; exact Nat.pow_le_pow_right (by decide) ha
end
/-- A table. -/
abbrev TbAt (w : World) (z gy ge : Nat) (hv : Value) (T : TB) : Prop := TbX w z gy ge hv T.y T.e (cnt T.y 1) (cnt T.y 2) (cnt T.e 1) (cnt T.e 2) T.m
/-- What a call leaves of a table whose rows stay where they are. -/
structure TbK (w w' : World) (z gy ge : Nat) (hv : Value) (T' : TB) : Prop where
  tb : TbAt w' z gy ge hv T'
  fr : Frm w w' (TbB z gy ge)
theorem run_bdS {op : Oper} {ev : Operand → Value} {x y : Operand} (ho : op.op = .build ST #[(0, .const (.int .u8 1)), (1, x), (2, y)]) (h0 : ev (.const (.int .u8 1)) = .int .u8 1) (k : KY) (e : EN) (hx : ev x = kV k) (hy : ev y = eV e) (w : World) : (execOp ev op).run Try.prog w = .ok (.value (slV (.ful k e))) w := by
  simp only [execOp, ho]
  simp only [List.map_toArray, List.map_cons, List.map_nil, hx, hy, h0]
  kernel_rfl
theorem run_bdT {op : Oper} {ev : Operand → Value} (ho : op.op = .build ST #[(0, .const (.int .u8 2))]) (h0 : ev (.const (.int .u8 2)) = .int .u8 2) (w : World) : (execOp ev op).run Try.prog w = .ok (.value (slV .tmb)) w := by
  simp only [execOp, ho]
  simp only [List.map_toArray, List.map_cons, List.map_nil, h0]
  kernel_rfl
section
variable {ops : Array Oper} {rest : List Oper} {op : Oper} {a : Act} {w : World} {Q : Exit → Act → World → Prop}
/-- A slot is stored. -/
theorem wpList_stRow (hgd : op.guard = none) (x y : Operand) (ho : op.op = .store ST x y) (g p : Nat) (L : List SL) (hx : a.eval x = .pointer (some ⟨g, p * 6, none⟩)) (s : SL) (hy : a.eval y = slV s) (h : RowAt w g L) (hp : p < L.length)
    (hk : ∀ w', Hid (RowAt w' g (L.set p s)) → Hid (w.grownBy w' (some g)) → wpList Try.prog ops Q rest (a.put op.dst undef) w') : wpList Try.prog ops Q (op :: rest) a w := by
  refine wpList_skip (w.setCells g (p * 6) (slC s)) hgd ?_ (hk _ (hide (h.put p hp s).1) (hide (h.put p hp s).2))
  have := run_stS (w := w) (b := g) (o := p * 6) (s := s) (h.there p hp 0 6 (by decide))
  simp only [execOp, ho, hx, hy, Sem.run_bind, this, Result.andThen_ok, Sem.run_pure]
/-- An entry is stored into a slot. -/
theorem wpList_stVal (hgd : op.guard = none) (x y : Operand) (ho : op.op = .store ET x y) (g p : Nat) (L : List SL) (hx : a.eval x = .pointer (some ⟨g, p * 6 + 5, none⟩)) (k : KY) (u v : EN) (hs : sat L p = .ful k u) (hy : a.eval y = eV v) (h : RowAt w g L) (hp : p < L.length)
    (hk : ∀ w', Hid (RowAt w' g (L.set p (.ful k v))) → Hid (w.grownBy w' (some g)) → wpList Try.prog ops Q rest (a.put op.dst undef) w') : wpList Try.prog ops Q (op :: rest) a w := by
  refine wpList_skip (w.setCells g (p * 6 + 5) (eC v)) hgd ?_ (hk _ (hide (h.setV p hp hs v).1) (hide (h.setV p hp hs v).2))
  have := run_stE (w := w) (b := g) (o := p * 6 + 5) (e := v) (h.there p hp 5 1 (by decide))
  simp only [execOp, ho, hx, hy, Sem.run_bind, this, Result.andThen_ok, Sem.run_pure]
theorem EB.put {b : Nat} {u : EN} (h : EB w b u) (v : EN) : EB (w.setCells b 0 (eC v)) b v ∧ w.grownBy (w.setCells b 0 (eC v)) (some b) := by
  obtain ⟨h1, h2⟩ := setCells_row (eC v) 0 w (eA u) h (by rw [eC_len, eA_size]; decide)
  exact ⟨h1, h2⟩
/-- An entry is stored into a box. -/
theorem wpList_stEB (hgd : op.guard = none) (x y : Operand) (ho : op.op = .store ET x y) (b : Nat) (hx : a.eval x = .pointer (some ⟨b, 0, none⟩)) (u v : EN) (hy : a.eval y = eV v) (h : EB w b u)
    (hk : ∀ w', Hid (EB w' b v) → Hid (w.grownBy w' (some b)) → wpList Try.prog ops Q rest (a.put op.dst undef) w') : wpList Try.prog ops Q (op :: rest) a w := by
  refine wpList_skip (w.setCells b 0 (eC v)) hgd ?_ (hk _ (hide (h.put v).1) (hide (h.put v).2))
  have ht : w.there b 0 1 := there_row h 0 1 (by rw [eA_size]; decide)
  have := run_stE (w := w) (b := b) (o := 0) (e := v) ht
  simp only [execOp, ho, hx, hy, Sem.run_bind, this, Result.andThen_ok, Sem.run_pure]
theorem wpList_ldE (hgd : op.guard = none) (x : Operand) (ho : op.op = .load ET x) (b o : Nat) (hx : a.eval x = .pointer (some ⟨b, o, none⟩)) (e : EN) (h : w.rangeAt b o (eC e))
    (hk : wpList Try.prog ops Q rest (a.put op.dst (eV e)) w) : wpList Try.prog ops Q (op :: rest) a w :=
  wpList_val (eV e) hgd (run_loadO ho hx (run_ldE h)) hk
theorem wpList_ldK (hgd : op.guard = none) (x : Operand) (ho : op.op = .load KT x) (b o : Nat) (hx : a.eval x = .pointer (some ⟨b, o, none⟩)) (k : KY) (h : w.rangeAt b o (kC k))
    (hk : wpList Try.prog ops Q rest (a.put op.dst (kV k)) w) : wpList Try.prog ops Q (op :: rest) a w :=
  wpList_val (kV k) hgd (run_loadO ho hx (run_ldK h)) hk
theorem wpList_bdT (hgd : op.guard = none) (ho : op.op = .build ST #[(0, .const (.int .u8 2))])
    (hk : wpList Try.prog ops Q rest (a.put op.dst (slV .tmb)) w) : wpList Try.prog ops Q (op :: rest) a w :=
  wpList_val (slV .tmb) hgd (run_bdT ho rfl w) hk
end
theorem zero_E (W : World) : (zeroValue ET).run Try.prog W = .ok (eV eZ) W := by kernel_rfl
theorem loadE {w : World} {b o : Nat} {e : EN} (h : w.rangeAt b o (eC e)) : (loadVar ET ⟨b, o, none⟩).run Try.prog w = .ok (eV e) w := by
  have hu := Try.underlying29
  have hc := rng_one h
  simp [go_sem, hc, hu]
end TX
end Go.Proofs.Ytjhbebaephmcgaa
