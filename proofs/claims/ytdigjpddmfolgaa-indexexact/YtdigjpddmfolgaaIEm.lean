/- Rows of keys with entries: of one's own, grown, read. -/
import Derived.Test.YtdigjpddmfolgaaICm
import Derived.Maps.AppendAt
import Derived.Maps.OwnIn
import Derived.Lib.OwnKind
namespace Go.Proofs.Ytdigjpddmfolgaa
set_option linter.unusedVariables false
set_option linter.unusedSimpArgs false
namespace TX
open Go.RowKit
set_option maxRecDepth 100000
attribute [local go_sem] Oper.semAt_some

abbrev KLT : TypeId := 43
abbrev KE := KY × EN
/-- A row that a slice tells. -/
def KdR (w : World) (v : Value) (V : List KE) : Prop := ∃ ao c, v = .slice ao V.length c ∧ (0 < V.length → ∃ h so, ao = some ⟨h, so, none⟩ ∧ ∀ (j : Nat) (x : KE), V[j]? = some x → w.rangeAt h (so + j * 36) (kdC x))
/-- A row of one's own. -/
def OwnD (w : World) (B : Nat) (v : Value) (V : List KE) : Prop := w.ownsRow B KDT 36 v V.length (V.flatMap kdC)
theorem KdR.nil (w : World) : KdR w (.slice none 0 0) [] := ⟨none, 0, rfl, fun h => absurd h (by decide)⟩
theorem KdR.below {w w' : World} {v : Value} {V : List KE} (h : KdR w v V) (hb : Below w.heap.size w w') : KdR w' v V := by
  obtain ⟨ao, c, e, hr⟩ := h
  refine ⟨ao, c, e, fun hp => ?_⟩
  obtain ⟨h0, so, e2, h3⟩ := hr hp
  refine ⟨h0, so, e2, fun j x hj q u hu => ?_⟩
  have h4 := h3 j x hj q u hu
  rw [← h4]
  exact hb.cell (World.block_lt_of_cell? w _ h4)
theorem OwnD.nil (w : World) (B : Nat) : OwnD w B (.slice none 0 0) [] := World.ownsRow_nil _ _ _ _
theorem OwnD.form {w : World} {B : Nat} {v : Value} {V : List KE} (h : OwnD w B v V) : ∃ ao c, v = .slice ao V.length c ∧ (0 < V.length → ∃ g, ao = some ⟨g, 0, none⟩) := by
  obtain ⟨h0, ⟨h1, h2⟩ | ⟨g, cap, cur, rfl, hb, hh, hx⟩⟩ := h
  · exact ⟨none, 0, by rw [h1, h2], fun h => by omega⟩
  · exact ⟨_, cap, rfl, fun _ => ⟨g, rfl⟩⟩
theorem OwnD.lt {w : World} {B : Nat} {v : Value} {V : List KE} (h : OwnD w B v V) {b : Nat} (hb : v.ownBlock = some b) : b < w.heap.size ∧ B ≤ b := by
  obtain ⟨h0, ⟨rfl, h2⟩ | ⟨g, cap, cur, rfl, hB, hh, hx⟩⟩ := h
  · cases hb
  · cases hb; exact ⟨Blk.lt (cs := cur) (t := KDT) hh, hB⟩
theorem OwnD.same {w w' : World} {B : Nat} {v : Value} {V : List KE} (h : OwnD w B v V) (hs : ∀ b, v.ownBlock = some b → w'.heap[b]? = w.heap[b]?) : OwnD w' B v V := by
  obtain ⟨h0, h1 | ⟨g, cap, cur, rfl, hB, hh, hx⟩⟩ := h
  · exact ⟨h0, .inl h1⟩
  · exact ⟨h0, .inr ⟨g, cap, cur, rfl, hB, (hs g rfl).trans hh, hx⟩⟩
theorem OwnD.below {w w' : World} {B : Nat} {v : Value} {V : List KE} (h : OwnD w B v V) (hb : Below w.heap.size w w') : OwnD w' B v V := h.same (fun b e => hb.block b (h.lt e).1)
theorem OwnD.lower {w : World} {B C : Nat} {v : Value} {V : List KE} (h : OwnD w C v V) (hB : B ≤ C) : OwnD w B v V := by
  obtain ⟨h0, h1 | ⟨g, cap, cur, rfl, hC, hh, hx⟩⟩ := h
  · exact ⟨h0, .inl h1⟩
  · exact ⟨h0, .inr ⟨g, cap, cur, rfl, Nat.le_trans hB hC, hh, hx⟩⟩
theorem OwnD.kept {W W' : World} {B : Nat} {v : Value} {V : List KE} {row : Option Nat} (h : OwnD W B v V) (hg : W.grownBy W' row) (hr : ∀ r, row = some r → ∃ o : Obj, W.heap[r]? = some o ∧ o.isCells = false) : OwnD W' B v V := by
  obtain ⟨h0, h1 | ⟨g, cap, cur, rfl, hb, hh, hx⟩⟩ := h
  · exact ⟨h0, .inl h1⟩
  · exact ⟨h0, .inr ⟨g, cap, cur, rfl, hb, (grownBy_keeps_cells hg hr hh rfl).trans hh, hx⟩⟩
theorem OwnD.blk {w : World} {B : Nat} {v : Value} {V : List KE} (h : OwnD w B v V) {b : Nat} (hb : v.ownBlock = some b) : ∃ cs, Blk w b cs KDT := by
  obtain ⟨h0, ⟨rfl, h2⟩ | ⟨g, cap, cur, rfl, hB, hh, hx⟩⟩ := h
  · cases hb
  · cases hb; exact ⟨cur, hh⟩
theorem OwnD.grown {w w' : World} {B : Nat} {v : Value} {V : List KE} {row : Option Nat} (h : OwnD w B v V) (hg : w.grownBy w' row) (hne : ∀ g, v.ownBlock = some g → some g ≠ row) : OwnD w' B v V := h.same (fun b e => hg.block b (h.lt e).1 (hne b e))
theorem OwnD.read {w : World} {B : Nat} {v : Value} {V : List KE} (h : OwnD w B v V) : KdR w v V := by
  obtain ⟨ao, c, e, hg⟩ := h.form
  refine ⟨ao, c, e, fun hp => ?_⟩
  obtain ⟨g, rfl⟩ := hg hp
  refine ⟨g, 0, rfl, fun j x hx q u hu => ?_⟩
  rw [e] at h
  have hq := flat_at V j x (fun y _ => kdC_len y) hx q u hu
  have := World.ownsRow.cells (g := g) h rfl (j * 36 + q) u hq
  rw [Addr.add_mid] at this
  rw [← this]
  congr 2
  omega
theorem blk_grewD {w w' : World} {B : Nat} {v : Value} {V : List KE} (ho : OwnD w B v V) (hg : w.grownBy w' v.ownBlock) {b : Nat} {cs : Array Value} {t : TypeId} (hb : Blk w b cs t) (ht : t ≠ KDT) : Blk w' b cs t :=
  hb.grown hg (fun e => by obtain ⟨c2, hc⟩ := ho.blk e.symm; exact blk_ne hb hc ht rfl)
theorem kdI : ∃ i, Try.prog.info? KDT = some i ∧ i.zero = some (kdV kdZ) ∧ i.size = 36 ∧ i.bytes = 64 := by
  have h : (Try.prog.info? KDT).map (fun i => (i.zero, i.size, i.bytes)) = some (some (kdV kdZ), 36, 64) := by kernel_rfl
  obtain ⟨i, hi, hzz⟩ := Option.map_eq_some_iff.1 h
  simp only [Prod.mk.injEq] at hzz
  exact ⟨i, hi, hzz.1, hzz.2.1, hzz.2.2⟩
theorem run_bsD {op : Oper} {ev : Operand → Value} {x : Operand} {w : World} (z : KE) (ho : op.op = .buildSlice KLT 1 #[(0, x)]) (hx : ev x = kdV z) : (execOp ev op).run Try.prog w = .ok (.value (.slice (some ⟨w.heap.size, 0, none⟩) 1 1)) (w.alloc (.cells (kdA z) KDT)) := by
  simp only [execOp, ho]
  simp only [List.map_toArray, List.map_cons, List.map_nil, hx]
  obtain ⟨k, e⟩ := z
  obtain ⟨bs, hk⟩ := k
  obtain ⟨a0, a1, a2, a3, a4, a5, a6, a7, a8, a9, a10, a11, a12, a13, a14, a15, a16, a17, a18, a19, a20, a21, a22, a23, a24, a25, a26, a27, a28, a29, a30, a31, rfl⟩ := list32 hk
  obtain ⟨s, o, z, p⟩ := e
  kernel_rfl
theorem run_ldKDo {w : World} {b o : Nat} {x : KE} (h : w.rangeAt b o (kdC x)) : (Instr.loadAt KDT (.pointer (some ⟨b, o, none⟩))).run Try.prog w = .ok (kdV x) w :=
  run_loadAt_mid (P := Try.prog) w b o KDT (kdC x) _ h Try.underlying57 rfl (by rw [kdC_len]; exact iKD)
section
variable {ops : Array Oper} {rest : List Oper} {op : Oper} {a : Act} {w : World} {Q : Exit → Act → World → Prop}
theorem wpList_ldKD (hgd : op.guard = none) (x : Operand) (ho : op.op = .load KDT x) (b o : Nat) (hx : a.eval x = .pointer (some ⟨b, o, none⟩)) (k : KE) (h : w.rangeAt b o (kdC k))
    (hk : wpList Try.prog ops Q rest (a.put op.dst (kdV k)) w) : wpList Try.prog ops Q (op :: rest) a w :=
  wpList_val (kdV k) hgd (run_loadO ho hx (run_ldKDo h)) hk
theorem wpList_bdKD (hgd : op.guard = none) (x y : Operand) (ho : op.op = .build KDT #[(0, x), (1, y)]) (k : KY) (e : EN) (hx : a.eval x = kV k) (hy : a.eval y = eV e)
    (hk : wpList Try.prog ops Q rest (a.put op.dst (kdV (k, e))) w) : wpList Try.prog ops Q (op :: rest) a w :=
  wpList_val (kdV (k, e)) hgd (run_bdKD ho k e hx hy w) hk
theorem wpList_bsD (hgd : op.guard = none) (x : Operand) (v : KE) (ho : op.op = .buildSlice KLT 1 #[(0, x)]) (hx : a.eval x = kdV v)
    (h : wpList Try.prog ops Q rest (a.put op.dst (.slice (some ⟨w.heap.size, 0, none⟩) 1 1)) (w.alloc (.cells (kdA v) KDT))) : wpList Try.prog ops Q (op :: rest) a w := by
  refine wpList_plain hgd fun K hK => ?_
  unfold Oper.wp
  rw [run_bsD v ho hx]
  exact hK _ _ h
theorem wpList_appD (hgd : op.guard = none) (s x : Operand) (ho : op.op = .call { callee := .builtin .append, args := #[s, x], argTypes := #[KLT, KLT] })
    (base : Nat) (v : Value) (V : List KE) (hs : a.eval s = v) (hown : OwnD w base v V) (z : Nat) (hx : a.eval x = .slice (some ⟨z, 0, none⟩) 1 1) (e : KE) (hc : Blk w z (kdA e) KDT) (hlen : V.length + 1 ≤ 2199023255552) (hbase : base ≤ w.heap.size)
    (h : ∀ v' w', Hid (OwnD w' base v' (V ++ [e])) → Hid (w.grownBy w' v.ownBlock) → Hid (v'.ownBlock = v.ownBlock ∨ v'.ownBlock = some w.heap.size) → wpList Try.prog ops Q rest (a.put op.dst v') w') : wpList Try.prog ops Q (op :: rest) a w := by
  obtain ⟨i0, hi, hz0, hz1, hz2⟩ := kdI
  refine wpList_append_own_at w hgd s x KLT ho base KDT i0 (kdV kdZ) 36 64 Try.underlying43 hi hz0 hz1 hz2 (kdA_size _) (by decide) v V.length (V.flatMap kdC) hs hown ⟨z, 0, none⟩ 1 1 (kdC e) hx (by rw [kdC_len]) ?_ (kdC_one e) (by unfold maxLen; omega) (by omega) hbase ?_
  · intro j u hj
    rw [Addr.add_mid]
    exact (Blk.range hc) j u hj
  · intro v' w' h1 h2 _ h4
    refine h v' w' (hide ?_) (hide h2) (hide h4)
    unfold OwnD
    rw [List.length_append, List.length_singleton, List.flatMap_append, List.flatMap_singleton]
    exact h1
end
section
variable {F : Fence} {n : Nat} {ops : Array Oper} {rest : List Oper} {op : Oper} {a : Act} {w : World} {Q : Exit → Act → World → Prop}
theorem wpListIn_bsD (hg : op.guard = none) (x : Operand) (z : KE) (ho : op.op = .buildSlice KLT 1 #[(0, x)]) (hx : a.eval x = kdV z)
    (h : wpListIn F n Try.prog ops Q rest (a.put op.dst (.slice (some ⟨w.heap.size, 0, none⟩) 1 1)) (w.alloc (.cells (kdA z) KDT))) : wpListIn F n Try.prog ops Q (op :: rest) a w := by
  refine wpListIn_plain hg fun K' hK' => ?_
  unfold Oper.wpIn
  refine ⟨by simp [Oper.about, ho], ?_⟩
  rw [Oper.semAt_plain F _ _ (by rw [ho]; intro c hc'; cases hc'), run_bsD z ho hx]
  exact hK' _ _ h
theorem wpListIn_appD (hgd : op.guard = none) (s x : Operand) (ho : op.op = .call { callee := .builtin .append, args := #[s, x], argTypes := #[KLT, KLT] })
    (base : Nat) (v : Value) (V : List KE) (hs : a.eval s = v) (hown : OwnD w base v V) (z : Nat) (hx : a.eval x = .slice (some ⟨z, 0, none⟩) 1 1) (e : KE) (hc : Blk w z (kdA e) KDT) (hlen : V.length + 1 ≤ 2199023255552) (hbase : base ≤ w.heap.size)
    (h : ∀ v' w', Hid (OwnD w' base v' (V ++ [e])) → Hid (w.grownBy w' v.ownBlock) → Hid (v'.ownBlock = v.ownBlock ∨ v'.ownBlock = some w.heap.size) → wpListIn F n Try.prog ops Q rest (a.put op.dst v') w') : wpListIn F n Try.prog ops Q (op :: rest) a w := by
  obtain ⟨i0, hi, hz0, hz1, hz2⟩ := kdI
  refine wpListIn_append_own_at (w := w) hgd s x KLT ho base KDT i0 (kdV kdZ) 36 64 Try.underlying43 hi hz0 hz1 hz2 (kdA_size _) (by decide) v V.length (V.flatMap kdC) hs hown ⟨z, 0, none⟩ 1 1 (kdC e) hx (by rw [kdC_len]) ?_ (kdC_one e) (by unfold maxLen; omega) (by omega) hbase ?_
  · intro j u hj
    rw [Addr.add_mid]
    exact (Blk.range hc) j u hj
  · intro v' w' h1 h2 _ h4
    refine h v' w' (hide ?_) (hide h2) (hide h4)
    unfold OwnD
    rw [List.length_append, List.length_singleton, List.flatMap_append, List.flatMap_singleton]
    exact h1
end
/-- make([]Keyed, 0, n). -/
theorem make_D (m : Nat) (hm : m ≤ 4398046511104) (w : World) : (Instr.makeSlice KLT (.int .i64 0) (.int .i64 (m : Int))).run Try.prog w = .ok (.slice (some ⟨w.heap.size, 0, none⟩) 0 m) (w.alloc (.cells (madeCells (Value.cells (kdV kdZ)) (m * 36)) KDT)) := by
  obtain ⟨i, hi, hz, hs, hb⟩ := kdI
  have := run_make (P := Try.prog) w KLT KDT i (kdV kdZ) Try.underlying43 hi hz .i64 .i64 0 (m : Int) (Int.le_refl _) (by omega) (by rw [hb]; omega) (by omega)
  rw [hs] at this
  simpa using this
theorem OwnD.make (w : World) (m : Nat) (hm : m ≤ 4398046511104) : OwnD (w.alloc (.cells (madeCells (Value.cells (kdV kdZ)) (m * 36)) KDT)) w.heap.size (.slice (some ⟨w.heap.size, 0, none⟩) 0 m) [] := by
  refine ⟨by simp, .inr ⟨w.heap.size, m, _, rfl, Nat.le_refl _, Blk.made w _ _, Nat.zero_le _, by unfold maxLen; omega, ?_, ?_⟩⟩
  · simp [madeCells]
  · simp
/-- A map has one list, but for its order. -/
theorem Maps.len {A B : List KE} {f : KY → Option EN} (hA : Maps A f) (hB : Maps B f) : A.length = B.length := by
  have h1 : (A.map Prod.fst).length ≤ (B.map Prod.fst).length := List.Nodup.length_le_of_subset hA.nd (fun k hk => by
    obtain ⟨⟨q, e⟩, h, rfl⟩ := List.mem_map.1 hk
    exact List.mem_map.2 ⟨(q, e), (hB.mem q e).2 ((hA.mem q e).1 h), rfl⟩)
  have h2 : (B.map Prod.fst).length ≤ (A.map Prod.fst).length := List.Nodup.length_le_of_subset hB.nd (fun k hk => by
    obtain ⟨⟨q, e⟩, h, rfl⟩ := List.mem_map.1 hk
    exact List.mem_map.2 ⟨(q, e), (hA.mem q e).2 ((hB.mem q e).1 h), rfl⟩)
  simp only [List.length_map] at h1 h2
  omega
end TX
end Go.Proofs.Ytdigjpddmfolgaa

/- entries: its state; what its sort is to do. -/
namespace Go.Proofs.Ytdigjpddmfolgaa
set_option linter.unusedVariables false
set_option linter.unusedSimpArgs false
namespace TX
open Go.RowKit Go.Sort
set_option maxRecDepth 100000

/-- Keys that rise. -/
def RisD (V : List KE) : Prop := V.Pairwise (fun a b => cmp a.1 b.1 < 0)
/-- What the sort of a row of keys with entries does. -/
def SortsD : Prop := ∀ (w : World) (B : Nat) (v : Value) (V : List KE), OwnD w B v V → v.ownBlock.isSome = true → (V.map Prod.fst).Nodup → V.length ≤ 2199023255552 → Calls Try.prog 41 #[v, .func (.func 42) #[] #[]] w fun e w' => e = .returned (.tuple #[]) ∧ ∃ V' : List KE, V'.Perm V ∧ RisD V' ∧ OwnD w' B v V' ∧ w.grownBy w' v.ownBlock
/-- Between two rounds. -/
structure EnS (w : World) (N lb : Nat) (Ds : List Nat) (V : List KE) (W : World) : Prop where
  row : ∃ v, Blk W lb #[v] KLT ∧ OwnD W N v V ∧ v.ownBlock.isSome = true
  lo : N ≤ lb
  bel : Below N w W
  sz : N ≤ W.heap.size
  nd : Ds.Nodup
  df : ∀ D ∈ Ds, N ≤ D ∧ W.heap[D]? = some (.deferred (some []))
section
variable {w W W' : World} {N lb : Nat} {Ds : List Nat} {V : List KE}
theorem EnS.below (h : EnS w N lb Ds V W) (hb : Below W.heap.size W W') : EnS w N lb Ds V W' := by
  obtain ⟨v, h1, h2, h3⟩ := h.row
  exact ⟨⟨v, h1.below hb h1.lt, h2.below hb, h3⟩, h.lo, h.bel.trans (hb.mono h.sz), Nat.le_trans h.sz hb.size, h.nd, fun D hD => ⟨(h.df D hD).1, heap_grows hb (h.df D hD).2⟩⟩
theorem EnS.kept {C : Nat} {row : Option Nat} (h : EnS w N lb Ds V W) (hC : N ≤ C) (hg : W.grownBy W' row) (hr : ∀ r, row = some r → C ≤ r ∧ ∃ o : Obj, W.heap[r]? = some o ∧ o.isCells = false) (hD : ∀ D ∈ Ds, row ≠ some D) : EnS w N lb Ds V W' := by
  have hr2 : ∀ r, row = some r → ∃ o : Obj, W.heap[r]? = some o ∧ o.isCells = false := fun r e => (hr r e).2
  obtain ⟨v, h1, h2, h3⟩ := h.row
  have hs := h.sz
  exact ⟨⟨v, Blk.kept h1 hg hr2, h2.kept hg hr2, h3⟩, h.lo,
    ⟨hg.os.trans h.bel.os, hg.tape.trans h.bel.tape, hg.output.trans h.bel.output, Nat.le_trans h.bel.size hg.size, fun i hi => (hg.block i (by omega) (fun e => by have := (hr i e.symm).1; omega)).trans (h.bel.block i hi)⟩,
    Nat.le_trans hs hg.size, h.nd, fun D hDm => ⟨(h.df D hDm).1, (hg.block D (Array.getElem?_eq_some_iff.1 (h.df D hDm).2).1 (fun e => hD D hDm e.symm)).trans (h.df D hDm).2⟩⟩
theorem EnS.own {V0 : List KE} {C : Nat} (hC : N ≤ C) (hD : ∀ D ∈ Ds, D < C) : OwnFrom C (fun pre W => EnS w N lb Ds (V0 ++ pre) W) :=
  fun s A B row h hg hr => h.kept hC hg hr (fun D hm e => by have := (hr D e).1; have := hD D hm; omega)
theorem EnS.putLoop (h : EnS w N lb Ds V W) {l : Nat} {q : Loop} (hl : W.heap[l]? = some (.loop q)) (o' : Obj) (hN : N ≤ l) : EnS w N lb Ds V (W.putObj l o') :=
  h.kept hN (grownBy_putObj' W l o') (fun r e => by cases e; exact ⟨Nat.le_refl _, _, hl, rfl⟩) (fun D hm e => by
    have := (h.df D hm).2
    rw [← Option.some.inj e, hl] at this
    cases this)
theorem not_def {W : World} {b : Nat} {cs : Array Value} {t : TypeId} (h : Blk W b cs t) : (∀ q, W.heap[b]? ≠ some (.loop q)) ∧ ∀ d, W.heap[b]? ≠ some (.deferred d) := by
  unfold Blk at h
  exact ⟨fun q e => (by rw [h] at e; cases e), fun d e => (by rw [h] at e; cases e)⟩
theorem KeepsLD.grown' {A B : World} {row : Option Nat} (h : A.grownBy B row) (hr : ∀ r, row = some r → ∃ cs t, Blk A r cs t) : KeepsLD A B := by
  refine ⟨fun i q e => (h.block i (Array.getElem?_eq_some_iff.1 e).1 (fun e2 => ?_)).trans e, fun i d e => (h.block i (Array.getElem?_eq_some_iff.1 e).1 (fun e2 => ?_)).trans e⟩
  · obtain ⟨cs, t, hb⟩ := hr i e2.symm
    exact (not_def hb).1 q e
  · obtain ⟨cs, t, hb⟩ := hr i e2.symm
    exact (not_def hb).2 d e
/-- A row has one more, and the list's box is given it. -/
theorem EnS.push (h : EnS w N lb Ds V W) {v v' : Value} {z : KE} {W4 : World} (hl : Blk W lb #[v] KLT) (ho : OwnD W N v V) (hbk : v.ownBlock.isSome = true) (ho4 : OwnD W4 N v' (V ++ [z])) (hg : W.grownBy W4 v.ownBlock) (hv : v'.ownBlock = v.ownBlock ∨ v'.ownBlock = some W.heap.size) :
    Blk W4 lb #[v] KLT ∧ EnS w N lb Ds (V ++ [z]) (W4.setCell ⟨lb, 0, none⟩ v') ∧ KeepsLD W (W4.setCell ⟨lb, 0, none⟩ v') ∧ KeepT tys W (W4.setCell ⟨lb, 0, none⟩ v') := by
  have hs := h.sz
  have hl4 := blk_grewD ho hg hl (by decide)
  have hg2 := grownBy_set W4 lb 0 v'
  have k1 : KeepsLD W W4 := KeepsLD.grown' hg (fun r e => by obtain ⟨cs, hc⟩ := ho.blk e; exact ⟨cs, _, hc⟩)
  have k2 : KeepsLD W4 (W4.setCell ⟨lb, 0, none⟩ v') := KeepsLD.grown' hg2 (fun r e => by cases e; exact ⟨_, _, hl4⟩)
  have t1 : KeepT tys W W4 := KeepT.grown hg (fun r e => by obtain ⟨cs, hc⟩ := ho.blk e; exact ⟨cs, _, _, hc, by decide⟩)
  have t2 : KeepT tys W4 (W4.setCell ⟨lb, 0, none⟩ v') := KeepT.grown hg2 (fun r e => by cases e; exact ⟨_, _, _, hl4, by decide⟩)
  have o5 : OwnD (W4.setCell ⟨lb, 0, none⟩ v') N v' (V ++ [z]) := ho4.grown hg2 (fun g e e2 => by
    obtain ⟨cs, hc⟩ := ho4.blk e
    rw [Option.some.inj e2] at hc
    exact blk_ne hc hl4 (by decide) rfl)
  refine ⟨hl4, ⟨⟨v', hl4.set 0 v', o5, by rcases hv with e | e <;> rw [e]; exact hbk; rfl⟩, h.lo, ⟨hg2.os.trans (hg.os.trans h.bel.os), hg2.tape.trans (hg.tape.trans h.bel.tape), hg2.output.trans (hg.output.trans h.bel.output), Nat.le_trans h.bel.size (Nat.le_trans hg.size hg2.size), fun i hi => ?_⟩, Nat.le_trans hs (Nat.le_trans hg.size hg2.size), h.nd, fun D hD => ⟨(h.df D hD).1, k2.df _ _ (k1.df _ _ (h.df D hD).2)⟩⟩, k1.trans k2, t1.trans t2⟩
  have hlo := h.lo
  have hsz := hg.size
  refine ((hg2.block i (by omega) (fun e => by have := Option.some.inj e; omega)).trans (hg.block i (by omega) (fun e => ?_))).trans (h.bel.block i hi)
  have := (ho.lt e.symm).2
  omega
/-- The row is sorted, where it lies. -/
theorem EnS.sorted (h : EnS w N lb Ds V W) {v : Value} {V' : List KE} (hl : Blk W lb #[v] KLT) (ho : OwnD W N v V) (hbk : v.ownBlock.isSome = true) (ho4 : OwnD W' N v V') (hg : W.grownBy W' v.ownBlock) : EnS w N lb Ds V' W' := by
  have hs := h.sz
  have k1 : KeepsLD W W' := KeepsLD.grown' hg (fun r e => by obtain ⟨cs, hc⟩ := ho.blk e; exact ⟨cs, _, hc⟩)
  refine ⟨⟨v, blk_grewD ho hg hl (by decide), ho4, hbk⟩, h.lo, ⟨hg.os.trans h.bel.os, hg.tape.trans h.bel.tape, hg.output.trans h.bel.output, Nat.le_trans h.bel.size hg.size, fun i hi => (hg.block i (by omega) (fun e => ?_)).trans (h.bel.block i hi)⟩, Nat.le_trans hs hg.size, h.nd, fun D hD => ⟨(h.df D hD).1, k1.df _ _ (h.df D hD).2⟩⟩
  have := (ho.lt e.symm).2
  omega
end
/-- Two lists of one map, both rising, are one. -/
theorem ris_unique : ∀ {A B : List KE} {f : KY → Option EN}, Maps A f → Maps B f → RisD A → RisD B → A = B := by
  have key : ∀ (A B : List KE), (∀ x, x ∈ A ↔ x ∈ B) → RisD A → RisD B → A = B := by
    intro A
    induction A with
    | nil =>
      intro B h _ _
      cases B with
      | nil => rfl
      | cons b bs => exact absurd ((h b).2 (by simp)) (by simp)
    | cons a ax ih =>
      intro B h hA hB
      cases B with
      | nil => exact absurd ((h a).1 (by simp)) (by simp)
      | cons b bs =>
        have hA1 := List.pairwise_cons.1 hA
        have hB1 := List.pairwise_cons.1 hB
        have hab : a = b := by
          rcases List.mem_cons.1 ((h a).1 (by simp)) with e | e
          · exact e
          · rcases List.mem_cons.1 ((h b).2 (by simp)) with e2 | e2
            · exact e2.symm
            · have h1 := hB1.1 a e
              have h2 := hA1.1 b e2
              have := cmp_neg a.1 b.1
              omega
        subst hab
        have hne : ∀ x ∈ ax, x ≠ a := fun x hx e => by have := hA1.1 x hx; rw [e, cmp_self] at this; omega
        have hne2 : ∀ x ∈ bs, x ≠ a := fun x hx e => by have := hB1.1 x hx; rw [e, cmp_self] at this; omega
        rw [ih bs (fun x => ⟨fun hx => ?_, fun hx => ?_⟩) hA1.2 hB1.2]
        · rcases List.mem_cons.1 ((h x).1 (List.mem_cons_of_mem _ hx)) with e | e
          · exact absurd e (hne x hx)
          · exact e
        · rcases List.mem_cons.1 ((h x).2 (List.mem_cons_of_mem _ hx)) with e | e
          · exact absurd e (hne2 x hx)
          · exact e
  intro A B f hA hB rA rB
  exact key A B (fun x => by rw [show x = (x.1, x.2) from rfl, hA.mem, hB.mem]) rA rB
end TX
end Go.Proofs.Ytdigjpddmfolgaa
