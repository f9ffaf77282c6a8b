/- The document's work list: greys, Push, end, At. -/
import Derived.Test.YtiogblfdchdioaaGLb
namespace Go.Proofs.Ytiogblfdchdioaa
set_option linter.unusedVariables false
set_option linter.unusedSimpArgs false
namespace RG
open Go.RowKit
set_option maxRecDepth 100000

/-- A row of one's own. -/
def OwnG (w : World) (B : Nat) (v : Value) (V : List EL) : Prop := w.ownsRow B elT WD v V.length (rowC V)
theorem OwnG.nil (w : World) (B : Nat) : OwnG w B (.slice none 0 0) [] := World.ownsRow_nil _ _ _ _
theorem OwnG.form {w : World} {B : Nat} {v : Value} {V : List EL} (h : OwnG w B v V) : ∃ ao c, v = .slice ao V.length c ∧ (0 < V.length → ∃ g, ao = some ⟨g, 0, none⟩) := by
  obtain ⟨h0, ⟨h1, h2⟩ | ⟨g, cap, cur, rfl, hb, hh, hx⟩⟩ := h
  · exact ⟨none, 0, by rw [h1, h2], fun h => by omega⟩
  · exact ⟨_, cap, rfl, fun _ => ⟨g, rfl⟩⟩
theorem OwnG.lt {w : World} {B : Nat} {v : Value} {V : List EL} (h : OwnG w B v V) {b : Nat} (hb : v.ownBlock = some b) : b < w.heap.size ∧ B ≤ b := by
  obtain ⟨h0, ⟨rfl, h2⟩ | ⟨g, cap, cur, rfl, hB, hh, hx⟩⟩ := h
  · cases hb
  · cases hb; exact ⟨Blk.lt (cs := cur) (t := elT) hh, hB⟩
theorem OwnG.same {w w' : World} {B : Nat} {v : Value} {V : List EL} (h : OwnG w B v V) (hs : ∀ b, v.ownBlock = some b → w'.heap[b]? = w.heap[b]?) : OwnG w' B v V := by
  obtain ⟨h0, h1 | ⟨g, cap, cur, rfl, hB, hh, hx⟩⟩ := h
  · exact ⟨h0, .inl h1⟩
  · exact ⟨h0, .inr ⟨g, cap, cur, rfl, hB, (hs g rfl).trans hh, hx⟩⟩
theorem OwnG.below {w w' : World} {B : Nat} {v : Value} {V : List EL} (h : OwnG w B v V) (hb : Below w.heap.size w w') : OwnG w' B v V := h.same (fun b e => hb.block b (h.lt e).1)
theorem OwnG.lower {w : World} {B C : Nat} {v : Value} {V : List EL} (h : OwnG w C v V) (hB : B ≤ C) : OwnG w B v V := by
  obtain ⟨h0, h1 | ⟨g, cap, cur, rfl, hC, hh, hx⟩⟩ := h
  · exact ⟨h0, .inl h1⟩
  · exact ⟨h0, .inr ⟨g, cap, cur, rfl, Nat.le_trans hB hC, hh, hx⟩⟩
theorem OwnG.read {w : World} {B : Nat} {v : Value} {V : List EL} (h : OwnG w B v V) : RowR w v V := by
  obtain ⟨ao, c, e, hg⟩ := h.form
  refine ⟨ao, c, e, fun hp => ?_⟩
  obtain ⟨g, rfl⟩ := hg hp
  refine ⟨g, 0, rfl, fun j x hx q u hu => ?_⟩
  rw [e] at h
  have hq := flat_at V j x (fun y _ => elC_len y) hx q u hu
  have := World.ownsRow.cells (g := g) h rfl (j * WD + q) u hq
  rw [Addr.add_mid] at this
  rw [ofs_is]
  rw [← this]
  congr 2
  omega
theorem elI' : ∃ i, Try.prog.info? elT = some i ∧ i.zero = some (elV elZ) ∧ i.size = WD ∧ i.bytes = EB := by
  obtain ⟨i, hi, hzz⟩ := Option.map_eq_some_iff.1 elI
  simp only [Prod.mk.injEq] at hzz
  exact ⟨i, hi, hzz.1, hzz.2.1, hzz.2.2⟩
theorem run_bsE {op : Oper} {ev : Operand → Value} {x : Operand} {w : World} (v : EL) (ho : op.op = .buildSlice slT 1 #[(0, x)]) (hx : ev x = elV v) : (execOp ev op).run Try.prog w = .ok (.value (.slice (some ⟨w.heap.size, 0, none⟩) 1 1)) (w.alloc (.cells (elA v) elT)) := by
  simp only [execOp, ho]
  simp only [List.map_toArray, List.map_cons, List.map_nil, hx]
  obtain ⟨key, nxt, hk⟩ := v
  obtain ⟨a0, a1, a2, a3, a4, a5, a6, a7, a8, a9, a10, a11, a12, a13, a14, a15, a16, a17, a18, a19, a20, a21, a22, a23, a24, a25, a26, a27, a28, a29, a30, a31, rfl⟩ := list32 hk
  kernel_rfl
theorem wpList_bsE {ops : Array Oper} {rest : List Oper} {op : Oper} {a : Act} {w : World} {Q : Exit → Act → World → Prop} (hgd : op.guard = none) (x : Operand) (v : EL) (ho : op.op = .buildSlice slT 1 #[(0, x)]) (hx : a.eval x = elV v)
    (h : wpList Try.prog ops Q rest (a.put op.dst (.slice (some ⟨w.heap.size, 0, none⟩) 1 1)) (w.alloc (.cells (elA v) elT))) : wpList Try.prog ops Q (op :: rest) a w := by
  refine wpList_plain hgd fun K hK => ?_
  unfold Oper.wp
  rw [run_bsE v ho hx]
  exact hK _ _ h
theorem wpList_ldR {ops : Array Oper} {rest : List Oper} {op : Oper} {a : Act} {w : World} {Q : Exit → Act → World → Prop} (hg : Region.wanted op (yielded ops a.tmps) = true) (x : Operand) (ho : op.op = .load elT x) (b o : Nat) (hx : a.eval x = .pointer (some ⟨b, o, none⟩)) (v : EL) (hr : w.rangeAt b o (elC v))
    (hk : wpList Try.prog ops Q rest (a.put op.dst (elV v)) w) : wpList Try.prog ops Q (op :: rest) a w :=
  wpList_valG _ hg (run_load ho hx (run_ld hr)) hk
/-- One more. -/
theorem wpList_appE {ops : Array Oper} {rest : List Oper} {o : Oper} {a : Act} {w : World} {Q : Exit → Act → World → Prop} (hgd : o.guard = none) (s x : Operand) (ho : o.op = .call { callee := .builtin .append, args := #[s, x], argTypes := #[slT, slT] })
    (base : Nat) (v : Value) (V : List EL) (hs : a.eval s = v) (hown : OwnG w base v V) (z : Nat) (hx : a.eval x = .slice (some ⟨z, 0, none⟩) 1 1) (e : EL) (hc : BoxEl w z e) (hlen : V.length + 1 ≤ 3518437208832) (hbase : base ≤ w.heap.size)
    (h : ∀ v' w', Hid (OwnG w' base v' (V ++ [e])) → Hid (w.grownBy w' v.ownBlock) → Hid (v'.ownBlock = v.ownBlock ∨ v'.ownBlock = some w.heap.size) → wpList Try.prog ops Q rest (a.put o.dst v') w') : wpList Try.prog ops Q (o :: rest) a w := by
  obtain ⟨i0, hi, hz0, hz1, hz2⟩ := elI'
  refine wpList_append_own_at w hgd s x slT ho base elT i0 (elV elZ) WD EB slU hi hz0 hz1 hz2 (by simp [elV_cells, elC_len]) (by decide) v V.length (rowC V) hs hown ⟨z, 0, none⟩ 1 1 (elC e) hx (by rw [elC_len]; rfl) ?_ (elC_one e) (by unfold maxLen; omega) (by simp only [EB]; omega) hbase ?_
  · intro j u hj
    rw [Addr.add_mid]
    have hb : Blk w z (elA e) elT := hc
    rw [hb.cell, ← Array.getElem?_toList]
    unfold elA
    rw [Nat.zero_add]
    exact hj
  · intro v' w' h1 h2 _ h4
    refine h v' w' (hide ?_) (hide h2) (hide h4)
    unfold OwnG
    rw [List.length_append, List.length_singleton, show rowC (V ++ [e]) = rowC V ++ elC e by simp [rowC]]
    exact h1
def GreysC (w : World) (L : List EL) (e : Ending) (w' : World) : Prop := ∃ v, e = .returned v ∧ OwnG w' w.heap.size v L ∧ Below w.heap.size w w'
theorem greys_any (w : World) (v : Value) (L : List EL) (h : RowR w v L) (hn : L.length ≤ 3518437208000) : Calls Try.prog 37 #[v] w (GreysC w L) := by
  obtain ⟨ao, c, rfl, hao⟩ := h
  obtain ⟨n, hnl⟩ : ∃ n, n = L.length := ⟨_, rfl⟩
  have HN := hide hnl
  have HAO := hide hao
  rw [← hnl] at hn ⊢
  clear hnl hao
  go_enter Try.func37, Try.ntmps37
  go_upto_region 3 with fail
  go_loopw [3, 4] (fun t ti wr => ∃ (i : Nat) (u : Value), u = t ∧ ti = .int .i64 i ∧ i ≤ n ∧ OwnG wr w.heap.size u (L.take i) ∧ Below w.heap.size w wr) (fun _ ti _ => n - (intOf ti).toNat)
  case atStart => exact ⟨0, _, rfl, rfl, Nat.zero_le _, OwnG.nil _ _, Below.refl _ _⟩
  case round =>
    obtain ⟨i, u, rfl, rfl, hi, hO, hb⟩ := hrel
    by_cases hlt : i < n
    · have hii : (i : Int) < (n : Int) := by omega
      obtain ⟨h, so, rfl, hr⟩ := HAO.out (by rw [← HN.out]; omega)
      obtain ⟨x, hx⟩ : ∃ x, L[i]? = some x := ⟨_, List.getElem?_eq_getElem (by rw [← HN.out]; exact hlt)⟩
      have hri := hr i x hx
      have HRI : Hid (wr.rangeAt h (so + i * 33) (elC x)) := hide (fun q v hv => (hb.cell (World.block_lt_of_cell? w _ (hri q v hv))).trans (hri q v hv))
      have HO : Hid (OwnG (wr.alloc (.cells (elA x) elT)) w.heap.size u (L.take i)) := hide (hO.below (below_alloc _ _))
      have HBX : Hid (BoxEl (wr.alloc (.cells (elA x) elT)) wr.heap.size x) := hide (BoxEl.made _ _)
      have HLN : Hid ((L.take i).length + 1 ≤ 3518437208832) := hide (by rw [List.length_take]; omega)
      have HBB : Hid (w.heap.size ≤ (wr.alloc (.cells (elA x) elT)).heap.size) := hide (by have := hb.size; simp; omega)
      have HB := hide hb
      have HOO := hide hO
      have HX := hide hx
      clear hri hr hx hO hb
      go_wp2_with (first | ((with_reducible refine wpList_ldR ?_ (.tmp 14) ?_ h (so + i * 33) ?_ x HRI.out ?_); rfl; rfl; rfl) | ((with_reducible refine wpList_bsE ?_ (.tmp 15) x ?_ ?_ ?_); rfl; rfl; rfl) | ((with_reducible refine wpList_appE ?_ (.tmp 11) (.tmp 16) ?_ w.heap.size u (L.take i) ?_ HO.out wr.heap.size ?_ x HBX.out HLN.out HBB.out ?_); rfl; rfl; rfl; rfl; intro u2 w2 h1 h2 h3))
      refine ⟨⟨i + 1, u2, rfl, by go_num, by omega, ?_, ?_⟩, by simp [intOf]; omega⟩
      · have hl := (List.getElem?_eq_some_iff.1 HX.out).1
        have e1 : L.take (i + 1) = L.take i ++ [x] := by rw [List.take_succ_eq_append_getElem hl, (List.getElem?_eq_some_iff.1 HX.out).2]
        rw [e1]; exact h1.out
      · have hb := HB.out
        have hba : Below w.heap.size w (wr.alloc (.cells (elA x) elT)) := hb.alloc hb.size _
        exact hba.grown h2.out HBB.out (fun k hk => ((HO.out).lt hk).2)
    · have hii : ¬ (i : Int) < (n : Int) := by omega
      obtain rfl : n = i := by omega
      rw [HN.out, List.take_length] at hO
      have HO := hide hO
      have HB := hide hb
      clear hO hb
      go_wp2
      go_ret
      exact ⟨_, rfl, HO.out, HB.out⟩
end RG
end Go.Proofs.Ytiogblfdchdioaa
