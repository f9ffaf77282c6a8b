/- A row of keys that grows; a key laid into a rising list; what a drawn region reads. -/
import Derived.Test.YtnloglecfbhpcaaKM4
import Derived.Test.YtnloglecfbhpcaaKP2
import Derived.Test.YtnloglecfbhpcaaKB5
import Derived.Maps.AppendAt
import Derived.Lib.QuietBelow
namespace Go.Proofs.Ytnloglecfbhpcaa
set_option linter.unusedVariables false
set_option linter.unusedSimpArgs false
open Go.RowKit Go.Sort
set_option maxRecDepth 100000

theorem infoKeyQ : ∃ i, Try.prog.info? 38 = some i ∧ i.zero = some (.agg keyZ) ∧ i.size = 32 ∧ i.bytes = 32 := by
  have h : (Try.prog.info? 38).map (fun i => (i.zero, i.size, i.bytes)) = some (some (.agg keyZ), 32, 32) := by kernel_rfl
  cases hi : Try.prog.info? 38 with
  | none => rw [hi] at h; cases h
  | some i =>
    rw [hi] at h
    simp at h
    exact ⟨i, rfl, h.1, h.2.1, h.2.2⟩
theorem list32Q (k : List UInt8) (h : k.length = 32) : ∃ b0 b1 b2 b3 b4 b5 b6 b7 b8 b9 b10 b11 b12 b13 b14 b15 b16 b17 b18 b19 b20 b21 b22 b23 b24 b25 b26 b27 b28 b29 b30 b31, k = [b0, b1, b2, b3, b4, b5, b6, b7, b8, b9, b10, b11, b12, b13, b14, b15, b16, b17, b18, b19, b20, b21, b22, b23, b24, b25, b26, b27, b28, b29, b30, b31] := by
  match k, h with
  | [b0, b1, b2, b3, b4, b5, b6, b7, b8, b9, b10, b11, b12, b13, b14, b15, b16, b17, b18, b19, b20, b21, b22, b23, b24, b25, b26, b27, b28, b29, b30, b31], _ => exact ⟨_, _, _, _, _, _, _, _, _, _, _, _, _, _, _, _, _, _, _, _, _, _, _, _, _, _, _, _, _, _, _, _, rfl⟩
theorem run_bsQ {op : Oper} {ev : Operand → Value} {x : Operand} {w : World} (k : List UInt8) (hk : k.length = 32) (ho : op.op = .buildSlice 39 1 #[(0, x)]) (hx : ev x = keyV k) : (execOp ev op).run Try.prog w = .ok (.value (.slice (some ⟨w.heap.size, 0, none⟩) 1 1)) (w.alloc (.cells (k.map u8c).toArray 38)) := by
  simp only [execOp, ho]
  simp only [List.map_toArray, List.map_cons, List.map_nil, hx]
  obtain ⟨b0, b1, b2, b3, b4, b5, b6, b7, b8, b9, b10, b11, b12, b13, b14, b15, b16, b17, b18, b19, b20, b21, b22, b23, b24, b25, b26, b27, b28, b29, b30, b31, rfl⟩ := list32Q k hk
  kernel_rfl
theorem wpList_runQ {ops : Array Oper} {rest : List Oper} {op : Oper} {a : Act} {w : World} {Q : Exit → Act → World → Prop} (v : Value) (w' : World) (hg : Region.wanted op (yielded ops a.tmps) = true) (hr : (execOp a.eval op).run Try.prog w = .ok (.value v) w')
    (h : wpList Try.prog ops Q rest (a.put op.dst v) w') : wpList Try.prog ops Q (op :: rest) a w := by
  refine wpList_step fun K hK => ?_
  rw [if_pos hg]
  unfold Oper.wp
  rw [hr]
  exact hK _ _ h
theorem wpList_bsQ {ops : Array Oper} {rest : List Oper} {op : Oper} {a : Act} {w : World} {Q : Exit → Act → World → Prop} (x : Operand) (k : List UInt8) (hk : k.length = 32) (hg : Region.wanted op (yielded ops a.tmps) = true) (ho : op.op = .buildSlice 39 1 #[(0, x)]) (hx : a.eval x = keyV k)
    (h : wpList Try.prog ops Q rest (a.put op.dst (.slice (some ⟨w.heap.size, 0, none⟩) 1 1)) (w.alloc (.cells (k.map u8c).toArray 38))) : wpList Try.prog ops Q (op :: rest) a w :=
  wpList_runQ _ _ hg (run_bsQ k hk ho hx) h
/-- The cells of a row of keys. -/
def rowQ (ks : List (List UInt8)) : List Value := ks.flatMap fun x => x.map u8c
theorem rowQ_snoc (ks : List (List UInt8)) (x : List UInt8) : rowQ (ks ++ [x]) = rowQ ks ++ x.map u8c := by simp [rowQ]
theorem rowQ_get : ∀ (ks : List (List UInt8)) (h32 : ∀ k ∈ ks, k.length = 32) (i c : Nat) (hi : i < ks.length) (hc : c < 32), (rowQ ks)[i * 32 + c]? = (ks[i].map u8c)[c]?
  | k :: r, h32, 0, c, _, hc => by
    rw [show rowQ (k :: r) = k.map u8c ++ rowQ r from rfl, List.getElem?_append_left (by rw [List.length_map, h32 k (by simp)]; omega), Nat.zero_mul, Nat.zero_add]; rfl
  | k :: r, h32, i + 1, c, hi, hc => by
    rw [show rowQ (k :: r) = k.map u8c ++ rowQ r from rfl, List.getElem?_append_right (by rw [List.length_map, h32 k (by simp)]; omega), List.length_map, h32 k (by simp), show (i + 1) * 32 + c - 32 = i * 32 + c by omega]
    exact rowQ_get r (fun x hx => h32 x (by simp [hx])) i c (by simpa using hi) hc
def OwnQ (W : World) (B : Nat) (v : Value) (ks : List (List UInt8)) : Prop := W.ownsRow B 38 32 v ks.length (rowQ ks)
theorem OwnQ.form {W : World} {B : Nat} {v : Value} {ks : List (List UInt8)} (h : OwnQ W B v ks) : ∃ ao cap, v = .slice ao ks.length cap ∧ (0 < ks.length → ∃ g, ao = some ⟨g, 0, none⟩) := by
  obtain ⟨h0, ⟨h1, h2⟩ | ⟨g, cap, cur, rfl, hb, hh, hx⟩⟩ := h
  · exact ⟨none, 0, by rw [h1, h2], fun h => by omega⟩
  · exact ⟨_, cap, rfl, fun _ => ⟨g, rfl⟩⟩
theorem OwnQ.below {W W' : World} {B : Nat} {v : Value} {ks : List (List UInt8)} (h : OwnQ W B v ks) (hb : Below W.heap.size W W') : OwnQ W' B v ks := by
  obtain ⟨h0, h1 | ⟨g, cap, cur, rfl, hg, hh, hr⟩⟩ := h
  · exact ⟨h0, .inl h1⟩
  · have hlt : g < W.heap.size := Blk.lt (cs := cur) (t := 38) hh
    exact ⟨h0, .inr ⟨g, cap, cur, rfl, hg, (hb.block g hlt).trans hh, hr⟩⟩
theorem OwnQ.grown {W W' : World} {B z : Nat} {v : Value} {ks : List (List UInt8)} (h : OwnQ W B v ks) (hz : z < B) (hg : W.grownBy W' (some z)) : OwnQ W' B v ks := by
  obtain ⟨h0, h1 | ⟨g, cap, cur, rfl, hB, hh, hr⟩⟩ := h
  · exact ⟨h0, .inl h1⟩
  · have hlt : g < W.heap.size := Blk.lt (cs := cur) (t := 38) hh
    exact ⟨h0, .inr ⟨g, cap, cur, rfl, hB, (hg.block g hlt (fun e => by have := Option.some.inj e; omega)).trans hh, hr⟩⟩
theorem OwnQ.own {W : World} {B : Nat} {v : Value} {ks : List (List UInt8)} (h : OwnQ W B v ks) : ∀ g, v.ownBlock = some g → B ≤ g := fun g hg => by
  obtain ⟨h0, ⟨rfl, _⟩ | ⟨g', cap, cur, rfl, hb, hh, hr⟩⟩ := h
  · cases hg
  · cases hg; exact hb
theorem OwnQ.read {W : World} {B g n cap : Nat} {ks : List (List UInt8)} (h32 : ∀ k ∈ ks, k.length = 32) (h : OwnQ W B (.slice (some ⟨g, 0, none⟩) n cap) ks) (i : Nat) (hi : i < ks.length) : W.rangeAt g (i * 32) (ks[i].map u8c) := fun c u hu => by
  obtain ⟨hl, ⟨e, _⟩ | ⟨g', cap', cur, e, hb, hh, hcap, hmax, hcs, ht⟩⟩ := h
  · cases e
  · cases e
    have hB : Blk W g cur 38 := hh
    have hc : c < 32 := by
      have := (List.getElem?_eq_some_iff.1 hu).1
      rwa [List.length_map, h32 _ (List.getElem_mem _)] at this
    have h2 := rowQ_get ks h32 i c hi hc
    rw [hu, ← ht, List.getElem?_take_of_lt (by omega), Array.getElem?_toList] at h2
    rw [hB.cell]
    exact h2
theorem wpList_appendQ {ops : Array Oper} {rest : List Oper} {o : Oper} {a : Act} {w : World} {Q : Exit → Act → World → Prop} (hgd : o.guard = none) (s x : Operand) (ho : o.op = .call { callee := .builtin .append, args := #[s, x], argTypes := #[39, 39] })
    (base : Nat) (v : Value) (ks : List (List UInt8)) (hs : a.eval s = v) (hown : OwnQ w base v ks) (z : Nat) (hx : a.eval x = .slice (some ⟨z, 0, none⟩) 1 1) (k : List UInt8) (hk : k.length = 32) (hc : Blk w z (k.map u8c).toArray 38) (hlen : ks.length + 1 ≤ 4398046511104) (hbase : base ≤ w.heap.size)
    (h : ∀ v' w', Hid (OwnQ w' base v' (ks ++ [k])) → Hid (w.grownBy w' v.ownBlock) → wpList Try.prog ops Q rest (a.put o.dst v') w') : wpList Try.prog ops Q (o :: rest) a w := by
  obtain ⟨i0, hi, hz0, hz1, hz2⟩ := infoKeyQ
  refine wpList_append_own_at w hgd s x 39 ho base 38 i0 (.agg keyZ) 32 32 Try.underlying39 hi hz0 hz1 hz2 rfl (by decide) v ks.length (rowQ ks) hs hown ⟨z, 0, none⟩ 1 1 (k.map u8c) hx (by simp [hk]) ?_ (u8c_one k) (by unfold maxLen; omega) (by omega) hbase ?_
  · intro j u hj
    rw [Addr.add_mid, hc.cell]
    simpa using hj
  · intro v' w' h1 h2 _ h4
    refine h v' w' (hide ?_) (hide h2)
    unfold OwnQ
    rw [rowQ_snoc, List.length_append, List.length_singleton]
    exact h1
theorem insK_yes {x : List UInt8} : ∀ {A : List (List UInt8)} (B : List (List UInt8)), (∃ y ∈ A, cmpK x y < 0) → insK x (A ++ B) = insK x A ++ B
  | [], _, h => by obtain ⟨y, hy, _⟩ := h; cases hy
  | a :: A, B, h => by
    rw [List.cons_append, insK, insK]
    by_cases e : cmpK x a = -1
    · rw [if_pos e, if_pos e]; rfl
    · rw [if_neg e, if_neg e, insK_yes B (by
        obtain ⟨y, hy, hc⟩ := h
        rcases List.mem_cons.1 hy with rfl | hy
        · rcases cmpK_range x y with q | q | q
          · exact absurd q e
          · omega
          · omega
        · exact ⟨y, hy, hc⟩)]
      rfl
theorem insK_no {x : List UInt8} : ∀ {A : List (List UInt8)} (B : List (List UInt8)), (∀ y ∈ A, ¬ cmpK x y < 0) → insK x (A ++ B) = A ++ insK x B
  | [], _, _ => rfl
  | a :: A, B, h => by
    have h1 := h a (List.mem_cons_self ..)
    rw [List.cons_append, insK, if_neg (by omega), insK_no B (fun y hy => h y (List.mem_cons_of_mem _ hy))]; rfl
/-- Between two rounds of Pin. -/
def LayP (x : List UInt8) (L : List (List UInt8)) (i : Nat) (laid : Bool) (M : List (List UInt8)) : Prop := (laid = true ∧ (∃ y ∈ L.take i, cmpK x y < 0) ∧ M = insK x (L.take i)) ∨ (laid = false ∧ (∀ y ∈ L.take i, ¬ cmpK x y < 0) ∧ M = L.take i)
theorem take_snoc {L : List (List UInt8)} {i : Nat} (h : i < L.length) {y : List UInt8} (hy : y = L[i]) : L.take (i + 1) = L.take i ++ [y] := by rw [List.take_succ_eq_append_getElem h, hy]
theorem LayP.kept {x y : List UInt8} {L M : List (List UInt8)} {i : Nat} (h : LayP x L i true M) (hi : i < L.length) (hy : y = L[i]) : LayP x L (i + 1) true (M ++ [y]) := by
  rcases h with ⟨_, ⟨q, hq, hc⟩, rfl⟩ | ⟨h, _⟩
  · refine .inl ⟨rfl, ⟨q, by rw [take_snoc hi hy]; exact List.mem_append.2 (.inl hq), hc⟩, ?_⟩
    rw [take_snoc hi hy, insK_yes [y] ⟨q, hq, hc⟩]
  · cases h
theorem LayP.laid {x y : List UInt8} {L M : List (List UInt8)} {i : Nat} (h : LayP x L i false M) (hi : i < L.length) (hy : y = L[i]) (hc : cmpK x y < 0) : LayP x L (i + 1) true (M ++ [x] ++ [y]) := by
  rcases h with ⟨h, _⟩ | ⟨_, hn, rfl⟩
  · cases h
  · refine .inl ⟨rfl, ⟨y, by rw [take_snoc hi hy]; simp, hc⟩, ?_⟩
    rw [take_snoc hi hy, insK_no [y] hn]
    have h1 : cmpK x y = -1 := by rcases cmpK_range x y with q | q | q <;> omega
    rw [insK, if_pos h1, List.append_assoc]; rfl
theorem LayP.past {x y : List UInt8} {L M : List (List UInt8)} {i : Nat} (h : LayP x L i false M) (hi : i < L.length) (hy : y = L[i]) (hc : ¬ cmpK x y < 0) : LayP x L (i + 1) false (M ++ [y]) := by
  rcases h with ⟨h, _⟩ | ⟨_, hn, rfl⟩
  · cases h
  · refine .inr ⟨rfl, fun q hq => ?_, (take_snoc hi hy).symm⟩
    rw [take_snoc hi hy] at hq
    rcases List.mem_append.1 hq with hq | hq
    · exact hn q hq
    · rw [List.mem_singleton.1 hq]; exact hc
theorem LayP.endT {x : List UInt8} {L M : List (List UInt8)} {i : Nat} (h : LayP x L i true M) (hi : L.length ≤ i) : M = insK x L := by
  rcases h with ⟨_, _, rfl⟩ | ⟨h, _⟩
  · rw [List.take_of_length_le hi]
  · cases h
theorem LayP.endF {x : List UInt8} {L M : List (List UInt8)} {i : Nat} (h : LayP x L i false M) (hi : L.length ≤ i) : M ++ [x] = insK x L := by
  rcases h with ⟨h, _⟩ | ⟨_, hn, rfl⟩
  · cases h
  · rw [List.take_of_length_le hi] at hn ⊢
    have := insK_no [] hn
    rw [List.append_nil] at this
    rw [this]; rfl
theorem LayP.len {x : List UInt8} {L M : List (List UInt8)} {i : Nat} {b : Bool} (h : LayP x L i b M) : M.length ≤ L.length + 1 := by
  rcases h with ⟨_, _, rfl⟩ | ⟨_, _, rfl⟩
  · rw [len_insK, List.length_take]; omega
  · rw [List.length_take]; omega
theorem ownQ_block {W : World} {B n cap : Nat} {ao : Option Addr} {a : Addr} {ks : List (List UInt8)} (h : OwnQ W B (.slice ao n cap) ks) (e : ao = some a) : (Value.slice (some a) n cap).ownBlock = some a.block := by
  subst e
  obtain ⟨h0, ⟨h1, h2⟩ | ⟨g, cap', cur, h1, _⟩⟩ := h
  · cases h1
  · cases h1; rfl
theorem ownQ_krow {W : World} {B n cap : Nat} {ao : Option Addr} {ks : List (List UInt8)} (h32 : ∀ k ∈ ks, k.length = 32) (h : OwnQ W B (.slice ao n cap) ks) : KRow W ao ks := by
  refine ⟨fun i hi => ?_, h32⟩
  obtain ⟨ao', cap', hv, hg⟩ := h.form
  obtain ⟨rfl, rfl, rfl⟩ := (Value.slice.injEq ..).mp hv
  obtain ⟨g, rfl⟩ := hg (by omega)
  refine ⟨g, 0, rfl, ?_⟩
  rw [Nat.zero_add]
  exact h.read h32 i hi
theorem below_of {W w : World} (h : ∃ p : Regrown, w = grow (redrawn W p.d) p.os) : Below W.heap.size W w := by
  obtain ⟨p, rfl⟩ := h
  exact below_regrown W p.d p.os
theorem range_regrown {w : World} {b o : Nat} {cs : List Value} (h : w.rangeAt b o cs) (d : Nat) (os : Array Obj) : (grow (redrawn w d) os).rangeAt b o cs := fun j v hj => cell_regrown (h j v hj) d os
theorem keyGuard2 (op : BinOp) (a b : List UInt8) (x y : Operand) (w : World) : (eqGuard op 38 x y (keyV a) (keyV b)).run Try.prog w = .ok () w := run_eqGuard_agg (P := Try.prog) w op 38 x y _ _ guardKey
theorem run_eqlKK {op : Oper} {ev : Operand → Value} {x y : Operand} {u : TypeId} {a b : List UInt8} (ho : op.op = .binOp .eql 38 x y u) (hx : ev x = keyV a) (hy : ev y = keyV b) (ha : a.length = 32) (hb : b.length = 32) (w : World) : (execOp ev op).run Try.prog w = .ok (.value (.bool (a == b))) w := by
  simp only [execOp, ho, hx, hy, Sem.run_bind, keyGuard2, Result.andThen_ok, keysEql a b ha hb, Sem.run_pure]
theorem run_neqKK {op : Oper} {ev : Operand → Value} {x y : Operand} {u : TypeId} {a b : List UInt8} (ho : op.op = .binOp .neq 38 x y u) (hx : ev x = keyV a) (hy : ev y = keyV b) (ha : a.length = 32) (hb : b.length = 32) (w : World) : (execOp ev op).run Try.prog w = .ok (.value (.bool (!(a == b)))) w := by
  simp only [execOp, ho, hx, hy, Sem.run_bind, keyGuard2, Result.andThen_ok, keysNeq a b ha hb, Sem.run_pure]
theorem run_loadK {op : Oper} {ev : Operand → Value} {x : Operand} {b o : Nat} {k : List UInt8} {w : World} (ho : op.op = .load 38 x) (hx : ev x = .pointer (some ⟨b, o, none⟩)) (hk : k.length = 32) (h : w.rangeAt b o (k.map u8c)) : (execOp ev op).run Try.prog w = .ok (.value (keyV k)) w := run_load ho hx (loadAt_key hk h)
theorem wanted_noQ {ops : Array Oper} {o : Oper} {a : Act} {j : Nat} {b : Bool} {t : Tmp} (hg : o.guard = some (j, b)) (hd : (ops[j]?).bind (·.dst) = some t) (he : a.eval (.tmp t) = .bool (!b)) (hz : t < a.tmps.size) : Region.wanted o (yielded ops a.tmps) = false := by
  have h1 : a.tmps[t]? = some (.bool (!b)) := by
    rw [Array.getElem?_eq_getElem hz]
    simpa [Act.eval, hz] using he
  simp [Region.wanted, hg, yielded, hd, h1]
theorem wpQuiet_no {P : Program} {ops : Array Oper} {C : World → Prop} {Q : Act → Prop} {a : Act} {o : Oper} {rest : List Oper} (hg : Region.wanted o (yielded ops a.tmps) = false) (h : wpQuiet P ops C Q rest (a.put o.dst undef)) : wpQuiet P ops C Q (o :: rest) a := by
  unfold wpQuiet
  rw [if_neg (by rw [hg]; simp)]
  exact h
/-- Operations whose guard is off, one behind the other. -/
theorem wpQuiet_nos {P : Program} {ops : Array Oper} {C : World → Prop} {Q : Act → Prop} (t : Tmp) (j : Nat) (b : Bool) (hd : (ops[j]?).bind (·.dst) = some t) : ∀ (n : Nat) (L : List Oper) (a : Act), (∀ x ∈ L.take n, x.guard = some (j, b) ∧ ∃ d, x.dst = some d ∧ d ≠ t) → a.eval (.tmp t) = .bool (!b) → t < a.tmps.size →
    wpQuiet P ops C Q (L.drop n) ((L.take n).foldl (fun a o => a.put o.dst undef) a) → wpQuiet P ops C Q L a
  | 0, L, a, _, _, _, h => h
  | n + 1, [], a, _, _, _, h => h
  | n + 1, o :: L, a, hL, he, hz, h => by
    obtain ⟨g, d, hdd, hne⟩ := hL o (by simp)
    refine wpQuiet_no (wanted_noQ g hd he hz) ?_
    refine wpQuiet_nos t j b hd n L (a.put o.dst undef) (fun x hx => hL x (by simp [hx])) ?_ ?_ (by simpa using h)
    · rw [hdd]
      simp only [Act.put, Act.eval] at he ⊢
      rw [← he]
      simp [Array.getD, Array.getElem_setIfInBounds, hz, Ne.symm hne, hne]
    · rw [hdd]; simpa [Act.put] using hz
theorem wpQuiet_move_nos {P : Program} {ops : Array Oper} {C : World → Prop} {Q : Act → Prop} {a : Act} {o : Oper} {L : List Oper} (t : Tmp) (j : Nat) (b : Bool) (n : Nat) (hg : Region.wanted o (yielded ops a.tmps) = true) (hr : ∀ w, C w → (execOp a.eval o).run P w = .ok (.value (.bool (!b))) w) (hot : o.dst = some t) (hd : (ops[j]?).bind (·.dst) = some t)
    (hz : t < a.tmps.size) (hL : ∀ x ∈ L.take n, x.guard = some (j, b) ∧ ∃ d, x.dst = some d ∧ d ≠ t)
    (h : wpQuiet P ops C Q (L.drop n) ((L.take n).foldl (fun a o => a.put o.dst undef) (a.put (some t) (.bool (!b))))) : wpQuiet P ops C Q (o :: L) a := by
  refine wpQuiet_val _ hg hr ?_
  rw [hot]
  refine wpQuiet_nos t j b hd n L _ hL ?_ (by simpa [Act.put] using hz) h
  simp [Act.eval, Act.put, Array.getD, hz]
/-- Blocks that hold bytes stay. -/
def KeepU (w w' : World) : Prop := ∀ (b o : Nat) (u : UInt8), w.cell? ⟨b, o, none⟩ = some (u8c u) → w'.heap[b]? = w.heap[b]?
theorem cell_of_heap {w w' : World} {b o : Nat} (h : w'.heap[b]? = w.heap[b]?) : w'.cell? ⟨b, o, none⟩ = w.cell? ⟨b, o, none⟩ := by
  unfold World.cell?
  simp only
  rw [h]
theorem KeepU.refl (w : World) : KeepU w w := fun _ _ _ _ => rfl
theorem KeepU.trans {a b c : World} (h : KeepU a b) (k : KeepU b c) : KeepU a c := fun z o u hu => by
  have h1 := h z o u hu
  exact (k z o u ((cell_of_heap h1).trans hu)).trans h1
theorem KeepU.below {w w' : World} (h : Below w.heap.size w w') : KeepU w w' := fun b o u hu => h.block b (World.block_lt_of_cell? w _ hu)
/-- A block with no byte in it. -/
def NoU (w : World) (z : Nat) : Prop := ∀ (o : Nat) (u : UInt8), w.cell? ⟨z, o, none⟩ ≠ some (u8c u)
theorem KeepU.grown {w w' : World} {z : Nat} (hg : w.grownBy w' (some z)) (hz : NoU w z) : KeepU w w' := fun b o u hu => hg.block b (World.block_lt_of_cell? w _ hu) (fun e => by
  rw [Option.some.inj e] at hu
  exact hz o u hu)
theorem NoU.blk {w : World} {z : Nat} {cs : Array Value} {t : TypeId} (hz : Blk w z cs t) (hv : ∀ v ∈ cs.toList, ∀ u : UInt8, v ≠ u8c u) : NoU w z := fun o u hu => by
  rw [hz.cell] at hu
  exact hv _ (by rw [← Array.getElem?_toList] at hu; exact List.mem_of_getElem? hu) u rfl
theorem KRow.keepU {w w' : World} {ao : Option Addr} {ks : List (List UInt8)} (h : KRow w ao ks) (hk : KeepU w w') : KRow w' ao ks :=
  ⟨fun i hi => by
    obtain ⟨g, o, e, hr⟩ := h.at' i hi
    refine ⟨g, o, e, fun j v hj => ?_⟩
    have h1 := hr j v hj
    obtain ⟨u, _, rfl⟩ := List.mem_map.1 (List.mem_of_getElem? hj)
    rw [← h1]
    exact cell_of_heap (hk _ _ u h1), h.len⟩
/-- The document's set in memory. -/
structure RsAt (w : World) (z : Nat) (ao : Option Addr) (n c : Nat) (R : List (List UInt8)) : Prop where
  blk : Blk w z #[.slice ao n c] 48
  len : n = R.length
  row : KRow w ao R
theorem RsAt.noU {w : World} {z : Nat} {ao : Option Addr} {n c : Nat} {R : List (List UInt8)} (h : RsAt w z ao n c R) : NoU w z := NoU.blk h.blk (fun v hv u e => by
  rw [List.mem_singleton.1 hv] at e
  cases e)
theorem RsAt.below {w w' : World} {z : Nat} {ao : Option Addr} {n c : Nat} {R : List (List UInt8)} (h : RsAt w z ao n c R) (hb : Below w.heap.size w w') : RsAt w' z ao n c R := ⟨h.blk.below hb h.blk.lt, h.len, h.row.below hb⟩
end Go.Proofs.Ytnloglecfbhpcaa
