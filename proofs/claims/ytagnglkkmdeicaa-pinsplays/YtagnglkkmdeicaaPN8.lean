/- PinsWalk: a row of keys that grows; what stands between two steps of going by Next. -/
import Derived.Test.YtagnglkkmdeicaaPN5
import Derived.Test.YtagnglkkmdeicaaPNm
namespace Go.Proofs.Ytagnglkkmdeicaa
set_option linter.unusedVariables false
set_option linter.unusedSimpArgs false
open Go.RowKit
set_option maxRecDepth 100000

theorem infoKeyQ : ∃ i, Try.prog.info? 30 = some i ∧ i.zero = some (.agg keyZ) ∧ i.size = 32 ∧ i.bytes = 32 := by
  have h : (Try.prog.info? 30).map (fun i => (i.zero, i.size, i.bytes)) = some (some (.agg keyZ), 32, 32) := by kernel_rfl
  cases hi : Try.prog.info? 30 with
  | none => rw [hi] at h; cases h
  | some i =>
    rw [hi] at h
    simp at h
    exact ⟨i, rfl, h.1, h.2.1, h.2.2⟩
theorem list32Q (k : List UInt8) (h : k.length = 32) : ∃ b0 b1 b2 b3 b4 b5 b6 b7 b8 b9 b10 b11 b12 b13 b14 b15 b16 b17 b18 b19 b20 b21 b22 b23 b24 b25 b26 b27 b28 b29 b30 b31, k = [b0, b1, b2, b3, b4, b5, b6, b7, b8, b9, b10, b11, b12, b13, b14, b15, b16, b17, b18, b19, b20, b21, b22, b23, b24, b25, b26, b27, b28, b29, b30, b31] := by
  match k, h with
  | [b0, b1, b2, b3, b4, b5, b6, b7, b8, b9, b10, b11, b12, b13, b14, b15, b16, b17, b18, b19, b20, b21, b22, b23, b24, b25, b26, b27, b28, b29, b30, b31], _ => exact ⟨_, _, _, _, _, _, _, _, _, _, _, _, _, _, _, _, _, _, _, _, _, _, _, _, _, _, _, _, _, _, _, _, rfl⟩
theorem run_bsQ {op : Oper} {ev : Operand → Value} {x : Operand} {w : World} (k : List UInt8) (hk : k.length = 32) (ho : op.op = .buildSlice 42 1 #[(0, x)]) (hx : ev x = keyV k) : (execOp ev op).run Try.prog w = .ok (.value (.slice (some ⟨w.heap.size, 0, none⟩) 1 1)) (w.alloc (.cells (k.map u8c).toArray 30)) := by
  simp only [execOp, ho]
  simp only [List.map_toArray, List.map_cons, List.map_nil, hx]
  obtain ⟨b0, b1, b2, b3, b4, b5, b6, b7, b8, b9, b10, b11, b12, b13, b14, b15, b16, b17, b18, b19, b20, b21, b22, b23, b24, b25, b26, b27, b28, b29, b30, b31, rfl⟩ := list32Q k hk
  kernel_rfl
theorem wpList_runQ {ops : Array Oper} {rest : List Oper} {op : Oper} {a : Act} {w : World} {Q : Exit → Act → World → Prop} (v : Value) (w' : World) (hg : Region.wanted op (yielded ops a.tmps) = true) (hr : (execOp a.eval op).run Try.prog w = .ok (.value v) w')
    (h : wpList Try.prog ops Q rest (a.put op.dst v) w') : wpList Try.prog ops Q (op :: rest) a w := by
  refine wpList_step fun K hK => ?_
  rw [if_pos hg]
  unfold Oper.wp
  rw [hr]
  exact hK _ _ h
theorem wpList_bsQ {ops : Array Oper} {rest : List Oper} {op : Oper} {a : Act} {w : World} {Q : Exit → Act → World → Prop} (x : Operand) (k : List UInt8) (hk : k.length = 32) (hg : Region.wanted op (yielded ops a.tmps) = true) (ho : op.op = .buildSlice 42 1 #[(0, x)]) (hx : a.eval x = keyV k)
    (h : wpList Try.prog ops Q rest (a.put op.dst (.slice (some ⟨w.heap.size, 0, none⟩) 1 1)) (w.alloc (.cells (k.map u8c).toArray 30))) : wpList Try.prog ops Q (op :: rest) a w :=
  wpList_runQ _ _ hg (run_bsQ k hk ho hx) h
/-- The cells of a row of keys. -/
def rowQ (ks : List (List UInt8)) : List Value := ks.flatMap fun x => x.map u8c
theorem rowQ_snoc (ks : List (List UInt8)) (x : List UInt8) : rowQ (ks ++ [x]) = rowQ ks ++ x.map u8c := by simp [rowQ]
theorem rowQ_get : ∀ (ks : List (List UInt8)) (h32 : ∀ k ∈ ks, k.length = 32) (i c : Nat) (hi : i < ks.length) (hc : c < 32), (rowQ ks)[i * 32 + c]? = (ks[i].map u8c)[c]?
  | k :: r, h32, 0, c, _, hc => by
    rw [show rowQ (k :: r) = k.map u8c ++ rowQ r from rfl, List.getElem?_append_left (by rw [List.length_map, h32 k (by simp)]; omega), Nat.zero_mul, Nat.zero_add]; rfl
  | k :: r, h32, i + 1, c, hi, hc => by
    rw [show rowQ (k :: r) = k.map u8c ++ rowQ r from rfl, List.getElem?_append_right (by rw [List.length_map, h32 k (by simp)]; omega), List.length_map, h32 k (by simp), show (i + 1) * 32 + c - 32 = i * 32 + c by omega]
    exact rowQ_get r (fun x hx => h32 x (by simp [hx])) i c (by simpa using hi) hc
def OwnQ (W : World) (B : Nat) (v : Value) (ks : List (List UInt8)) : Prop := W.ownsRow B 30 32 v ks.length (rowQ ks)
theorem OwnQ.form {W : World} {B : Nat} {v : Value} {ks : List (List UInt8)} (h : OwnQ W B v ks) : ∃ ao cap, v = .slice ao ks.length cap ∧ (0 < ks.length → ∃ g, ao = some ⟨g, 0, none⟩) := by
  obtain ⟨h0, ⟨h1, h2⟩ | ⟨g, cap, cur, rfl, hb, hh, hx⟩⟩ := h
  · exact ⟨none, 0, by rw [h1, h2], fun h => by omega⟩
  · exact ⟨_, cap, rfl, fun _ => ⟨g, rfl⟩⟩
theorem OwnQ.below {W W' : World} {B : Nat} {v : Value} {ks : List (List UInt8)} (h : OwnQ W B v ks) (hb : Below W.heap.size W W') : OwnQ W' B v ks := by
  obtain ⟨h0, h1 | ⟨g, cap, cur, rfl, hg, hh, hr⟩⟩ := h
  · exact ⟨h0, .inl h1⟩
  · have hlt : g < W.heap.size := Blk.lt (cs := cur) (t := 30) hh
    exact ⟨h0, .inr ⟨g, cap, cur, rfl, hg, (hb.block g hlt).trans hh, hr⟩⟩
theorem OwnQ.grown {W W' : World} {B z : Nat} {v : Value} {ks : List (List UInt8)} (h : OwnQ W B v ks) (hz : z < B) (hg : W.grownBy W' (some z)) : OwnQ W' B v ks := by
  obtain ⟨h0, h1 | ⟨g, cap, cur, rfl, hB, hh, hr⟩⟩ := h
  · exact ⟨h0, .inl h1⟩
  · have hlt : g < W.heap.size := Blk.lt (cs := cur) (t := 30) hh
    exact ⟨h0, .inr ⟨g, cap, cur, rfl, hB, (hg.block g hlt (fun e => by have := Option.some.inj e; omega)).trans hh, hr⟩⟩
theorem OwnQ.own {W : World} {B : Nat} {v : Value} {ks : List (List UInt8)} (h : OwnQ W B v ks) : ∀ g, v.ownBlock = some g → B ≤ g := fun g hg => by
  obtain ⟨h0, ⟨rfl, _⟩ | ⟨g', cap, cur, rfl, hb, hh, hr⟩⟩ := h
  · cases hg
  · cases hg; exact hb
theorem OwnQ.read {W : World} {B g n cap : Nat} {ks : List (List UInt8)} (h32 : ∀ k ∈ ks, k.length = 32) (h : OwnQ W B (.slice (some ⟨g, 0, none⟩) n cap) ks) (i : Nat) (hi : i < ks.length) : W.rangeAt g (i * 32) (ks[i].map u8c) := fun c u hu => by
  obtain ⟨hl, ⟨e, _⟩ | ⟨g', cap', cur, e, hb, hh, hcap, hmax, hcs, ht⟩⟩ := h
  · cases e
  · cases e
    have hB : Blk W g cur 30 := hh
    have hc : c < 32 := by
      have := (List.getElem?_eq_some_iff.1 hu).1
      rwa [List.length_map, h32 _ (List.getElem_mem _)] at this
    have h2 := rowQ_get ks h32 i c hi hc
    rw [hu, ← ht, List.getElem?_take_of_lt (by omega), Array.getElem?_toList] at h2
    rw [hB.cell]
    exact h2
theorem wpList_appendQ {ops : Array Oper} {rest : List Oper} {o : Oper} {a : Act} {w : World} {Q : Exit → Act → World → Prop} (hgd : o.guard = none) (s x : Operand) (ho : o.op = .call { callee := .builtin .append, args := #[s, x], argTypes := #[42, 42] })
    (base : Nat) (v : Value) (ks : List (List UInt8)) (hs : a.eval s = v) (hown : OwnQ w base v ks) (z : Nat) (hx : a.eval x = .slice (some ⟨z, 0, none⟩) 1 1) (k : List UInt8) (hk : k.length = 32) (hc : Blk w z (k.map u8c).toArray 30) (hlen : ks.length + 1 ≤ 4398046511104) (hbase : base ≤ w.heap.size)
    (h : ∀ v' w', Hid (OwnQ w' base v' (ks ++ [k])) → Hid (w.grownBy w' v.ownBlock) → wpList Try.prog ops Q rest (a.put o.dst v') w') : wpList Try.prog ops Q (o :: rest) a w := by
  obtain ⟨i0, hi, hz0, hz1, hz2⟩ := infoKeyQ
  refine wpList_append_own_at w hgd s x 42 ho base 30 i0 (.agg keyZ) 32 32 Try.underlying42 hi hz0 hz1 hz2 rfl (by decide) v ks.length (rowQ ks) hs hown ⟨z, 0, none⟩ 1 1 (k.map u8c) hx (by simp [hk]) ?_ (u8c_one k) (by unfold maxLen; omega) (by omega) hbase ?_
  · intro j u hj
    rw [Addr.add_mid, hc.cell]
    simpa using hj
  · intro v' w' h1 h2 _ h4
    refine h v' w' (hide ?_) (hide h2)
    unfold OwnQ
    rw [rowQ_snoc, List.length_append, List.length_singleton]
    exact h1
/-- Between two steps of going by Next: zk holds the key that was told. -/
structure Go3 (W1 : World) (zk : Nat) (S M : List (List UInt8)) (k : List UInt8) (ok : Bool) (v : Value) (W : World) : Prop where
  bel : Below zk W1 W
  key : KeyAt W zk k
  own : OwnQ W (zk + 1) v M
  wk : Wk S M k ok
theorem Go3.below {W1 W W' : World} {zk : Nat} {S M : List (List UInt8)} {k : List UInt8} {ok : Bool} {v : Value} (h : Go3 W1 zk S M k ok v W) (hb : Below W.heap.size W W') : Go3 W1 zk S M k ok v W' :=
  ⟨h.bel.trans (hb.mono (Nat.le_of_lt h.key.1.lt)), h.key.below hb, h.own.below hb, h.wk⟩
/-- Behind the going: the row, the met keys, the pins. -/
structure Fin4 (w : World) (zp : Nat) (os : List (Option SesV)) (ao : Option Addr) (ps : List (Int × List UInt8)) (B : Nat) (v : Value) (M : List (List UInt8)) (W : World) : Prop where
  row : PRow W ao ps
  own : OwnQ W B v M
  pins : PinsAt W zp os
  bel : Below w.heap.size w W
theorem Fin4.below {w W W' : World} {zp B : Nat} {os : List (Option SesV)} {ao : Option Addr} {ps : List (Int × List UInt8)} {v : Value} {M : List (List UInt8)} (h : Fin4 w zp os ao ps B v M W) (hb : Below W.heap.size W W') : Fin4 w zp os ao ps B v M W' :=
  ⟨h.row.below hb, h.own.below hb, h.pins.below hb, h.bel.trans (hb.mono h.bel.size)⟩
theorem mem_take_succ {M : List (List UInt8)} {j : Nat} (hj : j < M.length) (x : List UInt8) : decide (x ∈ M.take (j + 1)) = (decide (x ∈ M.take j) || (M[j] == x)) := by
  rw [List.take_succ_eq_append_getElem hj]
  rw [Bool.eq_iff_iff]
  simp only [List.mem_append, List.mem_singleton, decide_eq_true_eq, Bool.or_eq_true, beq_iff_eq]
  exact ⟨fun h => h.imp id Eq.symm, fun h => h.imp id Eq.symm⟩
end Go.Proofs.Ytagnglkkmdeicaa
