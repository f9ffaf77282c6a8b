/- Rows of bytes that grow beside a filter; rows of keys. -/
import Derived.Test.YtbemmhngadpjcabFF1
import Derived.Test.YtbemmhngadpjcabWR1
namespace Go.Proofs.Ytbemmhngadpjcab
set_option linter.unusedVariables false
set_option linter.unusedSimpArgs false
open Go.RowKit

/-- A row of bytes of one's own, whatever they are. -/
def AnyRow (w : World) (B : Nat) (v : Value) (n : Nat) : Prop := ∃ ys, w.ownsRow B 5 1 v n ys ∧ ∀ y ∈ ys, ∃ q, y = .int .u8 q
theorem AnyRow.form {w : World} {B : Nat} {v : Value} {n : Nat} (h : AnyRow w B v n) : ∃ ao c, v = .slice ao n c ∧ (0 < n → ∃ g, ao = some ⟨g, 0, none⟩) := by
  obtain ⟨ys, ⟨hl, ⟨e, e2⟩ | ⟨g, cap', cur, e, _⟩⟩, _⟩ := h
  · exact ⟨none, 0, by rw [e, e2], fun h => by omega⟩
  · exact ⟨_, _, e, fun _ => ⟨g, rfl⟩⟩
theorem AnyRow.lt {w : World} {B : Nat} {v : Value} {n : Nat} (h : AnyRow w B v n) (g : Nat) (hg : v.ownBlock = some g) : B ≤ g ∧ g < w.heap.size := by
  obtain ⟨ys, h, _⟩ := h
  exact owns_lt h g hg
theorem AnyRow.below {w w' : World} {B : Nat} {v : Value} {n : Nat} (h : AnyRow w B v n) (hb : Below w.heap.size w w') : AnyRow w' B v n := by
  obtain ⟨ys, h, hy⟩ := h
  exact ⟨ys, owns_below h hb, hy⟩
theorem wpList_append_any {ops : Array Oper} {rest : List Oper} {o : Oper} {a : Act} {w : World} {Q : Exit → Act → World → Prop} (hgd : o.guard = none) (s x : Operand) (ho : o.op = .call { callee := .builtin .append, args := #[s, x], argTypes := #[38, 38] })
    (B : Nat) (v : Value) (n : Nat) (hs : a.eval s = v) (hown : AnyRow w B v n) (z m c : Nat) (hx : a.eval x = .slice (some ⟨z, 0, none⟩) m c) (news : List Value) (hl : news.length = m) (hnews : ∀ j u, news[j]? = some u → w.cell? ⟨z, j, none⟩ = some u) (hu : ∀ y ∈ news, ∃ q, y = .int .u8 q) (hlen : n + m ≤ 1000000) (hbase : B ≤ w.heap.size)
    (h : ∀ v' w', Hid (AnyRow w' B v' (n + m)) → Hid (w.grownBy w' v.ownBlock) → Hid (v'.ownBlock = v.ownBlock ∨ v'.ownBlock = some w.heap.size) → wpList Try.prog ops Q rest (a.put o.dst v') w') : wpList Try.prog ops Q (o :: rest) a w := by
  obtain ⟨i0, hi, hz0, hz1, hz2⟩ := info_parts infoU8
  obtain ⟨ys, hy1, hy2⟩ := hown
  refine wpList_append_own_at w hgd s x 38 ho B 5 i0 (.int .u8 0) 1 1 Try.underlying38 hi hz0 hz1 hz2 rfl (by decide) v n ys hs hy1 ⟨z, 0, none⟩ m c news hx (by omega) (fun j u hj => by rw [Addr.add_mid, Nat.zero_add]; exact hnews j u hj) (fun u hu' => by obtain ⟨q, rfl⟩ := hu u hu'; rfl) (by unfold maxLen; omega) (by omega) hbase ?_
  intro v' w' h1 h2 _ h4
  exact h v' w' (hide ⟨_, h1, fun y hy => by
    rcases List.mem_append.1 hy with h | h
    · exact hy2 y h
    · exact hu y h⟩) (hide h2) (hide h4)
/-- A filter, a row of bytes that stays, a row that is written and grown: they lie apart. -/
structure ST (w0 w : World) (z g : Nat) (ws : List Nat) (vb : Value) (bs : List UInt8) (va : Value) (n : Nat) : Prop where
  a : AnyRow w w0.heap.size va n
  f : FilAt w z g 3 ws
  b : OwnsB w w0.heap.size vb bs
  bel : Below w0.heap.size w0 w
  ne : ∀ gA, va.ownBlock = some gA → gA ≠ z ∧ gA ≠ g ∧ vb.ownBlock ≠ some gA
theorem ST.row {w0 w w' : World} {z g : Nat} {ws : List Nat} {vb : Value} {bs : List UInt8} {va va' : Value} {n n' : Nat} (h : ST w0 w z g ws vb bs va n) (hg : w.grownBy w' va.ownBlock) (ha : AnyRow w' w0.heap.size va' n') (hl : va'.ownBlock = va.ownBlock ∨ va'.ownBlock = some w.heap.size) : ST w0 w' z g ws vb bs va' n' := by
  refine ⟨ha, h.f.grown hg (fun e => (h.ne z e.symm).1 rfl) (fun e => (h.ne g e.symm).2.1 rfl), owns_grown h.b hg (fun g' e1 e2 => (h.ne g' e2.symm).2.2 e1), ?_, ?_⟩
  · refine ⟨hg.os.trans h.bel.os, hg.tape.trans h.bel.tape, hg.output.trans h.bel.output, Nat.le_trans h.bel.size hg.size, fun k hk => ?_⟩
    rw [hg.block k (by have := h.bel.size; omega) (fun e => by have := (h.a.lt k e.symm).1; omega)]
    exact h.bel.block k hk
  · intro gA hA
    rcases hl with hl | hl
    · exact h.ne gA (hl.symm.trans hA)
    · rw [hl] at hA
      cases hA
      refine ⟨fun e => ?_, fun e => ?_, fun e => ?_⟩
      · have := h.f.zb.lt; omega
      · have := h.f.gb.lt; omega
      · have := (owns_lt h.b _ e).2; omega
theorem ST.below {w0 w w' : World} {z g : Nat} {ws : List Nat} {vb : Value} {bs : List UInt8} {va : Value} {n : Nat} (h : ST w0 w z g ws vb bs va n) (hb : Below w.heap.size w w') : ST w0 w' z g ws vb bs va n :=
  ⟨h.a.below hb, h.f.below hb, owns_below h.b hb, h.bel.trans (hb.mono h.bel.size), h.ne⟩
/-- A row of keys that can be read. -/
def KRd (w : World) (v : Value) (ks : List (List UInt8)) : Prop :=
  ∃ ao c, v = .slice ao ks.length c ∧ ks.length ≤ 9223372036854775807 ∧ (∀ kb ∈ ks, kb.length = 32) ∧ (0 < ks.length → ∃ b o, ao = some ⟨b, o, none⟩ ∧ ∀ k (h : k < ks.length), w.rangeAt b (o + k * 32) (ks[k].map u8c))
theorem rangeAt_below {w w' : World} {b o : Nat} {cs : List Value} (h : w.rangeAt b o cs) (hb : Below w.heap.size w w') : w'.rangeAt b o cs := fun j v hj =>
  (hb.cell (World.block_lt_of_cell? w _ (h j v hj))).trans (h j v hj)
def mZ : Array Value := (List.replicate 100 (Value.int .u8 0)).toArray
theorem zeroM (w : World) : (zeroValue 40).run Try.prog w = .ok (.agg mZ) w := by kernel_rfl
theorem sliceM (z : Nat) (w : World) : (Instr.sliceAt 40 (.pointer (some ⟨z, 0, none⟩)) none none none).run Try.prog w = .ok (.slice (some ⟨z, 0, none⟩) 100 100) w := by kernel_rfl
def kZ : Array Value := (List.replicate 32 (Value.int .u8 0)).toArray
theorem zeroK (w : World) : (zeroValue 37).run Try.prog w = .ok (.agg kZ) w := by kernel_rfl
theorem kZ_size : kZ.size = 32 := by simp [kZ]
end Go.Proofs.Ytbemmhngadpjcab
