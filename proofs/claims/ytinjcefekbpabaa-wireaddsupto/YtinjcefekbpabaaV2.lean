/- WireApart: an Enc that is copied by assignment; adds by their place. -/
import Derived.Test.YtinjcefekbpabaaV1
namespace Go.Proofs.Ytinjcefekbpabaa
set_option linter.unusedVariables false
set_option linter.unusedSimpArgs false
open Go.RowKit

theorem infoEnc : (Try.prog.info? 27).map (·.size) = some 258 := by kernel_rfl
theorem range_blk {w : World} {b : Nat} {cs : Array Value} {t : TypeId} (h : Blk w b cs t) : w.rangeAt b 0 cs.toList := fun j v hj => by
  rw [Nat.zero_add, h.cell, ← hj]
  simp
theorem wpList_load_enc {ops : Array Oper} {rest : List Oper} {op : Oper} {a : Act} {w : World} {Q : Exit → Act → World → Prop} (hgd : op.guard = none) (x : Operand) (ho : op.op = .load 27 x)
    (b : Nat) (hx : a.eval x = .pointer (some ⟨b, 0, none⟩)) (cs : Array Value) (t : TypeId) (hc : Blk w b cs t) (hn : cs.size = 258)
    (h : wpList Try.prog ops Q rest (a.put op.dst (.agg cs)) w) : wpList Try.prog ops Q (op :: rest) a w := by
  refine wpList_load_mid hgd 27 x ho b 0 hx cs.toList _ (range_blk hc) Try.underlying27 rfl (by rw [Array.length_toList, hn]; exact infoEnc) ?_
  simpa using h
theorem zeroEnc_size : Try.zeroCells27.size = 258 := by rw [zeroEnc]; exact enc_size List.length_replicate
/-- The cells of an Enc; laid into a new block they are an Enc of the same bytes. -/
theorem EncSt.cells {w : World} {X : Nat → Prop} {z : Nat} {xs : List UInt8} (h : EncSt w X z xs) : ∃ cs : Array Value, cs.size = 258 ∧ cs.all (·.oneCell') = true ∧ Blk w z cs 27 ∧
    ∀ w' g, w.heap.size ≤ g → g < w'.heap.size → Below w.heap.size w w' → Blk w' g cs 27 → EncSt w' (fun b => X b ∨ b = g) z xs ∧ EncSt w' (fun b => X b ∨ b = g) g xs := by
  obtain ⟨m, l, p, pre, part, tl, hc, h2, h3, h4, h5, h6⟩ := h
  refine ⟨_, enc_size h4, ?_, h6, fun w' g h7 h8 hb hk => ?_⟩
  · refine all_oneCell_toArray ?_
    intro v hv
    unfold encCells at hv
    rcases List.mem_cons.1 hv with rfl | hv
    · rfl
    · rcases List.mem_append.1 hv with hv | hv
      · obtain ⟨u, _, rfl⟩ := List.mem_map.1 hv
        rfl
      · rw [List.mem_singleton.1 hv]
        rfl
  · have h' := EncSt.addX (g := g) ⟨m, l, p, pre, part, tl, hc, h2, h3, h4, h5, h6⟩ hb h7 h8
    refine ⟨h', .inr rfl, h'.lt, p, pre, part, tl, ?_, h2, h3, h4, h5, hk⟩
    obtain ⟨ll, hc⟩ := hc
    refine ⟨ll, ChainL.grown (row := none) (grownBy_below hb) (fun b e => by cases e) ll p pre (ChainL.addX ll p pre hc ?_)⟩
    have hlt := ChainL.lt ll p pre hc
    rintro b hb1 hx (hx2 | rfl)
    · exact hx hx2
    · have := hlt b hb1; omega

/-- A slice of adds, place by place. -/
def AddK (w : World) (aa : Option Addr) (rs : List AddR) : Prop :=
  ∀ k (h : k < rs.length), ∃ ab ao cs bv, aa = some ⟨ab, ao, none⟩ ∧ ab < w.heap.size ∧ AddIs w cs bv rs[k] ∧ w.rangeAt ab (ao + k * 36) cs.toList ∧ ∀ b o l c, bv = .slice (some ⟨b, o, none⟩) l c → 0 < c → b < w.heap.size
theorem AddsR.at {w : World} {aa : Option Addr} {rs : List AddR} (h : AddsR w aa rs) : AddK w aa rs := by
  intro k hk
  rcases h.2 with h | ⟨ab, ao, e, hab, hcel⟩
  · rw [h] at hk; simp at hk
  · obtain ⟨cs, bv, h1, h2, h3⟩ := hcel k hk
    exact ⟨ab, ao, cs, bv, e, hab, h1, h2, h3⟩
theorem AddK.tot {w : World} {aa : Option Addr} {rs : List AddR} (h : AddK w aa rs) (k : Nat) : (catB (rs.take k)).length ≤ totR rs := by
  have h1 := catB_le (rs.take k) (fun a ha => by
    obtain ⟨j, hj, e⟩ := List.mem_iff_getElem.1 ha
    have hj' : j < rs.length := by simp at hj; omega
    obtain ⟨_, _, _, _, _, _, h1, _⟩ := h j hj'
    rw [← e, List.getElem_take]
    exact h1.kl)
  refine Nat.le_trans h1 ?_
  have key : ∀ (l : List AddR) (j : Nat), totR (l.take j) ≤ totR l := by
    intro l
    induction l with
    | nil => simp
    | cons a l ih =>
      intro j
      cases j with
      | zero => simp [totR]
      | succ j => have := ih j; simp only [totR, List.take_succ_cons, List.map_cons, List.sum_cons] at this ⊢; omega
  exact key rs k
theorem AddK.tot1 {w : World} {aa : Option Addr} {rs : List AddR} (h : AddK w aa rs) (k : Nat) (hk : k < rs.length) : (catB (rs.take k)).length + (rs[k].S.length + rs[k].B.length + 42) ≤ totR rs := by
  have h1 := catB_le (rs.take k) (fun a ha => by
    obtain ⟨j, hj, e⟩ := List.mem_iff_getElem.1 ha
    have hj' : j < rs.length := by simp at hj; omega
    obtain ⟨_, _, _, _, _, _, h1, _⟩ := h j hj'
    rw [← e, List.getElem_take]
    exact h1.kl)
  have := totR_at rs k hk
  omega
/-- A row of the call's own has grown: what lies below is as it was. -/
theorem row_below {B : Nat} {w0 w w' : World} {v : Value} {xs : List UInt8} (hb : Below B w0 w) (h : OwnsB w B v xs) (hg : w.grownBy w' v.ownBlock) (hB : B ≤ w.heap.size) : Below B w0 w' := own_below hb h hB hg
theorem owns_nil (w : World) (B : Nat) : OwnsB w B (.slice none 0 0) [] := ⟨rfl, .inl ⟨rfl, rfl⟩⟩
theorem W1.start (w : World) (B : Nat) : W1 B (w.alloc (.cells Try.zeroCells27 27)) (fun b => b = w.heap.size) w.heap.size [] (.slice none 0 0) [] :=
  ⟨zeroEnc_st w, owns_nil _ _, fun g e => by cases e⟩
/-- The Enc is copied into a new block. -/
theorem W1.copy {B : Nat} {w w' : World} {X : Nat → Prop} {z : Nat} {xs : List UInt8} {va : Value} (h : W1 B w X z xs va xs) (g : Nat) (h1 : w.heap.size ≤ g) (hb : Below w.heap.size w w') (he : EncSt w' (fun b => X b ∨ b = g) z xs ∧ EncSt w' (fun b => X b ∨ b = g) g xs) :
    WP B w' (fun b => X b ∨ b = g) z g (xs ++ []) (xs ++ []) va xs (.slice none 0 0) [] (.slice none 0 0) [] := by
  have l1 := h.e1.zlt
  have l2 := owns_lt h.ra
  rw [List.append_nil]
  exact ⟨he.1, he.2, by omega, owns_below h.ra hb, owns_nil _ _, owns_nil _ _, fun b e => ⟨.inl (h.xa b e).1, (h.xa b e).2, by have := (l2 b e).2; omega⟩, (fun g e => by cases e), (fun g e => by cases e)⟩
end Go.Proofs.Ytinjcefekbpabaa
