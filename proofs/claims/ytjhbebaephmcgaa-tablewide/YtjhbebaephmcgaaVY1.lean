/- TableWide: steps, and a row of them of one's own. -/
import Derived.Test.YtjhbebaephmcgaaVXW
import Derived.Maps.AppendAt
import Derived.Maps.OwnIn
namespace Go.Proofs.Ytjhbebaephmcgaa
set_option linter.unusedVariables false
set_option linter.unusedSimpArgs false
namespace TX
set_option maxRecDepth 100000
set_option maxHeartbeats 8000000
open Go.RowKit Go.Sort

/-- A step. -/
structure WD where
  key : KY
  val : EN
  out : Bool
abbrev WT : TypeId := 33
abbrev WLT : TypeId := 22
def wdC (x : WD) : List Value := kC x.key ++ [eV x.val, .bool x.out]
def wdA (x : WD) : Array Value := (wdC x).toArray
abbrev wdV (x : WD) : Value := .agg (wdA x)
theorem wdC_len (x : WD) : (wdC x).length = 6 := rfl
theorem wdA_size (x : WD) : (wdA x).size = 6 := rfl
theorem wdC_one (x : WD) : ∀ v ∈ wdC x, v.oneCell' = true := by
  intro v hv
  simp [wdC, kC] at hv
  rcases hv with rfl | rfl | rfl | rfl | rfl | rfl <;> rfl
theorem iW : (Try.prog.info? WT).map (·.size) = some 6 := by kernel_rfl
def wdZ : WD := ⟨kZ, eZ, false⟩
theorem zero_W (W : World) : (zeroValue WT).run Try.prog W = .ok (.agg (wdA wdZ)) W := by kernel_rfl
theorem run_ldW {w : World} {b o : Nat} {x : WD} (h : w.rangeAt b o (wdC x)) : (Instr.loadAt WT (.pointer (some ⟨b, o, none⟩))).run Try.prog w = .ok (wdV x) w :=
  run_loadAt_mid (P := Try.prog) w b o WT (wdC x) _ h Try.underlying33 rfl (by rw [wdC_len]; exact iW)
abbrev WB (w : World) (b : Nat) (x : WD) : Prop := Blk w b (wdA x) WT
theorem WB.key {w : World} {b : Nat} {x : WD} (h : WB w b x) : w.rangeAt b 0 (kC x.key) := fun j v hj => by
  have hl := (List.getElem?_eq_some_iff.1 hj).1
  rw [Blk.cell h, Nat.zero_add, wdA, List.getElem?_toArray, wdC, List.getElem?_append_left hl]; exact hj
theorem WB.val {w : World} {b : Nat} {x : WD} (h : WB w b x) : w.cell? ⟨b, 4, none⟩ = some (eV x.val) := by rw [Blk.cell h]; rfl
theorem WB.out {w : World} {b : Nat} {x : WD} (h : WB w b x) : w.cell? ⟨b, 5, none⟩ = some (.bool x.out) := by rw [Blk.cell h]; rfl
theorem range_key {w : World} {b o : Nat} {x : WD} (h : w.rangeAt b o (wdC x)) : w.rangeAt b o (kC x.key) := fun j v hj => h j v (by
  rw [wdC, List.getElem?_append_left (List.getElem?_eq_some_iff.1 hj).1]; exact hj)
section
variable {ops : Array Oper} {rest : List Oper} {op : Oper} {a : Act} {w : World} {Q : Exit → Act → World → Prop}
theorem wpList_stWB (hgd : op.guard = none) (x y : Operand) (ho : op.op = .store WT x y) (b : Nat) (hx : a.eval x = .pointer (some ⟨b, 0, none⟩)) (u s : WD) (hy : a.eval y = wdV s) (hb : WB w b u)
    (h : ∀ w', Hid (WB w' b s) → Hid (w.grownBy w' (some b)) → wpList Try.prog ops Q rest (a.put op.dst undef) w') : wpList Try.prog ops Q (op :: rest) a w := by
  obtain ⟨k1, k2⟩ := setCells_blk hb (wdA s) rfl
  refine wpList_skip _ hgd ?_ (h _ (hide k1) (hide k2))
  have hst := run_storeAt_mid (P := Try.prog) w b 0 WT (wdA s) (there_row hb 0 _ (by rw [wdA_size, wdA_size]; omega)) iW (all_oneCell_toArray (wdC_one s))
  simp only [execOp, ho, hx, hy, Sem.run_bind, hst, Result.andThen_ok, Sem.run_pure]
end
/-- A row of steps of one's own. -/
def OwnW (w : World) (B : Nat) (v : Value) (KS : List (WD)) : Prop := w.ownsRow B WT 6 v KS.length (KS.flatMap wdC)
theorem OwnW.lt {w : World} {B : Nat} {v : Value} {V : List (WD)} (h : OwnW w B v V) {b : Nat} (hb : v.ownBlock = some b) : b < w.heap.size ∧ B ≤ b := by
  obtain ⟨h0, ⟨rfl, h2⟩ | ⟨g, cap, cur, rfl, hB, hh, hx⟩⟩ := h
  · cases hb
  · cases hb; exact ⟨Blk.lt (cs := cur) (t := WT) hh, hB⟩
theorem OwnW.same {w w' : World} {B : Nat} {v : Value} {V : List (WD)} (h : OwnW w B v V) (hs : ∀ b, v.ownBlock = some b → w'.heap[b]? = w.heap[b]?) : OwnW w' B v V := by
  obtain ⟨h0, h1 | ⟨g, cap, cur, rfl, hB, hh, hx⟩⟩ := h
  · exact ⟨h0, .inl h1⟩
  · exact ⟨h0, .inr ⟨g, cap, cur, rfl, hB, (hs g rfl).trans hh, hx⟩⟩
theorem OwnW.blk {w : World} {B : Nat} {v : Value} {V : List (WD)} (h : OwnW w B v V) {b : Nat} (hb : v.ownBlock = some b) : ∃ cs, Blk w b cs WT := by
  obtain ⟨h0, ⟨rfl, h2⟩ | ⟨g, cap, cur, rfl, hB, hh, hx⟩⟩ := h
  · cases hb
  · cases hb; exact ⟨cur, hh⟩
theorem OwnW.below {w w' : World} {B : Nat} {v : Value} {V : List (WD)} (h : OwnW w B v V) (hb : Below w.heap.size w w') : OwnW w' B v V := h.same (fun b e => hb.block b (h.lt e).1)
theorem OwnW.slice {w : World} {B : Nat} {v : Value} {V : List (WD)} (h : OwnW w B v V) : ∃ ao c, v = .slice ao V.length c ∧ (0 < V.length → ∃ g, ao = some ⟨g, 0, none⟩) := by
  obtain ⟨h0, ⟨h1, h2⟩ | ⟨g, cap, cur, rfl, hb, hh, hx⟩⟩ := h
  · exact ⟨none, 0, by rw [h1, h2], fun h => by omega⟩
  · exact ⟨_, cap, rfl, fun _ => ⟨g, rfl⟩⟩
theorem OwnW.read {w : World} {B : Nat} {v : Value} {V : List (WD)} {g n c : Nat} (h : OwnW w B v V) (e : v = .slice (some ⟨g, 0, none⟩) n c) {j : Nat} {x : WD} (hx : V[j]? = some x) : w.rangeAt g (j * 6) (wdC x) := fun q u hu => by
  rw [e] at h
  have hq := flat_at V j x (fun y _ => wdC_len y) hx q u hu
  have := World.ownsRow.cells (g := g) h rfl (j * 6 + q) u hq
  rw [Addr.add_mid] at this
  rw [← this]
  congr 2
  omega
theorem take_mid {α : Type} (l vs : List α) (o m : Nat) (h1 : o + vs.length ≤ m) (h2 : m ≤ l.length) : (l.take o ++ vs ++ l.drop (o + vs.length)).take m = (l.take m).take o ++ vs ++ (l.take m).drop (o + vs.length) := by
  rw [List.take_take, Nat.min_eq_left (by omega), List.take_append, List.take_of_length_le (by rw [List.length_append, List.length_take]; omega), List.drop_take]
  congr 2
  rw [List.length_append, List.length_take]
  omega
/-- An element of one's own row is written over. -/
theorem rowSetQ {W : World} {B g n cap s : Nat} {t : TypeId} {xs : List Value} (h : W.ownsRow B t s (.slice (some ⟨g, 0, none⟩) n cap) n xs) {i : Nat} (hi : i < n) (vs : List Value) (hv : vs.length = s) :
    W.there g (i * s) s ∧ (W.setCells g (i * s) vs).ownsRow B t s (.slice (some ⟨g, 0, none⟩) n cap) n (xs.take (i * s) ++ vs ++ xs.drop (i * s + s)) ∧ W.grownBy (W.setCells g (i * s) vs) (some g) := by
  obtain ⟨h0, ⟨h1, _⟩ | ⟨g', cap', cur, e, hb, hh, hc, hm, hs, ht⟩⟩ := h
  · cases h1
  · cases e
    have q1 : (i + 1) * s ≤ n * s := Nat.mul_le_mul_right s hi
    have q2 : n * s ≤ cap * s := Nat.mul_le_mul_right s hc
    have q3 : (i + 1) * s = i * s + s := Nat.succ_mul i s
    have hB : Blk W g cur t := hh
    obtain ⟨r1, r2⟩ := setCells_row vs (i * s) W cur hB (by omega)
    refine ⟨there_row hB _ _ (by omega), ⟨?_, .inr ⟨g, cap, _, rfl, hb, r1, hc, hm, ?_, ?_⟩⟩, r2⟩
    · simp only [List.length_append, List.length_take, List.length_drop]
      omega
    · simp only [List.size_toArray, List.length_append, List.length_take, List.length_drop, Array.length_toList]
      omega
    · rw [List.toList_toArray, take_mid _ _ _ _ (by omega) (by rw [Array.length_toList]; omega), ht, hv]

theorem wpList_stWR {ops : Array Oper} {rest : List Oper} {op : Oper} {a : Act} {w : World} {Q : Exit → Act → World → Prop} (hgd : op.guard = none) (x y : Operand) (ho : op.op = .store WT x y) (B g n cap : Nat) (ks : List WD) (hown : OwnW w B (.slice (some ⟨g, 0, none⟩) n cap) ks) (i : Nat) (hi : i < ks.length) (hx : a.eval x = .pointer (some ⟨g, i * 6, none⟩)) (k : WD) (hy : a.eval y = wdV k)
    (h : ∀ w', Hid (OwnW w' B (.slice (some ⟨g, 0, none⟩) n cap) (ks.set i k)) → Hid (w.grownBy w' (some g)) → wpList Try.prog ops Q rest (a.put op.dst undef) w') : wpList Try.prog ops Q (op :: rest) a w := by
  have hn : n = ks.length := by
    obtain ⟨_, ⟨e, _⟩ | ⟨g', cap', cur, e, _⟩⟩ := id hown
    · cases e
    · cases e; rfl
  subst hn
  obtain ⟨q1, q2, q3⟩ := rowSetQ hown hi (wdC k) (wdC_len k)
  refine wpList_store_mid hgd WT x y ho g (i * 6) (wdA k) hx hy q1 iW (all_oneCell_toArray (wdC_one k)) (h _ (hide ?_) (hide q3))
  unfold OwnW
  rw [List.length_set, show (ks.set i k).flatMap wdC = (ks.flatMap wdC).take (i * 6) ++ wdC k ++ (ks.flatMap wdC).drop (i * 6 + 6) from flat_set ks i k (fun y hy => wdC_len y) hi]
  exact q2
theorem wtI : ∃ i, Try.prog.info? WT = some i ∧ i.zero = some (.agg (wdA wdZ)) ∧ i.size = 6 ∧ i.bytes = 56 := by
  have h : (Try.prog.info? WT).map (fun i => (i.zero, i.size, i.bytes)) = some (some (.agg (wdA wdZ)), 6, 56) := by kernel_rfl
  obtain ⟨i, hi, hzz⟩ := Option.map_eq_some_iff.1 h
  simp only [Prod.mk.injEq] at hzz
  exact ⟨i, hi, hzz.1, hzz.2.1, hzz.2.2⟩
theorem run_appW {w : World} {base : Nat} {v : Value} {A : List WD} (hown : OwnW w base v A) {z : Nat} {x : WD} (hc : WB w z x) (hlen : A.length + 1 ≤ 2513169434915) (hbase : base ≤ w.heap.size) :
    ∃ v5 w5, (Builtin.append_ #[WLT, WLT] WLT #[v, .slice (some ⟨z, 0, none⟩) 1 1]).run Try.prog w = .ok v5 w5 ∧ OwnW w5 base v5 (A ++ [x]) ∧ w.grownBy w5 v.ownBlock := by
  obtain ⟨i0, hi, hz0, hz1, hz2⟩ := wtI
  obtain ⟨v', w', hr, r2, r3, _, _⟩ := run_append_own_at (P := Try.prog) w base WLT WLT WT i0 (.agg (wdA wdZ)) 6 56 Try.underlying22 hi hz0 hz1 hz2 rfl (by decide) v A.length (A.flatMap wdC) hown ⟨z, 0, none⟩ 1 1 (wdC x) rfl (fun j u hj => by rw [Addr.add_mid]; exact (Blk.range hc) j u hj) (wdC_one x) (by unfold maxLen; omega) (by omega) hbase
  refine ⟨v', w', hr, ?_, r3⟩
  unfold OwnW
  rw [List.length_append, List.length_singleton, List.flatMap_append, List.flatMap_singleton]
  exact r2
end TX
end Go.Proofs.Ytjhbebaephmcgaa
