/- Rows of keys; the law's below, among. -/
import Derived.Test.YtdigjpddmfolgaaIC3
import Derived.Test.YtdigjpddmfolgaaIC4
import Derived.Maps.AppendAt
namespace Go.Proofs.Ytdigjpddmfolgaa
set_option linter.unusedVariables false
set_option linter.unusedSimpArgs false
namespace TX
open Go.RowKit Go.Sort
set_option maxRecDepth 100000

abbrev KST : TypeId := 51
/-- Keys that a slice tells. -/
def KsR (w : World) (v : Value) (L : List KY) : Prop := ∃ ao c, v = .slice ao L.length c ∧ (0 < L.length → ∃ h so, ao = some ⟨h, so, none⟩ ∧ ∀ j x, L[j]? = some x → w.rangeAt h (so + j * 32) (kC x))
theorem KsR.nil (w : World) : KsR w (.slice none 0 0) [] := ⟨none, 0, rfl, fun h => absurd h (by decide)⟩
theorem KsR.below {w w' : World} {v : Value} {L : List KY} (h : KsR w v L) (hb : Below w.heap.size w w') : KsR w' v L := by
  obtain ⟨ao, c, e, hr⟩ := h
  refine ⟨ao, c, e, fun hp => ?_⟩
  obtain ⟨h0, so, e2, h3⟩ := hr hp
  refine ⟨h0, so, e2, fun j x hj q u hu => ?_⟩
  have h4 := h3 j x hj q u hu
  rw [← h4]
  exact hb.cell (World.block_lt_of_cell? w _ h4)
/-- A row of one's own. -/
def OwnK (w : World) (B : Nat) (v : Value) (V : List KY) : Prop := w.ownsRow B KT 32 v V.length (V.flatMap kC)
theorem OwnK.nil (w : World) (B : Nat) : OwnK w B (.slice none 0 0) [] := World.ownsRow_nil _ _ _ _
theorem OwnK.form {w : World} {B : Nat} {v : Value} {V : List KY} (h : OwnK w B v V) : ∃ ao c, v = .slice ao V.length c ∧ (0 < V.length → ∃ g, ao = some ⟨g, 0, none⟩) := by
  obtain ⟨h0, ⟨h1, h2⟩ | ⟨g, cap, cur, rfl, hb, hh, hx⟩⟩ := h
  · exact ⟨none, 0, by rw [h1, h2], fun h => by omega⟩
  · exact ⟨_, cap, rfl, fun _ => ⟨g, rfl⟩⟩
theorem OwnK.lt {w : World} {B : Nat} {v : Value} {V : List KY} (h : OwnK w B v V) {b : Nat} (hb : v.ownBlock = some b) : b < w.heap.size ∧ B ≤ b := by
  obtain ⟨h0, ⟨rfl, h2⟩ | ⟨g, cap, cur, rfl, hB, hh, hx⟩⟩ := h
  · cases hb
  · cases hb; exact ⟨Blk.lt (cs := cur) (t := KT) hh, hB⟩
theorem OwnK.same {w w' : World} {B : Nat} {v : Value} {V : List KY} (h : OwnK w B v V) (hs : ∀ b, v.ownBlock = some b → w'.heap[b]? = w.heap[b]?) : OwnK w' B v V := by
  obtain ⟨h0, h1 | ⟨g, cap, cur, rfl, hB, hh, hx⟩⟩ := h
  · exact ⟨h0, .inl h1⟩
  · exact ⟨h0, .inr ⟨g, cap, cur, rfl, hB, (hs g rfl).trans hh, hx⟩⟩
theorem OwnK.below {w w' : World} {B : Nat} {v : Value} {V : List KY} (h : OwnK w B v V) (hb : Below w.heap.size w w') : OwnK w' B v V := h.same (fun b e => hb.block b (h.lt e).1)
theorem OwnK.lower {w : World} {B C : Nat} {v : Value} {V : List KY} (h : OwnK w C v V) (hB : B ≤ C) : OwnK w B v V := by
  obtain ⟨h0, h1 | ⟨g, cap, cur, rfl, hC, hh, hx⟩⟩ := h
  · exact ⟨h0, .inl h1⟩
  · exact ⟨h0, .inr ⟨g, cap, cur, rfl, Nat.le_trans hB hC, hh, hx⟩⟩
theorem OwnK.read {w : World} {B : Nat} {v : Value} {V : List KY} (h : OwnK w B v V) : KsR w v V := by
  obtain ⟨ao, c, e, hg⟩ := h.form
  refine ⟨ao, c, e, fun hp => ?_⟩
  obtain ⟨g, rfl⟩ := hg hp
  refine ⟨g, 0, rfl, fun j x hx q u hu => ?_⟩
  rw [e] at h
  have hq := flat_at V j x (fun y _ => kC_len y) hx q u hu
  have := World.ownsRow.cells (g := g) h rfl (j * 32 + q) u hq
  rw [Addr.add_mid] at this
  rw [← this]
  congr 2
  omega
theorem kI : ∃ i, Try.prog.info? KT = some i ∧ i.zero = some (kV kZ) ∧ i.size = 32 ∧ i.bytes = 32 := by
  have h : (Try.prog.info? KT).map (fun i => (i.zero, i.size, i.bytes)) = some (some (kV kZ), 32, 32) := by kernel_rfl
  obtain ⟨i, hi, hzz⟩ := Option.map_eq_some_iff.1 h
  simp only [Prod.mk.injEq] at hzz
  exact ⟨i, hi, hzz.1, hzz.2.1, hzz.2.2⟩
theorem run_bsK {op : Oper} {ev : Operand → Value} {x : Operand} {w : World} (v : KY) (ho : op.op = .buildSlice KST 1 #[(0, x)]) (hx : ev x = kV v) : (execOp ev op).run Try.prog w = .ok (.value (.slice (some ⟨w.heap.size, 0, none⟩) 1 1)) (w.alloc (.cells (kA v) KT)) := by
  simp only [execOp, ho]
  simp only [List.map_toArray, List.map_cons, List.map_nil, hx]
  obtain ⟨bs, hk⟩ := v
  obtain ⟨a0, a1, a2, a3, a4, a5, a6, a7, a8, a9, a10, a11, a12, a13, a14, a15, a16, a17, a18, a19, a20, a21, a22, a23, a24, a25, a26, a27, a28, a29, a30, a31, rfl⟩ := list32 hk
  kernel_rfl
section
variable {ops : Array Oper} {rest : List Oper} {op : Oper} {a : Act} {w : World} {Q : Exit → Act → World → Prop}
theorem wpList_bsK (hgd : op.guard = none) (x : Operand) (v : KY) (ho : op.op = .buildSlice KST 1 #[(0, x)]) (hx : a.eval x = kV v)
    (h : wpList Try.prog ops Q rest (a.put op.dst (.slice (some ⟨w.heap.size, 0, none⟩) 1 1)) (w.alloc (.cells (kA v) KT))) : wpList Try.prog ops Q (op :: rest) a w := by
  refine wpList_plain hgd fun K hK => ?_
  unfold Oper.wp
  rw [run_bsK v ho hx]
  exact hK _ _ h
theorem wpList_appK (hgd : op.guard = none) (s x : Operand) (ho : op.op = .call { callee := .builtin .append, args := #[s, x], argTypes := #[KST, KST] })
    (base : Nat) (v : Value) (V : List KY) (hs : a.eval s = v) (hown : OwnK w base v V) (z : Nat) (hx : a.eval x = .slice (some ⟨z, 0, none⟩) 1 1) (e : KY) (hc : KB w z e) (hlen : V.length + 1 ≤ 3518437208832) (hbase : base ≤ w.heap.size)
    (h : ∀ v' w', Hid (OwnK w' base v' (V ++ [e])) → Hid (w.grownBy w' v.ownBlock) → Hid (v'.ownBlock = v.ownBlock ∨ v'.ownBlock = some w.heap.size) → wpList Try.prog ops Q rest (a.put op.dst v') w') : wpList Try.prog ops Q (op :: rest) a w := by
  obtain ⟨i0, hi, hz0, hz1, hz2⟩ := kI
  refine wpList_append_own_at w hgd s x KST ho base KT i0 (kV kZ) 32 32 Try.underlying51 hi hz0 hz1 hz2 (kA_size _) (by decide) v V.length (V.flatMap kC) hs hown ⟨z, 0, none⟩ 1 1 (kC e) hx (by rw [kC_len]) ?_ (kC_one e) (by unfold maxLen; omega) (by omega) hbase ?_
  · intro j u hj
    rw [Addr.add_mid]
    exact hc.rng j u hj
  · intro v' w' h1 h2 _ h4
    refine h v' w' (hide ?_) (hide h2) (hide h4)
    unfold OwnK
    rw [List.length_append, List.length_singleton, List.flatMap_append, List.flatMap_singleton]
    exact h1
end
/-- The first byte at which two keys part. -/
theorem cmp_at (a b : KY) (i : Nat) (hi : i < 32) (he : ∀ j, j < i → bt a j = bt b j) (hn : bt a i ≠ bt b i) : decide (cmp a b < 0) = decide (bt a i < bt b i) := by
  have key : ∀ (n : Nat) (la lb : List UInt8), n < la.length → n < lb.length → (∀ j, j < n → (la.getD j 0).toNat = (lb.getD j 0).toNat) → (la.getD n 0).toNat ≠ (lb.getD n 0).toNat → (cmpK la lb < 0 ↔ (la.getD n 0).toNat < (lb.getD n 0).toNat) := by
    intro n
    induction n with
    | zero =>
      intro la lb h1 h2 _ h4
      cases la with
      | nil => simp at h1
      | cons x xs =>
        cases lb with
        | nil => simp at h2
        | cons y ys =>
          simp only [List.getD_cons_zero] at h4 ⊢
          rw [cmpK_cons]
          have hx : x < y ↔ x.toNat < y.toNat := UInt8.lt_iff_toNat_lt
          have hy : y < x ↔ y.toNat < x.toNat := UInt8.lt_iff_toNat_lt
          by_cases g : x < y
          · rw [if_pos g]; simp [hx.1 g]
          · rw [if_neg g, if_pos (hy.2 (by rw [hx] at g; omega))]; rw [hx] at g; simp [g]
    | succ n ih =>
      intro la lb h1 h2 h3 h4
      cases la with
      | nil => simp at h1
      | cons x xs =>
        cases lb with
        | nil => simp at h2
        | cons y ys =>
          have h0 := h3 0 (by omega)
          simp only [List.getD_cons_zero] at h0
          have hxy : x = y := UInt8.toNat_inj.1 h0
          subst hxy
          rw [cmpK_cons, if_neg (UInt8.lt_irrefl x), if_neg (UInt8.lt_irrefl x)]
          simp only [List.getD_cons_succ] at h4 ⊢
          exact ih xs ys (by simpa using h1) (by simpa using h2) (fun j hj => by have := h3 (j + 1) (by omega); simpa using this) h4
  have := key i a.bs b.bs (by rw [a.l32]; exact hi) (by rw [b.l32]; exact hi) he hn
  unfold cmp bt
  simp only [this]
theorem cmp_eq_all (a b : KY) (he : ∀ j, j < 32 → bt a j = bt b j) : a = b := by
  refine KY.ext (List.ext_getElem (by rw [a.l32, b.l32]) (fun j h1 h2 => ?_))
  have := he j (by rw [← a.l32]; exact h1)
  unfold bt at this
  rw [List.getD_eq_getElem?_getD, List.getD_eq_getElem?_getD, List.getElem?_eq_getElem h1, List.getElem?_eq_getElem h2] at this
  exact UInt8.toNat_inj.1 this
theorem KB.at {w : World} {b : Nat} {k : KY} (h : KB w b k) (j : Nat) (hj : j < 32) : w.cell? ⟨b, j, none⟩ = some (.int .u8 (bt k j : Int)) := by
  have hl : j < k.bs.length := by rw [k.l32]; exact hj
  rw [Blk.cell h]
  simp [kA, kC, hl, bt, u8c]
end TX
end Go.Proofs.Ytdigjpddmfolgaa
