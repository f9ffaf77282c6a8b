/- PinsPlays, toward spoilt: an append onto a row of keys keeps every row that is not longer; a key stored into a row of keys. -/
import Derived.Test.YtagnglkkmdeicaaPA16
namespace Go.Proofs.Ytagnglkkmdeicaa
set_option linter.unusedVariables false
set_option linter.unusedSimpArgs false
open Go.RowKit Go.Shelf
set_option maxRecDepth 100000

/-- What stays readable where one row of keys was appended to. -/
def KeepQ (n : Nat) (w w' : World) : Prop := ∀ (B : Nat) (u : Value) (A : List (List UInt8)), OwnQ w B u A → A.length ≤ n → OwnQ w' B u A
theorem run_append_keepQ (w : World) (ty : TypeId) (base : Nat) (v : Value) (ks : List (List UInt8)) (hown : OwnQ w base v ks) (z : Nat) (k : List UInt8) (hk : k.length = 32) (hc : Blk w z (k.map u8c).toArray 30) (hlen : ks.length + 1 ≤ 4398046511104) (hbase : base ≤ w.heap.size) :
    ∃ v' w', (Builtin.append_ #[42, 42] ty #[v, .slice (some ⟨z, 0, none⟩) 1 1]).run Try.prog w = .ok v' w' ∧ OwnQ w' base v' (ks ++ [k]) ∧ w.grownBy w' v.ownBlock ∧ (v'.ownBlock = v.ownBlock ∨ v'.ownBlock = some w.heap.size) ∧ KeepQ ks.length w w' := by
  obtain ⟨i0, hi, hz0, hz1, hz2⟩ := infoKeyQ
  have hnews : ∀ j u, (k.map u8c)[j]? = some u → w.cell? ((⟨z, 0, none⟩ : Addr).add j) = some u := by
    intro j u hj
    rw [Addr.add_mid, hc.cell]
    simpa using hj
  obtain ⟨v', w', hr, r2, r3, _, r5⟩ := run_append_own_at (P := Try.prog) w base 42 ty 30 i0 (.agg keyZ) 32 32 Try.underlying42 hi hz0 hz1 hz2 rfl (by decide) v ks.length (rowQ ks) hown ⟨z, 0, none⟩ 1 1 (k.map u8c) (by simp [hk]) hnews (u8c_one k) (by unfold maxLen; omega) (by omega) hbase
  refine ⟨v', w', hr, ?_, r3, r5, ?_⟩
  · unfold OwnQ
    rw [rowQ_snoc, List.length_append, List.length_singleton]
    exact r2
  · intro B u A hu hA
    obtain ⟨q0, ⟨q1, q2⟩ | ⟨g, cap, cur, q1, qb, qh, qc, qm, qs, qt⟩⟩ := id hu
    · exact ⟨q0, .inl ⟨q1, q2⟩⟩
    · have hgl : g < w.heap.size := (Array.getElem?_eq_some_iff.1 qh).1
      by_cases hb : v.ownBlock = some g
      · obtain ⟨p0, ⟨p1, _⟩ | ⟨g', cap', cur', p1, pb, ph, pc, pm, pS, pt'⟩⟩ := id hown
        · rw [p1] at hb; cases hb
        · subst p1
          have e : g' = g := by simpa [Value.ownBlock] using hb
          subst e
          have e2 : cur' = cur := by rw [qh] at ph; cases ph; rfl
          subst e2
          by_cases hroom : ks.length + 1 ≤ cap'
          · have hr2 := run_append_room (P := Try.prog) w 42 ty 30 i0 Try.underlying42 hi g' ks.length cap' cur' ph ⟨z, 0, none⟩ 1 1 (k.map u8c) (by rw [hz1]; simp [hk]) hnews (u8c_one k) hroom (by rw [hz1]; simp [hk]; omega)
            rw [hr2] at hr
            obtain ⟨_, e3⟩ := (Result.ok.injEq ..).mp hr
            subst e3
            refine ⟨q0, .inr ⟨g', cap, _, q1, qb, setRow_heap w g' cur' _ 30 _ ph, qc, qm, ?_, ?_⟩⟩
            · simp only [List.size_toArray, List.length_append, List.length_take, List.length_drop, List.length_map, Array.length_toList, hz1, hk]
              omega
            · rw [List.toList_toArray, List.append_assoc, List.take_append_of_le_length (by simp only [List.length_take, Array.length_toList, hz1]; omega), List.take_take, Nat.min_eq_left (by rw [hz1]; omega)]
              exact qt
          · have holds : ∀ j u, (rowQ ks)[j]? = some u → w.cell? ((⟨g', 0, none⟩ : Addr).add j) = some u := fun j u hj => World.ownsRow.cells (g := g') hown rfl j u hj
            have hr2 := run_append_grow (P := Try.prog) w 42 ty 30 i0 (.agg keyZ) Try.underlying42 hi hz0 ⟨g', 0, none⟩ ks.length cap' (rowQ ks) (by rw [hz1]; exact p0) holds ⟨z, 0, none⟩ 1 1 (k.map u8c) (by rw [hz1]; simp [hk]) hnews (by omega) (by omega) (by rw [hz2]; exact growslice_fits (by omega) (by omega))
            rw [hr2] at hr
            obtain ⟨_, e3⟩ := (Result.ok.injEq ..).mp hr
            subst e3
            exact ⟨q0, .inr ⟨g', cap, cur', q1, qb, (Below.heap_alloc w.drew _ g' hgl).trans qh, qc, qm, qs, qt⟩⟩
      · exact ⟨q0, .inr ⟨g, cap, cur, q1, qb, (r3.block g hgl (fun e => hb e.symm)).trans qh, qc, qm, qs, qt⟩⟩
end Go.Proofs.Ytagnglkkmdeicaa

/- PinsPlays, toward spoilt: one element of a row written over. -/
namespace Go.Proofs.Ytagnglkkmdeicaa
set_option linter.unusedVariables false
set_option linter.unusedSimpArgs false
open Go.RowKit Go.Shelf
set_option maxRecDepth 100000

theorem setCells_row {b : Nat} {t : TypeId} : ∀ (vs : List Value) (o : Nat) (w : World) (cs : Array Value), Blk w b cs t → o + vs.length ≤ cs.size → Blk (w.setCells b o vs) b (cs.toList.take o ++ vs ++ cs.toList.drop (o + vs.length)).toArray t ∧ w.grownBy (w.setCells b o vs) (some b)
  | [], o, w, cs, h, _ => ⟨by rw [List.append_nil, List.length_nil, Nat.add_zero, List.take_append_drop]; exact h, ⟨rfl, rfl, rfl, Nat.le_refl _, fun _ _ _ => rfl⟩⟩
  | v :: r, o, w, cs, h, hl => by
    rw [List.length_cons] at hl
    obtain ⟨h1, h2⟩ := setCells_row r (o + 1) (w.setCell ⟨b, o, none⟩ v) (cs.setIfInBounds o v) (h.set o v) (by rw [Array.size_setIfInBounds]; omega)
    refine ⟨?_, grownBy_trans (grownBy_set w b o v) h2⟩
    have e : (cs.setIfInBounds o v).toList.take (o + 1) ++ r ++ (cs.setIfInBounds o v).toList.drop (o + 1 + r.length) = cs.toList.take o ++ v :: r ++ cs.toList.drop (o + (v :: r).length) := by
      rw [Array.toList_setIfInBounds, List.drop_set_of_lt (by omega), List.take_set, List.length_cons, show o + (r.length + 1) = o + 1 + r.length by omega]
      congr 1
      rw [List.take_succ_eq_append_getElem (by rw [Array.length_toList]; omega), List.set_append_right _ _ (by rw [List.length_take]; omega), List.length_take, Nat.min_eq_left (by rw [Array.length_toList]; omega), Nat.sub_self, List.set_cons_zero, List.append_assoc]
      rfl
    rw [e] at h1
    exact h1
theorem there_row {w : World} {b : Nat} {old : Array Value} {t : TypeId} (hk : Blk w b old t) (o n : Nat) (hs : o + n ≤ old.size) : w.there b o n := fun j hj => by
  refine ⟨?_, Blk.frozen hk (o + j)⟩
  rw [hk.cell]
  exact Option.isSome_iff_exists.2 ⟨old[o + j]'(by omega), Array.getElem?_eq_getElem (by omega)⟩
theorem take_mid {α : Type} (l vs : List α) (o m : Nat) (h1 : o + vs.length ≤ m) (h2 : m ≤ l.length) : (l.take o ++ vs ++ l.drop (o + vs.length)).take m = (l.take m).take o ++ vs ++ (l.take m).drop (o + vs.length) := by
  rw [List.take_take, Nat.min_eq_left (by omega), List.take_append, List.take_of_length_le (by rw [List.length_append, List.length_take]; omega), List.drop_take]
  congr 2
  rw [List.length_append, List.length_take]
  omega
/-- An element of one's own row is written over. -/
theorem rowSetQ {W : World} {B g n cap s : Nat} {t : TypeId} {xs : List Value} (h : W.ownsRow B t s (.slice (some ⟨g, 0, none⟩) n cap) n xs) {i : Nat} (hi : i < n) (vs : List Value) (hv : vs.length = s) :
    W.there g (i * s) s ∧ (W.setCells g (i * s) vs).ownsRow B t s (.slice (some ⟨g, 0, none⟩) n cap) n (xs.take (i * s) ++ vs ++ xs.drop (i * s + s)) ∧ W.grownBy (W.setCells g (i * s) vs) (some g) := by
  obtain ⟨h0, ⟨h1, _⟩ | ⟨g', cap', cur, e, hb, hh, hc, hm, hs, ht⟩⟩ := h
  · cases h1
  · cases e
    have q1 : (i + 1) * s ≤ n * s := Nat.mul_le_mul_right s hi
    have q2 : n * s ≤ cap * s := Nat.mul_le_mul_right s hc
    have q3 : (i + 1) * s = i * s + s := Nat.succ_mul i s
    have hB : Blk W g cur t := hh
    obtain ⟨r1, r2⟩ := setCells_row vs (i * s) W cur hB (by omega)
    refine ⟨there_row hB _ _ (by omega), ⟨?_, .inr ⟨g, cap, _, rfl, hb, r1, hc, hm, ?_, ?_⟩⟩, r2⟩
    · simp only [List.length_append, List.length_take, List.length_drop]
      omega
    · simp only [List.size_toArray, List.length_append, List.length_take, List.length_drop, Array.length_toList]
      omega
    · rw [List.toList_toArray, take_mid _ _ _ _ (by omega) (by rw [Array.length_toList]; omega), ht, hv]
theorem flat_set {α β : Type} {f : α → List β} {s : Nat} : ∀ (l : List α) (i : Nat) (a : α), (∀ x ∈ l, (f x).length = s) → i < l.length → (l.set i a).flatMap f = (l.flatMap f).take (i * s) ++ f a ++ (l.flatMap f).drop (i * s + s)
  | x :: l, 0, a, h, _ => by
    have hx := h x (by simp)
    simp only [List.set_cons_zero, List.flatMap_cons, Nat.zero_mul, List.take_zero, List.nil_append, Nat.zero_add]
    rw [List.drop_append, List.drop_of_length_le (by omega), hx, Nat.sub_self]
    rfl
  | x :: l, i + 1, a, h, hi => by
    have hx := h x (by simp)
    have ih := flat_set l i a (fun y hy => h y (by simp [hy])) (by simpa using hi)
    have q : (i + 1) * s = s + i * s := by rw [Nat.succ_mul]; omega
    simp only [List.set_cons_succ, List.flatMap_cons]
    rw [ih, q, List.take_append, List.take_of_length_le (l := f x) (by omega), List.drop_append, List.drop_of_length_le (l := f x) (by omega), hx, show s + i * s - s = i * s by omega, show s + i * s + s - s = i * s + s by omega]
    simp only [List.append_assoc, List.nil_append]
/-- A key of one's own row is written over. -/
theorem wpList_storeQ {ops : Array Oper} {rest : List Oper} {op : Oper} {a : Act} {w : World} {Q : Exit → Act → World → Prop} (hgd : op.guard = none) (x y : Operand) (ho : op.op = .store 30 x y) (B g n cap : Nat) (ks : List (List UInt8)) (h32 : ∀ k ∈ ks, k.length = 32) (hown : OwnQ w B (.slice (some ⟨g, 0, none⟩) n cap) ks) (i : Nat) (hi : i < ks.length) (hx : a.eval x = .pointer (some ⟨g, i * 32, none⟩)) (k : List UInt8) (hk : k.length = 32) (hy : a.eval y = keyV k)
    (h : ∀ w', Hid (OwnQ w' B (.slice (some ⟨g, 0, none⟩) n cap) (ks.set i k)) → Hid (w.grownBy w' (some g)) → wpList Try.prog ops Q rest (a.put op.dst undef) w') : wpList Try.prog ops Q (op :: rest) a w := by
  have hn : n = ks.length := by
    obtain ⟨_, ⟨e, _⟩ | ⟨g', cap', cur, e, _⟩⟩ := id hown
    · cases e
    · cases e; rfl
  subst hn
  obtain ⟨q1, q2, q3⟩ := rowSetQ hown hi (k.map u8c) (by simp [hk])
  refine wpList_store_mid hgd 30 x y ho g (i * 32) (k.map u8c).toArray hx hy (by simpa [hk] using q1) (by simpa [hk] using infoKey) (all_oneCell_toArray (u8c_one k)) (h _ (hide ?_) (hide q3))
  unfold OwnQ
  rw [List.length_set, show rowQ (ks.set i k) = (rowQ ks).take (i * 32) ++ k.map u8c ++ (rowQ ks).drop (i * 32 + 32) from flat_set ks i k (fun y hy => by simp [h32 y hy]) hi]
  exact q2
end Go.Proofs.Ytagnglkkmdeicaa

/- PinsPlays, toward spoilt: one session's row of keys is written over. -/
namespace Go.Proofs.Ytagnglkkmdeicaa
set_option linter.unusedVariables false
set_option linter.unusedSimpArgs false
open Go.RowKit Go.Shelf
set_option maxRecDepth 100000

theorem map_set_same {α β : Type} {f : α → β} {E : List α} {i : Nat} {e e' : α} (he : E[i]? = some e) (h : f e' = f e) : (E.set i e').map f = E.map f := by
  rw [List.map_set, h]
  apply List.ext_getElem?
  intro j
  rw [List.getElem?_set]
  split
  · next q =>
    subst q
    rw [List.length_map]
    split
    · rw [List.getElem?_map, he]; rfl
    · next q => exact absurd (List.getElem?_eq_some_iff.1 he).1 q
  · rfl
abbrev KaLt : Option Addr → Option Addr → Prop := fun p q => ∀ x y : Addr, p = some x → q = some y → x.block < y.block
theorem LstS.key_ne {W : World} {B : Nat} {v : Value} {E : List SeV} (h : LstS W B v E) {i j : Nat} {e d : SeV} (he : E[i]? = some e) (hd : E[j]? = some d) (hij : i ≠ j) {a b : Addr} (ha : e.ka = some a) (hb : d.ka = some b) : a.block ≠ b.block := by
  have hi := (List.getElem?_eq_some_iff.1 he)
  have hj := (List.getElem?_eq_some_iff.1 hd)
  obtain ⟨li, ei⟩ := hi
  obtain ⟨lj, ej⟩ := hj
  rcases Nat.lt_or_gt_of_ne hij with q | q
  · have := (List.pairwise_iff_getElem.1 h.up) i j li lj q a b (by rw [ei]; exact ha) (by rw [ej]; exact hb)
    omega
  · have := (List.pairwise_iff_getElem.1 h.up) j i lj li q b a (by rw [ej]; exact hb) (by rw [ei]; exact ha)
    omega
theorem LstS.own_ne {W : World} {B : Nat} {v : Value} {E : List SeV} (h : LstS W B v E) {e : SeV} (he : e ∈ E) {a : Addr} (ha : e.ka = some a) : v.ownBlock ≠ some a.block := fun q => by
  obtain ⟨_, ⟨h1, _⟩ | ⟨g, cap, cur, h1, _, hh, _⟩⟩ := h.own
  · rw [h1] at q; cases q
  · obtain ⟨_, ⟨k1, _⟩ | ⟨g', cap', cur', k1, _, kh, _⟩⟩ := h.keys e he
    · rw [ha] at k1; cases k1
    · rw [ha] at k1
      cases k1
      rw [h1] at q
      have e1 : g = g' := by simpa [Value.ownBlock] using q
      subst e1
      rw [hh] at kh
      have := (Obj.cells.injEq .. ▸ (Option.some.inj kh)).2.1
      exact absurd this (by decide)
theorem LstS.mark {W W' : World} {B : Nat} {v : Value} {E : List SeV} (h : LstS W B v E) {i : Nat} {e : SeV} (he : E[i]? = some e) {g : Nat} (hk : e.ka = some ⟨g, 0, none⟩) (xs : List (List UInt8)) (hl : xs.length = e.xs.length) (h32 : ∀ x ∈ xs, x.length = 32) (hq : OwnQ W' B (.slice e.ka xs.length e.kc) xs) (hg : W.grownBy W' (some g)) : LstS W' B v (E.set i { e with xs := xs }) := by
  have hm := List.mem_of_getElem? he
  refine ⟨?_, fun d hd => ?_, ?_, fun d hd => ?_⟩
  · rw [List.length_set, show rowS (E.set i { e with xs := xs }) = rowS E by
      unfold rowS
      rw [List.flatMap_def, List.flatMap_def, map_set_same he (by simp only [seV, hl])]]
    refine owns_grownK h.own hg (fun r hr q => ?_)
    cases q
    exact h.own_ne hm hk hr
  · obtain ⟨j, hj⟩ := List.mem_iff_getElem?.1 hd
    rw [List.getElem?_set] at hj
    split at hj
    · split at hj
      · cases hj; exact hq
      · cases hj
    · next hij =>
      refine owns_grownK (h.keys d (List.mem_of_getElem? hj)) hg (fun r hr q => ?_)
      cases q
      cases hb : d.ka with
      | none => rw [hb] at hr; cases hr
      | some b =>
        rw [hb] at hr
        exact h.key_ne he hj hij hk hb (Option.some.inj hr).symm
  · have q : ((E.set i { e with xs := xs }).map SeV.ka).Pairwise KaLt := by
      rw [map_set_same (f := SeV.ka) (e' := { e with xs := xs }) he rfl]
      exact List.pairwise_map.2 h.up
    exact List.pairwise_map.1 q
  · obtain ⟨j, hj⟩ := List.mem_iff_getElem?.1 hd
    rw [List.getElem?_set] at hj
    split at hj
    · split at hj
      · cases hj; exact h32
      · cases hj
    · exact h.l32 d (List.mem_of_getElem? hj)
end Go.Proofs.Ytagnglkkmdeicaa

/- PinsPlays, toward spoilt: the marks. -/
namespace Go.Proofs.Ytagnglkkmdeicaa
set_option linter.unusedVariables false
set_option linter.unusedSimpArgs false
open Go.RowKit Go.Shelf
set_option maxRecDepth 100000

def mark (c i q : Nat) : List UInt8 := List.replicate 29 0 ++ [UInt8.ofNat c, UInt8.ofNat i, UInt8.ofNat q]
theorem mark_len (c i q : Nat) : (mark c i q).length = 32 := by simp [mark]
def mC (c i q : Int) : Value := .agg ((List.replicate 29 (Value.int .u8 0) ++ [Value.int .u8 c, Value.int .u8 i, Value.int .u8 q] : List Value)).toArray
theorem mark_is (c i q : Nat) (hc : c < 256) (hi : i < 256) (hq : q < 256) : keyV (mark c i q) = mC c i q := by
  have e : ∀ n : Nat, n < 256 → u8c (UInt8.ofNat n) = .int .u8 (n : Int) := fun n hn => by
    unfold u8c
    rw [UInt8.toNat_ofNat', Nat.mod_eq_of_lt (by omega)]
  unfold keyV mark mC
  rw [List.map_append, List.map_replicate]
  simp only [List.map_cons, List.map_nil, e c hc, e i hi, e q hq]
  rfl
theorem run_mark1 {op : Oper} {a : Act} {x y : Operand} {i q : Int} (ho : op.op = .build 30 #[(29, .const (.int .u8 1)), (30, x), (31, y)]) (hx : a.eval x = .int .u8 i) (hy : a.eval y = .int .u8 q) (w : World) : (execOp a.eval op).run Try.prog w = .ok (.value (mC 1 i q)) w := by
  simp only [execOp, ho]
  simp only [List.map_toArray, List.map_cons, List.map_nil, hx, hy]
  kernel_rfl
theorem run_mark2 {op : Oper} {a : Act} {x y : Operand} {i q : Int} (ho : op.op = .build 30 #[(29, .const (.int .u8 2)), (30, x), (31, y)]) (hx : a.eval x = .int .u8 i) (hy : a.eval y = .int .u8 q) (w : World) : (execOp a.eval op).run Try.prog w = .ok (.value (mC 2 i q)) w := by
  simp only [execOp, ho]
  simp only [List.map_toArray, List.map_cons, List.map_nil, hx, hy]
  kernel_rfl
theorem wpList_mark1 {ops : Array Oper} {rest : List Oper} {op : Oper} {a : Act} {w : World} {Q : Exit → Act → World → Prop} (x y : Operand) (i q : Nat) (hi : i < 256) (hq : q < 256) (ho : op.op = .build 30 #[(29, .const (.int .u8 1)), (30, x), (31, y)]) (hx : a.eval x = .int .u8 (i : Int)) (hy : a.eval y = .int .u8 (q : Int)) (hg : Region.wanted op (yielded ops a.tmps) = true)
    (h : wpList Try.prog ops Q rest (a.put op.dst (keyV (mark 1 i q))) w) : wpList Try.prog ops Q (op :: rest) a w :=
  wpList_val _ hg (by rw [mark_is 1 i q (by omega) hi hq]; exact run_mark1 ho hx hy w) h
theorem wpList_mark2 {ops : Array Oper} {rest : List Oper} {op : Oper} {a : Act} {w : World} {Q : Exit → Act → World → Prop} (x y : Operand) (i q : Nat) (hi : i < 256) (hq : q < 256) (ho : op.op = .build 30 #[(29, .const (.int .u8 2)), (30, x), (31, y)]) (hx : a.eval x = .int .u8 (i : Int)) (hy : a.eval y = .int .u8 (q : Int)) (hg : Region.wanted op (yielded ops a.tmps) = true)
    (h : wpList Try.prog ops Q rest (a.put op.dst (keyV (mark 2 i q))) w) : wpList Try.prog ops Q (op :: rest) a w :=
  wpList_val _ hg (by rw [mark_is 2 i q (by omega) hi hq]; exact run_mark2 ho hx hy w) h
theorem wpList_append_keepQ {ops : Array Oper} {rest : List Oper} {o : Oper} {a : Act} {w : World} {Q : Exit → Act → World → Prop} (hgd : o.guard = none) (s x : Operand) (ho : o.op = .call { callee := .builtin .append, args := #[s, x], argTypes := #[42, 42] })
    (base : Nat) (v : Value) (ks : List (List UInt8)) (hs : a.eval s = v) (hown : OwnQ w base v ks) (z : Nat) (hx : a.eval x = .slice (some ⟨z, 0, none⟩) 1 1) (k : List UInt8) (hk : k.length = 32) (hc : Blk w z (k.map u8c).toArray 30) (hlen : ks.length + 1 ≤ 4398046511104) (hbase : base ≤ w.heap.size)
    (h : ∀ v' w', Hid (OwnQ w' base v' (ks ++ [k])) → Hid (w.grownBy w' v.ownBlock) → Hid (v'.ownBlock = v.ownBlock ∨ v'.ownBlock = some w.heap.size) → Hid (KeepQ ks.length w w') → wpList Try.prog ops Q rest (a.put o.dst v') w') : wpList Try.prog ops Q (o :: rest) a w := by
  obtain ⟨v', w', hr, h1, h2, h3, h4⟩ := run_append_keepQ w o.type base v ks hown z k hk hc hlen hbase
  refine wpList_plain hgd fun K hK => ?_
  unfold Oper.wp execOp
  simp only [ho, resolve, invoke, builtin, Sem.run_bind, Sem.run_pure, Result.andThen_ok, List.map_toArray, List.map_cons, List.map_nil, hs, hx, hr]
  exact hK _ _ (h v' w' (hide h1) (hide h2) (hide h3) (hide h4))
end Go.Proofs.Ytagnglkkmdeicaa

/- PinsPlays, toward spoilt: the sessions while the marks are laid. -/
namespace Go.Proofs.Ytagnglkkmdeicaa
set_option linter.unusedVariables false
set_option linter.unusedSimpArgs false
open Go.RowKit Go.Shelf
set_option maxRecDepth 100000

/-- A session whose first k keys are marks. -/
def pmk (q i k : Nat) (e : SeV) : SeV := { e with xs := List.replicate k (mark 1 i q) ++ e.xs.drop k }
/-- The sessions, the first i of them all marks. -/
def Em (q : Nat) (E : List SeV) (i : Nat) : List SeV := E.mapIdx fun j e => if j < i then pmk q j e.xs.length e else e
theorem pmk_zero (q i : Nat) (e : SeV) : pmk q i 0 e = e := rfl
theorem pmk_len {q i k : Nat} {e : SeV} (hk : k ≤ e.xs.length) : (pmk q i k e).xs.length = e.xs.length := by
  simp only [pmk, List.length_append, List.length_replicate, List.length_drop]
  omega
theorem pmk_set {q i k : Nat} {e : SeV} (hk : k < e.xs.length) : (pmk q i k e).xs.set k (mark 1 i q) = (pmk q i (k + 1) e).xs := by
  simp only [pmk]
  rw [List.set_append_right _ _ (by simp), List.length_replicate, Nat.sub_self, List.drop_eq_getElem_cons hk, List.set_cons_zero, List.replicate_succ', List.append_assoc]
  rfl
theorem pmk_32 {q i k : Nat} {e : SeV} (h : ∀ x ∈ e.xs, x.length = 32) : ∀ x ∈ (pmk q i k e).xs, x.length = 32 := fun x hx => by
  rcases List.mem_append.1 hx with hx | hx
  · rw [List.eq_of_mem_replicate hx]; exact mark_len _ _ _
  · exact h x (List.mem_of_mem_drop hx)
theorem Em_zero (q : Nat) (E : List SeV) : Em q E 0 = E := by
  apply List.ext_getElem?
  intro j
  simp [Em]
theorem Em_len (q : Nat) (E : List SeV) (i : Nat) : (Em q E i).length = E.length := by simp [Em]
theorem Em_get {q i j : Nat} {E : List SeV} {e : SeV} (he : E[j]? = some e) : (Em q E i)[j]? = some (if j < i then pmk q j e.xs.length e else e) := by
  simp [Em, he]
theorem Em_at {q i : Nat} {E : List SeV} {e : SeV} (he : E[i]? = some e) : (Em q E i)[i]? = some e := by
  rw [Em_get he, if_neg (Nat.lt_irrefl _)]
theorem set_self {α : Type} {l : List α} {i : Nat} {a : α} (h : l[i]? = some a) : l.set i a = l := by
  apply List.ext_getElem?
  intro j
  rw [List.getElem?_set]
  split
  · next q =>
    subst q
    rw [if_pos (List.getElem?_eq_some_iff.1 h).1, h]
  · rfl
theorem Em_next {q i : Nat} {E : List SeV} {e : SeV} (he : E[i]? = some e) : (Em q E i).set i (pmk q i e.xs.length e) = Em q E (i + 1) := by
  have hi := (List.getElem?_eq_some_iff.1 he).1
  apply List.ext_getElem?
  intro j
  rw [List.getElem?_set]
  split
  · next w =>
    subst w
    rw [if_pos (by rw [Em_len]; exact hi), Em_get he, if_pos (Nat.lt_succ_self _)]
  · next w =>
    cases hj : E[j]? with
    | none => simp [Em, hj]
    | some d =>
      rw [Em_get hj, Em_get hj]
      by_cases h : j < i
      · rw [if_pos h, if_pos (by omega)]
      · rw [if_neg h, if_neg (by omega)]
/-- A mark more. -/
theorem lst_mark1 {W W' : World} {B q i k g : Nat} {v : Value} {E : List SeV} {e : SeV} (he : E[i]? = some e) (h : LstS W B v ((Em q E i).set i (pmk q i k e))) (hk : e.ka = some ⟨g, 0, none⟩) (hlt : k < e.xs.length) (h32 : ∀ x ∈ e.xs, x.length = 32) (hq : OwnQ W' B (.slice e.ka e.xs.length e.kc) ((pmk q i k e).xs.set k (mark 1 i q))) (hg : W.grownBy W' (some g)) : LstS W' B v ((Em q E i).set i (pmk q i (k + 1) e)) := by
  have hi := (List.getElem?_eq_some_iff.1 he).1
  have hs : ((Em q E i).set i (pmk q i k e))[i]? = some (pmk q i k e) := by rw [List.getElem?_set, if_pos rfl, if_pos (by rw [Em_len]; exact hi)]
  rw [pmk_set hlt] at hq
  have := h.mark hs (g := g) hk (pmk q i (k + 1) e).xs (by rw [pmk_len (by omega), pmk_len (by omega)]) (pmk_32 h32) (by rw [pmk_len (by omega)]; exact hq) hg
  rw [List.set_set] at this
  exact this
end Go.Proofs.Ytagnglkkmdeicaa

/- PinsPlays, toward spoilt: the marks laid, the first two loops' state. -/
namespace Go.Proofs.Ytagnglkkmdeicaa
set_option linter.unusedVariables false
set_option linter.unusedSimpArgs false
open Go.RowKit Go.Shelf
set_option maxRecDepth 100000

theorem chg_grown {T : Nat → Prop} {w W W' : World} {g : Nat} (h : Chg T w W) (hg : W.grownBy W' (some g)) (ht : T g) : Chg T w W' :=
  ⟨hg.os.trans h.os, hg.tape.trans h.tape, hg.output.trans h.output, Nat.le_trans h.size hg.size, fun i hi hn => (hg.block i (Nat.lt_of_lt_of_le hi h.size) (fun q => hn (by cases q; exact ht))).trans (h.block i hi hn)⟩
/-- A number that fits a byte. -/
theorem wpList_cvt {ops : Array Oper} {rest : List Oper} {op : Oper} {a : Act} {w : World} {Q : Exit → Act → World → Prop} (x : Operand) (n : Nat) (hn : n < 256) (ho : op.op = .convert 3 5 x) (hx : a.eval x = .int .i64 (n : Int)) (hg : Region.wanted op (yielded ops a.tmps) = true)
    (h : wpList Try.prog ops Q rest (a.put op.dst (.int .u8 (n : Int))) w) : wpList Try.prog ops Q (op :: rest) a w := by
  refine wpList_val _ hg ?_ h
  have hw : IntKind.u8.wrap (n : Int) = (n : Int) := by unfold IntKind.wrap; simp [IntKind.signed, IntKind.bits]; omega
  have hu := Try.underlying3
  have hu2 := Try.underlying5
  simp only [execOp, ho, hx]
  simp [go_sem, hu, hu2, hw]
/-- A mark is built. -/
theorem wpList_markA {ops : Array Oper} {rest : List Oper} {op : Oper} {a : Act} {w : World} {Q : Exit → Act → World → Prop} (x y : Operand) (i q : Nat) (M : List UInt8) (hM : M = mark 1 i q) (hi : i < 256) (hq : q < 256) (ho : op.op = .build 30 #[(29, .const (.int .u8 1)), (30, x), (31, y)]) (hx : a.eval x = .int .u8 (i : Int)) (hy : a.eval y = .int .u8 (q : Int)) (hg : Region.wanted op (yielded ops a.tmps) = true)
    (h : wpList Try.prog ops Q rest (a.put op.dst (keyV M)) w) : wpList Try.prog ops Q (op :: rest) a w := by
  subst hM
  exact wpList_mark1 x y i q hi hq ho hx hy hg h
theorem wpList_markB {ops : Array Oper} {rest : List Oper} {op : Oper} {a : Act} {w : World} {Q : Exit → Act → World → Prop} (x y : Operand) (i q : Nat) (M : List UInt8) (hM : M = mark 2 i q) (hi : i < 256) (hq : q < 256) (ho : op.op = .build 30 #[(29, .const (.int .u8 2)), (30, x), (31, y)]) (hx : a.eval x = .int .u8 (i : Int)) (hy : a.eval y = .int .u8 (q : Int)) (hg : Region.wanted op (yielded ops a.tmps) = true)
    (h : wpList Try.prog ops Q rest (a.put op.dst (keyV M)) w) : wpList Try.prog ops Q (op :: rest) a w := by
  subst hM
  exact wpList_mark2 x y i q hi hq ho hx hy hg h
/-- While the marks are laid: i sessions whole, k keys of the next. -/
structure L1 (w wr : World) (B : Nat) (v : Value) (E : List SeV) (q i k : Nat) : Prop where
  lst : LstS wr B v (match E[i]? with | some e => (Em q E i).set i (pmk q i k e) | none => Em q E i)
  chg : Chg (OwnT v E) w wr
theorem L1.start {w : World} {B : Nat} {v : Value} {E : List SeV} (h : LstS w B v E) (q : Nat) : L1 w w B v E q 0 0 := by
  refine ⟨?_, Chg.refl _ _⟩
  split
  · next e he => rw [pmk_zero, set_self (Em_at he), Em_zero]; exact h
  · rw [Em_zero]; exact h
section
variable {w wr : World} {B : Nat} {v : Value} {E : List SeV} {q i k : Nat} {e : SeV}
theorem L1.at_ (h : L1 w wr B v E q i k) (he : E[i]? = some e) : LstS wr B v ((Em q E i).set i (pmk q i k e)) := by
  have := h.lst
  rw [he] at this
  exact this
theorem L1.next (h : L1 w wr B v E q i e.xs.length) (he : E[i]? = some e) : L1 w wr B v E q (i + 1) 0 := by
  refine ⟨?_, h.chg⟩
  have h1 := h.at_ he
  rw [Em_next he] at h1
  split
  · next d hd => rw [pmk_zero, set_self (Em_at hd)]; exact h1
  · exact h1
theorem L1.cell (h : L1 w wr B v E q i k) (he : E[i]? = some e) (hk : k ≤ e.xs.length) {gv n cap : Nat} (hv : v = .slice (some ⟨gv, 0, none⟩) n cap) : wr.cell? ⟨gv, i * 3 + 2, none⟩ = some (.slice e.ka e.xs.length e.kc) := by
  have hi := (List.getElem?_eq_some_iff.1 he).1
  obtain ⟨a2, c2, h1, h2⟩ := (h.at_ he).read
  obtain ⟨g2, o2, h3, h4, _⟩ := h2 i (by rw [List.length_set, Em_len]; exact hi)
  rw [hv] at h1
  injection h1 with e1 e2 e3
  rw [← e1] at h3
  cases h3
  have := h4 2 (.slice e.ka e.xs.length e.kc) (by rw [List.getElem_set_self]; simp only [seV, pmk_len hk]; rfl)
  rw [← this]; congr 2; omega
theorem L1.row (h : L1 w wr B v E q i k) (he : E[i]? = some e) (hk : k ≤ e.xs.length) : OwnQ wr B (.slice e.ka e.xs.length e.kc) (pmk q i k e).xs := by
  have hi := (List.getElem?_eq_some_iff.1 he).1
  have hs : ((Em q E i).set i (pmk q i k e))[i]? = some (pmk q i k e) := by rw [List.getElem?_set, if_pos rfl, if_pos (by rw [Em_len]; exact hi)]
  have := (h.at_ he).keys _ (List.mem_of_getElem? hs)
  rw [pmk_len hk] at this
  exact this
theorem L1.mark {W' : World} {g : Nat} (h : L1 w wr B v E q i k) (he : E[i]? = some e) (hk : k < e.xs.length) (h32 : ∀ x ∈ e.xs, x.length = 32) (hg : e.ka = some ⟨g, 0, none⟩) (hO : OwnQ W' B (.slice (some ⟨g, 0, none⟩) e.xs.length e.kc) ((pmk q i k e).xs.set k (mark 1 i q))) (hG : wr.grownBy W' (some g)) : L1 w W' B v E q i (k + 1) := by
  refine ⟨?_, chg_grown h.chg hG (.inr ⟨e, List.mem_of_getElem? he, _, hg, rfl⟩)⟩
  rw [he]
  exact lst_mark1 he (h.at_ he) hg hk h32 (by rw [hg]; exact hO) hG
end
/-- The next mark is stored. -/
theorem wpList_storeM {ops : Array Oper} {rest : List Oper} {op : Oper} {a : Act} {w wr : World} {Q : Exit → Act → World → Prop} (hgd : op.guard = none) (x y : Operand) (ho : op.op = .store 30 x y) (B : Nat) (v : Value) (E : List SeV) (q i k : Nat) (e : SeV) (he : E[i]? = some e) (h32 : ∀ z ∈ e.xs, z.length = 32) (h : L1 w wr B v E q i k) (hk : k < e.xs.length) (g : Nat) (hg : e.ka = some ⟨g, 0, none⟩) (hx : a.eval x = .pointer (some ⟨g, k * 32, none⟩)) (M : List UInt8) (hM : M = mark 1 i q) (hy : a.eval y = keyV M)
    (hK : ∀ w', Hid (L1 w w' B v E q i (k + 1)) → wpList Try.prog ops Q rest (a.put op.dst undef) w') : wpList Try.prog ops Q (op :: rest) a wr := by
  subst hM
  have hO := h.row he (Nat.le_of_lt hk)
  rw [hg] at hO
  exact wpList_storeQ hgd x y ho B g e.xs.length e.kc (pmk q i k e).xs (pmk_32 h32) hO k (by rw [pmk_len (Nat.le_of_lt hk)]; exact hk) hx (mark 1 i q) (mark_len _ _ _) hy (fun w' h1 h2 => hK w' (hide (h.mark he hk h32 hg h1.out h2.out)))
end Go.Proofs.Ytagnglkkmdeicaa

/- PinsPlays, toward spoilt: the lists grown. -/
namespace Go.Proofs.Ytagnglkkmdeicaa
set_option linter.unusedVariables false
set_option linter.unusedSimpArgs false
open Go.RowKit Go.Shelf
set_option maxRecDepth 100000

theorem kind_neP {w : World} {B B' s s' : Nat} {e e' : TypeId} {v u : Value} {n m : Nat} {ys zs : List Value} (ho : w.ownsRow B e s v n ys) (hu : w.ownsRow B' e' s' u m zs) (hte : e ≠ e') : ∀ g, v.ownBlock = some g → u.ownBlock ≠ some g := by
  intro g h1 h2
  obtain ⟨c, fz, k1⟩ := Go.Lib.ownsRow_kind ho g h1
  obtain ⟨c', fz', k2⟩ := Go.Lib.ownsRow_kind hu g h2
  rw [k1] at k2
  cases k2
  exact hte rfl
/-- The marked sessions F stand for E. -/
structure Mkd (E F : List SeV) (q : Nat) : Prop where
  len : F.length = E.length
  xs : ∀ (j : Nat) (e : SeV), F[j]? = some e → e.xs = List.replicate e.xs.length (mark 1 j q)
  own : ∀ v i, OwnT v F i → OwnT v E i
  few : (∀ e ∈ E, e.xs.length ≤ 4398046510976) → ∀ e ∈ F, e.xs.length ≤ 4398046510976
theorem Em_mkd (E : List SeV) (q : Nat) : Mkd E (Em q E E.length) q := by
  have get : ∀ (j : Nat) (f : SeV), (Em q E E.length)[j]? = some f → ∃ e, E[j]? = some e ∧ f = pmk q j e.xs.length e := fun j f hf => by
    have hj : j < E.length := by have := (List.getElem?_eq_some_iff.1 hf).1; rwa [Em_len] at this
    have he : E[j]? = some (E[j]'hj) := List.getElem?_eq_getElem hj
    rw [Em_get he, if_pos hj] at hf
    exact ⟨_, he, (Option.some.inj hf).symm⟩
  refine ⟨Em_len _ _ _, fun j f hf => ?_, fun v i h => ?_, fun hx f hf => ?_⟩
  · obtain ⟨e, _, rfl⟩ := get j f hf
    rw [pmk_len (Nat.le_refl _)]
    simp [pmk]
  · rcases h with h | ⟨f, hf, a, ha, hb⟩
    · exact .inl h
    · obtain ⟨j, hj⟩ := List.mem_iff_getElem?.1 hf
      obtain ⟨e, he, rfl⟩ := get j f hj
      exact .inr ⟨e, List.mem_of_getElem? he, a, ha, hb⟩
  · obtain ⟨j, hj⟩ := List.mem_iff_getElem?.1 hf
    obtain ⟨e, he, rfl⟩ := get j f hj
    rw [pmk_len (Nat.le_refl _)]
    exact hx e (List.mem_of_getElem? he)
theorem L1.whole {w wr : World} {B : Nat} {v : Value} {E : List SeV} {q k : Nat} (h : L1 w wr B v E q E.length k) : LstS wr B v (Em q E E.length) := by
  have := h.lst
  rw [List.getElem?_eq_none (Nat.le_refl _)] at this
  exact this
/-- The blocks that a session's list may stand in. -/
def KaT (e : SeV) (b : Nat) : Prop := ∃ a : Addr, e.ka = some a ∧ a.block = b
theorem blkOf {e : SeV} {n b : Nat} (h : (Value.slice e.ka n e.kc).ownBlock = some b) : KaT e b := by
  cases ha : e.ka with
  | none => rw [ha] at h; cases h
  | some a =>
    refine ⟨a, ha, ?_⟩
    rw [ha] at h
    simpa [Value.ownBlock] using h
/-- While one list is grown. -/
structure L3 (W wr : World) (B : Nat) (e : SeV) (q i k : Nat) (mv : Value) : Prop where
  chg : Chg (KaT e) W wr
  m : OwnQ wr B mv (e.xs ++ List.replicate k (mark 2 i q))
  mb : ∀ b, mv.ownBlock = some b → W.heap.size ≤ b ∨ KaT e b
  pin : OwnQ wr B (.slice e.ka e.xs.length e.kc) e.xs
section
variable {W wr : World} {B q i k : Nat} {v mv : Value} {E F : List SeV} {e : SeV}
theorem L3.start (h : LstS W B v F) (he : e ∈ F) : L3 W W B e q i 0 (.slice e.ka e.xs.length e.kc) := by
  have := h.keys e he
  exact ⟨Chg.refl _ _, by rw [List.replicate_zero, List.append_nil]; exact this, fun b hb => .inr (blkOf hb), this⟩
theorem L3.below {w' : World} (h : L3 W wr B e q i k mv) (hb : Below wr.heap.size wr w') : L3 W w' B e q i k mv :=
  ⟨h.chg.trans (Chg.of_below hb), h.m.below hb, h.mb, h.pin.below hb⟩
theorem L3.step {w' : World} {v' : Value} (h : L3 W wr B e q i k mv) (h1 : OwnQ w' B v' ((e.xs ++ List.replicate k (mark 2 i q)) ++ [mark 2 i q])) (h2 : wr.grownBy w' mv.ownBlock) (h3 : v'.ownBlock = mv.ownBlock ∨ v'.ownBlock = some wr.heap.size) (h4 : KeepQ (e.xs ++ List.replicate k (mark 2 i q)).length wr w') : L3 W w' B e q i (k + 1) v' := by
  refine ⟨⟨h2.os.trans h.chg.os, h2.tape.trans h.chg.tape, h2.output.trans h.chg.output, Nat.le_trans h.chg.size h2.size, fun b hb hT => ?_⟩, ?_, fun b hb => ?_, h4 _ _ _ h.pin (by simp)⟩
  · refine (h2.block b (Nat.lt_of_lt_of_le hb h.chg.size) (fun e1 => ?_)).trans (h.chg.block b hb hT)
    rcases h.mb b e1.symm with q | q
    · omega
    · exact hT q
  · rw [List.append_assoc, ← List.replicate_succ'] at h1
    exact h1
  · rcases h3 with e1 | e1
    · exact h.mb b (e1 ▸ hb)
    · rw [e1] at hb
      cases hb
      exact .inl h.chg.size
/-- The lists behind a list's growing. -/
theorem L3.lst (h : L3 W wr B e q i k mv) (hL : LstS W B v F) (he : F[i]? = some e) : LstS wr B v F := by
  have hm := List.mem_of_getElem? he
  refine ⟨own_chg hL.own h.chg (fun b hb hT => ?_), fun d hd => ?_, hL.up, hL.l32⟩
  · obtain ⟨a, ha, rfl⟩ := hT
    exact hL.own_ne hm ha hb
  · obtain ⟨j, hj⟩ := List.mem_iff_getElem?.1 hd
    by_cases hij : i = j
    · subst hij
      rw [he] at hj
      cases hj
      exact h.pin
    · refine own_chg (hL.keys d hd) h.chg (fun b hb hT => ?_)
      obtain ⟨a, ha, rfl⟩ := hT
      obtain ⟨a', ha', hb'⟩ := blkOf hb
      exact hL.key_ne he hj hij ha ha' hb'.symm
end
/-- A mark is put on behind. -/
theorem wpList_appM {ops : Array Oper} {rest : List Oper} {o : Oper} {a : Act} {W wr : World} {Q : Exit → Act → World → Prop} (hgd : o.guard = none) (s x : Operand) (ho : o.op = .call { callee := .builtin .append, args := #[s, x], argTypes := #[42, 42] })
    (B : Nat) (e : SeV) (q i k : Nat) (mv : Value) (hs : a.eval s = mv) (h : L3 W wr B e q i k mv) (z : Nat) (hx : a.eval x = .slice (some ⟨z, 0, none⟩) 1 1) (M : List UInt8) (hM : M = mark 2 i q) (hc : Blk wr z (M.map u8c).toArray 30) (hlen : e.xs.length + k + 1 ≤ 4398046511104) (hB : B ≤ wr.heap.size)
    (hK : ∀ v' w', Hid (L3 W w' B e q i (k + 1) v') → wpList Try.prog ops Q rest (a.put o.dst v') w') : wpList Try.prog ops Q (o :: rest) a wr := by
  subst hM
  exact wpList_append_keepQ hgd s x ho B mv (e.xs ++ List.replicate k (mark 2 i q)) hs h.m z hx (mark 2 i q) (mark_len _ _ _) hc (by simp; omega) hB (fun v' w' h1 h2 h3 h4 => hK v' w' (hide (h.step h1.out h2.out h3.out h4.out)))
/-- The grown lists so far, in a row of rows. -/
structure L2 (w wr : World) (B : Nat) (v : Value) (E F : List SeV) (q i S0 : Nat) (lv : Value) : Prop where
  lst : LstS wr B v F
  chg : Chg (OwnT v E) w wr
  s0 : w.heap.size ≤ S0 ∧ S0 ≤ wr.heap.size
  ka : ∀ e ∈ F, ∀ a : Addr, e.ka = some a → a.block < S0
  row : ∃ sv : List Value, wr.ownsRow w.heap.size 42 1 lv i sv ∧ (∀ u ∈ sv, u.oneCell' = true) ∧ ∀ j (e : SeV), j < i → F[j]? = some e → ∃ u, sv[j]? = some u ∧ OwnQ wr B u (e.xs ++ List.replicate 20 (mark 2 j q)) ∧ ∀ b, u.ownBlock = some b → S0 ≤ b ∨ KaT e b
theorem L2.start {w wr : World} {B : Nat} {v : Value} {E F : List SeV} (q : Nat) (h : LstS wr B v F) (hc : Chg (OwnT v E) w wr) : L2 w wr B v E F q 0 wr.heap.size (.slice none 0 0) :=
  ⟨h, hc, ⟨hc.size, Nat.le_refl _⟩, fun e he a ha => (ownQ_lt (h.keys e he) ha).1, [], World.ownsRow_nil _ _ _ _, fun u hu => (by cases hu), fun j e hj => absurd hj (Nat.not_lt_zero j)⟩
theorem infoKs : ∃ i, Try.prog.info? 42 = some i ∧ i.zero = some (.slice none 0 0) ∧ i.size = 1 ∧ i.bytes = 24 := by
  have h : (Try.prog.info? 42).map (fun i => (i.zero, i.size, i.bytes)) = some (some (.slice none 0 0), 1, 24) := by kernel_rfl
  cases hi : Try.prog.info? 42 with
  | none => rw [hi] at h; cases h
  | some i =>
    rw [hi] at h
    simp at h
    exact ⟨i, rfl, h.1, h.2.1, h.2.2⟩
/-- A grown list is put down. -/
theorem wpList_appL {ops : Array Oper} {rest : List Oper} {o : Oper} {a : Act} {w W wr w1 : World} {Q : Exit → Act → World → Prop} (hgd : o.guard = none) (s x : Operand) (ho : o.op = .call { callee := .builtin .append, args := #[s, x], argTypes := #[87, 87] })
    (B : Nat) (v : Value) (E F : List SeV) (e : SeV) (q i S0 : Nat) (lv mv : Value) (h2 : L2 w W B v E F q i S0 lv) (hm : Mkd E F q) (he : F[i]? = some e) (h3 : L3 W wr B e q i 20 mv) (hi : i ≤ 16) (hB : B ≤ w.heap.size)
    (z : Nat) (hb : Below wr.heap.size wr w1) (hz : Blk w1 z #[mv] 42) (hs : a.eval s = lv) (hx : a.eval x = .slice (some ⟨z, 0, none⟩) 1 1)
    (hK : ∀ lv' w', Hid (L2 w w' B v E F q (i + 1) S0 lv') → wpList Try.prog ops Q rest (a.put o.dst lv') w') : wpList Try.prog ops Q (o :: rest) a w1 := by
  obtain ⟨i0, hi0, hz0, hz1, hz2⟩ := infoKs
  have hmem := List.mem_of_getElem? he
  obtain ⟨sv, r1, r0, r2⟩ := h2.row
  -- what was there when the list began to grow stands
  have hkeepL : wr.ownsRow w.heap.size 42 1 lv i sv := own_chg r1 h3.chg (fun b hb' hT => by
    obtain ⟨a', ha', rfl⟩ := hT
    have hk := h2.lst.keys e hmem
    exact kind_neP r1 hk (by decide) _ hb' (by rw [ha']; exact ownQ_block hk ha'))
  have hL3 : LstS w1 B v F := (h3.lst h2.lst he).below hb
  have hown : w1.ownsRow w.heap.size 42 1 lv i sv := own_belowS hkeepL hb
  have hmv : OwnQ w1 B mv (e.xs ++ List.replicate 20 (mark 2 i q)) := h3.m.below hb
  have each : ∀ j (d : SeV), j < i → F[j]? = some d → ∃ u, sv[j]? = some u ∧ OwnQ w1 B u (d.xs ++ List.replicate 20 (mark 2 j q)) ∧ ∀ b, u.ownBlock = some b → S0 ≤ b ∨ KaT d b := fun j d hj hd => by
    obtain ⟨u, u1, u2, u3⟩ := r2 j d hj hd
    refine ⟨u, u1, OwnQ.below (own_chg u2 h3.chg (fun b hb' hT => ?_)) hb, u3⟩
    obtain ⟨a', ha', rfl⟩ := hT
    rcases u3 _ hb' with q1 | ⟨a2, q1, q2⟩
    · have := h2.ka e hmem a' ha'
      omega
    · exact h2.lst.key_ne he hd (by omega) ha' q1 q2.symm
  have hm1 : mv.oneCell' = true := by
    obtain ⟨ao, cap, e1, _⟩ := h3.m.form
    rw [e1]; rfl
  refine wpList_append_own_at w1 hgd s x 87 ho w.heap.size 42 i0 (.slice none 0 0) 1 24 Try.underlying87 hi0 hz0 hz1 hz2 rfl (by decide) lv i sv hs hown ⟨z, 0, none⟩ 1 1 [mv] hx rfl ?_ (fun u hu => by rw [List.mem_singleton.1 hu]; exact hm1) (by unfold maxLen; omega) (by omega) (Nat.le_trans h2.chg.size (Nat.le_trans h3.chg.size hb.size)) ?_
  · intro j u hj
    rw [Addr.add_mid, hz.cell]
    cases j with
    | zero => cases hj; rfl
    | succ j => cases hj
  · intro lv' w' k1 k2 _ k4
    have far : ∀ (u : Value) (ks : List (List UInt8)), OwnQ w1 B u ks → OwnQ w' B u ks := fun u ks hu => owns_grownK hu k2 (fun g hg e1 => kind_neP hu hown (by decide) g hg e1.symm)
    refine hK lv' w' (hide ⟨⟨owns_grownK hL3.own k2 (fun g hg e1 => kind_neP hL3.own hown (by decide) g hg e1.symm), fun d hd => far _ _ (hL3.keys d hd), hL3.up, hL3.l32⟩, ?_, ⟨h2.s0.1, ?_⟩, h2.ka, sv ++ [mv], k1, fun u hu => ?_, fun j d hj hd => ?_⟩)
    · refine ⟨k2.os.trans (hb.os.trans (h3.chg.os.trans h2.chg.os)), k2.tape.trans (hb.tape.trans (h3.chg.tape.trans h2.chg.tape)), k2.output.trans (hb.output.trans (h3.chg.output.trans h2.chg.output)), Nat.le_trans h2.chg.size (Nat.le_trans h3.chg.size (Nat.le_trans hb.size k2.size)), fun b hb' hT => ?_⟩
      have s1 := h2.chg.size
      have s2 := h3.chg.size
      refine (k2.block b (by have := hb.size; omega) (fun e1 => ?_)).trans ((hb.block b (by omega)).trans ((h3.chg.block b (by omega) (fun hk => hT ?_)).trans (h2.chg.block b hb' hT)))
      · have := World.ownsRow.lt hown b e1.symm
        omega
      · obtain ⟨a', ha', hab⟩ := hk
        exact hm.own v b (.inr ⟨e, hmem, a', ha', hab⟩)
    · exact Nat.le_trans h2.s0.2 (Nat.le_trans h3.chg.size (Nat.le_trans hb.size k2.size))
    · rcases List.mem_append.1 hu with hu | hu
      · exact r0 u hu
      · rw [List.mem_singleton.1 hu]; exact hm1
    · have hl : sv.length = i := by have := r1.1; omega
      by_cases hji : j < i
      · obtain ⟨u, u1, u2, u3⟩ := each j d hji hd
        exact ⟨u, by rw [List.getElem?_append_left (by omega)]; exact u1, far _ _ u2, u3⟩
      · obtain rfl : j = i := by omega
        rw [he] at hd
        cases hd
        refine ⟨mv, by rw [← hl]; simp, far _ _ hmv, fun b hb' => ?_⟩
        rcases h3.mb b hb' with q1 | q1
        · exact .inl (Nat.le_trans h2.s0.2 q1)
        · exact .inr q1
theorem LstS.cell2 {W : World} {B i n cap gv : Nat} {v : Value} {F : List SeV} {e : SeV} (h : LstS W B v F) (he : F[i]? = some e) (hv : v = .slice (some ⟨gv, 0, none⟩) n cap) : W.cell? ⟨gv, i * 3 + 2, none⟩ = some (.slice e.ka e.xs.length e.kc) := by
  have hi := (List.getElem?_eq_some_iff.1 he).1
  have he' := (List.getElem?_eq_some_iff.1 he).2
  obtain ⟨a2, c2, h1, h2⟩ := h.read
  obtain ⟨g2, o2, h3, h4, _⟩ := h2 i hi
  rw [hv] at h1
  injection h1 with e1 e2 e3
  rw [← e1] at h3
  cases h3
  have := h4 2 (.slice e.ka e.xs.length e.kc) (by rw [he']; rfl)
  rw [← this]; congr 2; omega
theorem below_allocP (w : World) (o : Obj) : Below w.heap.size w (w.alloc o) := (Below.refl _ _).alloc (Nat.le_refl _) _
end Go.Proofs.Ytagnglkkmdeicaa

/- PinsPlays, toward spoilt: the lists looked at. -/
namespace Go.Proofs.Ytagnglkkmdeicaa
set_option linter.unusedVariables false
set_option linter.unusedSimpArgs false
open Go.RowKit Go.Shelf
set_option maxRecDepth 100000

/-- While the lists are looked at: the sessions from i on stand as they did. -/
structure L4 (w wr : World) (B : Nat) (v : Value) (E F : List SeV) (q n i : Nat) (lv : Value) : Prop where
  chg : Chg (OwnT v E) w wr
  own : ∃ ys, wr.ownsRow B 80 3 v n ys ∧ ∀ (j : Nat) (e : SeV), i ≤ j → F[j]? = some e → ys[j * 3 + 2]? = some (.slice e.ka e.xs.length e.kc)
  pins : ∀ (j : Nat) (e : SeV), F[j]? = some e → OwnQ wr B (.slice e.ka e.xs.length e.kc) e.xs
  long : ∃ sv, wr.ownsRow w.heap.size 42 1 lv n sv ∧ ∀ (j : Nat) (e : SeV), F[j]? = some e → ∃ u, sv[j]? = some u ∧ OwnQ wr B u (e.xs ++ List.replicate 20 (mark 2 j q))
theorem get_rep {α : Type} {l : List α} {a : α} (h : l = List.replicate l.length a) {k : Nat} (hk : k < l.length) : l[k]? = some a := by
  have e := congrArg (fun x : List α => x[k]?) h
  simp only [List.getElem?_replicate, hk, if_true] at e
  exact e
section
variable {w wr : World} {B q n i S0 : Nat} {v lv : Value} {E F : List SeV} {e : SeV}
theorem L4.start (h : L2 w wr B v E F q n S0 lv) (hF : F.length = n) : L4 w wr B v E F q n 0 lv := by
  refine ⟨h.chg, ⟨rowS F, by rw [← hF]; exact h.lst.own, fun j e _ he => ?_⟩, fun j e he => h.lst.keys e (List.mem_of_getElem? he), ?_⟩
  · have hj := (List.getElem?_eq_some_iff.1 he).1
    have he' := (List.getElem?_eq_some_iff.1 he).2
    rw [rowS_get F j 2 hj (by omega), he']
    rfl
  · obtain ⟨sv, r1, _, r2⟩ := h.row
    refine ⟨sv, r1, fun j e he => ?_⟩
    have hj := (List.getElem?_eq_some_iff.1 he).1
    obtain ⟨u, u1, u2, _⟩ := r2 j e (by omega) he
    exact ⟨u, u1, u2⟩
theorem L4.cell (h : L4 w wr B v E F q n i lv) (he : F[i]? = some e) {gv cap : Nat} (hv : v = .slice (some ⟨gv, 0, none⟩) n cap) : wr.cell? ⟨gv, i * 3 + 2, none⟩ = some (.slice e.ka e.xs.length e.kc) := by
  obtain ⟨ys, r1, r2⟩ := h.own
  rw [hv] at r1
  have := World.ownsRow.cells (g := gv) r1 rfl (i * 3 + 2) _ (r2 i e (Nat.le_refl _) he)
  rw [Addr.add_mid, Nat.zero_add] at this
  exact this
/-- A list of a session, as it was marked. -/
theorem L4.pin (h : L4 w wr B v E F q n i lv) (hm : Mkd E F q) (he : F[i]? = some e) (k : Nat) (hk : k < e.xs.length) : ∃ ga, e.ka = some ⟨ga, 0, none⟩ ∧ wr.rangeAt ga (k * 32) ((mark 1 i q).map u8c) := by
  have hO := h.pins i e he
  obtain ⟨a3, c3, h1, h2⟩ := hO.form
  injection h1 with q1 q2 q3
  obtain ⟨ga, hga⟩ := h2 (by omega)
  have hga' : e.ka = some ⟨ga, 0, none⟩ := by rw [q1]; exact hga
  have hx := hm.xs i e he
  have h32 : ∀ x ∈ e.xs, x.length = 32 := fun x hx' => by rw [hx] at hx'; rw [List.eq_of_mem_replicate hx']; exact mark_len _ _ _
  refine ⟨ga, hga', ?_⟩
  rw [hga'] at hO
  have := OwnQ.read h32 hO k hk
  have e1 : e.xs[k] = mark 1 i q := by
    have e2 : e.xs[k]? = some (e.xs[k]) := List.getElem?_eq_getElem hk
    rw [get_rep hx hk] at e2
    exact (Option.some.inj e2).symm
  rw [e1] at this
  exact this
/-- A grown list. -/
theorem L4.grown (h : L4 w wr B v E F q n i lv) (hm : Mkd E F q) (he : F[i]? = some e) : ∃ gl cl gu cu, lv = .slice (some ⟨gl, 0, none⟩) n cl ∧ wr.cell? ⟨gl, i, none⟩ = some (.slice (some ⟨gu, 0, none⟩) (e.xs.length + 20) cu) ∧ (∀ k, k < e.xs.length → wr.rangeAt gu (k * 32) ((mark 1 i q).map u8c)) ∧ (∀ k, e.xs.length ≤ k → k < e.xs.length + 20 → wr.rangeAt gu (k * 32) ((mark 2 i q).map u8c)) := by
  obtain ⟨sv, r1, r2⟩ := h.long
  obtain ⟨u, u1, u2⟩ := r2 i e he
  have hil : i < sv.length := (List.getElem?_eq_some_iff.1 u1).1
  obtain ⟨au, cu, hu, hg⟩ := u2.form
  have hl : (e.xs ++ List.replicate 20 (mark 2 i q)).length = e.xs.length + 20 := by simp
  rw [hl] at hu hg
  obtain ⟨gu, rfl⟩ := hg (by omega)
  have hx := hm.xs i e he
  have h32 : ∀ x ∈ e.xs ++ List.replicate 20 (mark 2 i q), x.length = 32 := fun x hx' => by
    rcases List.mem_append.1 hx' with hx' | hx'
    · rw [hx] at hx'; rw [List.eq_of_mem_replicate hx']; exact mark_len _ _ _
    · rw [List.eq_of_mem_replicate hx']; exact mark_len _ _ _
  obtain ⟨h0, ⟨k1, k2⟩ | ⟨gl, cl, cur, k1, kb, kh, kc, km, ks, kt⟩⟩ := id r1
  · rw [k2] at h0; omega
  · rw [hu] at u2
    refine ⟨gl, cl, gu, cu, k1, ?_, fun k hk => ?_, fun k hk hk2 => ?_⟩
    · rw [k1] at r1
      have := World.ownsRow.cells (g := gl) r1 rfl i _ u1
      rw [Addr.add_mid, Nat.zero_add] at this
      rw [this, hu]
    · have := OwnQ.read h32 u2 k (by omega)
      have e1 : (e.xs ++ List.replicate 20 (mark 2 i q))[k]'(by omega) = mark 1 i q := by
        have e2 : (e.xs ++ List.replicate 20 (mark 2 i q))[k]? = some ((e.xs ++ List.replicate 20 (mark 2 i q))[k]'(by omega)) := List.getElem?_eq_getElem _
        rw [List.getElem?_append_left hk, get_rep hx hk] at e2
        exact (Option.some.inj e2).symm
      rw [e1] at this
      exact this
    · have := OwnQ.read h32 u2 k (by omega)
      have e1 : (e.xs ++ List.replicate 20 (mark 2 i q))[k]'(by omega) = mark 2 i q := by
        have e2 : (e.xs ++ List.replicate 20 (mark 2 i q))[k]? = some ((e.xs ++ List.replicate 20 (mark 2 i q))[k]'(by omega)) := List.getElem?_eq_getElem _
        rw [List.getElem?_append_right hk, List.getElem?_replicate, if_pos (by omega)] at e2
        exact (Option.some.inj e2).symm
      rw [e1] at this
      exact this
end
/-- A key in the midst of a row is loaded. -/
theorem wpList_keyMid {ops : Array Oper} {rest : List Oper} {op : Oper} {a : Act} {w : World} {Q : Exit → Act → World → Prop} (x : Operand) (g o : Nat) (M : List UInt8) (h32 : M.length = 32) (hr : w.rangeAt g o (M.map u8c)) (ho : op.op = .load 30 x) (hx : a.eval x = .pointer (some ⟨g, o, none⟩)) (hg : Region.wanted op (yielded ops a.tmps) = true)
    (h : wpList Try.prog ops Q rest (a.put op.dst (keyV M)) w) : wpList Try.prog ops Q (op :: rest) a w := by
  have hl := run_loadVar_mid (P := Try.prog) w g o 30 (M.map u8c) _ hr Try.underlying30 rfl (by rw [List.length_map, h32]; exact infoKey)
  exact wpList_val _ hg (run_load ho hx (by simp only [Instr.loadAt, Instr.sureAddr, Sem.run_bind, Sem.run_pure, Result.andThen_ok]; exact hl)) h
theorem wpList_offK {ops : Array Oper} {rest : List Oper} {op : Oper} {a : Act} {w : World} {Q : Exit → Act → World → Prop} (x : Operand) (ho : op.op = .load 30 x) (hg : Region.wanted op (yielded ops a.tmps) = false) (h : wpList Try.prog ops Q rest (a.put op.dst undef) w) : wpList Try.prog ops Q (op :: rest) a w :=
  wpList_step fun K hK => by
    rw [if_neg (by rw [hg]; decide)]
    exact hK _ _ h
theorem infoSesS : (Try.prog.info? 80).map (·.size) = some 3 := by kernel_rfl
/-- A session is written over. -/
theorem wpList_storeS {ops : Array Oper} {rest : List Oper} {op : Oper} {a : Act} {w wr : World} {Q : Exit → Act → World → Prop} (hgd : op.guard = none) (x y : Operand) (ho : op.op = .store 80 x y) (B : Nat) (v : Value) (E F : List SeV) (q n i : Nat) (lv : Value) (h : L4 w wr B v E F q n i lv) (gv cap : Nat) (hv : v = .slice (some ⟨gv, 0, none⟩) n cap) (hi : i < n) (hx : a.eval x = .pointer (some ⟨gv, i * 3, none⟩)) (m : Int) (hy : a.eval y = .agg #[.int .i64 m, .int .i64 0, .slice none 0 0])
    (hK : ∀ w', Hid (L4 w w' B v E F q n (i + 1) lv) → wpList Try.prog ops Q rest (a.put op.dst undef) w') : wpList Try.prog ops Q (op :: rest) a wr := by
  obtain ⟨ys, r1, r2⟩ := id h.own
  have r1' := r1
  rw [hv] at r1'
  obtain ⟨q1, q2, q3⟩ := rowSetQ r1' hi [.int .i64 m, .int .i64 0, .slice none 0 0] rfl
  refine wpList_store_mid hgd 80 x y ho gv (i * 3) #[.int .i64 m, .int .i64 0, .slice none 0 0] hx hy q1 infoSesS (by kernel_rfl) (hK _ (hide ?_))
  have hyl : ys.length = n * 3 := r1.1
  have far : ∀ (u : Value) (ks : List (List UInt8)), OwnQ wr B u ks → OwnQ (wr.setCells gv (i * 3) [.int .i64 m, .int .i64 0, .slice none 0 0]) B u ks := fun u ks hu => owns_grownK hu q3 (fun g hg e1 => kind_neP hu r1' (by decide) g hg (by cases e1; rfl))
  refine ⟨chg_grown h.chg q3 (.inl (by rw [hv]; rfl)), ⟨_, by rw [hv]; exact q2, fun j e hj he => ?_⟩, fun j e he => far _ _ (h.pins j e he), ?_⟩
  · have h1 := r2 j e (by omega) he
    rw [List.getElem?_append_right (by simp; omega)]
    simp only [List.length_append, List.length_take, List.length_cons, List.length_nil]
    rw [List.getElem?_drop, ← h1]
    congr 1
    omega
  · obtain ⟨sv, s1, s2⟩ := h.long
    refine ⟨sv, owns_grownK s1 q3 (fun g hg e1 => kind_neP s1 r1' (by decide) g hg (by cases e1; rfl)), fun j e he => ?_⟩
    obtain ⟨u, u1, u2⟩ := s2 j e he
    exact ⟨u, u1, far _ _ u2⟩
/-- A session is put on behind. -/
theorem wpList_appS9 {ops : Array Oper} {rest : List Oper} {o : Oper} {a : Act} {w wr : World} {Q : Exit → Act → World → Prop} (hgd : o.guard = none) (s x : Operand) (ho : o.op = .call { callee := .builtin .append, args := #[s, x], argTypes := #[61, 61] })
    (B : Nat) (v : Value) (E F : List SeV) (q n : Nat) (lv : Value) (h : L4 w wr B v E F q n n lv) (hn : n ≤ 16) (hB : B ≤ w.heap.size) (z : Nat) (w1 : World) (hb : Below wr.heap.size wr w1) (hz : Blk w1 z #[.int .i64 99, .int .i64 0, .slice none 0 0] 80) (hs : a.eval s = v) (hx : a.eval x = .slice (some ⟨z, 0, none⟩) 1 1)
    (hK : ∀ g2 c2 n2 w', Hid (n2 = n + 1) → w'.cell? ⟨g2, n * 3, none⟩ = some (.int .i64 99) → Hid (Chg (OwnT v E) w w') → wpList Try.prog ops Q rest (a.put o.dst (.slice (some ⟨g2, 0, none⟩) n2 c2)) w') : wpList Try.prog ops Q (o :: rest) a w1 := by
  obtain ⟨i0, hi, hz0, hz1, hz2⟩ := infoSes
  obtain ⟨ys, r1, _⟩ := h.own
  refine wpList_append_own_at w1 hgd s x 61 ho B 80 i0 (.agg #[.int .i64 0, .int .i64 0, .slice none 0 0]) 3 40 Try.underlying61 hi hz0 hz1 hz2 rfl (by decide) v n ys hs (own_belowS r1 hb) ⟨z, 0, none⟩ 1 1 [.int .i64 99, .int .i64 0, .slice none 0 0] hx rfl ?_ ?_ (by unfold maxLen; omega) (by omega) (Nat.le_trans hB (Nat.le_trans h.chg.size hb.size)) ?_
  · intro j u hj
    rw [Addr.add_mid, hz.cell]
    simpa using hj
  · intro u hu
    simp only [List.mem_cons, List.not_mem_nil, or_false] at hu
    rcases hu with rfl | rfl | rfl <;> rfl
  · intro v' w' k1 k2 _ k4
    have hc0 : Chg (OwnT v E) w w1 := h.chg.trans (Chg.of_below hb)
    have hc : Chg (OwnT v E) w w' := ⟨k2.os.trans hc0.os, k2.tape.trans hc0.tape, k2.output.trans hc0.output, Nat.le_trans hc0.size k2.size, fun b hb' hT => (k2.block b (Nat.lt_of_lt_of_le hb' hc0.size) (fun e1 => hT (.inl e1.symm))).trans (hc0.block b hb' hT)⟩
    have hyl : ys.length = n * 3 := r1.1
    obtain ⟨h0, ⟨e1, e2⟩ | ⟨g2, c2, cur, e1, _⟩⟩ := id k1
    · omega
    · rw [e1] at k1 ⊢
      have hcell := World.ownsRow.cells (g := g2) k1 rfl (n * 3) (.int .i64 99) (by rw [List.getElem?_append_right (by omega), hyl, Nat.sub_self]; rfl)
      rw [Addr.add_mid, Nat.zero_add] at hcell
      exact hK g2 c2 (n + 1) w' (hide rfl) hcell (hide hc)
end Go.Proofs.Ytagnglkkmdeicaa
