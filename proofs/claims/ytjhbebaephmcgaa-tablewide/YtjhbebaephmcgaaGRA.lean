/- Rows of elements of any width: laid, read, written over, copied. -/
import Derived.Test.YtjhbebaephmcgaaGE0
import Derived.Test.YtjhbebaephmcgaaGR0
namespace Go.Proofs.Ytjhbebaephmcgaa
set_option linter.unusedVariables false
set_option linter.unusedSimpArgs false
open Go.RowKit
set_option maxRecDepth 100000

theorem name_world {P : Program} {c : Code} {Q : Exit → Act → World → Prop} {a : Act} {w : World} (R : World → Prop) (h : R w) (k : ∀ W, R W → c.wp P Q a W) : c.wp P Q a w := k w h
theorem below_alloc (w : World) (o : Obj) : Below w.heap.size w (w.alloc o) := (Below.refl _ _).alloc (Nat.le_refl _) _
theorem setCells_row {b : Nat} {t : TypeId} : ∀ (vs : List Value) (o : Nat) (w : World) (cs : Array Value), Blk w b cs t → o + vs.length ≤ cs.size → Blk (w.setCells b o vs) b (cs.toList.take o ++ vs ++ cs.toList.drop (o + vs.length)).toArray t ∧ w.grownBy (w.setCells b o vs) (some b)
  | [], o, w, cs, h, _ => ⟨by rw [List.append_nil, List.length_nil, Nat.add_zero, List.take_append_drop]; exact h, ⟨rfl, rfl, rfl, Nat.le_refl _, fun _ _ _ => rfl⟩⟩
  | v :: r, o, w, cs, h, hl => by
    rw [List.length_cons] at hl
    obtain ⟨h1, h2⟩ := setCells_row r (o + 1) (w.setCell ⟨b, o, none⟩ v) (cs.setIfInBounds o v) (h.set o v) (by rw [Array.size_setIfInBounds]; omega)
    refine ⟨?_, grownBy_trans (grownBy_set w b o v) h2⟩
    have e : (cs.setIfInBounds o v).toList.take (o + 1) ++ r ++ (cs.setIfInBounds o v).toList.drop (o + 1 + r.length) = cs.toList.take o ++ v :: r ++ cs.toList.drop (o + (v :: r).length) := by
      rw [Array.toList_setIfInBounds, List.drop_set_of_lt (by omega), List.take_set, List.length_cons, show o + (r.length + 1) = o + 1 + r.length by omega]
      congr 1
      rw [List.take_succ_eq_append_getElem (by rw [Array.length_toList]; omega), List.set_append_right _ _ (by rw [List.length_take]; omega), List.length_take, Nat.min_eq_left (by rw [Array.length_toList]; omega), Nat.sub_self, List.set_cons_zero, List.append_assoc]
      rfl
    rw [e] at h1
    exact h1
theorem there_row {w : World} {b : Nat} {old : Array Value} {t : TypeId} (hk : Blk w b old t) (o n : Nat) (hs : o + n ≤ old.size) : w.there b o n := fun j hj => by
  refine ⟨?_, Blk.frozen hk (o + j)⟩
  rw [hk.cell]
  exact Option.isSome_iff_exists.2 ⟨old[o + j]'(by omega), Array.getElem?_eq_getElem (by omega)⟩
theorem flat_len {α β : Type} {f : α → List β} {s : Nat} : ∀ (l : List α), (∀ x ∈ l, (f x).length = s) → (l.flatMap f).length = l.length * s
  | [], _ => by simp
  | x :: l, h => by
    rw [List.flatMap_cons, List.length_append, h x (by simp), flat_len l (fun y hy => h y (by simp [hy])), List.length_cons, Nat.succ_mul, Nat.add_comm]
theorem flat_take {α β : Type} {f : α → List β} {s : Nat} : ∀ (l : List α) (i : Nat), (∀ x ∈ l, (f x).length = s) → (l.flatMap f).take (i * s) = (l.take i).flatMap f
  | [], i, _ => by simp
  | x :: l, 0, _ => by simp
  | x :: l, i + 1, h => by
    have hx := h x (by simp)
    have ih := flat_take l i (fun y hy => h y (by simp [hy]))
    rw [List.flatMap_cons, List.take_succ_cons, List.flatMap_cons, ← ih, Nat.succ_mul, List.take_append, hx, List.take_of_length_le (by omega)]
    congr 2; omega
theorem flat_drop {α β : Type} {f : α → List β} {s : Nat} : ∀ (l : List α) (i : Nat), (∀ x ∈ l, (f x).length = s) → (l.flatMap f).drop (i * s) = (l.drop i).flatMap f
  | [], i, _ => by simp
  | x :: l, 0, _ => by simp
  | x :: l, i + 1, h => by
    have hx := h x (by simp)
    have ih := flat_drop l i (fun y hy => h y (by simp [hy]))
    rw [List.flatMap_cons, List.drop_succ_cons, ← ih, Nat.succ_mul, List.drop_append, hx, List.drop_of_length_le (by omega), List.nil_append]
    congr 1; omega
theorem flat_set {α β : Type} {f : α → List β} {s : Nat} : ∀ (l : List α) (i : Nat) (a : α), (∀ x ∈ l, (f x).length = s) → i < l.length → (l.set i a).flatMap f = (l.flatMap f).take (i * s) ++ f a ++ (l.flatMap f).drop (i * s + s)
  | x :: l, 0, a, h, _ => by
    have hx := h x (by simp)
    simp only [List.set_cons_zero, List.flatMap_cons, Nat.zero_mul, List.take_zero, List.nil_append, Nat.zero_add]
    rw [List.drop_append, List.drop_of_length_le (by omega), hx, Nat.sub_self]
    rfl
  | x :: l, i + 1, a, h, hi => by
    have hx := h x (by simp)
    have ih := flat_set l i a (fun y hy => h y (by simp [hy])) (by simpa using hi)
    have q : (i + 1) * s = s + i * s := by rw [Nat.succ_mul]; omega
    simp only [List.set_cons_succ, List.flatMap_cons]
    rw [ih, q, List.take_append, List.take_of_length_le (l := f x) (by omega), List.drop_append, List.drop_of_length_le (l := f x) (by omega), hx, show s + i * s - s = i * s by omega, show s + i * s + s - s = i * s + s by omega]
    simp only [List.append_assoc, List.nil_append]
theorem flat_at {α β : Type} {f : α → List β} {s : Nat} (l : List α) (i : Nat) (a : α) (h : ∀ x ∈ l, (f x).length = s) (hi : l[i]? = some a) (j : Nat) (v : β) (hj : (f a)[j]? = some v) : (l.flatMap f)[i * s + j]? = some v := by
  have hl := (List.getElem?_eq_some_iff.1 hi).1
  have e : (l.flatMap f).drop (i * s) = (l.drop i).flatMap f := flat_drop l i h
  have e2 : (l.flatMap f)[i * s + j]? = ((l.flatMap f).drop (i * s))[j]? := by rw [List.getElem?_drop]
  have hl' : l[i] = a := (List.getElem?_eq_some_iff.1 hi).2
  have hjl := (List.getElem?_eq_some_iff.1 hj).1
  rw [e2, e, List.drop_eq_getElem_cons hl, hl', List.flatMap_cons, List.getElem?_append_left hjl, hj]
theorem flat_rep {α β : Type} (f : α → List β) (x : α) : ∀ n, (List.replicate n ()).flatMap (fun _ => f x) = (List.replicate n x).flatMap f
  | 0 => rfl
  | n + 1 => by rw [List.replicate_succ, List.flatMap_cons, flat_rep f x n, List.replicate_succ, List.flatMap_cons]
theorem run_copy_wide {P : Program} (w : World) (dT sT ty elem : TypeId) (size g o dLen dCap : Nat) (a : Addr) (sLen sCap : Nat) (cur : Array Value) (t : TypeId) (cs : List Value)
    (hu : P.underlying dT = some (.slice elem)) (hs : (P.info? elem).map (·.size) = some size)
    (hg : w.heap[g]? = some (.cells cur t (0, 0))) (hn : cs.length = Nat.min sLen dLen * size)
    (hsrc : ∀ j v, cs[j]? = some v → w.cell? (a.add j) = some v) (hfit : o + cs.length ≤ cur.size) (h1 : ∀ v ∈ cs, v.oneCell' = true) :
    (Builtin.copy_ #[dT, sT] ty #[.slice (some ⟨g, o, none⟩) dLen dCap, .slice (some a) sLen sCap]).run P w =
      .ok (goInt (Nat.min sLen dLen)) (w.setRow g (cur.toList.take o ++ cs ++ cur.toList.drop (o + cs.length)).toArray) := by
  have hl := run_loadCells_list (P := P) w a cs hsrc
  have hst := run_storeCells_at P g o t cs 0 cur w hg (by simpa using hfit) h1
  cases hq : P.info? elem with
  | none => simp [hq] at hs
  | some i =>
    have hi : i.size = size := by simpa [hq] using hs
    rw [hn] at hl
    simp [Builtin.copy_, run_underlying hu, Builtin.lenOf, Builtin.firstCells, sizeOf, typeInfo, hq, hi, hl, hst]
theorem madeCells_zero (z : Array Value) (n : Nat) (hz : 0 < z.size) : (madeCells z (n * z.size)).toList = (List.replicate n ()).flatMap (fun _ => z.toList) := by
  have hl : ((List.replicate n ()).flatMap (fun _ => z.toList)).length = n * z.size := by
    rw [flat_len (s := z.size) _ (fun _ _ => by simp), List.length_replicate]
  apply List.ext_getElem?
  intro j
  by_cases hj : j < n * z.size
  · have hm : j % z.size < z.size := Nat.mod_lt _ hz
    have hd : j / z.size < n := Nat.div_lt_of_lt_mul (by rw [Nat.mul_comm]; exact hj)
    have := flat_at (f := fun _ : Unit => z.toList) (s := z.size) (List.replicate n ()) (j / z.size) () (fun _ _ => by simp) (by simp [hd]) (j % z.size) (z[j % z.size]'hm) (by simp [hm])
    rw [Nat.div_add_mod'] at this
    rw [this]
    simp [madeCells, hj, hm]
  · rw [List.getElem?_eq_none (by simp [size_madeCells]; omega), List.getElem?_eq_none (by omega)]
end Go.Proofs.Ytjhbebaephmcgaa
