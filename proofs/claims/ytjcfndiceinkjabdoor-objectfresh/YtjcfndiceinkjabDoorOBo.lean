/- A copy with marks behind it. -/
import Derived.Test.YtjcfndiceinkjabDoorOBn
namespace Go.Proofs.YtjcfndiceinkjabDoor
set_option linter.unusedVariables false
set_option linter.unusedSimpArgs false
open Go.RowKit

/-- What stands at place i: the list's byte, or a mark. -/
def spAt (xs : List UInt8) (i : Nat) : UInt8 := (xs[i]?).getD 165
def spL (xs : List UInt8) : List UInt8 := (List.range (xs.length + 70)).map (spAt xs)
theorem spL_len (xs : List UInt8) : (spL xs).length = xs.length + 70 := by simp [spL]
theorem spL_at (xs : List UInt8) (i : Nat) (h : i < xs.length + 70) : (spL xs)[i]? = some (spAt xs i) := by simp [spL, h]
theorem made_u8 (n : Nat) : madeCells #[Value.int .u8 0] n = ((List.replicate n (0 : UInt8)).map u8c).toArray := by
  apply Array.ext'
  rw [toList_madeCells_one]
  simp [u8c]
theorem Blk.setU {w : World} {g : Nat} {zs : List UInt8} {t : TypeId} (h : Blk w g (zs.map u8c).toArray t) (i : Nat) (y : UInt8) : Blk (w.setCell ⟨g, i, none⟩ (.int .u8 (y.toNat : Int))) g ((zs.set i y).map u8c).toArray t := by
  have := h.set i (u8c y)
  rw [List.setIfInBounds_toArray, ← List.map_set] at this
  exact this
theorem Blk.atU {w : World} {g : Nat} {zs : List UInt8} {t : TypeId} (h : Blk w g (zs.map u8c).toArray t) (i : Nat) (y : UInt8) (hy : zs[i]? = some y) : w.cell? ⟨g, i, none⟩ = some (.int .u8 (y.toNat : Int)) := by
  rw [h.cell]; simp [hy, u8c]
def SpareC (w : World) (xs : List UInt8) (e : Ending) (w' : World) : Prop := e = .returned (.slice (some ⟨w.heap.size, 0, none⟩) xs.length (xs.length + 70)) ∧ Blk w' w.heap.size ((spL xs).map u8c).toArray 5 ∧ Below w.heap.size w w'
set_option maxRecDepth 20000 in
set_option maxHeartbeats 2000000 in
theorem spare_any (w : World) (v : Value) (xs : List UInt8) (hv : RdA w v xs) (hlen : xs.length ≤ 140737488353000) : Calls Tryd.prog 14 #[v] w (SpareC w xs) := by
  have HV := hide hv
  obtain ⟨ao, c, rfl, hl63⟩ := hv.slice
  obtain ⟨n, hn⟩ : ∃ n, n = xs.length := ⟨_, rfl⟩
  have HN := hide hn
  rw [← hn] at hlen hl63 HV ⊢
  clear hv hn
  obtain ⟨m, hm⟩ : ∃ m, m = n + 70 := ⟨_, rfl⟩
  have hw0 : IntKind.i64.wrap ((n : Int) + 70) = (m : Int) := by rw [show (n : Int) + 70 = (m : Int) by omega]; exact wrapi64_nat m (by omega)
  have hmk := make_u8 m (by omega)
  rw [made_u8 m] at hmk
  have HM := hide hm
  have hnm70 : m ≤ 140737488353070 := by omega
  have hnm0 : n ≤ m := by omega
  have hnm1 : (n : Int) ≤ (m : Int) := by omega
  clear hm
  go_enter Tryd.func14, Tryd.ntmps14
  go_wp2
  go_loopw [4] (fun t wr => ∃ (k : Nat) (zs : List UInt8), t = .int .i64 k ∧ k ≤ n ∧ zs.length = m ∧ (∀ i, i < k → zs[i]? = some (spAt xs i)) ∧ Blk wr w.heap.size (zs.map u8c).toArray 5 ∧ Below w.heap.size w wr) (fun t _ => n - (intOf t).toNat)
  case atStart =>
    refine ⟨0, List.replicate m 0, rfl, by omega, List.length_replicate, fun i hi => by omega, ?_, (Below.refl _ _).alloc (Nat.le_refl _) _⟩
    have e : Array.replicate m (u8c 0) = ((List.replicate m (0 : UInt8)).map u8c).toArray := by simp
    rw [← e]; exact Blk.made w _ _
  case round =>
    obtain ⟨k, zs, rfl, hk, hzl, hz, hB, hW⟩ := hrel
    by_cases hlt : k < n
    · have hki : (k : Int) < (n : Int) := by omega
      have hkm : (k : Int) < (m : Int) := by omega
      have hzk : zs[k]? = some (zs[k]'(by omega)) := List.getElem?_eq_getElem (by omega)
      have c1 := hB.atU k _ hzk
      have f1 := hB.frozen k
      obtain ⟨b, o, c', e1, hc⟩ := HV.out.at k (by rw [← HN.out]; exact hlt)
      obtain ⟨rfl, -, -⟩ := (Value.slice.injEq ..).mp e1
      obtain ⟨x, hx⟩ : ∃ x, x = xs[k]'(by rw [← HN.out]; exact hlt) := ⟨_, rfl⟩
      rw [← hx] at hc
      have hbl : b < w.heap.size := World.block_lt_of_cell? w _ hc
      have c2 : wr.cell? ⟨b, o + k, none⟩ = some (.int .u8 (x.toNat : Int)) := by rw [hW.cell hbl]; exact hc
      have HB2 := hide (hB.setU k x)
      have HW2 := hide (hW.setCell (p := ⟨w.heap.size, k, none⟩) (Nat.le_refl _) (.int .u8 (x.toNat : Int)))
      have HX : Hid (spAt xs k = x) := hide (by unfold spAt; rw [List.getElem?_eq_getElem (by rw [← HN.out]; exact hlt), hx]; rfl)
      have HZ := hide hz
      clear hB hW hx hz hzk hc e1
      go_wp2
      refine ⟨⟨k + 1, zs.set k x, by go_num, by omega, by rw [List.length_set]; exact hzl, fun i hi => ?_, HB2.out, HW2.out⟩, by simp [intOf]; omega⟩
      by_cases e : i = k
      · subst e
        rw [List.getElem?_set_self (by omega), HX.out]
      · rw [List.getElem?_set_ne (fun h => e h.symm)]
        exact HZ.out i (by omega)
    · have hki : ¬ (k : Int) < (n : Int) := by omega
      obtain ⟨wp, hwp⟩ : ∃ w0, w0 = wr := ⟨_, rfl⟩
      rw [← hwp] at hB hW ⊢
      have HB := hide hB
      have HWp := hide hW
      have HZ0 : Hid (∀ i, i < n → zs[i]? = some (spAt xs i)) := hide (fun i hi => hz i (by omega))
      have HZL := hide hzl
      clear hB hW hwp hz hzl
      go_wp2
      go_loopw [5] (fun t wr => ∃ (k : Nat) (zs : List UInt8), t = .int .i64 k ∧ n ≤ k ∧ k ≤ m ∧ zs.length = m ∧ (∀ i, i < k → zs[i]? = some (spAt xs i)) ∧ Blk wr w.heap.size (zs.map u8c).toArray 5 ∧ Below w.heap.size w wr) (fun t _ => m - (intOf t).toNat)
      case atStart => exact ⟨n, zs, rfl, Nat.le_refl _, by omega, HZL.out, HZ0.out, HB.out, HWp.out⟩
      case round =>
        clear HB HWp HZ0 HZL
        obtain ⟨k, zs, rfl, hnk, hk, hzl, hz, hB, hW⟩ := hrel
        by_cases hlt : k < m
        · have hki : (k : Int) < (m : Int) := by omega
          have hzk : zs[k]? = some (zs[k]'(by omega)) := List.getElem?_eq_getElem (by omega)
          have c1 := hB.atU k _ hzk
          have f1 := hB.frozen k
          have HB2 : Hid (Blk (wr.setCell ⟨w.heap.size, k, none⟩ (.int .u8 165)) w.heap.size ((zs.set k 165).map u8c).toArray 5) := hide (hB.setU k 165)
          have HW2 := hide (hW.setCell (p := ⟨w.heap.size, k, none⟩) (Nat.le_refl _) (.int .u8 165))
          have HX : Hid (spAt xs k = 165) := hide (by unfold spAt; rw [List.getElem?_eq_none (by rw [← HN.out]; omega)]; rfl)
          have HZ := hide hz
          clear hB hW hz hzk
          go_wp2
          refine ⟨⟨k + 1, zs.set k 165, by go_num, by omega, by omega, by rw [List.length_set]; exact hzl, fun i hi => ?_, HB2.out, HW2.out⟩, by simp [intOf]; omega⟩
          by_cases e : i = k
          · subst e
            rw [List.getElem?_set_self (by omega), HX.out]
          · rw [List.getElem?_set_ne (fun h => e h.symm)]
            exact HZ.out i (by omega)
        · have hki : ¬ (k : Int) < (m : Int) := by omega
          have HB : Hid (Blk wr w.heap.size ((spL xs).map u8c).toArray 5) := hide (by
            have : zs = spL xs := by
              apply List.ext_getElem?
              intro i
              rcases Nat.lt_or_ge i m with hi | hi
              · rw [hz i (by omega), spL_at xs i (by rw [← HN.out, ← HM.out]; exact hi)]
              · rw [List.getElem?_eq_none (by omega), List.getElem?_eq_none (by rw [spL_len, ← HN.out, ← HM.out]; exact hi)]
            rw [← this]; exact hB)
          clear hB hz
          go_wp2
          go_ret
          exact ⟨by rw [← HN.out, ← HM.out]; rfl, HB.out, hW⟩
theorem RdA.spare {w : World} {g : Nat} {xs : List UInt8} (h : Blk w g ((spL xs).map u8c).toArray 5) (hl : xs.length ≤ 140737488353000) : RdA w (.slice (some ⟨g, 0, none⟩) xs.length (xs.length + 70)) xs := by
  refine .inl ⟨some ⟨g, 0, none⟩, xs.length + 70, rfl, by omega, by unfold maxLen; omega, .inr ⟨g, 0, rfl, fun i hi => ?_⟩⟩
  rw [Nat.zero_add, h.atU i xs[i] (by rw [spL_at xs i (by omega)]; unfold spAt; rw [List.getElem?_eq_getElem hi]; rfl)]
  rfl
end Go.Proofs.YtjcfndiceinkjabDoor

/- Rows appended to rows of the call's own; a copy of a row with two marks behind it. -/
namespace Go.Proofs.YtjcfndiceinkjabDoor
set_option linter.unusedVariables false
set_option linter.unusedSimpArgs false
open Go.RowKit

theorem flat_len (k : Nat) : ∀ L : List (List Value), (∀ c ∈ L, c.length = k) → L.flatten.length = L.length * k
  | [], _ => by simp
  | c :: L, h => by
    rw [List.flatten_cons, List.length_append, h c (List.mem_cons_self ..), flat_len k L (fun x hx => h x (List.mem_cons_of_mem _ hx)), List.length_cons, Nat.succ_mul, Nat.add_comm]
theorem rangeAt_append {w : World} {b o : Nat} {x y : List Value} (h1 : w.rangeAt b o x) (h2 : w.rangeAt b (o + x.length) y) : w.rangeAt b o (x ++ y) := fun j v hj => by
  rcases Nat.lt_or_ge j x.length with h | h
  · rw [List.getElem?_append_left h] at hj; exact h1 j v hj
  · rw [List.getElem?_append_right h] at hj
    have := h2 (j - x.length) v hj
    rwa [show o + x.length + (j - x.length) = o + j by omega] at this
theorem rangeAt_flat {w : World} {b : Nat} (k : Nat) : ∀ (L : List (List Value)) (o : Nat), (∀ c ∈ L, c.length = k) → (∀ i (h : i < L.length), w.rangeAt b (o + i * k) L[i]) → w.rangeAt b o L.flatten
  | [], o, _, _ => fun j v hj => by simp at hj
  | c :: L, o, hk, h => by
    rw [List.flatten_cons]
    refine rangeAt_append (by have := h 0 (by simp); rw [Nat.zero_mul, Nat.add_zero] at this; exact this) ?_
    rw [hk c (List.mem_cons_self ..)]
    refine rangeAt_flat k L (o + k) (fun x hx => hk x (List.mem_cons_of_mem _ hx)) (fun i hi => ?_)
    have := h (i + 1) (by simpa using hi)
    rw [show o + (i + 1) * k = o + k + i * k by rw [Nat.succ_mul]; omega] at this
    exact this
theorem rangeAt_left {w : World} {b o : Nat} {x y : List Value} (h : w.rangeAt b o (x ++ y)) : w.rangeAt b o x := fun j v hj => h j v (by rw [List.getElem?_append_left (List.getElem?_eq_some_iff.1 hj).1]; exact hj)
theorem rangeAt_right {w : World} {b o : Nat} {x y : List Value} (h : w.rangeAt b o (x ++ y)) : w.rangeAt b (o + x.length) y := fun j v hj => by
  have := h (x.length + j) v (by rw [List.getElem?_append_right (by omega), show x.length + j - x.length = j by omega]; exact hj)
  rwa [show o + (x.length + j) = o + x.length + j by omega] at this
theorem rangeAt_each {w : World} {b : Nat} (k : Nat) : ∀ (L : List (List Value)) (o : Nat), (∀ c ∈ L, c.length = k) → w.rangeAt b o L.flatten → ∀ i (h : i < L.length), w.rangeAt b (o + i * k) L[i]
  | [], o, _, _, i, hi => by simp at hi
  | c :: L, o, hk, h, 0, _ => by
    rw [List.flatten_cons] at h
    simpa using rangeAt_left h
  | c :: L, o, hk, h, i + 1, hi => by
    rw [List.flatten_cons] at h
    have h2 := rangeAt_right h
    rw [hk c (List.mem_cons_self ..)] at h2
    have := rangeAt_each k L (o + k) (fun x hx => hk x (List.mem_cons_of_mem _ hx)) h2 i (by simpa using hi)
    rw [show o + k + i * k = o + (i + 1) * k by rw [Nat.succ_mul]; omega] at this
    exact this
/-- What append needs to know of an element's type. -/
structure Elem (ts te : TypeId) (k by' : Nat) : Prop where
  u : Tryd.prog.underlying ts = some (.slice te)
  i : ∃ (i0 : TypeInfo) (z : Value), Tryd.prog.info? te = some i0 ∧ i0.zero = some z ∧ i0.size = k ∧ i0.bytes = by' ∧ z.cells.size = k
  k0 : 0 < k
theorem elem_nil_nil {ts te : TypeId} {k by' : Nat} (E : Elem ts te k by') (w : World) (ty : TypeId) : (Builtin.append_ #[ts, ts] ty #[.slice none 0 0, .slice none 0 0]).run Tryd.prog w = .ok (.slice none 0 0) w := by
  have hu := E.u
  obtain ⟨i0, z, h1, h2, h3, h4, h5⟩ := E.i
  have hs : ∀ w, (sizeOf te).run Tryd.prog w = .ok k w := fun w => by simp [sizeOf, run_typeInfo w h1, h3]
  simp [Builtin.append_, go_sem, run_underlying hu, hs]
theorem elem_own_nil {ts te : TypeId} {k by' : Nat} (E : Elem ts te k by') (w : World) (ty : TypeId) (g n cap : Nat) (h : n ≤ cap) : (Builtin.append_ #[ts, ts] ty #[.slice (some ⟨g, 0, none⟩) n cap, .slice none 0 0]).run Tryd.prog w = .ok (.slice (some ⟨g, 0, none⟩) n cap) w := by
  have hu := E.u
  obtain ⟨i0, z, h1, h2, h3, h4, h5⟩ := E.i
  have hs : ∀ w, (sizeOf te).run Tryd.prog w = .ok k w := fun w => by simp [sizeOf, run_typeInfo w h1, h3]
  simp [Builtin.append_, go_sem, run_underlying hu, hs, h]
theorem wpList_append_row {ts te : TypeId} {k by' : Nat} (E : Elem ts te k by') {ops : Array Oper} {rest : List Oper} {o : Oper} {a : Act} {w : World} {Q : Exit → Act → World → Prop} (hgd : o.guard = none) (s x : Operand) (ho : o.op = .call { callee := .builtin .append, args := #[s, x], argTypes := #[ts, ts] })
    (base : Nat) (v u : Value) (n : Nat) (xs : List Value) (L : List (List Value)) (hs : a.eval s = v) (hown : w.ownsRow base te k v n xs) (hx : a.eval x = u) (hrd : RowR w u k L) (hk : ∀ c ∈ L, c.length = k) (h1 : ∀ c ∈ L, ∀ y ∈ c, y.oneCell' = true) (hlen : n + L.length ≤ 9223372036854775807) (hby : (n + L.length) * by' ≤ 140737488355328) (hbase : base ≤ w.heap.size)
    (h : ∀ v' w', Hid (w'.ownsRow base te k v' (n + L.length) (xs ++ L.flatten)) → Hid (w.grownBy w' v.ownBlock) → Hid (v'.ownBlock = v.ownBlock ∨ v'.ownBlock = some w.heap.size) → wpList Tryd.prog ops Q rest (a.put o.dst v') w') : wpList Tryd.prog ops Q (o :: rest) a w := by
  obtain ⟨i0, z, g1, g2, g3, g4, g5⟩ := E.i
  have one : ∀ y ∈ L.flatten, y.oneCell' = true := by
    intro y hy
    obtain ⟨c, hc, hy⟩ := List.mem_flatten.1 hy
    exact h1 c hc y hy
  have go : ∀ (ad : Addr) (m c : Nat), u = .slice (some ad) m c → m = L.length → (∀ j q, L.flatten[j]? = some q → w.cell? (ad.add j) = some q) → wpList Tryd.prog ops Q (o :: rest) a w := by
    intro ad m c e hm hn
    subst e
    subst hm
    refine wpList_append_own_at w hgd s x ts ho base te i0 z k by' E.u g1 g2 g3 g4 g5 E.k0 v n xs hs hown ad L.length c L.flatten hx (flat_len k L hk) hn one (by unfold maxLen; omega) hby hbase ?_
    intro v' w' e1 e2 _ e4
    exact h v' w' (hide e1) (hide e2) (hide e4)
  obtain ⟨ao, c, rfl, hl, hc0, hL⟩ := hrd
  cases ao with
  | none =>
    obtain rfl : c = 0 := hc0 rfl
    obtain rfl : L = [] := by
      rcases hL with h | ⟨b, o', e, _⟩
      · exact h
      · cases e
    have hh := h v w (hide (by simpa using hown)) (hide ⟨rfl, rfl, rfl, Nat.le_refl _, fun _ _ _ => rfl⟩) (hide (.inl rfl))
    refine wpList_plain hgd fun K hK => ?_
    obtain ⟨_, ⟨rfl, _⟩ | ⟨g, cap, cur, rfl, _, _, hc, _⟩⟩ := hown
    · have hrun := elem_nil_nil E w o.type
      unfold Oper.wp
      simp only [List.length_nil] at hx
      simp [execOp, ho, resolve, invoke, builtin, hs, hx, hrun, Result.andThen]
      exact hK _ _ hh
    · have hrun := elem_own_nil E w o.type g n cap hc
      unfold Oper.wp
      simp only [List.length_nil] at hx
      simp [execOp, ho, resolve, invoke, builtin, hs, hx, hrun, Result.andThen]
      exact hK _ _ hh
  | some ad =>
    refine go ad L.length c rfl rfl ?_
    rcases hL with rfl | ⟨b, o', e, hr⟩
    · intro j q hj; simp at hj
    · obtain rfl := Option.some.inj e
      have := rangeAt_flat k L o' hk hr
      intro j q hj
      rw [Addr.add_mid]
      exact this j q hj
/-- A copy of a row, in memory from B on, with marks behind it. -/
def CopyRow (B : Nat) (w : World) (v : Value) (k : Nat) (L : List (List Value)) (M : List Value) : Prop :=
  ∃ g cap, v = .slice (some ⟨g, 0, none⟩) L.length cap ∧ B ≤ g ∧ L.length + 2 ≤ cap ∧ cap ≤ 9223372036854775807 ∧ w.rangeAt g 0 (L.flatten ++ M)
theorem CopyRow.row {B : Nat} {w : World} {v : Value} {k : Nat} {L : List (List Value)} {M : List Value} (h : CopyRow B w v k L M) (hk : ∀ c ∈ L, c.length = k) : RowR w v k L := by
  obtain ⟨g, cap, h1, _, h2, h3, h4⟩ := h
  exact ⟨_, cap, h1, by omega, (fun e => nomatch e), .inr ⟨g, 0, rfl, rangeAt_each k L 0 hk (rangeAt_left h4)⟩⟩
theorem CopyRow.below {B : Nat} {w w' : World} {v : Value} {k : Nat} {L : List (List Value)} {M : List Value} (h : CopyRow B w v k L M) (hb : Below w.heap.size w w') : CopyRow B w' v k L M := by
  obtain ⟨g, cap, h1, h0, h2, h3, h4⟩ := h
  exact ⟨g, cap, h1, h0, h2, h3, rangeAt_below h4 hb⟩
theorem copyRow_own {B n : Nat} {w : World} {te : TypeId} {v : Value} {k : Nat} {L : List (List Value)} {M : List Value} (h : w.ownsRow B te k v (L.length + 2) (L.flatten ++ M)) (hm : L.length + 2 ≤ 9223372036854775807) : ∃ g cap, v = .slice (some ⟨g, 0, none⟩) (L.length + 2) cap ∧ L.length + 2 ≤ cap ∧ CopyRow B w (.slice (some ⟨g, 0, none⟩) L.length cap) k L M := by
  obtain ⟨h0, ⟨_, h1⟩ | ⟨g, cap, cur, e1, hg, hr, hc, hmx, hs, ht⟩⟩ := h
  · omega
  · refine ⟨g, cap, e1, hc, g, cap, rfl, hg, hc, hmx, fun j v hj => ?_⟩
    rw [Nat.zero_add]
    have hB : Blk w g cur te := hr
    rw [hB.cell, ← Array.getElem?_toList]
    rw [← ht] at hj
    have hjl : j < (cur.toList.take ((L.length + 2) * k)).length := (List.getElem?_eq_some_iff.1 hj).1
    rw [List.length_take] at hjl
    rwa [List.getElem?_take, if_pos (by omega)] at hj
end Go.Proofs.YtjcfndiceinkjabDoor

/- What Copied is made of. -/
namespace Go.Proofs.YtjcfndiceinkjabDoor
set_option linter.unusedVariables false
set_option linter.unusedSimpArgs false
open Go.RowKit

def zero32 : List UInt8 := List.replicate 32 0
def markP : PartR := (zero32, 92)
def markI : ItemR := ([], 0, 92, zero32)
def markK : List UInt8 := List.replicate 9 0 ++ 92 :: List.replicate 22 0
theorem markP_ok : okP markP := rfl
theorem markI_ok : okI markI := rfl
theorem markK_ok : okK markK := rfl
theorem infoP : (Tryd.prog.info? 49).map (fun i => (i.zero, i.size, i.bytes)) = some (some (.agg (partC (zero32, 0)).toArray), 33, 40) := by kernel_rfl
theorem infoI : (Tryd.prog.info? 52).map (fun i => (i.zero, i.size, i.bytes)) = some (some (.agg (itemC ([], 0, 0, zero32)).toArray), 35, 64) := by kernel_rfl
theorem infoK : (Tryd.prog.info? 27).map (fun i => (i.zero, i.size, i.bytes)) = some (some (.agg (keyC zero32).toArray), 32, 32) := by kernel_rfl
theorem elemP : Elem 24 49 33 40 := by
  obtain ⟨i0, h1, h2, h3, h4⟩ := info_parts infoP
  exact ⟨Tryd.underlying24, ⟨i0, _, h1, h2, h3, h4, rfl⟩, by decide⟩
theorem elemI : Elem 25 52 35 64 := by
  obtain ⟨i0, h1, h2, h3, h4⟩ := info_parts infoI
  exact ⟨Tryd.underlying25, ⟨i0, _, h1, h2, h3, h4, rfl⟩, by decide⟩
theorem elemK : Elem 28 27 32 32 := by
  obtain ⟨i0, h1, h2, h3, h4⟩ := info_parts infoK
  exact ⟨Tryd.underlying28, ⟨i0, _, h1, h2, h3, h4, rfl⟩, by decide⟩
theorem run_buildP {op : Oper} {a : Act} (ho : op.op = .build 49 #[(1, .const (.int .u64 92))]) (w : World) : (execOp a.eval op).run Tryd.prog w = .ok (.value (partV markP)) w := by
  simp only [execOp, ho]
  kernel_rfl
theorem run_buildI {op : Oper} {a : Act} (ho : op.op = .build 52 #[(2, .const (.int .u64 92))]) (w : World) : (execOp a.eval op).run Tryd.prog w = .ok (.value (itemV markI)) w := by
  simp only [execOp, ho]
  kernel_rfl
theorem run_buildK {op : Oper} {a : Act} (ho : op.op = .build 27 #[(9, .const (.int .u8 92))]) (w : World) : (execOp a.eval op).run Tryd.prog w = .ok (.value (keyV markK)) w := by
  simp only [execOp, ho]
  kernel_rfl
set_option maxRecDepth 20000 in
theorem run_bsP {op : Oper} {ev : Operand → Value} {x y : Operand} {w : World} (ho : op.op = .buildSlice 24 2 #[(0, x), (1, y)]) (hx : ev x = partV markP) (hy : ev y = partV markP) : (execOp ev op).run Tryd.prog w = .ok (.value (.slice (some ⟨w.heap.size, 0, none⟩) 2 2)) (w.alloc (.cells (partC markP ++ partC markP).toArray 49)) := by
  simp only [execOp, ho]
  simp [hx, hy]
  kernel_rfl
set_option maxRecDepth 20000 in
theorem run_bsI {op : Oper} {ev : Operand → Value} {x y : Operand} {w : World} (ho : op.op = .buildSlice 25 2 #[(0, x), (1, y)]) (hx : ev x = itemV markI) (hy : ev y = itemV markI) : (execOp ev op).run Tryd.prog w = .ok (.value (.slice (some ⟨w.heap.size, 0, none⟩) 2 2)) (w.alloc (.cells (itemC markI ++ itemC markI).toArray 52)) := by
  simp only [execOp, ho]
  simp [hx, hy]
  kernel_rfl
set_option maxRecDepth 20000 in
theorem run_bsK {op : Oper} {ev : Operand → Value} {x y : Operand} {w : World} (ho : op.op = .buildSlice 28 2 #[(0, x), (1, y)]) (hx : ev x = keyV markK) (hy : ev y = keyV markK) : (execOp ev op).run Tryd.prog w = .ok (.value (.slice (some ⟨w.heap.size, 0, none⟩) 2 2)) (w.alloc (.cells (keyC markK ++ keyC markK).toArray 27)) := by
  simp only [execOp, ho]
  simp [hx, hy]
  kernel_rfl
theorem wpList_runW {ops : Array Oper} {rest : List Oper} {op : Oper} {a : Act} {w : World} {Q : Exit → Act → World → Prop} (v : Value) (w' : World) (hg : Region.wanted op (yielded ops a.tmps) = true) (hr : (execOp a.eval op).run Tryd.prog w = .ok (.value v) w') (h : wpList Tryd.prog ops Q rest (a.put op.dst v) w') : wpList Tryd.prog ops Q (op :: rest) a w := by
  unfold wpList
  rw [if_pos hg]
  refine .inl ?_
  unfold Oper.wp
  rw [hr]
  exact h
/-- Two elements side by side in a new block. -/
theorem row_two {w : World} {k : Nat} {c : List Value} {t : TypeId} (hc : c.length = k) : RowR (w.alloc (.cells (c ++ c).toArray t)) (.slice (some ⟨w.heap.size, 0, none⟩) 2 2) k [c, c] := by
  have hB : Blk (w.alloc (.cells (c ++ c).toArray t)) w.heap.size (c ++ c).toArray t := Blk.made w _ _
  have hr : (w.alloc (.cells (c ++ c).toArray t)).rangeAt w.heap.size 0 [c, c].flatten := by
    have := range_blk hB
    simpa using this
  exact ⟨_, 2, rfl, by simp, (fun e => nomatch e), .inr ⟨_, 0, rfl, rangeAt_each k [c, c] 0 (by simp [hc]) hr⟩⟩
def objZ : Array Value := (objL ⟨0, [], [], [], zero32, [], 0, []⟩ ⟨.slice none 0 0, .slice none 0 0, .slice none 0 0, .slice none 0 0⟩).toArray
theorem objZ_size : objZ.size = 39 := rfl
theorem zero_obj (W : World) : (zeroValue 30).run Tryd.prog W = .ok (.agg objZ) W := by kernel_rfl
theorem infoObj : (Tryd.prog.info? 30).map (·.size) = some 39 := by kernel_rfl
theorem objL_size (o : ObjR) (v : ObjV) (ht : o.tree.length = 32) : (objL o v).toArray.size = 39 := by simp [objL, ht]
def isSl (v : Value) : Prop := ∃ a n c, v = .slice a n c
structure ObjV.Sl (v : ObjV) : Prop where
  d : isSl v.d
  p : isSl v.p
  i : isSl v.i
  k : isSl v.k
theorem isSl.one {v : Value} (h : isSl v) : v.oneCell' = true := by obtain ⟨a, n, c, rfl⟩ := h; rfl
theorem objL_one (o : ObjR) (v : ObjV) (h : v.Sl) : ∀ x ∈ objL o v, x.oneCell' = true := by
  intro x hx
  unfold objL at hx
  rcases List.mem_cons.1 hx with rfl | hx
  · rfl
  rcases List.mem_cons.1 hx with rfl | hx
  · exact h.d.one
  rcases List.mem_cons.1 hx with rfl | hx
  · exact h.p.one
  rcases List.mem_cons.1 hx with rfl | hx
  · exact h.i.one
  rcases List.mem_append.1 hx with hx | hx
  · exact u8c_one _ x hx
  rcases List.mem_cons.1 hx with rfl | hx
  · exact h.k.one
  rcases List.mem_cons.1 hx with rfl | hx
  · rfl
  rcases List.mem_cons.1 hx with rfl | hx
  · rfl
  cases hx
theorem ObjRd.sl {w : World} {o : ObjR} {v : ObjV} (h : ObjRd w o v) : v.Sl := by
  obtain ⟨a1, c1, e1, _⟩ := h.d.slice
  obtain ⟨a2, c2, e2, _⟩ := h.p.slice
  obtain ⟨a3, c3, e3, _⟩ := h.i.slice
  obtain ⟨a4, c4, e4, _⟩ := h.k.slice
  exact ⟨⟨_, _, _, e1⟩, ⟨_, _, _, e2⟩, ⟨_, _, _, e3⟩, ⟨_, _, _, e4⟩⟩
theorem objL_setD (o : ObjR) (v : ObjV) (x : Value) : (objL o v).toArray.setIfInBounds 1 x = (objL o { v with d := x }).toArray := by simp [objL]
theorem objL_setP (o : ObjR) (v : ObjV) (x : Value) : (objL o v).toArray.setIfInBounds 2 x = (objL o { v with p := x }).toArray := by simp [objL]
theorem objL_setI (o : ObjR) (v : ObjV) (x : Value) : (objL o v).toArray.setIfInBounds 3 x = (objL o { v with i := x }).toArray := by simp [objL]
theorem objL_setK (o : ObjR) (v : ObjV) (x : Value) (ht : o.tree.length = 32) : (objL o v).toArray.setIfInBounds 36 x = (objL o { v with k := x }).toArray := by
  rw [List.setIfInBounds_toArray]
  unfold objL
  simp only [List.set_cons_succ]
  rw [List.set_append_right _ _ (by simp [ht]), List.length_map, ht]
  rfl
/-- The call's own frame of mind: the boxed object, the answer's place. -/
structure St (w W : World) (o : ObjR) (v : ObjV) : Prop where
  A : ObjAt W w.heap.size o v
  Z : Blk W (w.heap.size + 1) objZ 30
  B : Below w.heap.size w W
  sz : w.heap.size + 2 ≤ W.heap.size
theorem St.made (w : World) (o : ObjR) (v : ObjV) : St w ((w.alloc (.cells (objL o v).toArray 30)).alloc (.cells objZ 30)) o v :=
  ⟨(Blk.made w _ _).alloc _, blk_made1 w _ _ _ _, ((Below.refl _ _).alloc (Nat.le_refl _) _).alloc (by simp) _, by simp⟩
theorem St.below {w W W' : World} {o : ObjR} {v : ObjV} (h : St w W o v) (hb : Below W.heap.size W W') : St w W' o v := ⟨h.A.below hb, h.Z.below hb h.Z.lt, h.B.trans (hb.mono h.B.size), Nat.le_trans h.sz hb.size⟩
theorem St.setD {w W : World} {o : ObjR} {v : ObjV} (h : St w W o v) (x : Value) : St w (W.setCell ⟨w.heap.size, 1, none⟩ x) o { v with d := x } := by
  have hA : Blk W w.heap.size (objL o v).toArray 30 := h.A
  have := hA.set 1 x
  rw [objL_setD] at this
  exact ⟨this, h.Z.setOther _ _ (by show w.heap.size + 1 ≠ w.heap.size; omega), h.B.setCell (p := ⟨w.heap.size, 1, none⟩) (Nat.le_refl _) x, by simpa using h.sz⟩
theorem St.setP {w W : World} {o : ObjR} {v : ObjV} (h : St w W o v) (x : Value) : St w (W.setCell ⟨w.heap.size, 2, none⟩ x) o { v with p := x } := by
  have hA : Blk W w.heap.size (objL o v).toArray 30 := h.A
  have := hA.set 2 x
  rw [objL_setP] at this
  exact ⟨this, h.Z.setOther _ _ (by show w.heap.size + 1 ≠ w.heap.size; omega), h.B.setCell (p := ⟨w.heap.size, 2, none⟩) (Nat.le_refl _) x, by simpa using h.sz⟩
theorem St.setI {w W : World} {o : ObjR} {v : ObjV} (h : St w W o v) (x : Value) : St w (W.setCell ⟨w.heap.size, 3, none⟩ x) o { v with i := x } := by
  have hA : Blk W w.heap.size (objL o v).toArray 30 := h.A
  have := hA.set 3 x
  rw [objL_setI] at this
  exact ⟨this, h.Z.setOther _ _ (by show w.heap.size + 1 ≠ w.heap.size; omega), h.B.setCell (p := ⟨w.heap.size, 3, none⟩) (Nat.le_refl _) x, by simpa using h.sz⟩
theorem St.setK {w W : World} {o : ObjR} {v : ObjV} (h : St w W o v) (x : Value) (ht : o.tree.length = 32) : St w (W.setCell ⟨w.heap.size, 36, none⟩ x) o { v with k := x } := by
  have hA : Blk W w.heap.size (objL o v).toArray 30 := h.A
  have := hA.set 36 x
  rw [objL_setK _ _ _ ht] at this
  exact ⟨this, h.Z.setOther _ _ (by show w.heap.size + 1 ≠ w.heap.size; omega), h.B.setCell (p := ⟨w.heap.size, 36, none⟩) (Nat.le_refl _) x, by simpa using h.sz⟩
theorem rangeAt_set {w : World} {b o : Nat} {l : List Value} (h : w.rangeAt b o l) (a : Addr) (x : Value) (hne : b ≠ a.block) : (w.setCell a x).rangeAt b o l := fun j v hj => by
  have := h j v hj
  rw [← this]
  simp only [World.cell?, heap_setCell_other w a b x hne]
theorem CopyRow.set {B : Nat} {w : World} {v : Value} {k : Nat} {L : List (List Value)} {M : List Value} (h : CopyRow B w v k L M) (a : Addr) (x : Value) (ha : a.block < B) : CopyRow B (w.setCell a x) v k L M := by
  obtain ⟨g, cap, h1, h0, h2, h3, h4⟩ := h
  exact ⟨g, cap, h1, h0, h2, h3, rangeAt_set h4 a x (by omega)⟩
/-- What was made of an object is new memory from B on, and marked behind its lists. -/
structure Fresh (B : Nat) (w : World) (o : ObjR) (v : ObjV) : Prop where
  d : ∃ g, v.d = .slice (some ⟨g, 0, none⟩) o.data.length (o.data.length + 70) ∧ B ≤ g ∧ Blk w g ((spL o.data).map u8c).toArray 5
  p : CopyRow B w v.p 33 (o.parts.map partC) (partC markP ++ partC markP)
  i : CopyRow B w v.i 35 (o.items.map itemC) (itemC markI ++ itemC markI)
  k : CopyRow B w v.k 32 (o.parents.map keyC) (keyC markK ++ keyC markK)
theorem Fresh.below {B : Nat} {w w' : World} {o : ObjR} {v : ObjV} (h : Fresh B w o v) (hb : Below w.heap.size w w') : Fresh B w' o v := by
  obtain ⟨g, h1, h2, h3⟩ := h.d
  exact ⟨⟨g, h1, h2, h3.below hb h3.lt⟩, h.p.below hb, h.i.below hb, h.k.below hb⟩
theorem partsC_len (o : ObjR) (ho : ObjOk o) : ∀ c ∈ o.parts.map partC, c.length = 33 := by
  intro c hc; obtain ⟨p, hp, rfl⟩ := List.mem_map.1 hc; exact partC_len p (ho.p p hp)
theorem itemsC_len (o : ObjR) (ho : ObjOk o) : ∀ c ∈ o.items.map itemC, c.length = 35 := by
  intro c hc; obtain ⟨p, hp, rfl⟩ := List.mem_map.1 hc; exact itemC_len p (ho.i p hp)
theorem keysC_len (o : ObjR) (ho : ObjOk o) : ∀ c ∈ o.parents.map keyC, c.length = 32 := by
  intro c hc; obtain ⟨p, hp, rfl⟩ := List.mem_map.1 hc; exact keyC_len p (ho.k p hp)
theorem Fresh.rd {B : Nat} {w : World} {o : ObjR} {v : ObjV} (h : Fresh B w o v) (ho : ObjOk o) (hl : o.data.length ≤ 140737488353000) : ObjRd w o v := by
  obtain ⟨g, h1, h2, h3⟩ := h.d
  exact ⟨ho, by rw [h1]; exact RdA.spare h3 hl, h.p.row (partsC_len o ho), h.i.row (itemsC_len o ho), h.k.row (keysC_len o ho)⟩
end Go.Proofs.YtjcfndiceinkjabDoor

/- Copied. -/
namespace Go.Proofs.YtjcfndiceinkjabDoor
set_option linter.unusedVariables false
set_option linter.unusedSimpArgs false
open Go.RowKit

theorem below_none {a b : World} (h : a.grownBy b none) : Below a.heap.size a b := ⟨h.os, h.tape, h.output, h.size, fun i hi => h.block i hi (by simp)⟩
theorem below_alloc (w : World) (o : Obj) : Below w.heap.size w (w.alloc o) := (Below.refl _ _).alloc (Nat.le_refl _) _
theorem ownsRow_belowK {w w' : World} {base : Nat} {e : TypeId} {k : Nat} {v : Value} {n : Nat} {ys : List Value} (h : w.ownsRow base e k v n ys) (hb : Below w.heap.size w w') : w'.ownsRow base e k v n ys := by
  obtain ⟨h0, h1 | ⟨g, cap, cur, rfl, hg, hh, hr⟩⟩ := h
  · exact ⟨h0, .inl h1⟩
  · have hlt : g < w.heap.size := Blk.lt (cs := cur) (t := e) hh
    exact ⟨h0, .inr ⟨g, cap, cur, rfl, hg, (hb.block g hlt).trans hh, hr⟩⟩
theorem ownsRow_ltK {w : World} {base : Nat} {e : TypeId} {k : Nat} {v : Value} {n : Nat} {ys : List Value} (h : w.ownsRow base e k v n ys) (g : Nat) (hg : v.ownBlock = some g) : base ≤ g := by
  obtain ⟨h0, ⟨rfl, _⟩ | ⟨g', cap, cur, rfl, hb, hh, hr⟩⟩ := h
  · cases hg
  · cases hg; exact hb
theorem CopyRow.mono {B B' : Nat} {w : World} {v : Value} {k : Nat} {L : List (List Value)} {M : List Value} (h : CopyRow B w v k L M) (hB : B' ≤ B) : CopyRow B' w v k L M := by
  obtain ⟨g, cap, h1, h0, h2⟩ := h
  exact ⟨g, cap, h1, Nat.le_trans hB h0, h2⟩
/-- What lies behind a stage: two appends to a row of the call's own. -/
theorem stage_below {X0 X1 X3 : World} {e : TypeId} {k n : Nat} {v1 : Value} {ys : List Value} {o : Obj} (g1 : X0.grownBy X1 none) (o1 : X1.ownsRow X0.heap.size e k v1 n ys) (g3 : (X1.alloc o).grownBy X3 v1.ownBlock) : Below X0.heap.size X0 X3 := by
  have h1 := below_none g1
  have h2 : Below X0.heap.size X0 (X1.alloc o) := h1.alloc h1.size o
  exact h2.grown g3 h2.size (fun j hj => ownsRow_ltK o1 j hj)
/-- The walk stands still here. -/
def Stop (p : Prop) : Prop := p
structure ObjSz (o : ObjR) : Prop where
  d : o.data.length ≤ 140737488353000
  p : (o.parts.length + 2) * 40 ≤ 140737488355328
  i : (o.items.length + 2) * 64 ≤ 140737488355328
  k : (o.parents.length + 2) * 32 ≤ 140737488355328
def CopC (w : World) (o : ObjR) (e : Ending) (w' : World) : Prop := ∃ v', e = .returned (.agg (objL o v').toArray) ∧ Fresh w.heap.size w' o v' ∧ Below w.heap.size w w'
theorem partsC_one (o : ObjR) : ∀ c ∈ o.parts.map partC, ∀ y ∈ c, y.oneCell' = true := by
  intro c hc; obtain ⟨p, hp, rfl⟩ := List.mem_map.1 hc; exact partC_one p
theorem itemsC_one (o : ObjR) : ∀ c ∈ o.items.map itemC, ∀ y ∈ c, y.oneCell' = true := by
  intro c hc; obtain ⟨p, hp, rfl⟩ := List.mem_map.1 hc; exact itemC_one p
theorem keysC_one (o : ObjR) : ∀ c ∈ o.parents.map keyC, ∀ y ∈ c, y.oneCell' = true := by
  intro c hc; obtain ⟨p, hp, rfl⟩ := List.mem_map.1 hc; exact keyC_one p
theorem two_len {k : Nat} {c : List Value} (hc : c.length = k) : ∀ x ∈ [c, c], x.length = k := by simp [hc]
theorem two_one {c : List Value} (hc : ∀ y ∈ c, y.oneCell' = true) : ∀ x ∈ [c, c], ∀ y ∈ x, y.oneCell' = true := by
  intro x hx y hy
  have : x = c := by simpa using hx
  subst this; exact hc y hy
theorem loadAt_obj {w : World} {z : Nat} {cs : Array Value} (h : Blk w z cs 30) (hs : cs.size = 39) : (Instr.loadAt 30 (.pointer (some ⟨z, 0, none⟩))).run Tryd.prog w = .ok (.agg cs) w := by
  simp only [Instr.loadAt, Instr.sureAddr, Sem.run_bind, Sem.run_pure, Result.andThen_ok]
  exact loadBlkT h 30 _ Tryd.underlying30 rfl 39 infoObj hs
theorem wpList_load_obj {ops : Array Oper} {rest : List Oper} {op : Oper} {a : Act} {w : World} {Q : Exit → Act → World → Prop} (x : Operand) (z : Nat) (cs : Array Value) (hk : Blk w z cs 30) (hs : cs.size = 39) (ho : op.op = .load 30 x) (hx : a.eval x = .pointer (some ⟨z, 0, none⟩)) (hg : Region.wanted op (yielded ops a.tmps) = true)
    (h : wpList Tryd.prog ops Q rest (a.put op.dst (.agg cs)) w) : wpList Tryd.prog ops Q (op :: rest) a w :=
  wpList_val _ hg (run_load ho hx (loadAt_obj hk hs)) h
theorem CopyRow.grown {w w' : World} {n : Nat} {v : Value} {k : Nat} {L : List (List Value)} {M : List Value} (h : CopyRow (n + 2) w v k L M) (hg : w.grownBy w' (some (n + 1))) : CopyRow (n + 2) w' v k L M := by
  obtain ⟨g, cap, h1, h0, h2, h3, h4⟩ := h
  refine ⟨g, cap, h1, h0, h2, h3, fun j u hj => ?_⟩
  have hc := h4 j u hj
  have hlt := World.block_lt_of_cell? w _ hc
  rw [← hc]
  simp only [World.cell?, hg.block g hlt (fun e => by have := Option.some.inj e; omega)]
set_option maxRecDepth 20000 in
set_option maxHeartbeats 4000000 in
theorem copied_any (w : World) (o : ObjR) (v : ObjV) (hr : ObjRd w o v) (hs : ObjSz o) : Calls Tryd.prog 18 #[.agg (objL o v).toArray] w (CopC w o) := by
  have hzo := zero_obj
  have RR := hide hr
  obtain ⟨vd, vp, vi, vk⟩ := v
  obtain ⟨pa, pc, epa, hpl⟩ := hr.p.slice
  obtain ⟨ia, ic, eia, hil⟩ := hr.i.slice
  obtain ⟨ka, kc, eka, hkl⟩ := hr.k.slice
  simp only at epa eia eka
  rw [List.length_map] at epa eia eka hpl hil hkl
  subst epa eia eka
  have S0 := hide (St.made w o ⟨vd, .slice pa o.parts.length pc, .slice ia o.items.length ic, .slice ka o.parents.length kc⟩)
  have OK := hide hr.ok
  have SZ := hide hs
  obtain ⟨np, hnp⟩ : ∃ n, n = o.parts.length := ⟨_, rfl⟩
  obtain ⟨ni, hni⟩ : ∃ n, n = o.items.length := ⟨_, rfl⟩
  obtain ⟨nk, hnk⟩ : ∃ n, n = o.parents.length := ⟨_, rfl⟩
  obtain ⟨nd, hnd⟩ : ∃ n, n = o.data.length := ⟨_, rfl⟩
  rw [← hnp, ← hni, ← hnk] at S0 RR ⊢
  rw [← hnp] at hpl
  rw [← hni] at hil
  rw [← hnk] at hkl
  have cD := S0.out.A.cD
  have HNP := hide hnp
  have HNI := hide hni
  have HNK := hide hnk
  have HND := hide hnd
  clear hr hs hnp hni hnk hnd
  go_enter Tryd.func18, Tryd.ntmps18
  go_wp2_with fail
  refine (spare_any _ vd o.data (RR.out.d.below S0.out.B) SZ.out.d).mono ?_
  rintro e W1 ⟨rfl, hD1, hb1⟩
  rw [← HND.out]
  obtain ⟨gd, hgd⟩ : ∃ g, g = ((w.alloc (.cells (objL o ⟨vd, .slice pa np pc, .slice ia ni ic, .slice ka nk kc⟩).toArray 30)).alloc (.cells objZ 30)).heap.size := ⟨_, rfl⟩
  rw [← hgd] at hD1 ⊢
  have HGD : Hid (w.heap.size + 2 ≤ gd) := hide (by rw [hgd]; exact S0.out.sz)
  have S1 := hide (S0.out.below hb1)
  clear S0 hgd cD hb1
  have D0 := hide (hD1.setOther ⟨w.heap.size, 1, none⟩ (.slice (some ⟨gd, 0, none⟩) nd (nd + 70)) (by have := HGD.out; show gd ≠ w.heap.size; omega))
  have c1 := S1.out.A.cD
  have f1 : W1.frozen? ⟨w.heap.size, 1, none⟩ = false := Blk.frozen S1.out.A 1
  have T0 := hide (S1.out.setD (.slice (some ⟨gd, 0, none⟩) nd (nd + 70)))
  have R0P : Hid (RowR (W1.setCell ⟨w.heap.size, 1, none⟩ (.slice (some ⟨gd, 0, none⟩) nd (nd + 70))) (.slice pa np pc) 33 (o.parts.map partC)) := hide (RR.out.p.below T0.out.B)
  have d2 : (W1.setCell ⟨w.heap.size, 1, none⟩ (.slice (some ⟨gd, 0, none⟩) nd (nd + 70))).cell? ⟨w.heap.size, 2, none⟩ = some (.slice pa np pc) := T0.out.A.cP
  clear hD1
  obtain ⟨mP, hmP⟩ : ∃ m, m = partV markP := ⟨_, rfl⟩
  have BdP : Hid (∀ {op : Oper} {a : Act}, op.op = .build 49 #[(1, .const (.int .u64 92))] → ∀ w, (execOp a.eval op).run Tryd.prog w = .ok (.value mP) w) := hide (fun ho w => by rw [hmP]; exact run_buildP ho w)
  have SlP : Hid (∀ (x y : Operand) {op : Oper} {ev : Operand → Value} {w : World}, op.op = .buildSlice 24 2 #[(0, x), (1, y)] → ev x = mP → ev y = mP → (execOp ev op).run Tryd.prog w = .ok (.value (.slice (some ⟨w.heap.size, 0, none⟩) 2 2)) (w.alloc (.cells (partC markP ++ partC markP).toArray 49))) := hide (fun x y _ _ _ ho hx hy => run_bsP ho (hx.trans hmP) (hy.trans hmP))
  clear hmP
  obtain ⟨mI, hmI⟩ : ∃ m, m = itemV markI := ⟨_, rfl⟩
  have BdI : Hid (∀ {op : Oper} {a : Act}, op.op = .build 52 #[(2, .const (.int .u64 92))] → ∀ w, (execOp a.eval op).run Tryd.prog w = .ok (.value mI) w) := hide (fun ho w => by rw [hmI]; exact run_buildI ho w)
  have SlI : Hid (∀ (x y : Operand) {op : Oper} {ev : Operand → Value} {w : World}, op.op = .buildSlice 25 2 #[(0, x), (1, y)] → ev x = mI → ev y = mI → (execOp ev op).run Tryd.prog w = .ok (.value (.slice (some ⟨w.heap.size, 0, none⟩) 2 2)) (w.alloc (.cells (itemC markI ++ itemC markI).toArray 52))) := hide (fun x y _ _ _ ho hx hy => run_bsI ho (hx.trans hmI) (hy.trans hmI))
  clear hmI
  obtain ⟨mK, hmK⟩ : ∃ m, m = keyV markK := ⟨_, rfl⟩
  have BdK : Hid (∀ {op : Oper} {a : Act}, op.op = .build 27 #[(9, .const (.int .u8 92))] → ∀ w, (execOp a.eval op).run Tryd.prog w = .ok (.value mK) w) := hide (fun ho w => by rw [hmK]; exact run_buildK ho w)
  have SlK : Hid (∀ (x y : Operand) {op : Oper} {ev : Operand → Value} {w : World}, op.op = .buildSlice 28 2 #[(0, x), (1, y)] → ev x = mK → ev y = mK → (execOp ev op).run Tryd.prog w = .ok (.value (.slice (some ⟨w.heap.size, 0, none⟩) 2 2)) (w.alloc (.cells (keyC markK ++ keyC markK).toArray 27))) := hide (fun x y _ _ _ ho hx hy => run_bsK ho (hx.trans hmK) (hy.trans hmK))
  clear hmK
  have LP : Hid (0 + (o.parts.map partC).length ≤ 9223372036854775807) := hide (by rw [Nat.zero_add, List.length_map, ← HNP.out]; exact hpl)
  have LI : Hid (0 + (o.items.map itemC).length ≤ 9223372036854775807) := hide (by rw [Nat.zero_add, List.length_map, ← HNI.out]; exact hil)
  have LK : Hid (0 + (o.parents.map keyC).length ≤ 9223372036854775807) := hide (by rw [Nat.zero_add, List.length_map, ← HNK.out]; exact hkl)
  have BP : Hid ((0 + (o.parts.map partC).length) * 40 ≤ 140737488355328) := hide (by rw [Nat.zero_add, List.length_map]; have := SZ.out.p; omega)
  have BI : Hid ((0 + (o.items.map itemC).length) * 64 ≤ 140737488355328) := hide (by rw [Nat.zero_add, List.length_map]; have := SZ.out.i; omega)
  have BK : Hid ((0 + (o.parents.map keyC).length) * 32 ≤ 140737488355328) := hide (by rw [Nat.zero_add, List.length_map]; have := SZ.out.k; omega)
  have LP2 : Hid (0 + (o.parts.map partC).length + [partC markP, partC markP].length ≤ 9223372036854775807) := hide (by rw [Nat.zero_add, List.length_map]; have := SZ.out.p; show _ + 2 ≤ _; omega)
  have LI2 : Hid (0 + (o.items.map itemC).length + [itemC markI, itemC markI].length ≤ 9223372036854775807) := hide (by rw [Nat.zero_add, List.length_map]; have := SZ.out.i; show _ + 2 ≤ _; omega)
  have LK2 : Hid (0 + (o.parents.map keyC).length + [keyC markK, keyC markK].length ≤ 9223372036854775807) := hide (by rw [Nat.zero_add, List.length_map]; have := SZ.out.k; show _ + 2 ≤ _; omega)
  have BP2 : Hid ((0 + (o.parts.map partC).length + [partC markP, partC markP].length) * 40 ≤ 140737488355328) := hide (by rw [Nat.zero_add, List.length_map]; exact SZ.out.p)
  have BI2 : Hid ((0 + (o.items.map itemC).length + [itemC markI, itemC markI].length) * 64 ≤ 140737488355328) := hide (by rw [Nat.zero_add, List.length_map]; exact SZ.out.i)
  have BK2 : Hid ((0 + (o.parents.map keyC).length + [keyC markK, keyC markK].length) * 32 ≤ 140737488355328) := hide (by rw [Nat.zero_add, List.length_map]; exact SZ.out.k)
  go_wp2_with (first
    | ((with_reducible refine wpList_append_row elemP ?_ (.tmp 10) (.tmp 12) ?_ _ (.slice none 0 0) (.slice pa np pc) 0 [] (o.parts.map partC) ?_ (World.ownsRow_nil _ _ _ _) ?_ R0P.out (partsC_len o OK.out) (partsC_one o) LP.out BP.out (Nat.le_refl _) ?_); rfl; rfl; rfl; rfl; intro v1P X1P O1P G1P E1P)
    | ((with_reducible refine wpList_val mP ?_ (BdP.out ?_ _) ?_); rfl; rfl)
    | ((with_reducible refine wpList_runW (.slice (some ⟨X1P.heap.size, 0, none⟩) 2 2) (X1P.alloc (.cells (partC markP ++ partC markP).toArray 49)) ?_ (SlP.out (.tmp 15) (.tmp 16) ?_ ?_ ?_) ?_); rfl; rfl; rfl; rfl)
    | ((with_reducible refine wpList_append_row elemP ?_ (.tmp 14) (.tmp 17) ?_ _ v1P (.slice (some ⟨X1P.heap.size, 0, none⟩) 2 2) (0 + (o.parts.map partC).length) ([] ++ (o.parts.map partC).flatten) [partC markP, partC markP] ?_ (ownsRow_belowK O1P.out (below_alloc X1P _)) ?_ (row_two (partC_len markP markP_ok)) (two_len (partC_len markP markP_ok)) (two_one (partC_one markP)) LP2.out BP2.out (Nat.le_trans G1P.out.size (below_alloc X1P _).size) ?_); rfl; rfl; rfl; rfl; intro v2P X3P O3P G3P E3P; generalize hGP : wpList _ _ _ _ _ _ = GP))
  have hbP := stage_below G1P.out O1P.out G3P.out
  obtain ⟨gP, capP, evP, hcapP, CRP⟩ := copyRow_own (L := o.parts.map partC) (M := partC markP ++ partC markP) (n := 0) (by have := O3P.out; simpa using this) (by have := LP2.out; simpa using this)
  rw [List.length_map, ← HNP.out] at evP hcapP CRP
  subst evP
  have S3P := hide (T0.out.below hbP)
  have hci : (np : Int) ≤ (capP : Int) := (by omega)
  have g2 := S3P.out.A.cP
  have f2 : X3P.frozen? ⟨w.heap.size, 2, none⟩ = false := Blk.frozen S3P.out.A 2
  have T0P := hide (S3P.out.setP (.slice (some ⟨gP, 0, none⟩) np capP))
  have DP := hide ((D0.out.below hbP D0.out.lt).setOther ⟨w.heap.size, 2, none⟩ (.slice (some ⟨gP, 0, none⟩) np capP) (by have := HGD.out; show gd ≠ w.heap.size; omega))
  have CP := hide ((CRP.mono (by have := T0.out.sz; simpa using this)).set ⟨w.heap.size, 2, none⟩ (.slice (some ⟨gP, 0, none⟩) np capP) (by show w.heap.size < w.heap.size + 2; omega))
  have R0I : Hid (RowR (X3P.setCell ⟨w.heap.size, 2, none⟩ (.slice (some ⟨gP, 0, none⟩) np capP)) (.slice ia ni ic) 35 (o.items.map itemC)) := hide (RR.out.i.below T0P.out.B)
  have d3 : (X3P.setCell ⟨w.heap.size, 2, none⟩ (.slice (some ⟨gP, 0, none⟩) np capP)).cell? ⟨w.heap.size, 3, none⟩ = some (.slice ia ni ic) := T0P.out.A.cI
  clear hbP CRP
  clear BdP SlP O1P G1P O3P G3P E1P E3P LP BP LP2 BP2 R0P c1 f1 d2 S1
  subst hGP
  go_wp2_with (first
    | ((with_reducible refine wpList_append_row elemI ?_ (.tmp 25) (.tmp 27) ?_ _ (.slice none 0 0) (.slice ia ni ic) 0 [] (o.items.map itemC) ?_ (World.ownsRow_nil _ _ _ _) ?_ R0I.out (itemsC_len o OK.out) (itemsC_one o) LI.out BI.out (Nat.le_refl _) ?_); rfl; rfl; rfl; rfl; intro v1I X1I O1I G1I E1I)
    | ((with_reducible refine wpList_val mI ?_ (BdI.out ?_ _) ?_); rfl; rfl)
    | ((with_reducible refine wpList_runW (.slice (some ⟨X1I.heap.size, 0, none⟩) 2 2) (X1I.alloc (.cells (itemC markI ++ itemC markI).toArray 52)) ?_ (SlI.out (.tmp 30) (.tmp 31) ?_ ?_ ?_) ?_); rfl; rfl; rfl; rfl)
    | ((with_reducible refine wpList_append_row elemI ?_ (.tmp 29) (.tmp 32) ?_ _ v1I (.slice (some ⟨X1I.heap.size, 0, none⟩) 2 2) (0 + (o.items.map itemC).length) ([] ++ (o.items.map itemC).flatten) [itemC markI, itemC markI] ?_ (ownsRow_belowK O1I.out (below_alloc X1I _)) ?_ (row_two (itemC_len markI markI_ok)) (two_len (itemC_len markI markI_ok)) (two_one (itemC_one markI)) LI2.out BI2.out (Nat.le_trans G1I.out.size (below_alloc X1I _).size) ?_); rfl; rfl; rfl; rfl; intro v2I X3I O3I G3I E3I; generalize hGI : wpList _ _ _ _ _ _ = GI))
  have hbI := stage_below G1I.out O1I.out G3I.out
  obtain ⟨gI, capI, evI, hcapI, CRI⟩ := copyRow_own (L := o.items.map itemC) (M := itemC markI ++ itemC markI) (n := 0) (by have := O3I.out; simpa using this) (by have := LI2.out; simpa using this)
  rw [List.length_map, ← HNI.out] at evI hcapI CRI
  subst evI
  have S3I := hide (T0P.out.below hbI)
  have hci2 : (ni : Int) ≤ (capI : Int) := (by omega)
  have g3 := S3I.out.A.cI
  have f3 : X3I.frozen? ⟨w.heap.size, 3, none⟩ = false := Blk.frozen S3I.out.A 3
  have T0I := hide (S3I.out.setI (.slice (some ⟨gI, 0, none⟩) ni capI))
  have DI := hide ((DP.out.below hbI DP.out.lt).setOther ⟨w.heap.size, 3, none⟩ (.slice (some ⟨gI, 0, none⟩) ni capI) (by have := HGD.out; show gd ≠ w.heap.size; omega))
  have CP2 := hide ((CP.out.below hbI).set ⟨w.heap.size, 3, none⟩ (.slice (some ⟨gI, 0, none⟩) ni capI) (by show w.heap.size < w.heap.size + 2; omega))
  have CI2 := hide ((CRI.mono (by have := T0P.out.sz; simpa using this)).set ⟨w.heap.size, 3, none⟩ (.slice (some ⟨gI, 0, none⟩) ni capI) (by show w.heap.size < w.heap.size + 2; omega))
  have R0K : Hid (RowR (X3I.setCell ⟨w.heap.size, 3, none⟩ (.slice (some ⟨gI, 0, none⟩) ni capI)) (.slice ka nk kc) 32 (o.parents.map keyC)) := hide (RR.out.k.below T0I.out.B)
  have d4 : (X3I.setCell ⟨w.heap.size, 3, none⟩ (.slice (some ⟨gI, 0, none⟩) ni capI)).cell? ⟨w.heap.size, 36, none⟩ = some (.slice ka nk kc) := T0I.out.A.cK OK.out.t
  clear hbI CRI
  clear BdI SlI O1I G1I O3I G3I E1I E3I LI BI LI2 BI2 R0I g2 f2 hci d3 S3P T0P
  subst hGI
  go_wp2_with (first
    | ((with_reducible refine wpList_append_row elemK ?_ (.tmp 40) (.tmp 42) ?_ _ (.slice none 0 0) (.slice ka nk kc) 0 [] (o.parents.map keyC) ?_ (World.ownsRow_nil _ _ _ _) ?_ R0K.out (keysC_len o OK.out) (keysC_one o) LK.out BK.out (Nat.le_refl _) ?_); rfl; rfl; rfl; rfl; intro v1K X1K O1K G1K E1K)
    | ((with_reducible refine wpList_val mK ?_ (BdK.out ?_ _) ?_); rfl; rfl)
    | ((with_reducible refine wpList_runW (.slice (some ⟨X1K.heap.size, 0, none⟩) 2 2) (X1K.alloc (.cells (keyC markK ++ keyC markK).toArray 27)) ?_ (SlK.out (.tmp 45) (.tmp 46) ?_ ?_ ?_) ?_); rfl; rfl; rfl; rfl)
    | ((with_reducible refine wpList_append_row elemK ?_ (.tmp 44) (.tmp 47) ?_ _ v1K (.slice (some ⟨X1K.heap.size, 0, none⟩) 2 2) (0 + (o.parents.map keyC).length) ([] ++ (o.parents.map keyC).flatten) [keyC markK, keyC markK] ?_ (ownsRow_belowK O1K.out (below_alloc X1K _)) ?_ (row_two (keyC_len markK markK_ok)) (two_len (keyC_len markK markK_ok)) (two_one (keyC_one markK)) LK2.out BK2.out (Nat.le_trans G1K.out.size (below_alloc X1K _).size) ?_); rfl; rfl; rfl; rfl; intro v2K X3K O3K G3K E3K; generalize hGK : wpList _ _ _ _ _ _ = GK))
  have hbK := stage_below G1K.out O1K.out G3K.out
  obtain ⟨gK, capK, evK, hcapK, CRK⟩ := copyRow_own (L := o.parents.map keyC) (M := keyC markK ++ keyC markK) (n := 0) (by have := O3K.out; simpa using this) (by have := LK2.out; simpa using this)
  rw [List.length_map, ← HNK.out] at evK hcapK CRK
  subst evK
  have S3K := hide (T0I.out.below hbK)
  have hci3 : (nk : Int) ≤ (capK : Int) := (by omega)
  have g4 := S3K.out.A.cK OK.out.t
  have f4 : X3K.frozen? ⟨w.heap.size, 36, none⟩ = false := Blk.frozen S3K.out.A 36
  have T0K := hide (S3K.out.setK (.slice (some ⟨gK, 0, none⟩) nk capK) OK.out.t)
  have DK := hide ((DI.out.below hbK DI.out.lt).setOther ⟨w.heap.size, 36, none⟩ (.slice (some ⟨gK, 0, none⟩) nk capK) (by have := HGD.out; show gd ≠ w.heap.size; omega))
  have CP3 := hide ((CP2.out.below hbK).set ⟨w.heap.size, 36, none⟩ (.slice (some ⟨gK, 0, none⟩) nk capK) (by show w.heap.size < w.heap.size + 2; omega))
  have CI3 := hide ((CI2.out.below hbK).set ⟨w.heap.size, 36, none⟩ (.slice (some ⟨gK, 0, none⟩) nk capK) (by show w.heap.size < w.heap.size + 2; omega))
  have CK3 := hide ((CRK.mono (by have := T0I.out.sz; simpa using this)).set ⟨w.heap.size, 36, none⟩ (.slice (some ⟨gK, 0, none⟩) nk capK) (by show w.heap.size < w.heap.size + 2; omega))
  have AK : Hid (Blk (X3K.setCell ⟨w.heap.size, 36, none⟩ (.slice (some ⟨gK, 0, none⟩) nk capK)) w.heap.size (objL o ⟨.slice (some ⟨gd, 0, none⟩) nd (nd + 70), .slice (some ⟨gP, 0, none⟩) np capP, .slice (some ⟨gI, 0, none⟩) ni capI, .slice (some ⟨gK, 0, none⟩) nk capK⟩).toArray 30) := hide T0K.out.A
  have ZK := hide T0K.out.Z
  have OZ : Hid ((objL o ⟨.slice (some ⟨gd, 0, none⟩) nd (nd + 70), .slice (some ⟨gP, 0, none⟩) np capP, .slice (some ⟨gI, 0, none⟩) ni capI, .slice (some ⟨gK, 0, none⟩) nk capK⟩).toArray.size = 39) := hide (objL_size o _ OK.out.t)
  have O1c : Hid ((objL o ⟨.slice (some ⟨gd, 0, none⟩) nd (nd + 70), .slice (some ⟨gP, 0, none⟩) np capP, .slice (some ⟨gI, 0, none⟩) ni capI, .slice (some ⟨gK, 0, none⟩) nk capK⟩).toArray.all (·.oneCell') = true) := hide (all_oneCell_toArray (objL_one o _ ⟨⟨_, _, _, rfl⟩, ⟨_, _, _, rfl⟩, ⟨_, _, _, rfl⟩, ⟨_, _, _, rfl⟩⟩))
  clear hbK CRK
  clear BdK SlK O1K G1K O3K G3K E1K E3K LK BK LK2 BK2 R0K g3 f3 hci2 d4 S3I T0I
  subst hGK
  go_wp2_with (first
    | ((with_reducible refine wpList_load_obj (.tmp 1) w.heap.size (objL o ⟨.slice (some ⟨gd, 0, none⟩) nd (nd + 70), .slice (some ⟨gP, 0, none⟩) np capP, .slice (some ⟨gI, 0, none⟩) ni capI, .slice (some ⟨gK, 0, none⟩) nk capK⟩).toArray AK.out OZ.out ?_ ?_ ?_ ?_); rfl; rfl; rfl)
    | ((with_reducible refine wpList_store_blk ?_ 30 (.tmp 2) (.tmp 55) ?_ (w.heap.size + 1) 39 objZ (objL o ⟨.slice (some ⟨gd, 0, none⟩) nd (nd + 70), .slice (some ⟨gP, 0, none⟩) np capP, .slice (some ⟨gI, 0, none⟩) ni capI, .slice (some ⟨gK, 0, none⟩) nk capK⟩).toArray 30 OZ.out objZ_size ?_ ?_ ZK.out infoObj O1c.out ?_); rfl; rfl; rfl; rfl; intro w9 hk9 hg9))
  refine bodyPost_ret (results_cell rfl _ _ _ rfl _ (loadBlkT hk9 30 _ Tryd.underlying30 rfl 39 infoObj OZ.out)) rfl ?_
  have hz9 : Below (w.heap.size + 2) w9 w9 := Below.refl _ _
  have hne : ∀ g, w.heap.size + 2 ≤ g → some g ≠ some (w.heap.size + 1) := fun g hg e => by have := Option.some.inj e; omega
  refine ⟨⟨.slice (some ⟨gd, 0, none⟩) nd (nd + 70), .slice (some ⟨gP, 0, none⟩) np capP, .slice (some ⟨gI, 0, none⟩) ni capI, .slice (some ⟨gK, 0, none⟩) nk capK⟩, rfl, ⟨⟨gd, by rw [HND.out], by have := HGD.out; omega, DK.out.grown hg9 (hne gd HGD.out)⟩, (CP3.out.grown hg9).mono (by omega), (CI3.out.grown hg9).mono (by omega), (CK3.out.grown hg9).mono (by omega)⟩, T0K.out.B.trans (below_grownBy hg9 (by omega) T0K.out.B.size)⟩
end Go.Proofs.YtjcfndiceinkjabDoor
