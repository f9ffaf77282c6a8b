/- Rows of bytes: read, owned, grown. -/
import Derived.Test.YtnloglecfbhpcaaChecked
import Derived.Test.YtnloglecfbhpcaaSM
import Derived.Deep.WholeRow
import Derived.Deep.OwnRows
import Derived.Laws.CopyOwn
import Derived.Laws.BytesArg
import Derived.Maps.AppendAt
import Derived.Deep.MidRow
namespace Go.Proofs.Ytnloglecfbhpcaa
set_option linter.unusedVariables false
set_option linter.unusedSimpArgs false
open Go.RowKit

theorem hide {p : Prop} (h : p) : Hid p := h
def u8c (u : UInt8) : Value := .int .u8 (u.toNat : Int)
/-- A slice of bytes that can be read. -/
def Rd (w : World) (v : Value) (xs : List UInt8) : Prop :=
  ∃ ao c, v = .slice ao xs.length c ∧ xs.length ≤ c ∧ c ≤ maxLen ∧ ((ao = none ∧ c = 0) ∨ ∃ b o, ao = some ⟨b, o, none⟩ ∧ ∀ i (h : i < xs.length), w.cell? ⟨b, o + i, none⟩ = some (u8c xs[i]))
theorem Rd_none (w : World) : Rd w (.slice none 0 0) [] := ⟨none, 0, rfl, Nat.le_refl _, Nat.zero_le _, .inl ⟨rfl, rfl⟩⟩
theorem infoU8 : (Try.prog.info? 5).map (fun i => (i.zero, i.size, i.bytes)) = some (some (.int .u8 0), 1, 1) := by kernel_rfl
theorem infoU8s : (Try.prog.info? 5).map (·.size) = some 1 := by kernel_rfl
theorem u8c_one (xs : List UInt8) : ∀ v ∈ xs.map u8c, v.oneCell' = true := by
  intro v hv
  obtain ⟨u, _, rfl⟩ := List.mem_map.1 hv
  rfl
theorem make_u8 (n : Nat) (h : n ≤ 281474976710656) (w : World) : (Instr.makeSlice 75 (.int .i64 (n : Int)) (.int .i64 (n : Int))).run Try.prog w = .ok (.slice (some ⟨w.heap.size, 0, none⟩) n n) (w.alloc (.cells (madeCells #[.int .u8 0] n) 5)) :=
  run_make_row' (P := Try.prog) 75 5 (.int .u8 0) 1 Try.underlying75 infoU8 rfl .i64 .i64 n (by omega) (by omega) w
theorem copy_made (w : World) (v : Value) (xs : List UInt8) (h : Rd w v xs) (ty : TypeId) :
    (Builtin.copy_ #[75, 75] ty #[.slice (some ⟨w.heap.size, 0, none⟩) xs.length xs.length, v]).run Try.prog (w.alloc (.cells (madeCells #[.int .u8 0] xs.length) 5)) =
      .ok (goInt xs.length) (w.alloc (.cells (xs.map u8c).toArray 5)) := by
  obtain ⟨ao, c, rfl, hc, hm, hcel⟩ := h
  rcases Nat.eq_zero_or_pos xs.length with h0 | hpos
  · obtain rfl : xs = [] := List.eq_nil_of_length_eq_zero h0
    have := run_copy_none (P := Try.prog) (w.alloc (.cells (madeCells #[.int .u8 0] 0) 5)) 75 75 ty 5 (some ⟨w.heap.size, 0, none⟩) ao 0 0 0 c Try.underlying75 infoU8s rfl
    have e : madeCells #[Value.int .u8 0] 0 = #[] := Array.eq_empty_of_size_eq_zero (size_madeCells _ _)
    rw [e] at this
    simpa [e] using this
  · obtain ⟨b, o, rfl, hcell⟩ : ∃ b o, ao = some ⟨b, o, none⟩ ∧ ∀ i (h : i < xs.length), w.cell? ⟨b, o + i, none⟩ = some (u8c xs[i]) := by
      rcases hcel with ⟨_, h⟩ | h
      · omega
      · exact h
    have hr := run_copy_row (P := Try.prog) (w.alloc (.cells (madeCells #[.int .u8 0] xs.length) 5)) 75 75 ty 5 w.heap.size 0 xs.length xs.length ⟨b, o, none⟩ xs.length c _ 5 (xs.map u8c) Try.underlying75 infoU8s (Blk.made w _ _)
      (by simp [Nat.min_self])
      (fun j v hj => by
        have hjl : j < xs.length := by
          rcases Nat.lt_or_ge j xs.length with h | h
          · exact h
          · simp [List.getElem?_eq_none (show (xs.map u8c).length ≤ j by simpa using h)] at hj
        have hplain : (⟨b, o, none⟩ : Addr).add j = ⟨b, o + j, none⟩ := by unfold Addr.add; split <;> simp_all
        have hold := hcell j hjl
        rw [hplain, World.cell?_alloc_lt _ _ _ (World.block_lt_of_cell? w _ hold), hold]
        simpa [List.getElem?_eq_getElem hjl] using hj)
      (by simp [size_madeCells]) (u8c_one xs)
    rw [hr]
    have hd : (madeCells #[Value.int .u8 0] xs.length).toList.drop (0 + (xs.map u8c).length) = [] := List.drop_eq_nil_of_le (by simp [size_madeCells])
    rw [hd, World.setRow_alloc_new]
    simp
theorem owns_made (w : World) (xs : List UInt8) (h : xs.length ≤ maxLen) (base : Nat) (hb : base ≤ w.heap.size) : (w.alloc (.cells (xs.map u8c).toArray 5)).ownsRow base 5 1 (.slice (some ⟨w.heap.size, 0, none⟩) xs.length xs.length) xs.length (xs.map u8c) :=
  ⟨by simp, .inr ⟨w.heap.size, xs.length, (xs.map u8c).toArray, rfl, hb, Blk.made w _ _, Nat.le_refl _, h, by simp, List.take_of_length_le (by simp)⟩⟩
theorem rangeRd {w : World} {xs : List UInt8} {b o : Nat} (h : ∀ i (h : i < xs.length), w.cell? ⟨b, o + i, none⟩ = some (u8c xs[i])) : w.rangeAt b o (xs.map u8c) := fun j v hj => by
  have hjl : j < xs.length := by
    rcases Nat.lt_or_ge j xs.length with h | h
    · exact h
    · simp [List.getElem?_eq_none (show (xs.map u8c).length ≤ j by simpa using h)] at hj
  rw [h j hjl]
  simpa [List.getElem?_eq_getElem hjl] using hj
theorem Rd.form {w : World} {v : Value} {xs : List UInt8} (h : Rd w v xs) : (v = .slice none 0 0 ∧ xs = []) ∨ ∃ b o c, v = .slice (some ⟨b, o, none⟩) xs.length c ∧ ∀ i (h : i < xs.length), w.cell? ⟨b, o + i, none⟩ = some (u8c xs[i]) := by
  obtain ⟨ao, c, rfl, hc, hm, ⟨rfl, rfl⟩ | ⟨b, o, rfl, hcell⟩⟩ := h
  · obtain rfl : xs = [] := List.eq_nil_of_length_eq_zero (by omega)
    exact .inl ⟨rfl, rfl⟩
  · exact .inr ⟨b, o, c, rfl, hcell⟩
theorem Rd_news {w : World} {b o : Nat} {xs : List UInt8} (h : ∀ i (h : i < xs.length), w.cell? ⟨b, o + i, none⟩ = some (u8c xs[i])) : ∀ j u, (xs.map u8c)[j]? = some u → w.cell? ((⟨b, o, none⟩ : Addr).add j) = some u := by
  intro j u hj
  rw [Addr.add_mid]
  exact rangeRd h j u hj
theorem Rd.below {w w' : World} {v : Value} {xs : List UInt8} (h : Rd w v xs) (hb : Below w.heap.size w w') : Rd w' v xs := by
  obtain ⟨ao, c, e, hc, hm, h | ⟨b, o, e2, hcell⟩⟩ := h
  · exact ⟨ao, c, e, hc, hm, .inl h⟩
  · exact ⟨ao, c, e, hc, hm, .inr ⟨b, o, e2, fun i hi => (hb.cell (World.block_lt_of_cell? w _ (hcell i hi))).trans (hcell i hi)⟩⟩
/-- A slice of bytes that came in: one that can be read, or one without a place for a byte, of whatever address. -/
def RdA (w : World) (v : Value) (xs : List UInt8) : Prop := Rd w v xs ∨ ∃ a, v = .slice (some a) 0 0 ∧ xs = []
theorem RdA.slice {w : World} {v : Value} {zs : List UInt8} (h : RdA w v zs) : ∃ ao c, v = .slice ao zs.length c ∧ zs.length ≤ 9223372036854775807 := by
  rcases h with ⟨ao, c, rfl, hc, hm, _⟩ | ⟨a, rfl, rfl⟩
  · exact ⟨ao, c, rfl, by unfold maxLen at hm; omega⟩
  · exact ⟨some a, 0, rfl, by simp⟩
theorem RdA.below {w w' : World} {v : Value} {xs : List UInt8} (h : RdA w v xs) (hb : Below w.heap.size w w') : RdA w' v xs := by
  rcases h with h | h
  · exact .inl (h.below hb)
  · exact .inr h
theorem RdA.grown {w w' : World} {v : Value} {xs : List UInt8} {z : Nat} (h : RdA w v xs) (hg : w.grownBy w' (some z)) (hne : ∀ b o l c, v = .slice (some ⟨b, o, none⟩) l c → 0 < c → b ≠ z) : RdA w' v xs := by
  rcases h with ⟨ao, c, e, hc, hm, h | ⟨b, o, rfl, hcell⟩⟩ | h
  · exact .inl ⟨ao, c, e, hc, hm, .inl h⟩
  · refine .inl ⟨_, c, e, hc, hm, .inr ⟨b, o, rfl, fun i hi => ?_⟩⟩
    have h1 := hcell i hi
    have hb := World.block_lt_of_cell? w _ h1
    rw [← h1]
    unfold World.cell?
    simp only
    rw [hg.block b hb (fun e2 => hne _ _ _ _ e (by omega) (Option.some.inj e2))]
  · exact .inr h
theorem RdA.at {w : World} {v : Value} {zs : List UInt8} (h : RdA w v zs) (k : Nat) (hk : k < zs.length) : ∃ b o c, v = .slice (some ⟨b, o, none⟩) zs.length c ∧ w.cell? ⟨b, o + k, none⟩ = some (.int .u8 (zs[k].toNat : Int)) := by
  rcases h with h | ⟨a, _, rfl⟩
  · rcases h.form with ⟨_, rfl⟩ | ⟨b, o, c, rfl, hcell⟩
    · simp at hk
    · exact ⟨b, o, c, rfl, hcell k hk⟩
  · simp at hk
theorem Rd_owned {w : World} {base : Nat} {v : Value} {xs : List UInt8} (h : w.ownsRow base 5 1 v xs.length (xs.map u8c)) : Rd w v xs := by
  obtain ⟨h0, ⟨rfl, hn⟩ | ⟨g, cap, cur, rfl, hb, hg, hc, hm, hs, ht⟩⟩ := h
  · obtain rfl : xs = [] := List.eq_nil_of_length_eq_zero hn
    exact Rd_none w
  · refine ⟨some ⟨g, 0, none⟩, cap, rfl, hc, hm, .inr ⟨g, 0, rfl, fun i hi => ?_⟩⟩
    have hB : Blk w g cur 5 := hg
    rw [Nat.zero_add, hB.cell, ← Array.getElem?_toList]
    have : (cur.toList.take (xs.length * 1))[i]? = some (u8c xs[i]) := by rw [ht]; simp [List.getElem?_eq_getElem hi]
    rw [List.getElem?_take_of_lt (by omega)] at this
    exact this
theorem own_cell {w : World} {base g n cap : Nat} {ys : List Value} (h : w.ownsRow base 5 1 (.slice (some ⟨g, 0, none⟩) n cap) n ys) (hall : ∀ y ∈ ys, ∃ q, y = .int .u8 q) (k : Nat) (hk : k < n) :
    (∃ q, w.cell? ⟨g, k, none⟩ = some (.int .u8 q)) ∧ w.frozen? ⟨g, k, none⟩ = false ∧ base ≤ g := by
  obtain ⟨hl, ⟨h1, _⟩ | ⟨g', cap', cur, e, hb, hg, hc, hm, hs, ht⟩⟩ := h
  · cases h1
  · cases e
    have hB : Blk w g cur 5 := hg
    have hlt : k < ys.length := by omega
    obtain ⟨q, hq⟩ := hall ys[k] (List.getElem_mem hlt)
    refine ⟨⟨q, ?_⟩, hB.frozen k, hb⟩
    rw [hB.cell, ← Array.getElem?_toList]
    have : (cur.toList.take (n * 1))[k]? = some (.int .u8 q) := by rw [ht, List.getElem?_eq_getElem hlt, hq]
    rwa [List.getElem?_take_of_lt (by omega)] at this
theorem own_set {w : World} {base g n cap : Nat} {ys : List Value} (h : w.ownsRow base 5 1 (.slice (some ⟨g, 0, none⟩) n cap) n ys) (hall : ∀ y ∈ ys, ∃ q, y = .int .u8 q) (k : Nat) (hk : k < n) (q : Int) :
    ∃ ys', (w.setCell ⟨g, k, none⟩ (.int .u8 q)).ownsRow base 5 1 (.slice (some ⟨g, 0, none⟩) n cap) n ys' ∧ (∀ y ∈ ys', ∃ q, y = .int .u8 q) := by
  obtain ⟨hl, ⟨h1, _⟩ | ⟨g', cap', cur, e, hb, hg, hc, hm, hs, ht⟩⟩ := h
  · cases h1
  · cases e
    refine ⟨ys.set k (.int .u8 q), ⟨by simpa using hl, .inr ⟨g, cap, cur.setIfInBounds k (.int .u8 q), rfl, hb, heap_setCell_same w g k cur _ _ hg, hc, hm, by simpa using hs, ?_⟩⟩, ?_⟩
    · rw [Array.toList_setIfInBounds, ← ht, List.take_set]
    · intro y hy
      rcases List.mem_or_eq_of_mem_set hy with h | h
      · exact hall y h
      · exact ⟨q, h⟩
theorem own_below {base : Nat} {w0 w w' : World} {v : Value} {n : Nat} {ys : List Value} {size : Nat} {e : TypeId} (hb : Below base w0 w) (h : w.ownsRow base e size v n ys) (hB : base ≤ w.heap.size) (hg : w.grownBy w' v.ownBlock) : Below base w0 w' :=
  hb.grown hg hB (fun k hk => (h.lt k hk).1)
theorem own_formB {w : World} {base : Nat} {v : Value} {n : Nat} {ys : List Value} {e : TypeId} (h : w.ownsRow base e 1 v n ys) : ∃ ao cap, v = .slice ao n cap ∧ (0 < n → ∃ g, ao = some ⟨g, 0, none⟩) := by
  obtain ⟨_, ⟨rfl, rfl⟩ | ⟨g, cap, cur, rfl, _⟩⟩ := h
  · exact ⟨none, 0, rfl, fun h => absurd h (by omega)⟩
  · exact ⟨_, cap, rfl, fun _ => ⟨g, rfl⟩⟩
theorem u8_allB (xs : List UInt8) : ∀ y ∈ xs.map u8c, ∃ q, y = .int .u8 q := by
  intro y hy; obtain ⟨u, _, rfl⟩ := List.mem_map.1 hy; exact ⟨_, rfl⟩
theorem own_base {w : World} {base base' n : Nat} {v : Value} {xs : List Value} {e : TypeId} (h : w.ownsRow base e 1 v n xs) (hb : base' ≤ base) : w.ownsRow base' e 1 v n xs := by
  obtain ⟨h0, h1 | ⟨g, cap, cur, e1, hg, hr⟩⟩ := h
  · exact ⟨h0, .inl h1⟩
  · exact ⟨h0, .inr ⟨g, cap, cur, e1, Nat.le_trans hb hg, hr⟩⟩
theorem append_nil_nil (w : World) (ty : TypeId) : (Builtin.append_ #[75, 75] ty #[.slice none 0 0, .slice none 0 0]).run Try.prog w = .ok (.slice none 0 0) w := by
  have hu := Try.underlying75
  simp [Builtin.append_, go_sem, hu]
theorem append_own_nil (w : World) (ty : TypeId) (g n cap : Nat) (h : n ≤ cap) : (Builtin.append_ #[75, 75] ty #[.slice (some ⟨g, 0, none⟩) n cap, .slice none 0 0]).run Try.prog w = .ok (.slice (some ⟨g, 0, none⟩) n cap) w := by
  have hu := Try.underlying75
  have hs : (sizeOf 5).run Try.prog w = .ok 1 w := by kernel_rfl
  simp [Builtin.append_, go_sem, hu, hs, h]
/-- A row of the call's own that holds these bytes. -/
def OwnsB (w : World) (base : Nat) (v : Value) (xs : List UInt8) : Prop := w.ownsRow base 5 1 v xs.length (xs.map u8c)
theorem owns_grown {w w' : World} {base : Nat} {e : TypeId} {v : Value} {n : Nat} {ys : List Value} {row : Option Nat} (h : w.ownsRow base e 1 v n ys) (hg : w.grownBy w' row) (hne : ∀ g, v.ownBlock = some g → some g ≠ row) : w'.ownsRow base e 1 v n ys := by
  obtain ⟨h0, h1 | ⟨g, cap, cur, rfl, hb, hh, hr⟩⟩ := h
  · exact ⟨h0, .inl h1⟩
  · have hlt : g < w.heap.size := Blk.lt (cs := cur) (t := e) hh
    exact ⟨h0, .inr ⟨g, cap, cur, rfl, hb, (hg.block g hlt (hne g rfl)).trans hh, hr⟩⟩
theorem owns_lt {w : World} {base : Nat} {e : TypeId} {v : Value} {n : Nat} {ys : List Value} (h : w.ownsRow base e 1 v n ys) (g : Nat) (hg : v.ownBlock = some g) : base ≤ g ∧ g < w.heap.size := by
  obtain ⟨h0, ⟨rfl, _⟩ | ⟨g', cap, cur, rfl, hb, hh, hr⟩⟩ := h
  · cases hg
  · cases hg
    exact ⟨hb, Blk.lt (cs := cur) (t := e) hh⟩
theorem owns_below {w w' : World} {base : Nat} {e : TypeId} {v : Value} {n : Nat} {ys : List Value} (h : w.ownsRow base e 1 v n ys) (hb : Below w.heap.size w w') : w'.ownsRow base e 1 v n ys :=
  owns_grown (row := none) h (grownBy_below hb) (fun _ _ => by simp)
/-- append of bytes to a row of the call's own: where the new row lies. -/
theorem wpList_append_rdX {ops : Array Oper} {rest : List Oper} {o : Oper} {a : Act} {w : World} {Q : Exit → Act → World → Prop} (hgd : o.guard = none) (s x : Operand) (ho : o.op = .call { callee := .builtin .append, args := #[s, x], argTypes := #[75, 75] })
    (base : Nat) (v u : Value) (xs ys : List UInt8) (hs : a.eval s = v) (hown : w.ownsRow base 5 1 v xs.length (xs.map u8c)) (hx : a.eval x = u) (hrd : RdA w u ys) (hlen : xs.length + ys.length ≤ 140737488355000) (hbase : base ≤ w.heap.size)
    (h : ∀ v' w', Hid (OwnsB w' base v' (xs ++ ys)) → Hid (w.grownBy w' v.ownBlock) → Hid (v'.ownBlock = v.ownBlock ∨ v'.ownBlock = some w.heap.size) → wpList Try.prog ops Q rest (a.put o.dst v') w') : wpList Try.prog ops Q (o :: rest) a w := by
  obtain ⟨i0, hi, hz0, hz1, hz2⟩ := info_parts infoU8
  have go : ∀ (ad : Addr) (m c : Nat), u = .slice (some ad) m c → m = ys.length → (∀ j q, (ys.map u8c)[j]? = some q → w.cell? (ad.add j) = some q) → wpList Try.prog ops Q (o :: rest) a w := by
    intro ad m c e hm hn
    subst e
    subst hm
    refine wpList_append_own_at w hgd s x 75 ho base 5 i0 (.int .u8 0) 1 1 Try.underlying75 hi hz0 hz1 hz2 rfl (by decide) v xs.length (xs.map u8c) hs hown ad ys.length c (ys.map u8c) hx (by simp) hn (u8c_one ys) (by unfold maxLen; omega) (by omega) hbase ?_
    intro v' w' h1 h2 _ h4
    exact h v' w' (hide (by unfold OwnsB; rw [List.length_append, List.map_append]; exact h1)) (hide h2) (hide h4)
  rcases hrd with hrd | ⟨ad, rfl, rfl⟩
  · rcases hrd.form with ⟨rfl, rfl⟩ | ⟨b, o', c, e, hcell⟩
    · have hh := h v w (hide (by unfold OwnsB; simpa using hown)) (hide ⟨rfl, rfl, rfl, Nat.le_refl _, fun _ _ _ => rfl⟩) (hide (.inl rfl))
      refine wpList_plain hgd fun K hK => ?_
      obtain ⟨_, ⟨rfl, _⟩ | ⟨g, cap, cur, rfl, _, _, hc, _⟩⟩ := hown
      · have hrun := append_nil_nil w o.type
        unfold Oper.wp
        simp [execOp, ho, resolve, invoke, builtin, hs, hx, hrun, Result.andThen]
        exact hK _ _ hh
      · have hrun := append_own_nil w o.type g xs.length cap hc
        unfold Oper.wp
        simp [execOp, ho, resolve, invoke, builtin, hs, hx, hrun, Result.andThen]
        exact hK _ _ hh
    · exact go ⟨b, o', none⟩ ys.length c e rfl (Rd_news hcell)
  · exact go ad 0 0 rfl rfl (fun j q hj => by simp at hj)
theorem row_at {w : World} {v v' : Value} (hl : v'.ownBlock = v.ownBlock ∨ v'.ownBlock = some w.heap.size) {P : Nat → Prop} (h1 : ∀ g, v.ownBlock = some g → P g) (h2 : P w.heap.size) : ∀ g, v'.ownBlock = some g → P g := by
  intro g e
  rcases hl with e1 | e1
  · exact h1 g (e1 ▸ e)
  · rw [e1] at e
    rw [← Option.some.inj e]
    exact h2
end Go.Proofs.Ytnloglecfbhpcaa
