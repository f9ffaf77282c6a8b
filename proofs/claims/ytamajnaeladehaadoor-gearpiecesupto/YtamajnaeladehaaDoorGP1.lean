/- apart: has each list memory of its own? What its walk needs. -/
import Derived.Test.YtamajnaeladehaaDoorGW7
import Derived.Maps.AppendAt
import Derived.RangeFuncOwn
namespace Go.Proofs.YtamajnaeladehaaDoor
set_option linter.unusedVariables false
set_option linter.unusedSimpArgs false
open Go.RowKit Go.Sort

/-- The mark of a list. -/
def mkB (n _k : Nat) : UInt8 := UInt8.ofNat (n * 7 + 3)
theorem block_lt_of_cell' {w : World} {a : Addr} {v : Value} (h : w.cell? a = some v) : a.block < w.heap.size := World.block_lt_of_cell? w _ h
theorem OwnsB.slice {w : World} {base : Nat} {v : Value} {xs : List UInt8} (h : OwnsB w base v xs) : ∃ ao c, v = .slice ao xs.length c ∧ xs.length ≤ c ∧ c ≤ 9223372036854775807 := by
  obtain ⟨_, ⟨rfl, e⟩ | ⟨g, cap, cur, rfl, _, _, hc, hm, _⟩⟩ := h
  · exact ⟨none, 0, by rw [e], by omega, by omega⟩
  · exact ⟨_, cap, rfl, hc, by unfold maxLen at hm; omega⟩
theorem OwnsB.formB {w : World} {base : Nat} {v : Value} {xs : List UInt8} (h : OwnsB w base v xs) (h0 : 0 < xs.length) : ∃ g cap, v = .slice (some ⟨g, 0, none⟩) xs.length cap ∧ base ≤ g ∧ g < w.heap.size ∧ xs.length ≤ cap ∧ cap ≤ 9223372036854775807 := by
  obtain ⟨hl, ⟨h1, h2⟩ | ⟨g, cap, cur, rfl, hb, hg, hc, hm, hs, ht⟩⟩ := h
  · omega
  · have hB : Blk w g cur 5 := hg
    exact ⟨g, cap, rfl, hb, hB.lt, hc, by unfold maxLen at hm; omega⟩
theorem OwnsB.atB {w : World} {base g n cap : Nat} {xs : List UInt8} (h : OwnsB w base (.slice (some ⟨g, 0, none⟩) n cap) xs) (k : Nat) (hk : k < xs.length) : w.cell? ⟨g, k, none⟩ = some (.int .u8 (xs[k].toNat : Int)) ∧ w.frozen? ⟨g, k, none⟩ = false ∧ base ≤ g := by
  obtain ⟨hl, ⟨h1, _⟩ | ⟨g', cap', cur, e, hb, hg, hc, hm, hs, ht⟩⟩ := h
  · cases h1
  · cases e
    have hB : Blk w g cur 5 := hg
    refine ⟨?_, hB.frozen k, hb⟩
    rw [hB.cell, ← Array.getElem?_toList]
    have : (cur.toList.take (xs.length * 1))[k]? = some (u8c xs[k]) := by rw [ht]; simp [List.getElem?_eq_getElem hk]
    rwa [List.getElem?_take_of_lt (by omega)] at this
theorem OwnsB.setB {w : World} {base g n cap : Nat} {xs : List UInt8} (h : OwnsB w base (.slice (some ⟨g, 0, none⟩) n cap) xs) (k : Nat) (y : UInt8) : OwnsB (w.setCell ⟨g, k, none⟩ (u8c y)) base (.slice (some ⟨g, 0, none⟩) n cap) (xs.set k y) := by
  obtain ⟨hl, ⟨h1, _⟩ | ⟨g', cap', cur, e, hb, hg, hc, hm, hs, ht⟩⟩ := h
  · cases h1
  · cases e
    refine ⟨by simp, .inr ⟨g, cap, cur.setIfInBounds k (u8c y), by simp, hb, heap_setCell_same w g k cur _ _ hg, by simpa using hc, hm, by simpa using hs, ?_⟩⟩
    rw [Array.toList_setIfInBounds, List.map_set, ← ht, List.take_set, List.length_set]
theorem OwnsB.below {w w' : World} {base : Nat} {v : Value} {xs : List UInt8} (h : OwnsB w base v xs) (hb : Below w.heap.size w w') : OwnsB w' base v xs := owns_below h hb
theorem OwnsB.grown {w w' : World} {base : Nat} {v : Value} {xs : List UInt8} {row : Option Nat} (h : OwnsB w base v xs) (hg : w.grownBy w' row) (hne : ∀ g, v.ownBlock = some g → some g ≠ row) : OwnsB w' base v xs := owns_grown h hg hne
theorem own_lower {w : World} {B B' : Nat} {v : Value} {xs : List UInt8} (h : OwnsB w B v xs) (hb : B' ≤ B) : OwnsB w B' v xs := by
  refine ⟨h.1, ?_⟩
  rcases h.2 with h1 | ⟨g, cap, cur, h1, h2, h3⟩
  · exact .inl h1
  · exact .inr ⟨g, cap, cur, h1, Nat.le_trans hb h2, h3⟩
def mkL (n m : Nat) : List UInt8 := (List.range m).map (mkB n)
theorem mkL_len (n m : Nat) : (mkL n m).length = m := by simp [mkL]
theorem mkL_at (n m k : Nat) (h : k < m) : (mkL n m)[k]? = some (mkB n k) := by simp [mkL, h]
theorem mkL_snoc (n m : Nat) : mkL n (m + 1) = mkL n m ++ [mkB n m] := by unfold mkL; rw [List.range_succ, List.map_append]; rfl
theorem mkL_of {ys : List UInt8} {n m : Nat} (hl : ys.length = m) (h : ∀ k, k < m → ys[k]? = some (mkB n k)) : ys = mkL n m := by
  apply List.ext_getElem?
  intro k
  rcases Nat.lt_or_ge k m with hk | hk
  · rw [h k hk, mkL_at n m k hk]
  · rw [List.getElem?_eq_none (by omega), List.getElem?_eq_none (by rw [mkL_len]; omega)]
/-- Lists, each in a row of its own. -/
structure Ls (W : World) (B n : Nat) (vs : Nat → Value) (ys : Nat → List UInt8) : Prop where
  own : ∀ i, i < n → OwnsB W B (vs i) (ys i)
  apart : ∀ i j, i < n → j < n → i ≠ j → ∀ g, (vs i).ownBlock = some g → (vs j).ownBlock ≠ some g
/-- The row that holds them. -/
structure LRow (W : World) (R n : Nat) (ao : Option Addr) (vs : Nat → Value) : Prop where
  here : ∀ i, i < n → ao = some ⟨R, 0, none⟩
  cel : ∀ i, i < n → W.cell? ⟨R, i, none⟩ = some (vs i)
  off : ∀ i, i < n → (vs i).ownBlock ≠ some R
theorem cell_other {W : World} {a p : Addr} {v : Value} (h : p.block ≠ a.block) : (W.setCell a v).cell? p = W.cell? p := World.cell?_of_block (heap_setCell_other W a p.block v h)
theorem LRow.set {W : World} {R n : Nat} {ao : Option Addr} {vs : Nat → Value} (h : LRow W R n ao vs) (a : Addr) (v : Value) (hne : R ≠ a.block) : LRow (W.setCell a v) R n ao vs :=
  ⟨h.here, fun i hi => by rw [cell_other hne]; exact h.cel i hi, h.off⟩
theorem LRow.below {W W' : World} {R n : Nat} {ao : Option Addr} {vs : Nat → Value} (h : LRow W R n ao vs) (hb : Below W.heap.size W W') : LRow W' R n ao vs :=
  ⟨h.here, fun i hi => (hb.cell (block_lt_of_cell' (h.cel i hi))).trans (h.cel i hi), h.off⟩
theorem LRow.grown {W W' : World} {R n : Nat} {ao : Option Addr} {vs : Nat → Value} {row : Option Nat} (h : LRow W R n ao vs) (hg : W.grownBy W' row) (hne : some R ≠ row) : LRow W' R n ao vs :=
  ⟨h.here, fun i hi => hg.cell (h.cel i hi) hne, h.off⟩
theorem Ls.below {W W' : World} {B n : Nat} {vs : Nat → Value} {ys : Nat → List UInt8} (h : Ls W B n vs ys) (hb : Below W.heap.size W W') : Ls W' B n vs ys := ⟨fun i hi => (h.own i hi).below hb, h.apart⟩
/-- What lies below stays, and so does all that is no cells. -/
structure BK (B : Nat) (w W : World) : Prop where
  b : Below B w W
  k : KeepsOthers w W
theorem keeps_below {w W : World} (hb : Below w.heap.size w W) : KeepsOthers w W := KeepsOthers.of_grownBy (grownBy_below hb (row := none)) (fun _ _ e => by cases e)
theorem BK.refl (B : Nat) (w : World) : BK B w w := ⟨Below.refl _ _, KeepsOthers.refl _⟩
theorem BK.step {B : Nat} {w W W' : World} (h : BK B w W) (hB : B ≤ W.heap.size) (hb : Below W.heap.size W W') : BK B w W' := ⟨h.b.trans (hb.mono hB), h.k.trans (keeps_below hb)⟩
theorem BK.setCell {B : Nat} {w W : World} (h : BK B w W) {p : Addr} (hp : B ≤ p.block) (v : Value) : BK B w (W.setCell p v) := ⟨h.b.setCell hp v, h.k.trans (KeepsOthers.setCell _ _ _)⟩
theorem keeps_own {W W' : World} {B n s : Nat} {e : TypeId} {v : Value} {ys : List Value} (ho : W.ownsRow B e s v n ys) (hg : W.grownBy W' v.ownBlock) : KeepsOthers W W' := KeepsOthers.of_grownBy hg (fun j o e1 e2 => by
  obtain ⟨_, ⟨rfl, _⟩ | ⟨g, cap, cur, rfl, hb, hh, hr⟩⟩ := ho
  · cases e1
  · cases e1
    rw [hh] at e2
    cases e2
    rfl)
theorem BK.own {B n : Nat} {w W W' : World} {e : TypeId} {v : Value} {ys : List Value} (h : BK B w W) (ho : W.ownsRow B e 1 v n ys) (hB : B ≤ W.heap.size) (hg : W.grownBy W' v.ownBlock) : BK B w W' := ⟨own_below h.b ho hB hg, h.k.trans (keeps_own ho hg)⟩
/-- While the lists are marked. -/
structure M1 (w W : World) (B R n : Nat) (ao : Option Addr) (vs : Nat → Value) (len : Nat → Nat) (ys : Nat → List UInt8) (a k : Nat) : Prop where
  ls : Ls W B n vs ys
  lens : ∀ i, i < n → (ys i).length = len i
  mark : ∀ i j, i < n → j < len i → (i < a ∨ i = a ∧ j < k) → (ys i)[j]? = some (mkB i j)
  row : LRow W R n ao vs
  bel : BK B w W
theorem M1.below {w W W' : World} {B R n : Nat} {ao : Option Addr} {vs : Nat → Value} {len : Nat → Nat} {ys : Nat → List UInt8} {a k : Nat} (h : M1 w W B R n ao vs len ys a k) (hB : B ≤ W.heap.size) (hb : Below W.heap.size W W') : M1 w W' B R n ao vs len ys a k :=
  ⟨h.ls.below hb, h.lens, h.mark, h.row.below hb, h.bel.step hB hb⟩
theorem M1.next {w W : World} {B R n : Nat} {ao : Option Addr} {vs : Nat → Value} {len : Nat → Nat} {ys : Nat → List UInt8} {a : Nat} (h : M1 w W B R n ao vs len ys a (len a)) : M1 w W B R n ao vs len ys (a + 1) 0 :=
  ⟨h.ls, h.lens, fun i j hi hj hc => h.mark i j hi hj (by
    rcases hc with h1 | ⟨h1, h2⟩
    · rcases Nat.lt_succ_iff_lt_or_eq.mp h1 with h1 | h1
      · exact .inl h1
      · exact .inr ⟨h1, by rw [← h1]; exact hj⟩
    · omega), h.row, h.bel⟩
theorem M1.set {w W : World} {B R n : Nat} {ao : Option Addr} {vs : Nat → Value} {len : Nat → Nat} {ys : Nat → List UInt8} {a k : Nat} (h : M1 w W B R n ao vs len ys a k) (ha : a < n) (hk : k < len a) (g cap : Nat) (hv : vs a = .slice (some ⟨g, 0, none⟩) (len a) cap) :
    M1 w (W.setCell ⟨g, k, none⟩ (u8c (mkB a k))) B R n ao vs len (fun j => if j = a then (ys a).set k (mkB a k) else ys j) a (k + 1) := by
  have ho := h.ls.own a ha
  rw [hv] at ho
  have hg := (ho.atB k (by rw [h.lens a ha]; exact hk)).2.2
  have hbk : (vs a).ownBlock = some g := by rw [hv]; rfl
  refine ⟨⟨fun i hi => ?_, h.ls.apart⟩, fun i hi => ?_, fun i j hi hj hc => ?_, h.row.set _ _ (fun e => h.row.off a ha (by rw [hbk, e])), h.bel.setCell hg _⟩
  · by_cases e : i = a
    · subst e
      rw [if_pos rfl, hv]
      exact ho.setB k _
    · skip
      rw [if_neg e]
      exact ownsRow_setCell_other (h.ls.own i hi) (h.ls.apart a i ha hi (fun x => e x.symm) g hbk) _
  · skip
    split
    · next e => subst e; rw [List.length_set]; exact h.lens _ hi
    · exact h.lens i hi
  · skip
    by_cases e : i = a
    · subst e
      rw [if_pos rfl]
      by_cases ej : j = k
      · subst ej
        rw [List.getElem?_set_self (by rw [h.lens i hi]; exact hj)]
      · rw [List.getElem?_set_ne (fun x => ej x.symm)]
        exact h.mark i j hi hj (.inr ⟨rfl, by omega⟩)
    · rw [if_neg e]
      exact h.mark i j hi hj (by omega)
/-- append of one byte to a row of the call's own: what was read of it stays. -/
theorem wpList_append_keepB {ops : Array Oper} {rest : List Oper} {o : Oper} {a : Act} {w : World} {Q : Exit → Act → World → Prop} (hgd : o.guard = none) (s x : Operand) (ho : o.op = .call { callee := .builtin .append, args := #[s, x], argTypes := #[24, 24] })
    (base : Nat) (v : Value) (xs : List UInt8) (hs : a.eval s = v) (hown : OwnsB w base v xs) (z c : Nat) (hx : a.eval x = .slice (some ⟨z, 0, none⟩) 1 c) (y : UInt8) (hc : w.cell? ⟨z, 0, none⟩ = some (u8c y)) (hlen : xs.length ≤ 100000000000000) (hbase : base ≤ w.heap.size)
    (h : ∀ v' w', Hid (OwnsB w' base v' (xs ++ [y])) → Hid (w.grownBy w' v.ownBlock) → Hid (v'.ownBlock = v.ownBlock ∨ v'.ownBlock = some w.heap.size) → Hid (∀ g k, v.ownBlock = some g → k < xs.length → w'.cell? ⟨g, k, none⟩ = w.cell? ⟨g, k, none⟩) → wpList Tryd.prog ops Q rest (a.put o.dst v') w') : wpList Tryd.prog ops Q (o :: rest) a w := by
  obtain ⟨i0, hi, hz0, hz1, hz2⟩ := info_parts infoU8
  have hnews : ∀ j u, [u8c y][j]? = some u → w.cell? ((⟨z, 0, none⟩ : Addr).add j) = some u := by
    intro j u hj
    cases j with
    | zero => cases hj; exact hc
    | succ j => simp at hj
  have h1c : ∀ u ∈ [u8c y], u.oneCell' = true := u8c_one [y]
  obtain ⟨v', w', hr, r2, r3, _, r5⟩ := run_append_own_at (P := Tryd.prog) w base 24 o.type 5 i0 (.int .u8 0) 1 1 Tryd.underlying24 hi hz0 hz1 hz2 rfl (by decide) v xs.length (xs.map u8c) hown ⟨z, 0, none⟩ 1 c [u8c y] rfl hnews h1c (by unfold maxLen; omega) (by omega) hbase
  have hown' : OwnsB w' base v' (xs ++ [y]) := by unfold OwnsB; rw [List.length_append, List.map_append]; exact r2
  have keep : ∀ g k, v.ownBlock = some g → k < xs.length → w'.cell? ⟨g, k, none⟩ = w.cell? ⟨g, k, none⟩ := by
    intro g k hvg hk
    obtain ⟨hl, ⟨n1, _⟩ | ⟨g', cap, cur, e, hb, hg, hcl, hm, hsz, ht⟩⟩ := id hown
    · subst n1; cases hvg
    · subst e
      obtain rfl : g' = g := by simpa [Value.ownBlock] using hvg
      by_cases hroom : xs.length + 1 ≤ cap
      · have hr2 := run_append_room (P := Tryd.prog) w 24 o.type 5 i0 Tryd.underlying24 hi g' xs.length cap cur hg ⟨z, 0, none⟩ 1 c [u8c y] (by rw [hz1]; rfl) hnews h1c hroom (by rw [hz1]; simp; omega)
        rw [hr2] at hr
        obtain ⟨e1, e2⟩ := (Result.ok.injEq ..).mp hr
        subst e1
        rw [(hown.atB k hk).1, (hown'.atB k (by simp; omega)).1, List.getElem_append_left hk]
      · have holds : ∀ j u, (xs.map u8c)[j]? = some u → w.cell? ((⟨g', 0, none⟩ : Addr).add j) = some u := fun j u hj => World.ownsRow.cells (g := g') hown rfl j u hj
        have hr2 := run_append_grow (P := Tryd.prog) w 24 o.type 5 i0 (.int .u8 0) Tryd.underlying24 hi hz0 ⟨g', 0, none⟩ xs.length cap (xs.map u8c) (by rw [hz1]; simp) holds ⟨z, 0, none⟩ 1 c [u8c y] (by rw [hz1]; rfl) hnews (by omega) (by omega) (by rw [hz2]; exact growslice_fits (by omega) (by omega))
        rw [hr2] at hr
        obtain ⟨e1, e2⟩ := (Result.ok.injEq ..).mp hr
        subst e2
        have hgl : g' < w.heap.size := Blk.lt (cs := cur) (t := 5) hg
        unfold World.cell?
        simp only
        rw [Below.heap_alloc w.drew _ g' hgl]
        rfl
  refine wpList_plain hgd fun K hK => ?_
  unfold Oper.wp execOp
  simp only [ho, resolve, invoke, builtin, Sem.run_bind, Sem.run_pure, Result.andThen_ok, List.map_toArray, List.map_cons, List.map_nil, hs, hx, hr]
  exact hK _ _ (h v' w' (hide hown') (hide r3) (hide r5) (hide keep))
/-- A row of bytes from its block's head on can be read. -/
def RdG (W : World) (v : Value) (xs : List UInt8) : Prop := ∃ ao c, v = .slice ao xs.length c ∧ ∀ k (h : k < xs.length), ∃ g, ao = some ⟨g, 0, none⟩ ∧ W.cell? ⟨g, k, none⟩ = some (.int .u8 (xs[k].toNat : Int))
theorem OwnsB.rdG {W : World} {B : Nat} {v : Value} {xs : List UInt8} (h : OwnsB W B v xs) : RdG W v xs := by
  obtain ⟨ao, c, e, -, -⟩ := h.slice
  refine ⟨ao, c, e, fun k hk => ?_⟩
  obtain ⟨g, cap, e2, -⟩ := h.formB (by omega)
  obtain ⟨rfl, -, rfl⟩ := (Value.slice.injEq ..).mp (e.symm.trans e2)
  subst e
  exact ⟨g, rfl, (h.atB k hk).1⟩
theorem RdG.below {W W' : World} {v : Value} {xs : List UInt8} (h : RdG W v xs) (hb : Below W.heap.size W W') : RdG W' v xs := by
  obtain ⟨ao, c, e, hc⟩ := h
  refine ⟨ao, c, e, fun k hk => ?_⟩
  obtain ⟨g, e2, h2⟩ := hc k hk
  exact ⟨g, e2, (hb.cell (block_lt_of_cell' h2)).trans h2⟩
theorem RdG.grown {W W' : World} {v : Value} {xs : List UInt8} {row : Option Nat} (h : RdG W v xs) (hg : W.grownBy W' row) (hne : ∀ g, v.ownBlock = some g → some g ≠ row) : RdG W' v xs := by
  obtain ⟨ao, c, e, hc⟩ := h
  refine ⟨ao, c, e, fun k hk => ?_⟩
  obtain ⟨g, e2, h2⟩ := hc k hk
  exact ⟨g, e2, hg.cell h2 (hne g (by rw [e, e2]; rfl))⟩
theorem RdG.kept {W W' : World} {v : Value} {xs : List UInt8} {row : Option Nat} {m : Nat} (h : RdG W v xs) (hg : W.grownBy W' row) (hm : xs.length ≤ m) (hk : ∀ g k, row = some g → k < m → W'.cell? ⟨g, k, none⟩ = W.cell? ⟨g, k, none⟩) : RdG W' v xs := by
  obtain ⟨ao, c, e, hc⟩ := h
  refine ⟨ao, c, e, fun k hkl => ?_⟩
  obtain ⟨g, e2, h2⟩ := hc k hkl
  refine ⟨g, e2, ?_⟩
  by_cases hr : row = some g
  · rw [hk g k hr (by omega)]; exact h2
  · exact hg.cell h2 (fun x => hr x.symm)
/-- Between two lists: those ahead of a are grown, and lie in 'long'. -/
structure M2 (w W : World) (B R n : Nat) (ao : Option Addr) (vs : Nat → Value) (len : Nat → Nat) (gs : Nat → Value) (vl : Value) (a : Nat) : Prop where
  own : ∀ i, a ≤ i → i < n → OwnsB W B (vs i) (mkL i (len i))
  rd : ∀ i, i < n → RdG W (vs i) (mkL i (len i))
  apart : ∀ i j, i < n → j < n → i ≠ j → ∀ g, (vs i).ownBlock = some g → (vs j).ownBlock ≠ some g
  vlt : ∀ i, i < n → ∀ g, (vs i).ownBlock = some g → g < W.heap.size
  grd : ∀ i, i < a → RdG W (gs i) (mkL i (len i + 40))
  gap : ∀ i j, i < a → a ≤ j → j < n → ∀ g, (vs j).ownBlock = some g → (gs i).ownBlock ≠ some g
  glt : ∀ i, i < a → ∀ g, (gs i).ownBlock = some g → g < W.heap.size ∧ g ≠ R
  row : LRow W R n ao vs
  lng : W.ownsRow B 24 1 vl a ((List.range a).map gs)
  loff : vl.ownBlock ≠ some R
  vnl : ∀ i, i < n → ∀ g, (vs i).ownBlock = some g → vl.ownBlock ≠ some g
  gnl : ∀ i, i < a → ∀ g, (gs i).ownBlock = some g → vl.ownBlock ≠ some g
  bel : BK B w W
/-- Within a list: it is grown by k bytes. -/
structure N2 (w W : World) (B R n : Nat) (ao : Option Addr) (vs : Nat → Value) (len : Nat → Nat) (gs : Nat → Value) (vl : Value) (a k : Nat) (u : Value) : Prop where
  uown : OwnsB W B u (mkL a (len a + k))
  usep : ∀ j, j < n → j ≠ a → ∀ g, u.ownBlock = some g → (vs j).ownBlock ≠ some g
  ugs : ∀ i, i < a → ∀ g, u.ownBlock = some g → (gs i).ownBlock ≠ some g
  uR : u.ownBlock ≠ some R
  own : ∀ i, a < i → i < n → OwnsB W B (vs i) (mkL i (len i))
  rd : ∀ i, i < n → RdG W (vs i) (mkL i (len i))
  apart : ∀ i j, i < n → j < n → i ≠ j → ∀ g, (vs i).ownBlock = some g → (vs j).ownBlock ≠ some g
  vlt : ∀ i, i < n → ∀ g, (vs i).ownBlock = some g → g < W.heap.size
  grd : ∀ i, i < a → RdG W (gs i) (mkL i (len i + 40))
  gap : ∀ i j, i < a → a < j → j < n → ∀ g, (vs j).ownBlock = some g → (gs i).ownBlock ≠ some g
  glt : ∀ i, i < a → ∀ g, (gs i).ownBlock = some g → g < W.heap.size ∧ g ≠ R
  row : LRow W R n ao vs
  rlt : R < W.heap.size
  lng : W.ownsRow B 24 1 vl a ((List.range a).map gs)
  loff : vl.ownBlock ≠ some R
  vnl : ∀ i, i < n → ∀ g, (vs i).ownBlock = some g → vl.ownBlock ≠ some g
  gnl : ∀ i, i < a → ∀ g, (gs i).ownBlock = some g → vl.ownBlock ≠ some g
  bel : BK B w W
  size : B ≤ W.heap.size
theorem M2.enter {w W : World} {B R n : Nat} {ao : Option Addr} {vs : Nat → Value} {len : Nat → Nat} {gs : Nat → Value} {vl : Value} {a : Nat} (h : M2 w W B R n ao vs len gs vl a) (ha : a < n) (hB : B ≤ W.heap.size) : N2 w W B R n ao vs len gs vl a 0 (vs a) :=
  ⟨h.own a (Nat.le_refl _) ha, fun j hj hne g hg => h.apart a j ha hj (fun e => hne e.symm) g hg, fun i hi g hg => h.gap i a hi (Nat.le_refl _) ha g hg, h.row.off a ha, fun i h1 h2 => h.own i (by omega) h2, h.rd, h.apart, h.vlt, h.grd, fun i j hi h1 h2 => h.gap i j hi (by omega) h2, h.glt, h.row, block_lt_of_cell' (h.row.cel a ha), h.lng, h.loff, h.vnl, h.gnl, h.bel, hB⟩
theorem N2.below {w W W' : World} {B R n : Nat} {ao : Option Addr} {vs : Nat → Value} {len : Nat → Nat} {gs : Nat → Value} {vl : Value} {a k : Nat} {u : Value} (h : N2 w W B R n ao vs len gs vl a k u) (hb : Below W.heap.size W W') : N2 w W' B R n ao vs len gs vl a k u :=
  have hs := hb.size
  ⟨h.uown.below hb, h.usep, h.ugs, h.uR, fun i h1 h2 => (h.own i h1 h2).below hb, fun i h1 => (h.rd i h1).below hb, h.apart, fun i hi g hg => Nat.lt_of_lt_of_le (h.vlt i hi g hg) hs, fun i hi => (h.grd i hi).below hb, h.gap, fun i hi g hg => ⟨Nat.lt_of_lt_of_le (h.glt i hi g hg).1 hs, (h.glt i hi g hg).2⟩, h.row.below hb, Nat.lt_of_lt_of_le h.rlt hs, owns_below h.lng hb, h.loff, h.vnl, h.gnl, h.bel.step h.size hb, Nat.le_trans h.size hs⟩
/-- One byte more. -/
theorem N2.app {w W W' : World} {B R n : Nat} {ao : Option Addr} {vs : Nat → Value} {len : Nat → Nat} {gs : Nat → Value} {vl : Value} {a k : Nat} {u u' : Value} (h : N2 w W B R n ao vs len gs vl a k u)
    (ho : OwnsB W' B u' (mkL a (len a + k) ++ [mkB a (len a + k)])) (hg : W.grownBy W' u.ownBlock) (hb : u'.ownBlock = u.ownBlock ∨ u'.ownBlock = some W.heap.size) (hk : ∀ g j, u.ownBlock = some g → j < (mkL a (len a + k)).length → W'.cell? ⟨g, j, none⟩ = W.cell? ⟨g, j, none⟩) : N2 w W' B R n ao vs len gs vl a (k + 1) u' := by
  have hne : ∀ {v : Value} {g : Nat}, (∀ g, u.ownBlock = some g → v.ownBlock ≠ some g) → v.ownBlock = some g → some g ≠ u.ownBlock := fun h1 h2 e => h1 _ e.symm h2
  refine ⟨?_, fun j hj hja g hg' => ?_, fun i hi g hg' => ?_, fun e => ?_, fun i h1 h2 => ?_, fun i hi => ?_, h.apart, fun i hi g hg' => Nat.lt_of_lt_of_le (h.vlt i hi g hg') hg.size, fun i hi => ?_, h.gap, fun i hi g hg' => ⟨Nat.lt_of_lt_of_le (h.glt i hi g hg').1 hg.size, (h.glt i hi g hg').2⟩, h.row.grown hg (fun e => h.uR e.symm), Nat.lt_of_lt_of_le h.rlt hg.size, ?_, h.loff, h.vnl, h.gnl, h.bel.own h.uown h.size hg, Nat.le_trans h.size hg.size⟩
  · rw [← Nat.add_assoc, mkL_snoc]; exact ho
  · rcases hb with e | e
    · exact h.usep j hj hja g (e ▸ hg')
    · intro e2
      have := h.vlt j hj g e2
      rw [e] at hg'
      cases hg'
      omega
  · rcases hb with e | e
    · exact h.ugs i hi g (e ▸ hg')
    · intro e2
      have := (h.glt i hi g e2).1
      rw [e] at hg'
      cases hg'
      omega
  · rcases hb with e2 | e2
    · exact h.uR (e2 ▸ e)
    · rw [e] at e2
      cases e2
      have := h.rlt
      omega
  · exact OwnsB.grown (h.own i h1 h2) hg (fun g hg' => hne (h.usep i h2 (by omega)) hg')
  · by_cases e : i = a
    · subst e
      exact (h.rd i hi).kept hg (by rw [mkL_len, mkL_len]; omega) hk
    · exact (h.rd i hi).grown hg (fun g hg' => hne (h.usep i hi e) hg')
  · exact (h.grd i hi).grown hg (fun g hg' => hne (h.ugs i hi) hg')
  · exact owns_grown h.lng hg (fun g hg' e => own_own_ne h.lng h.uown (by decide) g hg' e.symm)
/-- The grown list is laid by. -/
theorem N2.leave {w W W' : World} {B R n : Nat} {ao : Option Addr} {vs : Nat → Value} {len : Nat → Nat} {gs : Nat → Value} {vl vl' : Value} {a : Nat} {u : Value} (h : N2 w W B R n ao vs len gs vl a 40 u)
    (ho : W'.ownsRow B 24 1 vl' (a + 1) ((List.range a).map gs ++ [u])) (hg : W.grownBy W' vl.ownBlock) (hb : vl'.ownBlock = vl.ownBlock ∨ vl'.ownBlock = some W.heap.size) : M2 w W' B R n ao vs len (fun i => if i = a then u else gs i) vl' (a + 1) := by
  have hun : ∀ g, u.ownBlock = some g → vl.ownBlock ≠ some g := fun g hg' => own_own_ne h.uown h.lng (by decide) g hg'
  have hult : ∀ g, u.ownBlock = some g → g < W.heap.size := fun g hg' => (owns_lt h.uown g hg').2
  have hnew : ∀ g, g < W.heap.size → vl.ownBlock ≠ some g → vl'.ownBlock ≠ some g := by
    intro g h1 h2 e
    rcases hb with e2 | e2
    · exact h2 (e2 ▸ e)
    · rw [e] at e2; cases e2; omega
  refine ⟨fun i h1 h2 => OwnsB.grown (h.own i (by omega) h2) hg (fun g hg' e => h.vnl i h2 g hg' e.symm), fun i hi => (h.rd i hi).grown hg (fun g hg' e => h.vnl i hi g hg' e.symm), h.apart, fun i hi g hg' => Nat.lt_of_lt_of_le (h.vlt i hi g hg') hg.size, fun i hi => ?_, fun i j hi h1 h2 g hg' => ?_, fun i hi g hg' => ?_, h.row.grown hg (fun e => h.loff e.symm), ?_, hnew R h.rlt h.loff, fun i hi g hg' => hnew g (h.vlt i hi g hg') (h.vnl i hi g hg'), fun i hi g hg' => ?_, h.bel.own h.lng h.size hg⟩
  · by_cases e : i = a
    · subst e
      rw [if_pos rfl]
      exact (h.uown.rdG).grown hg (fun g hg' e => hun g hg' e.symm)
    · rw [if_neg e]
      exact (h.grd i (by omega)).grown hg (fun g hg' e => h.gnl i (by omega) g hg' e.symm)
  · by_cases e : i = a
    · subst e
      rw [if_pos rfl]
      intro e2
      exact h.usep j h2 (by omega) g e2 hg'
    · rw [if_neg e]
      exact h.gap i j (by omega) (by omega) h2 g hg'
  · by_cases e : i = a
    · subst e
      rw [if_pos rfl] at hg'
      exact ⟨Nat.lt_of_lt_of_le (hult g hg') hg.size, fun e2 => h.uR (by rw [hg', e2])⟩
    · rw [if_neg e] at hg'
      exact ⟨Nat.lt_of_lt_of_le (h.glt i (by omega) g hg').1 hg.size, (h.glt i (by omega) g hg').2⟩
  · rw [List.range_succ, List.map_append]
    have e : (List.range a).map (fun i => if i = a then u else gs i) = (List.range a).map gs := by
      apply List.map_congr_left
      intro i hi
      rw [if_neg (by have := List.mem_range.1 hi; omega)]
    rw [e]
    simpa using ho
  · by_cases e : i = a
    · subst e
      rw [if_pos rfl] at hg'
      exact hnew g (hult g hg') (hun g hg')
    · rw [if_neg e] at hg'
      exact hnew g (h.glt i (by omega) g hg').1 (h.gnl i (by omega) g hg')
theorem M1.done {w W : World} {B R n : Nat} {ao : Option Addr} {vs : Nat → Value} {len : Nat → Nat} {ys : Nat → List UInt8} (h : M1 w W B R n ao vs len ys n 0) : M2 w W B R n ao vs len (fun _ => .slice none 0 0) (.slice none 0 0) 0 := by
  have hy : ∀ i, i < n → ys i = mkL i (len i) := fun i hi => mkL_of (h.lens i hi) (fun k hk => h.mark i k hi hk (.inl hi))
  have ho : ∀ i, i < n → OwnsB W B (vs i) (mkL i (len i)) := fun i hi => by rw [← hy i hi]; exact h.ls.own i hi
  exact ⟨fun i _ hi => ho i hi, fun i hi => (ho i hi).rdG, h.ls.apart, fun i hi g hg => (owns_lt (ho i hi) g hg).2, fun i hi => by omega, fun i j hi => by omega, fun i hi => by omega, h.row, World.ownsRow_nil _ _ _ _, by simp [Value.ownBlock], fun i hi g hg => by simp [Value.ownBlock], fun i hi => by omega, h.bel⟩
/-- append of one list to a row of lists. -/
theorem wpList_append_list {ops : Array Oper} {rest : List Oper} {o : Oper} {a : Act} {w : World} {Q : Exit → Act → World → Prop} (hgd : o.guard = none) (s x : Operand) (ho : o.op = .call { callee := .builtin .append, args := #[s, x], argTypes := #[42, 42] })
    (base : Nat) (v : Value) (n : Nat) (ys : List Value) (hs : a.eval s = v) (hown : w.ownsRow base 24 1 v n ys) (z c : Nat) (hx : a.eval x = .slice (some ⟨z, 0, none⟩) 1 c) (y : Value) (hy : y.oneCell' = true) (hc : w.cell? ⟨z, 0, none⟩ = some y) (hlen : n ≤ 1000000000000) (hbase : base ≤ w.heap.size)
    (h : ∀ v' w', Hid (w'.ownsRow base 24 1 v' (n + 1) (ys ++ [y])) → Hid (w.grownBy w' v.ownBlock) → Hid (v'.ownBlock = v.ownBlock ∨ v'.ownBlock = some w.heap.size) → wpList Tryd.prog ops Q rest (a.put o.dst v') w') : wpList Tryd.prog ops Q (o :: rest) a w := by
  obtain ⟨i0, hi, hz0, hz1, hz2⟩ := info_parts infoSl
  refine wpList_append_own_at w hgd s x 42 ho base 24 i0 _ 1 24 Tryd.underlying42 hi hz0 hz1 hz2 rfl (by decide) v n ys hs hown ⟨z, 0, none⟩ 1 c [y] hx rfl ?_ ?_ (by unfold maxLen; omega) (by omega) hbase ?_
  · intro j u hj
    cases j with
    | zero => cases hj; exact hc
    | succ j => simp at hj
  · intro u hu
    simp only [List.mem_cons, List.not_mem_nil, or_false] at hu
    rw [hu]; exact hy
  · intro v' w' h1 h2 _ h4
    exact h v' w' (hide h1) (hide h2) (hide h4)
end Go.Proofs.YtamajnaeladehaaDoor
