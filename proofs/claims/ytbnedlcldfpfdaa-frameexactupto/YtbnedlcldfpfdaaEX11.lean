/- own: while the lists are grown, one by one. -/
import Derived.Test.YtbnedlcldfpfdaaEX10
namespace Go.Proofs.Ytbnedlcldfpfdaa
set_option linter.unusedVariables false
set_option linter.unusedSimpArgs false
open Go.RowKit Go.Sort

/-- A row of bytes from its block's head on can be read. -/
def RdG (W : World) (v : Value) (xs : List UInt8) : Prop := ∃ ao c, v = .slice ao xs.length c ∧ ∀ k (h : k < xs.length), ∃ g, ao = some ⟨g, 0, none⟩ ∧ W.cell? ⟨g, k, none⟩ = some (.int .u8 (xs[k].toNat : Int))
theorem OwnsB.rdG {W : World} {B : Nat} {v : Value} {xs : List UInt8} (h : OwnsB W B v xs) : RdG W v xs := by
  obtain ⟨ao, c, e, -, -⟩ := h.slice
  refine ⟨ao, c, e, fun k hk => ?_⟩
  obtain ⟨g, cap, e2, -⟩ := h.formB (by omega)
  obtain ⟨rfl, -, rfl⟩ := (Value.slice.injEq ..).mp (e.symm.trans e2)
  subst e
  exact ⟨g, rfl, (h.atB k hk).1⟩
theorem RdG.below {W W' : World} {v : Value} {xs : List UInt8} (h : RdG W v xs) (hb : Below W.heap.size W W') : RdG W' v xs := by
  obtain ⟨ao, c, e, hc⟩ := h
  refine ⟨ao, c, e, fun k hk => ?_⟩
  obtain ⟨g, e2, h2⟩ := hc k hk
  exact ⟨g, e2, (hb.cell (block_lt_of_cell' h2)).trans h2⟩
theorem RdG.grown {W W' : World} {v : Value} {xs : List UInt8} {row : Option Nat} (h : RdG W v xs) (hg : W.grownBy W' row) (hne : ∀ g, v.ownBlock = some g → some g ≠ row) : RdG W' v xs := by
  obtain ⟨ao, c, e, hc⟩ := h
  refine ⟨ao, c, e, fun k hk => ?_⟩
  obtain ⟨g, e2, h2⟩ := hc k hk
  exact ⟨g, e2, hg.cell h2 (hne g (by rw [e, e2]; rfl))⟩
theorem RdG.kept {W W' : World} {v : Value} {xs : List UInt8} {row : Option Nat} {m : Nat} (h : RdG W v xs) (hg : W.grownBy W' row) (hm : xs.length ≤ m) (hk : ∀ g k, row = some g → k < m → W'.cell? ⟨g, k, none⟩ = W.cell? ⟨g, k, none⟩) : RdG W' v xs := by
  obtain ⟨ao, c, e, hc⟩ := h
  refine ⟨ao, c, e, fun k hkl => ?_⟩
  obtain ⟨g, e2, h2⟩ := hc k hkl
  refine ⟨g, e2, ?_⟩
  by_cases hr : row = some g
  · rw [hk g k hr (by omega)]; exact h2
  · exact hg.cell h2 (fun x => hr x.symm)
/-- Between two lists: those ahead of a are grown, and lie in 'long'. -/
structure M2 (w W : World) (B R n : Nat) (ao : Option Addr) (vs : Nat → Value) (len : Nat → Nat) (gs : Nat → Value) (vl : Value) (a : Nat) : Prop where
  own : ∀ i, a ≤ i → i < n → OwnsB W B (vs i) (mkL i (len i))
  rd : ∀ i, i < n → RdG W (vs i) (mkL i (len i))
  apart : ∀ i j, i < n → j < n → i ≠ j → ∀ g, (vs i).ownBlock = some g → (vs j).ownBlock ≠ some g
  vlt : ∀ i, i < n → ∀ g, (vs i).ownBlock = some g → g < W.heap.size
  grd : ∀ i, i < a → RdG W (gs i) (mkL i (len i + 70))
  gap : ∀ i j, i < a → a ≤ j → j < n → ∀ g, (vs j).ownBlock = some g → (gs i).ownBlock ≠ some g
  glt : ∀ i, i < a → ∀ g, (gs i).ownBlock = some g → g < W.heap.size ∧ g ≠ R
  row : LRow W R n ao vs
  lng : W.ownsRow B 22 1 vl a ((List.range a).map gs)
  loff : vl.ownBlock ≠ some R
  vnl : ∀ i, i < n → ∀ g, (vs i).ownBlock = some g → vl.ownBlock ≠ some g
  gnl : ∀ i, i < a → ∀ g, (gs i).ownBlock = some g → vl.ownBlock ≠ some g
  bel : BK B w W
/-- Within a list: it is grown by k bytes. -/
structure N2 (w W : World) (B R n : Nat) (ao : Option Addr) (vs : Nat → Value) (len : Nat → Nat) (gs : Nat → Value) (vl : Value) (a k : Nat) (u : Value) : Prop where
  uown : OwnsB W B u (mkL a (len a + k))
  usep : ∀ j, j < n → j ≠ a → ∀ g, u.ownBlock = some g → (vs j).ownBlock ≠ some g
  ugs : ∀ i, i < a → ∀ g, u.ownBlock = some g → (gs i).ownBlock ≠ some g
  uR : u.ownBlock ≠ some R
  own : ∀ i, a < i → i < n → OwnsB W B (vs i) (mkL i (len i))
  rd : ∀ i, i < n → RdG W (vs i) (mkL i (len i))
  apart : ∀ i j, i < n → j < n → i ≠ j → ∀ g, (vs i).ownBlock = some g → (vs j).ownBlock ≠ some g
  vlt : ∀ i, i < n → ∀ g, (vs i).ownBlock = some g → g < W.heap.size
  grd : ∀ i, i < a → RdG W (gs i) (mkL i (len i + 70))
  gap : ∀ i j, i < a → a < j → j < n → ∀ g, (vs j).ownBlock = some g → (gs i).ownBlock ≠ some g
  glt : ∀ i, i < a → ∀ g, (gs i).ownBlock = some g → g < W.heap.size ∧ g ≠ R
  row : LRow W R n ao vs
  rlt : R < W.heap.size
  lng : W.ownsRow B 22 1 vl a ((List.range a).map gs)
  loff : vl.ownBlock ≠ some R
  vnl : ∀ i, i < n → ∀ g, (vs i).ownBlock = some g → vl.ownBlock ≠ some g
  gnl : ∀ i, i < a → ∀ g, (gs i).ownBlock = some g → vl.ownBlock ≠ some g
  bel : BK B w W
  size : B ≤ W.heap.size
theorem M2.enter {w W : World} {B R n : Nat} {ao : Option Addr} {vs : Nat → Value} {len : Nat → Nat} {gs : Nat → Value} {vl : Value} {a : Nat} (h : M2 w W B R n ao vs len gs vl a) (ha : a < n) (hB : B ≤ W.heap.size) : N2 w W B R n ao vs len gs vl a 0 (vs a) :=
  ⟨h.own a (Nat.le_refl _) ha, fun j hj hne g hg => h.apart a j ha hj (fun e => hne e.symm) g hg, fun i hi g hg => h.gap i a hi (Nat.le_refl _) ha g hg, h.row.off a ha, fun i h1 h2 => h.own i (by omega) h2, h.rd, h.apart, h.vlt, h.grd, fun i j hi h1 h2 => h.gap i j hi (by omega) h2, h.glt, h.row, block_lt_of_cell' (h.row.cel a ha), h.lng, h.loff, h.vnl, h.gnl, h.bel, hB⟩
theorem N2.below {w W W' : World} {B R n : Nat} {ao : Option Addr} {vs : Nat → Value} {len : Nat → Nat} {gs : Nat → Value} {vl : Value} {a k : Nat} {u : Value} (h : N2 w W B R n ao vs len gs vl a k u) (hb : Below W.heap.size W W') : N2 w W' B R n ao vs len gs vl a k u :=
  have hs := hb.size
  ⟨h.uown.below hb, h.usep, h.ugs, h.uR, fun i h1 h2 => (h.own i h1 h2).below hb, fun i h1 => (h.rd i h1).below hb, h.apart, fun i hi g hg => Nat.lt_of_lt_of_le (h.vlt i hi g hg) hs, fun i hi => (h.grd i hi).below hb, h.gap, fun i hi g hg => ⟨Nat.lt_of_lt_of_le (h.glt i hi g hg).1 hs, (h.glt i hi g hg).2⟩, h.row.below hb, Nat.lt_of_lt_of_le h.rlt hs, owns_below h.lng hb, h.loff, h.vnl, h.gnl, h.bel.step h.size hb, Nat.le_trans h.size hs⟩
/-- One byte more. -/
theorem N2.app {w W W' : World} {B R n : Nat} {ao : Option Addr} {vs : Nat → Value} {len : Nat → Nat} {gs : Nat → Value} {vl : Value} {a k : Nat} {u u' : Value} (h : N2 w W B R n ao vs len gs vl a k u)
    (ho : OwnsB W' B u' (mkL a (len a + k) ++ [mkB a (len a + k)])) (hg : W.grownBy W' u.ownBlock) (hb : u'.ownBlock = u.ownBlock ∨ u'.ownBlock = some W.heap.size) (hk : ∀ g j, u.ownBlock = some g → j < (mkL a (len a + k)).length → W'.cell? ⟨g, j, none⟩ = W.cell? ⟨g, j, none⟩) : N2 w W' B R n ao vs len gs vl a (k + 1) u' := by
  have hne : ∀ {v : Value} {g : Nat}, (∀ g, u.ownBlock = some g → v.ownBlock ≠ some g) → v.ownBlock = some g → some g ≠ u.ownBlock := fun h1 h2 e => h1 _ e.symm h2
  refine ⟨?_, fun j hj hja g hg' => ?_, fun i hi g hg' => ?_, fun e => ?_, fun i h1 h2 => ?_, fun i hi => ?_, h.apart, fun i hi g hg' => Nat.lt_of_lt_of_le (h.vlt i hi g hg') hg.size, fun i hi => ?_, h.gap, fun i hi g hg' => ⟨Nat.lt_of_lt_of_le (h.glt i hi g hg').1 hg.size, (h.glt i hi g hg').2⟩, h.row.grown hg (fun e => h.uR e.symm), Nat.lt_of_lt_of_le h.rlt hg.size, ?_, h.loff, h.vnl, h.gnl, h.bel.own h.uown h.size hg, Nat.le_trans h.size hg.size⟩
  · rw [← Nat.add_assoc, mkL_snoc]; exact ho
  · rcases hb with e | e
    · exact h.usep j hj hja g (e ▸ hg')
    · intro e2
      have := h.vlt j hj g e2
      rw [e] at hg'
      cases hg'
      omega
  · rcases hb with e | e
    · exact h.ugs i hi g (e ▸ hg')
    · intro e2
      have := (h.glt i hi g e2).1
      rw [e] at hg'
      cases hg'
      omega
  · rcases hb with e2 | e2
    · exact h.uR (e2 ▸ e)
    · rw [e] at e2
      cases e2
      have := h.rlt
      omega
  · exact OwnsB.grown (h.own i h1 h2) hg (fun g hg' => hne (h.usep i h2 (by omega)) hg')
  · by_cases e : i = a
    · subst e
      exact (h.rd i hi).kept hg (by rw [mkL_len, mkL_len]; omega) hk
    · exact (h.rd i hi).grown hg (fun g hg' => hne (h.usep i hi e) hg')
  · exact (h.grd i hi).grown hg (fun g hg' => hne (h.ugs i hi) hg')
  · exact owns_grown h.lng hg (fun g hg' e => own_own_ne h.lng h.uown (by decide) g hg' e.symm)
/-- The grown list is laid by. -/
theorem N2.leave {w W W' : World} {B R n : Nat} {ao : Option Addr} {vs : Nat → Value} {len : Nat → Nat} {gs : Nat → Value} {vl vl' : Value} {a : Nat} {u : Value} (h : N2 w W B R n ao vs len gs vl a 70 u)
    (ho : W'.ownsRow B 22 1 vl' (a + 1) ((List.range a).map gs ++ [u])) (hg : W.grownBy W' vl.ownBlock) (hb : vl'.ownBlock = vl.ownBlock ∨ vl'.ownBlock = some W.heap.size) : M2 w W' B R n ao vs len (fun i => if i = a then u else gs i) vl' (a + 1) := by
  have hun : ∀ g, u.ownBlock = some g → vl.ownBlock ≠ some g := fun g hg' => own_own_ne h.uown h.lng (by decide) g hg'
  have hult : ∀ g, u.ownBlock = some g → g < W.heap.size := fun g hg' => (owns_lt h.uown g hg').2
  have hnew : ∀ g, g < W.heap.size → vl.ownBlock ≠ some g → vl'.ownBlock ≠ some g := by
    intro g h1 h2 e
    rcases hb with e2 | e2
    · exact h2 (e2 ▸ e)
    · rw [e] at e2; cases e2; omega
  refine ⟨fun i h1 h2 => OwnsB.grown (h.own i (by omega) h2) hg (fun g hg' e => h.vnl i h2 g hg' e.symm), fun i hi => (h.rd i hi).grown hg (fun g hg' e => h.vnl i hi g hg' e.symm), h.apart, fun i hi g hg' => Nat.lt_of_lt_of_le (h.vlt i hi g hg') hg.size, fun i hi => ?_, fun i j hi h1 h2 g hg' => ?_, fun i hi g hg' => ?_, h.row.grown hg (fun e => h.loff e.symm), ?_, hnew R h.rlt h.loff, fun i hi g hg' => hnew g (h.vlt i hi g hg') (h.vnl i hi g hg'), fun i hi g hg' => ?_, h.bel.own h.lng h.size hg⟩
  · by_cases e : i = a
    · subst e
      rw [if_pos rfl]
      exact (h.uown.rdG).grown hg (fun g hg' e => hun g hg' e.symm)
    · rw [if_neg e]
      exact (h.grd i (by omega)).grown hg (fun g hg' e => h.gnl i (by omega) g hg' e.symm)
  · by_cases e : i = a
    · subst e
      rw [if_pos rfl]
      intro e2
      exact h.usep j h2 (by omega) g e2 hg'
    · rw [if_neg e]
      exact h.gap i j (by omega) (by omega) h2 g hg'
  · by_cases e : i = a
    · subst e
      rw [if_pos rfl] at hg'
      exact ⟨Nat.lt_of_lt_of_le (hult g hg') hg.size, fun e2 => h.uR (by rw [hg', e2])⟩
    · rw [if_neg e] at hg'
      exact ⟨Nat.lt_of_lt_of_le (h.glt i (by omega) g hg').1 hg.size, (h.glt i (by omega) g hg').2⟩
  · rw [List.range_succ, List.map_append]
    have e : (List.range a).map (fun i => if i = a then u else gs i) = (List.range a).map gs := by
      apply List.map_congr_left
      intro i hi
      rw [if_neg (by have := List.mem_range.1 hi; omega)]
    rw [e]
    simpa using ho
  · by_cases e : i = a
    · subst e
      rw [if_pos rfl] at hg'
      exact hnew g (hult g hg') (hun g hg')
    · rw [if_neg e] at hg'
      exact hnew g (h.glt i (by omega) g hg').1 (h.gnl i (by omega) g hg')
theorem M1.done {w W : World} {B R n : Nat} {ao : Option Addr} {vs : Nat → Value} {len : Nat → Nat} {ys : Nat → List UInt8} (h : M1 w W B R n ao vs len ys n 0) : M2 w W B R n ao vs len (fun _ => .slice none 0 0) (.slice none 0 0) 0 := by
  have hy : ∀ i, i < n → ys i = mkL i (len i) := fun i hi => mkL_of (h.lens i hi) (fun k hk => h.mark i k hi hk (.inl hi))
  have ho : ∀ i, i < n → OwnsB W B (vs i) (mkL i (len i)) := fun i hi => by rw [← hy i hi]; exact h.ls.own i hi
  exact ⟨fun i _ hi => ho i hi, fun i hi => (ho i hi).rdG, h.ls.apart, fun i hi g hg => (owns_lt (ho i hi) g hg).2, fun i hi => by omega, fun i j hi => by omega, fun i hi => by omega, h.row, World.ownsRow_nil _ _ _ _, by simp [Value.ownBlock], fun i hi g hg => by simp [Value.ownBlock], fun i hi => by omega, h.bel⟩
/-- append of one list to a row of lists. -/
theorem infoSl : (Try.prog.info? 22).map (fun i => (i.zero, i.size, i.bytes)) = some (some (.slice none 0 0), 1, 24) := by kernel_rfl
theorem wpList_append_list {ops : Array Oper} {rest : List Oper} {o : Oper} {a : Act} {w : World} {Q : Exit → Act → World → Prop} (hgd : o.guard = none) (s x : Operand) (ho : o.op = .call { callee := .builtin .append, args := #[s, x], argTypes := #[31, 31] })
    (base : Nat) (v : Value) (n : Nat) (ys : List Value) (hs : a.eval s = v) (hown : w.ownsRow base 22 1 v n ys) (z c : Nat) (hx : a.eval x = .slice (some ⟨z, 0, none⟩) 1 c) (y : Value) (hy : y.oneCell' = true) (hc : w.cell? ⟨z, 0, none⟩ = some y) (hlen : n ≤ 1000000000000) (hbase : base ≤ w.heap.size)
    (h : ∀ v' w', Hid (w'.ownsRow base 22 1 v' (n + 1) (ys ++ [y])) → Hid (w.grownBy w' v.ownBlock) → Hid (v'.ownBlock = v.ownBlock ∨ v'.ownBlock = some w.heap.size) → wpList Try.prog ops Q rest (a.put o.dst v') w') : wpList Try.prog ops Q (o :: rest) a w := by
  obtain ⟨i0, hi, hz0, hz1, hz2⟩ := info_parts infoSl
  refine wpList_append_own_at w hgd s x 31 ho base 22 i0 _ 1 24 Try.underlying31 hi hz0 hz1 hz2 rfl (by decide) v n ys hs hown ⟨z, 0, none⟩ 1 c [y] hx rfl ?_ ?_ (by unfold maxLen; omega) (by omega) hbase ?_
  · intro j u hj
    cases j with
    | zero => cases hj; exact hc
    | succ j => simp at hj
  · intro u hu
    simp only [List.mem_cons, List.not_mem_nil, or_false] at hu
    rw [hu]; exact hy
  · intro v' w' h1 h2 _ h4
    exact h v' w' (hide h1) (hide h2) (hide h4)
end Go.Proofs.Ytbnedlcldfpfdaa
