/- Table and rows of a hand: appends, stores, rows made anew. -/
import Derived.Test.YtnknjcnbbljagaaTG5
import Derived.Test.YtnknjcnbbljagaaTN6
namespace Go.Proofs.Ytnknjcnbbljagaa
set_option linter.unusedVariables false
set_option linter.unusedSimpArgs false
namespace FF
set_option maxRecDepth 100000
open Go.RowKit

structure St2 (w : World) (z gy ge F : Nat) (kv vv : Value) (T : TB) (K : List Nat) (V : List Int) (W : World) : Prop where
  tb : TbAt W z gy ge (hvF F 0 0) T
  ks : OwnsF W w.heap.size kv K
  vs : OwnsI W w.heap.size vv V
  lo : w.heap.size ≤ z ∧ w.heap.size ≤ gy ∧ w.heap.size ≤ ge
  bel : Below w.heap.size w W
section
variable {w : World} {z gy ge F : Nat} {kv vv : Value} {T : TB} {M : List (Nat × Int)} {K : List Nat} {V : List Int}
theorem St.two {W : World} (h : St w z gy ge F kv vv T M W) : St2 w z gy ge F kv vv T (M.map Prod.fst) (M.map Prod.snd) W := ⟨h.tb, h.ks, h.vs, h.lo, h.bel⟩
theorem St2.one {W : World} (h : St2 w z gy ge F kv vv T K V W) (hK : K = M.map Prod.fst) (hV : V = M.map Prod.snd) : St w z gy ge F kv vv T M W := by
  subst hK
  subst hV
  exact ⟨h.tb, h.ks, h.vs, h.lo, h.bel⟩
theorem St2.below {W W' : World} (h : St2 w z gy ge F kv vv T K V W) (hb : Below W.heap.size W W') : St2 w z gy ge F kv vv T K V W' := ⟨h.tb.below hb, h.ks.below hb, h.vs.below hb, h.lo, h.bel.trans (hb.mono h.bel.size)⟩
theorem kept_row {W w3 : World} {B s n : Nat} {e : TypeId} {v : Value} {ys : List Value} (ho : W.ownsRow B e s v n ys) (he : e ∉ tys) (hg : W.grownBy w3 v.ownBlock) : KeepT tys W w3 := KeepT.grown hg (fun r h => by
  obtain ⟨cs, t, fz, h1, h2⟩ := own_type ho r h
  exact ⟨cs, t, fz, h1, by rw [h2]; exact he⟩)
theorem St2.appK {W Wa w3 : World} {v' : Value} {k : Nat} (h : St2 w z gy ge F kv vv T K V W) (hb : Below W.heap.size W Wa) (ho : OwnsF w3 w.heap.size v' (K ++ [k])) (hg : Wa.grownBy w3 kv.ownBlock) : St2 w z gy ge F v' vv T (K ++ [k]) V w3 := by
  have h1 := h.below hb
  refine ⟨h1.tb.keepT (kept_row h1.ks (by decide) hg), ho, h1.vs.grown hg (fun g e1 e2 => kind_ne h1.vs h1.ks (by decide) g e1 e2.symm), h.lo, own_below h1.bel h1.ks h1.bel.size hg⟩
theorem St2.appV {W Wa w3 : World} {v' : Value} {k : Int} (h : St2 w z gy ge F kv vv T K V W) (hb : Below W.heap.size W Wa) (ho : OwnsI w3 w.heap.size v' (V ++ [k])) (hg : Wa.grownBy w3 vv.ownBlock) : St2 w z gy ge F kv v' T K (V ++ [k]) w3 := by
  have h1 := h.below hb
  refine ⟨h1.tb.keepT (kept_row h1.vs (by decide) hg), h1.ks.grown hg (fun g e1 e2 => kind_ne h1.ks h1.vs (by decide) g e1 e2.symm), ho, h.lo, own_below h1.bel h1.vs h1.bel.size hg⟩
theorem St2.setV {W : World} {g n cap : Nat} (h : St2 w z gy ge F kv (.slice (some ⟨g, 0, none⟩) n cap) T K V W) (q : Nat) (v : Int) : St2 w z gy ge F kv (.slice (some ⟨g, 0, none⟩) n cap) T K (V.set q v) (W.setCell ⟨g, q, none⟩ (.int .i64 v)) := by
  obtain ⟨cs, t, fz, hty, rfl⟩ := own_type h.vs g rfl
  have hg := owns_lt h.vs g rfl
  exact ⟨h.tb.keepT (KeepT.setCell W _ _ hty (by decide)), h.ks.grown (grownBy_set W g q (.int .i64 v)) (fun g' e1 e2 => kind_ne h.ks h.vs (by decide) g' e1 (by rw [Option.some.inj e2]; rfl)), h.vs.set q v, h.lo, h.bel.setCell hg.1 _⟩
/-- Two rows are made anew. -/
structure OutF (w W : World) (a b : Value) (N : List (Nat × Int)) : Prop where
  ks : OwnsF W w.heap.size a (N.map Prod.fst)
  vs : OwnsI W w.heap.size b (N.map Prod.snd)
  bel : Below w.heap.size w W
theorem OutF.app {W Wa w3 Wb w5 : World} {a b a' b' : Value} {N : List (Nat × Int)} {x : Nat × Int} (h : OutF w W a b N) (h1 : Below W.heap.size W Wa) (h2 : OwnsF w3 w.heap.size a' (N.map Prod.fst ++ [x.1])) (h3 : Wa.grownBy w3 a.ownBlock) (h4 : Below w3.heap.size w3 Wb) (h5 : OwnsI w5 w.heap.size b' (N.map Prod.snd ++ [x.2])) (h6 : Wb.grownBy w5 b.ownBlock) : OutF w w5 a' b' (N ++ [x]) := by
  have k1 := h.ks.below h1
  have v1 := h.vs.below h1
  have b1 := h.bel.trans (h1.mono h.bel.size)
  have b3 := own_below b1 k1 b1.size h3
  have v3 := (v1.grown h3 (fun g e1 e2 => kind_ne v1 k1 (by decide) g e1 e2.symm)).below h4
  have k3 := h2.below h4
  have b4 := b3.trans (h4.mono b3.size)
  refine ⟨?_, ?_, own_below b4 v3 b4.size h6⟩
  · rw [List.map_append]; exact k3.grown h6 (fun g e1 e2 => kind_ne k3 v3 (by decide) g e1 e2.symm)
  · rw [List.map_append]; exact h5
theorem own_lowF {w : World} {B B' : Nat} {v : Value} {xs : List Nat} (h : OwnsF w B' v xs) (hB : B ≤ B') : OwnsF w B v xs := by
  obtain ⟨h0, h1 | ⟨g, cap, cur, rfl, hb, r⟩⟩ := h
  · exact ⟨h0, .inl h1⟩
  · exact ⟨h0, .inr ⟨g, cap, cur, rfl, by omega, r⟩⟩
theorem OutF.st {W0 W : World} {a b : Value} {M' : List (Nat × Int)} {T' : TB} (h : St w z gy ge F kv vv T' M W0) (o : OutF W0 W a b M') : St w z gy ge F a b T' M' W := ⟨h.tb.below o.bel, own_lowF o.ks h.bel.size, own_lowerB o.vs h.bel.size, h.lo, h.bel.trans (o.bel.mono h.bel.size)⟩
end
def outF (M : List (Nat × Int)) (i : Nat) : Nat → List (Nat × Int)
  | 0 => []
  | j + 1 => if j = i then outF M i j else outF M i j ++ [M.getD j (0, 0)]
theorem outF_len (M : List (Nat × Int)) (i j : Nat) : (outF M i j).length ≤ j := by
  induction j with
  | zero => exact Nat.le_refl _
  | succ j ih =>
    unfold outF
    split
    · omega
    · simp; omega
theorem outF_is (M : List (Nat × Int)) (i : Nat) : ∀ j, j ≤ M.length → outF M i j = (M.take j).eraseIdx i := by
  intro j
  induction j with
  | zero => intro _; simp [outF]
  | succ j ih =>
    intro hj
    have ht : M.take (j + 1) = M.take j ++ [M.getD j (0, 0)] := by
      rw [List.take_add_one, List.getElem?_eq_getElem (by omega)]
      simp [List.getD_eq_getElem?_getD, List.getElem?_eq_getElem (show j < M.length by omega)]
    have hl : (M.take j).length = j := by simp; omega
    unfold outF
    split
    · next e =>
      subst e
      rw [ih (by omega), ht, List.eraseIdx_append_of_length_le (by omega), show j - (M.take j).length = 0 by omega, List.eraseIdx_of_length_le (by omega)]
      simp
    · next e =>
      rw [ih (by omega), ht]
      rcases Nat.lt_or_ge i j with h | h
      · rw [List.eraseIdx_append_of_lt_length (by omega)]
      · rw [List.eraseIdx_append_of_length_le (by omega), List.eraseIdx_of_length_le (by omega), List.eraseIdx_of_length_le (by simp; omega)]
end FF
end Go.Proofs.Ytnknjcnbbljagaa
