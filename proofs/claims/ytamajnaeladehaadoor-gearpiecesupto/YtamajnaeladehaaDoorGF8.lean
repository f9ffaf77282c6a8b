/- Rows of ints; where data is cut, plainly. -/
import Derived.Test.YtamajnaeladehaaDoorGF7
namespace Go.Proofs.YtamajnaeladehaaDoor
set_option linter.unusedVariables false
set_option linter.unusedSimpArgs false
open Go.RowKit

def i64c (n : Int) : Value := .int .i64 n
theorem infoI64 : (Tryd.prog.info? 3).map (fun i => (i.zero, i.size, i.bytes)) = some (some (.int .i64 0), 1, 8) := by kernel_rfl
theorem i64c_one (xs : List Int) : ∀ v ∈ xs.map i64c, v.oneCell' = true := by
  intro v hv
  obtain ⟨u, _, rfl⟩ := List.mem_map.1 hv
  rfl
/-- A row of the call's own that holds these ints. -/
def OwnsI (w : World) (base : Nat) (v : Value) (xs : List Int) : Prop := w.ownsRow base 3 1 v xs.length (xs.map i64c)
theorem wpList_append_int {ops : Array Oper} {rest : List Oper} {o : Oper} {a : Act} {w : World} {Q : Exit → Act → World → Prop} (hgd : o.guard = none) (s x : Operand) (ho : o.op = .call { callee := .builtin .append, args := #[s, x], argTypes := #[29, 29] })
    (base : Nat) (v : Value) (xs : List Int) (hs : a.eval s = v) (hown : OwnsI w base v xs) (z c : Nat) (hx : a.eval x = .slice (some ⟨z, 0, none⟩) 1 c) (y q : Int) (hq : q = y) (hc : w.cell? ⟨z, 0, none⟩ = some (.int .i64 q)) (hlen : xs.length + 1 ≤ 17592186044000) (hbase : base ≤ w.heap.size)
    (h : ∀ v' w', Hid (OwnsI w' base v' (xs ++ [y])) → Hid (w.grownBy w' v.ownBlock) → Hid (v'.ownBlock = v.ownBlock ∨ v'.ownBlock = some w.heap.size) → wpList Tryd.prog ops Q rest (a.put o.dst v') w') : wpList Tryd.prog ops Q (o :: rest) a w := by
  subst hq
  obtain ⟨i0, hi, hz0, hz1, hz2⟩ := info_parts infoI64
  refine wpList_append_own_at w hgd s x 29 ho base 3 i0 (.int .i64 0) 1 8 Tryd.underlying29 hi hz0 hz1 hz2 rfl (by decide) v xs.length (xs.map i64c) hs hown ⟨z, 0, none⟩ 1 c [.int .i64 q] hx rfl ?_ (by intro v hv; simp at hv; subst hv; rfl) (by unfold maxLen; omega) (by omega) hbase ?_
  · intro j u hj
    cases j with
    | zero => cases hj; exact hc
    | succ j => simp at hj
  · intro v' w' h1 h2 _ h4
    exact h v' w' (hide (by unfold OwnsI; rw [List.length_append, List.map_append]; exact h1)) (hide h2) (hide h4)
theorem OwnsI.at {w : World} {base g n cap : Nat} {xs : List Int} (h : OwnsI w base (.slice (some ⟨g, 0, none⟩) n cap) xs) (k : Nat) (hk : k < xs.length) : w.cell? ⟨g, k, none⟩ = some (.int .i64 xs[k]) := by
  obtain ⟨hl, ⟨h1, _⟩ | ⟨g', cap', cur, e, hb, hg, hc, hm, hs, ht⟩⟩ := h
  · cases h1
  · cases e
    have hB : Blk w g cur 3 := hg
    rw [hB.cell, ← Array.getElem?_toList]
    have : (cur.toList.take (xs.length * 1))[k]? = some (i64c xs[k]) := by rw [ht]; simp [List.getElem?_eq_getElem hk]
    rw [List.getElem?_take_of_lt (by omega)] at this
    exact this
theorem OwnsI.below {w w' : World} {base : Nat} {v : Value} {xs : List Int} (h : OwnsI w base v xs) (hb : Below w.heap.size w w') : OwnsI w' base v xs := owns_below h hb
theorem OwnsI.form {w : World} {base : Nat} {v : Value} {xs : List Int} (h : OwnsI w base v xs) : ∃ ao cap, v = .slice ao xs.length cap ∧ (0 < xs.length → ∃ g, ao = some ⟨g, 0, none⟩) := by
  obtain ⟨hl, ⟨rfl, h2⟩ | ⟨g, cap, cur, rfl, r⟩⟩ := h
  · exact ⟨none, 0, by rw [h2], fun h => by omega⟩
  · exact ⟨some ⟨g, 0, none⟩, cap, rfl, fun _ => ⟨g, rfl⟩⟩

/-- Where data is cut: the lengths. -/
def cutF (mn me mx : Int) : Nat → List UInt8 → List Int
  | 0, _ => []
  | f + 1, xs => if xs.length = 0 then [] else ((firstP mn me mx xs).1 : Int) :: cutF mn me mx f (xs.drop (firstP mn me mx xs).1)
def cutL (mn me mx : Int) (xs : List UInt8) : List Int := cutF mn me mx xs.length xs
theorem firstG_bounds (mn me mx : Int) : ∀ (xs : List UInt8) (h n : Nat), n ≤ (firstG mn me mx h n xs).1 ∧ (firstG mn me mx h n xs).1 ≤ n + xs.length ∧ (xs ≠ [] → n + 1 ≤ (firstG mn me mx h n xs).1)
  | [], h, n => by
    rw [firstG]
    exact ⟨Nat.le_refl _, by simp, fun h => absurd rfl h⟩
  | b :: r, h, n => by
    rw [firstG, List.length_cons]
    split
    · exact ⟨by simp, by simp, fun _ => by simp⟩
    · have := firstG_bounds mn me mx r (roll h b) (n + 1)
      exact ⟨by omega, by omega, fun _ => by omega⟩
theorem firstP_bounds {mn me mx : Int} (hm : mayB mn me mx = true) (xs : List UInt8) (h : 0 < xs.length) : 1 ≤ (firstP mn me mx xs).1 ∧ (firstP mn me mx xs).1 ≤ xs.length := by
  have := firstG_bounds mn me mx xs 0 0
  rw [firstP, if_pos hm]
  have hne : xs ≠ [] := fun e => by rw [e] at h; simp at h
  have := this.2.2 hne
  omega
theorem cutF_fuel {mn me mx : Int} (hm : mayB mn me mx = true) : ∀ (f g : Nat) (xs : List UInt8), xs.length ≤ f → xs.length ≤ g → cutF mn me mx f xs = cutF mn me mx g xs
  | 0, 0, _, _, _ => rfl
  | 0, g + 1, xs, h1, _ => by rw [cutF, cutF, if_pos (by omega)]
  | f + 1, 0, xs, _, h2 => by rw [cutF, cutF, if_pos (by omega)]
  | f + 1, g + 1, xs, h1, h2 => by
    rw [cutF, cutF]
    by_cases h0 : xs.length = 0
    · rw [if_pos h0, if_pos h0]
    · rw [if_neg h0, if_neg h0]
      have hb := firstP_bounds hm xs (by omega)
      rw [cutF_fuel hm f g _ (by rw [List.length_drop]; omega) (by rw [List.length_drop]; omega)]
theorem cutL_nil (mn me mx : Int) : cutL mn me mx [] = [] := rfl
theorem cutL_cons {mn me mx : Int} (hm : mayB mn me mx = true) (xs : List UInt8) (h : 0 < xs.length) : cutL mn me mx xs = ((firstP mn me mx xs).1 : Int) :: cutL mn me mx (xs.drop (firstP mn me mx xs).1) := by
  have hb := firstP_bounds hm xs h
  unfold cutL
  obtain ⟨n, hn⟩ : ∃ n, xs.length = n + 1 := ⟨xs.length - 1, by omega⟩
  conv => lhs; rw [hn, cutF, if_neg (by omega)]
  rw [cutF_fuel hm n (xs.drop (firstP mn me mx xs).1).length _ (by rw [List.length_drop]; omega) (Nat.le_refl _)]
theorem cutL_len {mn me mx : Int} (hm : mayB mn me mx = true) : ∀ (n : Nat) (xs : List UInt8), xs.length ≤ n → (cutL mn me mx xs).length ≤ xs.length
  | 0, xs, h => by
    obtain rfl : xs = [] := List.eq_nil_of_length_eq_zero (by omega)
    rw [cutL_nil]; simp
  | n + 1, xs, h => by
    rcases Nat.eq_zero_or_pos xs.length with h0 | h0
    · obtain rfl : xs = [] := List.eq_nil_of_length_eq_zero h0
      rw [cutL_nil]; simp
    · have hb := firstP_bounds hm xs h0
      rw [cutL_cons hm xs h0, List.length_cons]
      have := cutL_len hm n (xs.drop (firstP mn me mx xs).1) (by rw [List.length_drop]; omega)
      rw [List.length_drop] at this
      omega
end Go.Proofs.YtamajnaeladehaaDoor
