/- A table in memory; lay. -/
import Derived.Test.YtnknjcnbbljagaaTF1
namespace Go.Proofs.Ytnknjcnbbljagaa
set_option linter.unusedVariables false
set_option linter.unusedSimpArgs false
namespace FF
set_option maxRecDepth 100000
open Go.RowKit

theorem RowAt.same {w w' : World} {g : Nat} {L : List SL} (h : RowAt w g L) (hs : w'.heap[g]? = w.heap[g]?) : RowAt w' g L := by
  obtain ⟨cur, hb, hc⟩ := h.row
  exact ⟨⟨cur, hs.trans hb, hc⟩, fun p hp => (cell_of_block hs).trans (h.c0 p hp), fun p hp => (cell_of_block hs).trans (h.c1 p hp), fun p hp => (cell_of_block hs).trans (h.c2 p hp), h.kb⟩
def setSl (w : World) (g p : Nat) (s : SL) : World := ((w.setCell ⟨g, p * 3, none⟩ (.int .u8 (s.st : Int))).setCell ⟨g, p * 3 + 1, none⟩ (kS s)).setCell ⟨g, p * 3 + 2, none⟩ (vS s)
/-- A slot is written over. -/
theorem RowAt.put {w : World} {g : Nat} {L : List SL} (h : RowAt w g L) (p : Nat) (hp : p < L.length) (s : SL) (hk : ∀ k v, s = .ful k v → k < 18446744073709551616) : RowAt (setSl w g p s) g (L.set p s) := by
  obtain ⟨cur, hb, hc⟩ := h.row
  have h3 := ((hb.set (p * 3) (.int .u8 (s.st : Int))).set (p * 3 + 1) (kS s)).set (p * 3 + 2) (vS s)
  have cell : ∀ o, (setSl w g p s).cell? ⟨g, o, none⟩ = (((cur.setIfInBounds (p * 3) (.int .u8 (s.st : Int))).setIfInBounds (p * 3 + 1) (kS s)).setIfInBounds (p * 3 + 2) (vS s))[o]? := fun o => h3.cell o
  have old : ∀ o, w.cell? ⟨g, o, none⟩ = cur[o]? := fun o => hb.cell o
  refine ⟨⟨_, h3, by simpa using hc⟩, fun q hq => ?_, fun q hq => ?_, fun q hq => ?_, fun q k v hq hs => by
    rw [List.length_set] at hq
    rw [sat_set hp] at hs
    split at hs
    · exact hk k v hs
    · exact h.kb q k v hq hs⟩
  all_goals
    rw [List.length_set] at hq
    rw [cell, sat_set hp]
    by_cases e : q = p
    · subst e
      rw [if_pos rfl]
      first
        | (rw [Array.getElem?_setIfInBounds_ne (by omega), Array.getElem?_setIfInBounds_ne (by omega), Array.getElem?_setIfInBounds_self_of_lt (by omega)]; done)
        | (rw [Array.getElem?_setIfInBounds_ne (by omega), Array.getElem?_setIfInBounds_self_of_lt (by simp; omega)]; done)
        | (rw [Array.getElem?_setIfInBounds_self_of_lt (by simp; omega)]; done)
    · rw [if_neg e, Array.getElem?_setIfInBounds_ne (by omega), Array.getElem?_setIfInBounds_ne (by omega), Array.getElem?_setIfInBounds_ne (by omega), ← old]
      first | exact h.c0 q hq | exact h.c1 q hq | exact h.c2 q hq
abbrev TB := Tb Nat Int
/-- A table: its block z, the rows of its two arrays. -/
structure TbAt (w : World) (z gy ge : Nat) (hv : Value) (T : TB) : Prop where
  blk : Blk w z (tbL hv gy T.y.length (cnt T.y 1) (cnt T.y 2) ge T.e.length (cnt T.e 1) (cnt T.e 2) T.m) 113
  ry : RowAt w gy T.y
  re : T.e.length ≠ 0 → RowAt w ge T.e
  ne : T.e.length ≠ 0 → ge ≠ gy
  nil : T.e.length = 0 → ge = gy
  ly : ∃ a, a ≤ 43 ∧ T.y.length = 2 ^ a
  le : T.e.length ≠ 0 → ∃ a, a ≤ 43 ∧ T.e.length = 2 ^ a
  mm : T.m ≤ T.e.length
section
variable {w : World} {z gy ge : Nat} {hv : Value} {T : TB}
theorem TbAt.zy (h : TbAt w z gy ge hv T) : z ≠ gy := by
  obtain ⟨cur, hr, _⟩ := h.ry.row
  have hb := h.blk
  unfold Blk at hr hb
  intro e
  rw [e, hr] at hb
  cases hb
theorem TbAt.ze (h : TbAt w z gy ge hv T) : z ≠ ge := by
  by_cases h0 : T.e.length = 0
  · rw [h.nil h0]; exact h.zy
  · obtain ⟨cur, hr, _⟩ := (h.re h0).row
    have hb := h.blk
    unfold Blk at hr hb
    intro e
    rw [e, hr] at hb
    cases hb
theorem TbAt.same {w' : World} (h : TbAt w z gy ge hv T) (hs : ∀ k, TbB z gy ge k → w'.heap[k]? = w.heap[k]?) : TbAt w' z gy ge hv T :=
  ⟨(hs z (.inl rfl)).trans h.blk, h.ry.same (hs gy (.inr (.inl rfl))), fun h0 => (h.re h0).same (hs ge (.inr (.inr rfl))), h.ne, h.nil, h.ly, h.le, h.mm⟩
theorem TbAt.lt (h : TbAt w z gy ge hv T) {k : Nat} (hk : TbB z gy ge k) : k < w.heap.size := by
  rcases hk with rfl | rfl | rfl
  · exact h.blk.lt
  · exact h.ry.lt
  · by_cases h0 : T.e.length = 0
    · rw [h.nil h0]; exact h.ry.lt
    · exact (h.re h0).lt
theorem TbAt.below {w' : World} (h : TbAt w z gy ge hv T) (hb : Below w.heap.size w w') : TbAt w' z gy ge hv T := h.same (fun k hk => hb.block k (h.lt hk))
theorem TbAt.drewN (h : TbAt w z gy ge hv T) (n : Nat) : TbAt (w.drewN n) z gy ge hv T := h.same (fun _ _ => rfl)
/-- A slot of the younger array is written over, with the array's numbers. -/
theorem TbAt.putY (h : TbAt w z gy ge hv T) (p : Nat) (hp : p < T.y.length) (s : SL) (hk : ∀ k v, s = .ful k v → k < 18446744073709551616) : TbAt (((setSl w gy p s).setCell ⟨z, 2, none⟩ (.int .i64 (cnt (T.y.set p s) 1 : Int))).setCell ⟨z, 3, none⟩ (.int .i64 (cnt (T.y.set p s) 2 : Int))) z gy ge hv ⟨T.y.set p s, T.e, T.m⟩ := by
  have hzy := h.zy
  have hze := h.ze
  have ry := h.ry.put p hp s hk
  have hb : Blk (setSl w gy p s) z (tbL hv gy T.y.length (cnt T.y 1) (cnt T.y 2) ge T.e.length (cnt T.e 1) (cnt T.e 2) T.m) 113 := ((h.blk.setOther _ _ hzy).setOther _ _ hzy).setOther _ _ hzy
  refine ⟨by rw [List.length_set]; exact (hb.set 2 _).set 3 _, ?_, fun h0 => ?_, h.ne, h.nil, by rw [List.length_set]; exact h.ly, h.le, h.mm⟩
  · refine ry.same ?_
    rw [heap_setCell_other _ _ _ _ hzy.symm, heap_setCell_other _ _ _ _ hzy.symm]
  · have hne := h.ne h0
    refine (h.re h0).same ?_
    rw [heap_setCell_other _ _ _ _ hze.symm, heap_setCell_other _ _ _ _ hze.symm]
    unfold setSl
    rw [heap_setCell_other _ _ _ _ hne, heap_setCell_other _ _ _ _ hne, heap_setCell_other _ _ _ _ hne]
end
end FF
end Go.Proofs.Ytnknjcnbbljagaa
