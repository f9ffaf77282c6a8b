/- The document's table in memory: a slot is written. -/
import Derived.Test.YtnknjcnbbljagaaTR4
namespace Go.Proofs.Ytnknjcnbbljagaa
set_option linter.unusedVariables false
set_option linter.unusedSimpArgs false
namespace RR
set_option maxRecDepth 100000
open Go.RowKit

def setR (w : World) (g p : Nat) (s : SR) : World := (((w.setCell ⟨g, p * 4, none⟩ (.int .i64 (s.st : Int))).setCell ⟨g, p * 4 + 1, none⟩ (.int .i64 (kR s))).setCell ⟨g, p * 4 + 2, none⟩ (.int .i64 (tR s))).setCell ⟨g, p * 4 + 3, none⟩ (.int .i64 (vR s))
theorem RowR.put {w : World} {g : Nat} {L : List SR} (h : RowR w g L) (p : Nat) (hp : p < L.length) (s : SR) : RowR (setR w g p s) g (L.set p s) := by
  obtain ⟨cur, hb, hc⟩ := h.row
  have h3 := (((hb.set (p * 4) (.int .i64 (s.st : Int))).set (p * 4 + 1) (.int .i64 (kR s))).set (p * 4 + 2) (.int .i64 (tR s))).set (p * 4 + 3) (.int .i64 (vR s))
  have cell : ∀ o, (setR w g p s).cell? ⟨g, o, none⟩ = ((((cur.setIfInBounds (p * 4) (.int .i64 (s.st : Int))).setIfInBounds (p * 4 + 1) (.int .i64 (kR s))).setIfInBounds (p * 4 + 2) (.int .i64 (tR s))).setIfInBounds (p * 4 + 3) (.int .i64 (vR s)))[o]? := fun o => h3.cell o
  have old : ∀ o, w.cell? ⟨g, o, none⟩ = cur[o]? := fun o => hb.cell o
  refine ⟨⟨_, h3, by simpa using hc⟩, fun q hq => ?_, fun q hq => ?_, fun q hq => ?_, fun q hq => ?_⟩
  all_goals
    rw [List.length_set] at hq
    rw [cell, sat_set hp]
    by_cases e : q = p
    · subst e
      rw [if_pos rfl]
      first
        | (rw [Array.getElem?_setIfInBounds_ne (by omega), Array.getElem?_setIfInBounds_ne (by omega), Array.getElem?_setIfInBounds_ne (by omega), Array.getElem?_setIfInBounds_self_of_lt (by omega)]; done)
        | (rw [Array.getElem?_setIfInBounds_ne (by omega), Array.getElem?_setIfInBounds_ne (by omega), Array.getElem?_setIfInBounds_self_of_lt (by simp; omega)]; done)
        | (rw [Array.getElem?_setIfInBounds_ne (by omega), Array.getElem?_setIfInBounds_self_of_lt (by simp; omega)]; done)
        | (rw [Array.getElem?_setIfInBounds_self_of_lt (by simp; omega)]; done)
    · rw [if_neg e, Array.getElem?_setIfInBounds_ne (by omega), Array.getElem?_setIfInBounds_ne (by omega), Array.getElem?_setIfInBounds_ne (by omega), Array.getElem?_setIfInBounds_ne (by omega), ← old]
      first | exact h.c0 q hq | exact h.c1 q hq | exact h.c2 q hq | exact h.c3 q hq
section
variable {w : World} {z gy ge : Nat} {ti ma : Int} {T : TR}
theorem setR_other (w : World) (g p : Nat) (s : SR) {b : Nat} (hb : b ≠ g) : (setR w g p s).heap[b]? = w.heap[b]? := by
  unfold setR
  rw [heap_setCell_other _ _ _ _ hb, heap_setCell_other _ _ _ _ hb, heap_setCell_other _ _ _ _ hb, heap_setCell_other _ _ _ _ hb]
theorem row_ne {b g : Nat} {cs : Array Value} {t : TypeId} {L : List SR} (hb : Blk w b cs t) (hr : RowR w g L) (ht : t ≠ 145) : b ≠ g := by
  rintro rfl
  obtain ⟨cur, h, _⟩ := hr.row
  unfold Blk at hb h
  rw [hb] at h
  cases h
  exact ht rfl
theorem TbR.putY (h : TbR w z gy ge ti ma T) (p : Nat) (hp : p < T.y.length) (s : SR) : TbR (setR w gy p s) z gy ge ti ma ⟨T.y.set p s, T.e, T.m⟩ := by
  have hz := row_ne h.blk h.ry (by decide)
  refine ⟨?_, h.ry.put p hp s, fun e => (h.re e).same (setR_other _ _ _ _ (fun q => h.ne e q.symm)), h.ne, h.nil, by simpa using h.by', h.be, h.mt⟩
  show Blk _ z (tbR ti ma gy ge (T.y.set p s).length T.e.length T.m) _
  rw [List.length_set]
  exact (setR_other _ _ _ _ hz).trans h.blk
theorem TbR.putE (h : TbR w z gy ge ti ma T) (p : Nat) (hp : p < T.e.length) (s : SR) : TbR (setR w ge p s) z gy ge ti ma ⟨T.y, T.e.set p s, T.m⟩ := by
  have h0 : T.e.length ≠ 0 := by omega
  have hz := row_ne h.blk (h.re h0) (by decide)
  refine ⟨?_, h.ry.same (setR_other _ _ _ _ (h.ne h0)), fun _ => (h.re h0).put p hp s, fun _ => h.ne h0, fun e => by have e' : (T.e.set p s).length = 0 := e; rw [List.length_set] at e'; exact absurd e' h0, h.by', by simpa using h.be, by simpa using h.mt⟩
  show Blk _ z (tbR ti ma gy ge T.y.length (T.e.set p s).length T.m) _
  rw [List.length_set]
  exact (setR_other _ _ _ _ hz).trans h.blk
end
end RR
end Go.Proofs.Ytnknjcnbbljagaa
