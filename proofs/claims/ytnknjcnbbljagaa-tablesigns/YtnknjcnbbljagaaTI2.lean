/- A table in memory; lay. -/
import Derived.Test.YtnknjcnbbljagaaTI1
namespace Go.Proofs.Ytnknjcnbbljagaa
set_option linter.unusedVariables false
set_option linter.unusedSimpArgs false
set_option maxRecDepth 100000
open Go.RowKit

/-- Of the old blocks those alone of which S speaks may be others. -/
structure Frm (w w' : World) (S : Nat → Prop) : Prop where
  os : w'.os = w.os
  tape : w'.tape = w.tape
  output : w'.output = w.output
  size : w.heap.size ≤ w'.heap.size
  block : ∀ k, k < w.heap.size → ¬ S k → w'.heap[k]? = w.heap[k]?
theorem Frm.refl (w : World) (S : Nat → Prop) : Frm w w S := ⟨rfl, rfl, rfl, Nat.le_refl _, fun _ _ _ => rfl⟩
theorem Frm.of_below {w w' : World} {S : Nat → Prop} (h : Below w.heap.size w w') : Frm w w' S := ⟨h.os, h.tape, h.output, h.size, fun k hk _ => h.block k hk⟩
theorem Frm.trans {a b c : World} {S S' : Nat → Prop} (h : Frm a b S) (k : Frm b c S') (hs : ∀ i, i < a.heap.size → S' i → S i) : Frm a c S :=
  ⟨k.os.trans h.os, k.tape.trans h.tape, k.output.trans h.output, Nat.le_trans h.size k.size, fun i hi hS => (k.block i (Nat.lt_of_lt_of_le hi h.size) (fun e => hS (hs i hi e))).trans (h.block i hi hS)⟩
theorem Frm.set (w : World) (S : Nat → Prop) (g i : Nat) (v : Value) (hg : S g) : Frm w (w.setCell ⟨g, i, none⟩ v) S :=
  ⟨rfl, rfl, rfl, by simp, fun k _ hn => heap_setCell_other w _ k v (fun e => hn (by rw [e]; exact hg))⟩
theorem Frm.put {w w' : World} {S : Nat → Prop} (h : Frm w w' S) (g i : Nat) (v : Value) (hg : S g) : Frm w (w'.setCell ⟨g, i, none⟩ v) S := h.trans (Frm.set w' S g i v hg) (fun _ _ e => e)
theorem Frm.drewN {w w' : World} {S : Nat → Prop} (h : Frm w w' S) (n : Nat) : Frm w (w'.drewN n) S := ⟨h.os, h.tape, h.output, h.size, h.block⟩
theorem cell_of_block {w w' : World} {k o : Nat} (h : w'.heap[k]? = w.heap[k]?) : w'.cell? ⟨k, o, none⟩ = w.cell? ⟨k, o, none⟩ := by
  unfold World.cell?
  simp only
  rw [h]
theorem RowAt.same {w w' : World} {g : Nat} {L : List SL} (h : RowAt w g L) (hs : w'.heap[g]? = w.heap[g]?) : RowAt w' g L := by
  obtain ⟨cur, hb, hc⟩ := h.row
  exact ⟨⟨cur, hs.trans hb, hc⟩, fun p hp => (cell_of_block hs).trans (h.c0 p hp), fun p hp => (cell_of_block hs).trans (h.c1 p hp), fun p hp => (cell_of_block hs).trans (h.c2 p hp)⟩
def setSl (w : World) (g p : Nat) (s : SL) : World := ((w.setCell ⟨g, p * 3, none⟩ (.int .u8 (s.st : Int))).setCell ⟨g, p * 3 + 1, none⟩ (kS s)).setCell ⟨g, p * 3 + 2, none⟩ (vS s)
/-- A slot is written over. -/
theorem RowAt.put {w : World} {g : Nat} {L : List SL} (h : RowAt w g L) (p : Nat) (hp : p < L.length) (s : SL) : RowAt (setSl w g p s) g (L.set p s) := by
  obtain ⟨cur, hb, hc⟩ := h.row
  have h3 := ((hb.set (p * 3) (.int .u8 (s.st : Int))).set (p * 3 + 1) (kS s)).set (p * 3 + 2) (vS s)
  have cell : ∀ o, (setSl w g p s).cell? ⟨g, o, none⟩ = (((cur.setIfInBounds (p * 3) (.int .u8 (s.st : Int))).setIfInBounds (p * 3 + 1) (kS s)).setIfInBounds (p * 3 + 2) (vS s))[o]? := fun o => h3.cell o
  have old : ∀ o, w.cell? ⟨g, o, none⟩ = cur[o]? := fun o => hb.cell o
  refine ⟨⟨_, h3, by simpa using hc⟩, fun q hq => ?_, fun q hq => ?_, fun q hq => ?_⟩
  all_goals
    rw [List.length_set] at hq
    rw [cell, sat_set hp]
    by_cases e : q = p
    · subst e
      rw [if_pos rfl]
      first
        | (rw [Array.getElem?_setIfInBounds_ne (by omega), Array.getElem?_setIfInBounds_ne (by omega), Array.getElem?_setIfInBounds_self_of_lt (by omega)]; done)
        | (rw [Array.getElem?_setIfInBounds_ne (by omega), Array.getElem?_setIfInBounds_self_of_lt (by simp; omega)]; done)
        | (rw [Array.getElem?_setIfInBounds_self_of_lt (by simp; omega)]; done)
    · rw [if_neg e, Array.getElem?_setIfInBounds_ne (by omega), Array.getElem?_setIfInBounds_ne (by omega), Array.getElem?_setIfInBounds_ne (by omega), ← old]
      first | exact h.c0 q hq | exact h.c1 q hq | exact h.c2 q hq
def evS (g n : Nat) : Value := if n = 0 then .slice none 0 0 else .slice (some ⟨g, 0, none⟩) n n
def tbL (hv : Value) (yg yn yf yt eg en ef et m : Nat) : Array Value := #[hv, .slice (some ⟨yg, 0, none⟩) yn yn, .int .i64 (yf : Int), .int .i64 (yt : Int), evS eg en, .int .i64 (ef : Int), .int .i64 (et : Int), .int .i64 (m : Int)]
abbrev TB := Tb Int Int
/-- A table: its block z, the rows of its two arrays. -/
structure TbAt (w : World) (z gy ge : Nat) (hv : Value) (T : TB) : Prop where
  blk : Blk w z (tbL hv gy T.y.length (cnt T.y 1) (cnt T.y 2) ge T.e.length (cnt T.e 1) (cnt T.e 2) T.m) 95
  ry : RowAt w gy T.y
  re : T.e.length ≠ 0 → RowAt w ge T.e
  ne : T.e.length ≠ 0 → ge ≠ gy
  nil : T.e.length = 0 → ge = gy
  ly : ∃ a, a ≤ 43 ∧ T.y.length = 2 ^ a
  le : T.e.length ≠ 0 → ∃ a, a ≤ 43 ∧ T.e.length = 2 ^ a
  mm : T.m ≤ T.e.length
def TbB (z gy ge k : Nat) : Prop := k = z ∨ k = gy ∨ k = ge
section
variable {w : World} {z gy ge : Nat} {hv : Value} {T : TB}
theorem TbAt.zy (h : TbAt w z gy ge hv T) : z ≠ gy := by
  obtain ⟨cur, hr, _⟩ := h.ry.row
  have hb := h.blk
  unfold Blk at hr hb
  intro e
  rw [e, hr] at hb
  cases hb
theorem TbAt.ze (h : TbAt w z gy ge hv T) : z ≠ ge := by
  by_cases h0 : T.e.length = 0
  · rw [h.nil h0]; exact h.zy
  · obtain ⟨cur, hr, _⟩ := (h.re h0).row
    have hb := h.blk
    unfold Blk at hr hb
    intro e
    rw [e, hr] at hb
    cases hb
theorem TbAt.same {w' : World} (h : TbAt w z gy ge hv T) (hs : ∀ k, TbB z gy ge k → w'.heap[k]? = w.heap[k]?) : TbAt w' z gy ge hv T :=
  ⟨(hs z (.inl rfl)).trans h.blk, h.ry.same (hs gy (.inr (.inl rfl))), fun h0 => (h.re h0).same (hs ge (.inr (.inr rfl))), h.ne, h.nil, h.ly, h.le, h.mm⟩
theorem TbAt.lt (h : TbAt w z gy ge hv T) {k : Nat} (hk : TbB z gy ge k) : k < w.heap.size := by
  rcases hk with rfl | rfl | rfl
  · exact h.blk.lt
  · exact h.ry.lt
  · by_cases h0 : T.e.length = 0
    · rw [h.nil h0]; exact h.ry.lt
    · exact (h.re h0).lt
theorem TbAt.below {w' : World} (h : TbAt w z gy ge hv T) (hb : Below w.heap.size w w') : TbAt w' z gy ge hv T := h.same (fun k hk => hb.block k (h.lt hk))
theorem TbAt.drewN (h : TbAt w z gy ge hv T) (n : Nat) : TbAt (w.drewN n) z gy ge hv T := h.same (fun _ _ => rfl)
theorem cnt_set {K V : Type} (L : List (Slt K V)) (p : Nat) (hp : p < L.length) (s : Slt K V) (q : Nat) : cnt (L.set p s) q + (if (sat L p).st = q then 1 else 0) = cnt L q + (if s.st = q then 1 else 0) := by
  unfold cnt
  induction L generalizing p with
  | nil => simp at hp
  | cons x L ih =>
    cases p with
    | zero => simp [sat, List.countP_cons]; omega
    | succ p =>
      have := ih p (by simpa using hp)
      simp only [List.set_cons_succ, List.countP_cons]
      have e : sat (x :: L) (p + 1) = sat L p := by simp [sat]
      rw [e]
      omega
theorem cnt_le {K V : Type} (L : List (Slt K V)) (q : Nat) : cnt L q ≤ L.length := List.countP_le_length
/-- A slot of the younger array is written over, with the array's numbers. -/
theorem TbAt.putY (h : TbAt w z gy ge hv T) (p : Nat) (hp : p < T.y.length) (s : SL) : TbAt (((setSl w gy p s).setCell ⟨z, 2, none⟩ (.int .i64 (cnt (T.y.set p s) 1 : Int))).setCell ⟨z, 3, none⟩ (.int .i64 (cnt (T.y.set p s) 2 : Int))) z gy ge hv ⟨T.y.set p s, T.e, T.m⟩ := by
  have hzy := h.zy
  have hze := h.ze
  have ry := h.ry.put p hp s
  have hb : Blk (setSl w gy p s) z (tbL hv gy T.y.length (cnt T.y 1) (cnt T.y 2) ge T.e.length (cnt T.e 1) (cnt T.e 2) T.m) 95 := ((h.blk.setOther _ _ hzy).setOther _ _ hzy).setOther _ _ hzy
  refine ⟨by rw [List.length_set]; exact (hb.set 2 _).set 3 _, ?_, fun h0 => ?_, h.ne, h.nil, by rw [List.length_set]; exact h.ly, h.le, h.mm⟩
  · refine ry.same ?_
    rw [heap_setCell_other _ _ _ _ hzy.symm, heap_setCell_other _ _ _ _ hzy.symm]
  · have hne := h.ne h0
    refine (h.re h0).same ?_
    rw [heap_setCell_other _ _ _ _ hze.symm, heap_setCell_other _ _ _ _ hze.symm]
    unfold setSl
    rw [heap_setCell_other _ _ _ _ hne, heap_setCell_other _ _ _ _ hne, heap_setCell_other _ _ _ _ hne]
end
end Go.Proofs.Ytnknjcnbbljagaa
