/- A Hasher in memory: 74 cells in the midst of a block. -/
import Derived.Test.YtjmjnecobaoofaaDoorSQ
import Derived.Test.YtjmjnecobaoofaaDoorSB2
namespace Go.Proofs.YtjmjnecobaoofaaDoor
set_option linter.unusedVariables false
set_option linter.unusedSimpArgs false
open Go.RowKit

/-- The cells of a Hasher: its state, whether it has begun, what waits, how many there were. -/
def hlist (s : List Value) (g : Bool) (W : List UInt8) (n : Nat) : List Value := s ++ (.bool g :: (W.map u8c ++ [.int .u64 (n : Int)]))
/-- A Hasher in a block, behind pre and ahead of post. -/
structure HB (w : World) (z : Nat) (t : TypeId) (pre post s : List Value) (g : Bool) (W : List UInt8) (n : Nat) : Prop where
  blk : Blk w z (pre ++ (hlist s g W n ++ post)).toArray t
  sl : s.length = 8
  wl : W.length = 64
  one : ∀ v ∈ s, v.oneCell' = true
theorem splice_at (A seg B news : List Value) (h : news.length = seg.length) : (A ++ (seg ++ B)).take A.length ++ news ++ (A ++ (seg ++ B)).drop (A.length + news.length) = A ++ (news ++ B) := by
  rw [List.take_left, show A.length + news.length = (A ++ seg).length by simp [h], ← List.append_assoc, List.drop_left, List.append_assoc]
theorem hlist_s (s : List Value) (g : Bool) (W : List UInt8) (n : Nat) (pre post : List Value) : pre ++ (hlist s g W n ++ post) = pre ++ (s ++ ((.bool g :: (W.map u8c ++ [.int .u64 (n : Int)])) ++ post)) := by simp [hlist]
theorem hlist_g (s : List Value) (g : Bool) (W : List UInt8) (n : Nat) (pre post : List Value) : pre ++ (hlist s g W n ++ post) = (pre ++ s) ++ ([.bool g] ++ (W.map u8c ++ ([.int .u64 (n : Int)] ++ post))) := by simp [hlist]
theorem hlist_w (s : List Value) (g : Bool) (W : List UInt8) (n : Nat) (pre post : List Value) : pre ++ (hlist s g W n ++ post) = (pre ++ (s ++ [.bool g])) ++ (W.map u8c ++ ([.int .u64 (n : Int)] ++ post)) := by simp [hlist]
theorem hlist_n (s : List Value) (g : Bool) (W : List UInt8) (n : Nat) (pre post : List Value) : pre ++ (hlist s g W n ++ post) = (pre ++ (s ++ (.bool g :: W.map u8c))) ++ ([.int .u64 (n : Int)] ++ post) := by simp [hlist]
theorem blk_mid {w : World} {z : Nat} {t : TypeId} {A seg B : List Value} (h : Blk w z (A ++ (seg ++ B)).toArray t) : w.rangeAt z A.length seg := by
  intro j v hj
  have hl : j < seg.length := by
    rcases Nat.lt_or_ge j seg.length with h | h
    · exact h
    · rw [List.getElem?_eq_none h] at hj; cases hj
  rw [h.cell, List.getElem?_toArray, List.getElem?_append_right (by omega), Nat.add_sub_cancel_left, List.getElem?_append_left hl, hj]
theorem there_mid {w : World} {z : Nat} {t : TypeId} {L : List Value} (h : Blk w z L.toArray t) (o n : Nat) (hl : o + n ≤ L.length) : w.there z o n := fun j hj => by
  rw [h.cell, h.frozen]
  exact ⟨by rw [List.getElem?_toArray, List.getElem?_eq_getElem (by omega)]; rfl, rfl⟩
/-- A segment of a block is laid anew. -/
theorem setRow_mid {w : World} {z : Nat} {t : TypeId} {A seg B : List Value} (h : Blk w z (A ++ (seg ++ B)).toArray t) (news : List Value) (hl : news.length = seg.length) :
    Blk (w.setRow z ((A ++ (seg ++ B)).take A.length ++ news ++ (A ++ (seg ++ B)).drop (A.length + news.length)).toArray) z (A ++ (news ++ B)).toArray t ∧ w.grownBy (w.setRow z ((A ++ (seg ++ B)).take A.length ++ news ++ (A ++ (seg ++ B)).drop (A.length + news.length)).toArray) (some z) := by
  rw [splice_at A seg B news hl]
  exact ⟨setRow_heap w z _ _ t _ h, ⟨rfl, rfl, rfl, by simp, fun k _ hne => setRow_other w z k _ (fun e => hne (by rw [e]))⟩⟩
theorem setCells_mid {z : Nat} {t : TypeId} : ∀ (news : List Value) (w : World) (A seg B : List Value), Blk w z (A ++ (seg ++ B)).toArray t → news.length = seg.length →
    Blk (w.setCells z A.length news) z (A ++ (news ++ B)).toArray t ∧ w.grownBy (w.setCells z A.length news) (some z)
  | [], w, A, seg, B, h, hl => by
    obtain rfl : seg = [] := List.eq_nil_of_length_eq_zero hl.symm
    exact ⟨h, ⟨rfl, rfl, rfl, Nat.le_refl _, fun _ _ _ => rfl⟩⟩
  | v :: r, w, A, s0 :: seg, B, h, hl => by
    have h1 := blk_set h A.length v
    rw [List.set_append_right _ _ (Nat.le_refl _), Nat.sub_self, List.cons_append, List.set_cons_zero] at h1
    have h2 := setCells_mid r (w.setCell ⟨z, A.length, none⟩ v) (A ++ [v]) seg B (by simpa using h1) (by simpa using hl)
    rw [List.length_append, List.length_singleton] at h2
    refine ⟨by simpa [World.setCells] using h2.1, ?_⟩
    exact grownBy_trans (grownBy_set w z A.length v) h2.2
  | _ :: _, _, _, [], _, _, hl => by simp at hl

theorem HB.c8 {w : World} {z : Nat} {t : TypeId} {pre post s : List Value} {g : Bool} {W : List UInt8} {n : Nat} (h : HB w z t pre post s g W n) : w.cell? ⟨z, pre.length + 8, none⟩ = some (.bool g) := by
  have hb := h.blk
  rw [hlist_g] at hb
  have := blk_mid hb 0 (.bool g) rfl
  rwa [List.length_append, h.sl, Nat.add_zero] at this
theorem HB.c73 {w : World} {z : Nat} {t : TypeId} {pre post s : List Value} {g : Bool} {W : List UInt8} {n : Nat} (h : HB w z t pre post s g W n) : w.cell? ⟨z, pre.length + 73, none⟩ = some (.int .u64 n) := by
  have hb := h.blk
  rw [hlist_n] at hb
  have := blk_mid hb 0 (.int .u64 n) rfl
  rwa [List.length_append, List.length_append, h.sl, List.length_cons, List.length_map, h.wl, Nat.add_zero] at this
theorem HB.rs {w : World} {z : Nat} {t : TypeId} {pre post s : List Value} {g : Bool} {W : List UInt8} {n : Nat} (h : HB w z t pre post s g W n) : w.rangeAt z pre.length s := by
  have hb := h.blk
  rw [hlist_s] at hb
  exact blk_mid hb
theorem HB.rw {w : World} {z : Nat} {t : TypeId} {pre post s : List Value} {g : Bool} {W : List UInt8} {n : Nat} (h : HB w z t pre post s g W n) : w.rangeAt z (pre.length + 9) (W.map u8c) := by
  have hb := h.blk
  rw [hlist_w] at hb
  have := blk_mid hb
  rwa [List.length_append, List.length_append, h.sl] at this
theorem HB.frozen {w : World} {z : Nat} {t : TypeId} {pre post s : List Value} {g : Bool} {W : List UInt8} {n : Nat} (h : HB w z t pre post s g W n) (i : Nat) : w.frozen? ⟨z, i, none⟩ = false := h.blk.frozen i
theorem HB.len {s : List Value} {g : Bool} {W : List UInt8} {n : Nat} (h1 : s.length = 8) (h2 : W.length = 64) : (hlist s g W n).length = 74 := by simp [hlist, h1, h2]
/-- Other blocks are written. -/
theorem HB.grown {w w' : World} {z : Nat} {t : TypeId} {pre post s : List Value} {g : Bool} {W : List UInt8} {n : Nat} {row : Option Nat} (h : HB w z t pre post s g W n) (hg : w.grownBy w' row) (hne : some z ≠ row) : HB w' z t pre post s g W n := ⟨h.blk.grown hg hne, h.sl, h.wl, h.one⟩
theorem HB.below {w w' : World} {z : Nat} {t : TypeId} {pre post s : List Value} {g : Bool} {W : List UInt8} {n : Nat} (h : HB w z t pre post s g W n) (hb : Below w.heap.size w w') : HB w' z t pre post s g W n := h.grown (row := none) (grownBy_below hb) (by simp)
/-- The size is laid anew. -/
theorem HB.setN {w : World} {z : Nat} {t : TypeId} {pre post s : List Value} {g : Bool} {W : List UInt8} {n : Nat} (h : HB w z t pre post s g W n) (m : Nat) : HB (w.setCell ⟨z, pre.length + 73, none⟩ (.int .u64 m)) z t pre post s g W m := by
  have hb := h.blk
  rw [hlist_n] at hb
  have := (setCells_mid [.int .u64 (m : Int)] w _ _ _ hb rfl).1
  rw [List.length_append, List.length_append, h.sl, List.length_cons, List.length_map, h.wl] at this
  refine ⟨?_, h.sl, h.wl, h.one⟩
  rw [hlist_n]
  exact this
theorem HB.setG {w : World} {z : Nat} {t : TypeId} {pre post s : List Value} {g : Bool} {W : List UInt8} {n : Nat} (h : HB w z t pre post s g W n) (b : Bool) : HB (w.setCell ⟨z, pre.length + 8, none⟩ (.bool b)) z t pre post s b W n := by
  have hb := h.blk
  rw [hlist_g] at hb
  have := (setCells_mid [.bool b] w _ _ _ hb rfl).1
  rw [List.length_append, h.sl] at this
  refine ⟨?_, h.sl, h.wl, h.one⟩
  rw [hlist_g]
  exact this
theorem HB.setS {w : World} {z : Nat} {t : TypeId} {pre post s : List Value} {g : Bool} {W : List UInt8} {n : Nat} (h : HB w z t pre post s g W n) (s' : List Value) (hl : s'.length = 8) (h1 : ∀ v ∈ s', v.oneCell' = true) : HB (w.setCells z pre.length s') z t pre post s' g W n ∧ w.grownBy (w.setCells z pre.length s') (some z) := by
  have hb := h.blk
  rw [hlist_s] at hb
  have := setCells_mid s' w _ _ _ hb (by rw [hl, h.sl])
  refine ⟨⟨?_, hl, h.wl, h1⟩, this.2⟩
  rw [hlist_s]
  exact this.1
end Go.Proofs.YtjmjnecobaoofaaDoor
