/- TableSigns: the document's lists against the pairs that All tells; what stands between two rounds. -/
import Derived.Test.YtnknjcnbbljagaaTS3
import Derived.Test.YtnknjcnbbljagaaTRB
namespace Go.Proofs.Ytnknjcnbbljagaa
set_option linter.unusedVariables false
set_option linter.unusedSimpArgs false
namespace GG
set_option maxRecDepth 100000
open Go.RowKit

def wantL (X : List (Nat × Int)) : List Int := flat (X.map fun x => ((valG x.1 : Int), x.2))
def tagL (X : List (Nat × Int)) : List Int := X.map fun x => tagG x.1
theorem unt_im (L : List SL) : RR.unt (L.map (MG.imS imR)) = (prs L).map fun x => ((valG x.1 : Int), x.2) := by
  unfold RR.unt
  rw [MG.prs_im, List.map_map]
  rfl
theorem tgs_im (L : List SL) : RR.tgs (L.map (MG.imS imR)) = (prs L).map fun x => tagG x.1 := by
  unfold RR.tgs
  rw [MG.prs_im, List.map_map]
  rfl
theorem want_is (T : TB) : flat (RR.unt (MG.imT imR T).e ++ RR.unt (MG.imT imR T).y) = wantL T.prs := by
  show flat (RR.unt (T.e.map (MG.imS imR)) ++ RR.unt (T.y.map (MG.imS imR))) = _
  rw [unt_im, unt_im, ← List.map_append]
  rfl
theorem tags_is (T : TB) : RR.tgs (MG.imT imR T).e ++ RR.tgs (MG.imT imR T).y = tagL T.prs := by
  show RR.tgs (T.e.map (MG.imS imR)) ++ RR.tgs (T.y.map (MG.imS imR)) = _
  rw [tgs_im, tgs_im, ← List.map_append]
  rfl
theorem want_len (X : List (Nat × Int)) : (wantL X).length = 2 * X.length := by
  unfold wantL
  rw [flat_len, List.length_map]
theorem tag_len (X : List (Nat × Int)) : (tagL X).length = X.length := List.length_map ..
theorem prs_len {T : TB} {P : Nat} (h : Inv hsG T P) : T.prs.length ≤ P := by
  rw [← Tb.len_prs]
  have h1 := h.np
  have h2 := cnt_used T.y
  unfold Tb.len
  omega
theorem at_pre {X pre : List (Nat × Int)} {x : Nat × Int} (h : (pre ++ [x]) <+: X) : pre.length < X.length ∧ x ∈ X ∧ (wantL X)[2 * pre.length]? = some (valG x.1 : Int) ∧ (wantL X)[2 * pre.length + 1]? = some x.2 ∧ (tagL X)[pre.length]? = some (tagG x.1) := by
  obtain ⟨S, rfl⟩ := h
  have e1 : wantL (pre ++ [x] ++ S) = wantL pre ++ ((valG x.1 : Int) :: x.2 :: wantL S) := by
    unfold wantL flat
    simp
  have e2 : tagL (pre ++ [x] ++ S) = tagL pre ++ (tagG x.1 :: tagL S) := by
    unfold tagL
    simp
  refine ⟨by simp, by simp, ?_, ?_, ?_⟩
  · rw [e1, List.getElem?_append_right (by rw [want_len]; omega), want_len, Nat.sub_self]; rfl
  · rw [e1, List.getElem?_append_right (by rw [want_len]; omega), want_len, show 2 * pre.length + 1 - 2 * pre.length = 1 by omega]; rfl
  · rw [e2, List.getElem?_append_right (by rw [tag_len]; omega), tag_len, Nat.sub_self]; rfl
theorem mem_dm {W : World} {z gy ge : Nat} {hv : Value} {T : TB} (h : TbAt W z gy ge hv T) {x : Nat × Int} (hx : x ∈ T.prs) : Dm x.1 := by
  have row : ∀ L, MG.RD Dm L → (x.1, x.2) ∈ prs L → Dm x.1 := fun L hL hm => by
    obtain ⟨p, _, e⟩ := mem_prs L x.1 x.2 hm
    exact hL.sat e
  have hx' : x ∈ prs T.e ++ prs T.y := hx
  rcases List.mem_append.1 hx' with h1 | h1
  · exact row _ h.dm.2 h1
  · exact row _ h.dm.1 h1
theorem rdI_kept {W W' : World} {ao : Option Addr} {xs : List Int} {row : Option Nat} (h : RR.RdI W ao xs) (hg : W.grownBy W' row) (hr : ∀ r, row = some r → ∃ o : Obj, W.heap[r]? = some o ∧ o.isCells = false) : RR.RdI W' ao xs := fun h0 => by
  obtain ⟨g, e, hl, hc⟩ := h h0
  have hb : W'.heap[g]? = W.heap[g]? := by
    refine hg.block g hl (fun e2 => ?_)
    obtain ⟨o, h1, h2⟩ := hr g e2.symm
    have c := hc 0 h0
    unfold World.cell? at c
    rw [h1] at c
    cases o with
    | cells _ _ _ => cases h2
    | _ => simp at c
  exact ⟨g, e, Nat.lt_of_lt_of_le hl hg.size, fun k hk => (cell_of_block hb).trans (hc k hk)⟩
/-- Between two rounds of All. -/
structure RgS (w : World) (N bw bt bn : Nat) (aw at' : Option Addr) (lw cw lt ct : Nat) (X pre : List (Nat × Int)) (W : World) : Prop where
  n : Blk W bn #[.int .i64 (pre.length : Int)] 3
  bw' : Blk W bw #[.slice aw lw cw] 40
  t : Blk W bt #[.slice at' lt ct] 40
  rw' : RR.RdI W aw (wantL X)
  rt : RR.RdI W at' (tagL X)
  res : Blk W N #[.bool false] 4
  bel : Below N w W
section
variable {w : World} {N bw bt bn : Nat} {aw at' : Option Addr} {lw cw lt ct : Nat} {X pre : List (Nat × Int)}
theorem RgS.below {W W' : World} (h : RgS w N bw bt bn aw at' lw cw lt ct X pre W) (hb : Below W.heap.size W W') (hN : N ≤ W.heap.size) : RgS w N bw bt bn aw at' lw cw lt ct X pre W' :=
  ⟨h.n.below hb h.n.lt, h.bw'.below hb h.bw'.lt, h.t.below hb h.t.lt, h.rw'.below hb, h.rt.below hb, h.res.below hb h.res.lt, h.bel.trans (hb.mono hN)⟩
theorem RgS.ownFrom {B : Nat} (hB : N ≤ B) : OwnFrom B (fun pre W => RgS w N bw bt bn aw at' lw cw lt ct X pre W) :=
  fun s A C row h hg hr => by
    have hr2 : ∀ r, row = some r → ∃ o : Obj, A.heap[r]? = some o ∧ o.isCells = false := fun r e => (hr r e).2
    exact ⟨h.n.keptRow hg hr2, h.bw'.keptRow hg hr2, h.t.keptRow hg hr2, rdI_kept h.rw' hg hr2, rdI_kept h.rt hg hr2, h.res.keptRow hg hr2, ⟨hg.os.trans h.bel.os, hg.tape.trans h.bel.tape, hg.output.trans h.bel.output, Nat.le_trans h.bel.size hg.size, fun k hk => (hg.block k (by have := h.res.lt; omega) (fun e => by have := (hr k e.symm).1; omega)).trans (h.bel.block k hk)⟩⟩
theorem RgS.next {W : World} (h : RgS w N bw bt bn aw at' lw cw lt ct X pre W) (x : Nat × Int) (hn : N < bn) (hw : bw ≠ bn) (ht : bt ≠ bn) (ga : 0 < (wantL X).length → ∀ g, aw = some ⟨g, 0, none⟩ → g ≠ bn) (gb : 0 < (tagL X).length → ∀ g, at' = some ⟨g, 0, none⟩ → g ≠ bn) {c : Int} (hc : c = ((pre.length + 1 : Nat) : Int)) :
    RgS w N bw bt bn aw at' lw cw lt ct X (pre ++ [x]) (W.setCell ⟨bn, 0, none⟩ (.int .i64 c)) ∧ KeepT tys W (W.setCell ⟨bn, 0, none⟩ (.int .i64 c)) ∧ KeepsOthers W (W.setCell ⟨bn, 0, none⟩ (.int .i64 c)) := by
  subst hc
  have rd : ∀ (ao : Option Addr) (xs : List Int), RR.RdI W ao xs → (0 < xs.length → ∀ g, ao = some ⟨g, 0, none⟩ → g ≠ bn) → RR.RdI (W.setCell ⟨bn, 0, none⟩ (.int .i64 ((pre.length + 1 : Nat) : Int))) ao xs := by
    intro ao xs hr hne h0
    obtain ⟨g, e, hl, hcs⟩ := hr h0
    refine ⟨g, e, by simpa using hl, fun k hk => ?_⟩
    rw [cell_of_block (heap_setCell_other W _ g _ (hne h0 g e))]
    exact hcs k hk
  refine ⟨⟨?_, h.bw'.setOther _ _ hw, h.t.setOther _ _ ht, rd _ _ h.rw' ga, rd _ _ h.rt gb, h.res.setOther _ _ (by simp; omega), h.bel.setCell (Nat.le_of_lt hn) _⟩, KeepT.setCell W ⟨bn, 0, none⟩ _ (t := 3) (show W.heap[bn]? = _ from h.n) (by decide), KeepsOthers.setCell _ _ _⟩
  rw [List.length_append, List.length_singleton]
  exact h.n.set 0 _
end
end GG
end Go.Proofs.Ytnknjcnbbljagaa
