/- TableWide: what was put, against the table's map; the state between two steps. -/
import Derived.Test.YtjhbebaephmcgaaVY1
namespace Go.Proofs.Ytjhbebaephmcgaa
set_option linter.unusedVariables false
set_option linter.unusedSimpArgs false
namespace TX
set_option maxRecDepth 100000
set_option maxHeartbeats 8000000
open Go.RowKit Go.Sort

/-- What a step leaves under its key. -/
def WD.left (x : WD) : Option EN := if x.out then none else some x.val
/-- The law's list, against a map. -/
structure WpR (L : List WD) (g : KY → Option EN) : Prop where
  nd : (L.map WD.key).Nodup
  mem : ∀ x ∈ L, g x.key = x.left
  no : ∀ k, k ∉ L.map WD.key → g k = none
theorem WpR.nil : WpR [] (fun _ => none) := ⟨List.Pairwise.nil, fun x (hx : x ∈ ([] : List WD)) => absurd hx (by simp), fun _ _ => rfl⟩
theorem WpR.add {L : List WD} {g : KY → Option EN} (h : WpR L g) {x : WD} (hx : x.key ∉ L.map WD.key) : WpR (L ++ [x]) (upd g x.key x.left) := by
  refine ⟨?_, fun y hy => ?_, fun k hk => ?_⟩
  · rw [List.map_append, List.map_singleton]
    exact List.nodup_append.2 ⟨h.nd, by simp, fun a ha b hb => by
      rw [List.mem_singleton] at hb
      subst hb
      exact fun e => hx (e ▸ ha)⟩
  · rcases List.mem_append.1 hy with hy | hy
    · rw [upd_other g _ (fun e => hx (by rw [← e]; exact List.mem_map_of_mem hy))]
      exact h.mem y hy
    · rw [List.mem_singleton] at hy
      subst hy
      exact upd_same g _ _
  · rw [List.map_append, List.map_singleton, List.mem_append, List.mem_singleton] at hk
    rw [upd_other g _ (fun e => hk (.inr e))]
    exact h.no k (fun e => hk (.inl e))
theorem WpR.set {L : List WD} {g : KY → Option EN} (h : WpR L g) {j : Nat} {y x : WD} (hj : L[j]? = some y) (hk : y.key = x.key) : WpR (L.set j x) (upd g x.key x.left) := by
  have hjl := (List.getElem?_eq_some_iff.1 hj).1
  have hm : (L.set j x).map WD.key = L.map WD.key := by
    rw [List.map_set, ← hk]
    apply List.ext_getElem?
    intro i
    rw [List.getElem?_set]
    split
    · next e =>
      subst e
      rw [if_pos (by simpa using hjl), List.getElem?_map, hj]
      rfl
    · rfl
  refine ⟨by rw [hm]; exact h.nd, fun q hq => ?_, fun k hk2 => ?_⟩
  · by_cases e : q.key = x.key
    · obtain ⟨i, hi⟩ := List.mem_iff_getElem?.1 hq
      rw [List.getElem?_set] at hi
      split at hi
      · have : x = q := by simpa [hjl] using hi
        subst this
        exact upd_same g _ _
      · next hne =>
        exfalso
        have h1 : (L.map WD.key)[i]? = some x.key := by rw [List.getElem?_map, hi]; exact congrArg some e
        have h2 : (L.map WD.key)[j]? = some x.key := by rw [List.getElem?_map, hj]; exact congrArg some hk
        have hil : i < (L.map WD.key).length := (List.getElem?_eq_some_iff.1 h1).1
        exact hne ((List.getElem?_inj (by simpa using hjl) h.nd).1 (h2.trans h1.symm))
    · rw [upd_other g _ e]
      obtain ⟨i, hi⟩ := List.mem_iff_getElem?.1 hq
      rw [List.getElem?_set] at hi
      split at hi
      · have : x = q := by simpa [hjl] using hi
        subst this
        exact absurd rfl e
      · exact h.mem q (List.mem_of_getElem? hi)
  · rw [hm] at hk2
    rw [upd_other g _ (fun e => hk2 (by rw [e, ← hk]; exact List.mem_map_of_mem (List.mem_of_getElem? hj)))]
    exact h.no k hk2
/-- Where the key was seen so far. -/
def AtR (L : List WD) (k : KY) (m : Nat) (t : Int) : Prop := (t = -1 ∧ ∀ y ∈ L.take m, y.key ≠ k) ∨ ∃ (j : Nat) (y : WD), t = (j : Int) ∧ j < m ∧ L[j]? = some y ∧ y.key = k
theorem AtR.zero (L : List WD) (k : KY) : AtR L k 0 (-1) := .inl ⟨rfl, fun y hy => by simp at hy⟩
theorem AtR.yes {L : List WD} {k : KY} {m : Nat} {y : WD} (hy : L[m]? = some y) (e : eqK y.key k = true) : AtR L k (m + 1) (m : Int) := .inr ⟨m, y, rfl, Nat.lt_succ_self m, hy, (eqK_iff _ _).1 e⟩
theorem AtR.next {L : List WD} {k : KY} {m : Nat} {t : Int} {y : WD} (h : AtR L k m t) (hy : L[m]? = some y) (e : eqK y.key k = false) : AtR L k (m + 1) t := by
  rcases h with ⟨h1, h2⟩ | ⟨j, q, h1, h2, h3⟩
  · refine .inl ⟨h1, fun q hq => ?_⟩
    rw [List.take_add_one, hy] at hq
    rcases List.mem_append.1 hq with hq | hq
    · exact h2 q hq
    · simp at hq
      subst hq
      exact fun e2 => by rw [(eqK_iff _ _).2 e2] at e; cases e
  · exact .inr ⟨j, q, h1, by omega, h3⟩
abbrev BT : TypeId := 4
/-- Between two steps. -/
structure WdS (w0 W : World) (N z gy ge P : Nat) (g : KY → Option EN) (b : Bool) (pv : Value) (L : List WD) : Prop where
  bel : Below N w0 W
  tb : TbM W z gy ge HFN hK g P
  low : ∀ k, TbB z gy ge k → N < k
  rc : Blk W N #[.bool b] BT
  pr : OwnW W (N + 1) pv L
section
variable {w0 W W' : World} {N z gy ge P : Nat} {g : KY → Option EN} {b : Bool} {pv : Value} {L : List WD}
theorem WdS.sz (h : WdS w0 W N z gy ge P g b pv L) : N + 1 ≤ W.heap.size := h.rc.lt
theorem WdS.below (h : WdS w0 W N z gy ge P g b pv L) (hb : Below W.heap.size W W') : WdS w0 W' N z gy ge P g b pv L :=
  ⟨h.bel.trans (hb.mono (by have := h.sz; omega)), h.tb.below hb, h.low, h.rc.below hb h.rc.lt, h.pr.below hb⟩
/-- The table was called. -/
theorem WdS.call (h : WdS w0 W N z gy ge P g b pv L) {g' : KY → Option EN} {P' : Nat} (hn : TbN W W' z gy ge HFN hK g' P') : ∃ gy' ge', WdS w0 W' N z gy' ge' P' g' b pv L := by
  obtain ⟨gy', ge', h1, h2⟩ := hn.ex
  have hs := h.sz
  refine ⟨gy', ge', ?_, h1, fun k hk => ?_, ?_, ?_⟩
  · refine ⟨hn.fr.os.trans h.bel.os, hn.fr.tape.trans h.bel.tape, hn.fr.output.trans h.bel.output, Nat.le_trans h.bel.size hn.fr.size, fun k hk => (hn.fr.block k (by omega) (fun e => ?_)).trans (h.bel.block k hk)⟩
    have := h.low k e
    omega
  · rcases h2 k hk with e | e
    · exact h.low k e
    · omega
  · exact (hn.fr.block N h.rc.lt (h.tb.notB h.rc (by decide) (by decide))).trans h.rc
  · exact h.pr.same (fun k e => by
      obtain ⟨cs, hc⟩ := h.pr.blk e
      exact hn.fr.block k hc.lt (h.tb.notB hc (by decide) (by decide)))
/-- The row of one's own has grown, or was written over. -/
theorem WdS.row (h : WdS w0 W N z gy ge P g b pv L) {pv' : Value} {L' : List WD} (hg : W.grownBy W' pv.ownBlock) (ho : OwnW W' (N + 1) pv' L') : WdS w0 W' N z gy ge P g b pv' L' := by
  have hs := h.sz
  have keep : ∀ {k : Nat} {cs : Array Value} {t : TypeId}, Blk W k cs t → t ≠ WT → W'.heap[k]? = W.heap[k]? := fun hb ht => hg.block _ hb.lt (fun e => by
    obtain ⟨cs2, hc⟩ := h.pr.blk e.symm
    exact blk_ne hb hc ht rfl)
  refine ⟨⟨hg.os.trans h.bel.os, hg.tape.trans h.bel.tape, hg.output.trans h.bel.output, Nat.le_trans h.bel.size hg.size, fun k hk => (hg.block k (by omega) (fun e => ?_)).trans (h.bel.block k hk)⟩, ?_, h.low, (keep h.rc (by decide)).trans h.rc, ho⟩
  · have := (h.pr.lt e.symm).2
    omega
  · obtain ⟨T, ht, h1, h2⟩ := h.tb.ex
    refine h.tb.same (fun k hk => hg.block k (h.tb.lt hk) (fun e => ?_))
    obtain ⟨cs2, hc⟩ := h.pr.blk e.symm
    exact h.tb.notB hc (by decide) (by decide) hk
end
end TX
end Go.Proofs.Ytjhbebaephmcgaa
