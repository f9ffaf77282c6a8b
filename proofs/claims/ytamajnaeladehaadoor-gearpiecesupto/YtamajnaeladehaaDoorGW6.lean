/- Bounds of the lengths; pieces one behind the other; what a Cutter and a row of pieces are between two writes. -/
import Derived.Test.YtamajnaeladehaaDoorGW5
import Derived.Test.YtamajnaeladehaaDoorGB3
namespace Go.Proofs.YtamajnaeladehaaDoor
set_option linter.unusedVariables false
set_option linter.unusedSimpArgs false
open Go.RowKit

theorem endB_true {mn me mx : Int} {h n : Nat} (hm : mayB mn me mx = true) (e : endB mn me mx h n = true) : mn ≤ (n : Int) := by
  have := may_mx hm
  unfold endB at e
  by_cases h1 : mx ≤ (n : Int)
  · omega
  · rw [if_neg h1] at e
    by_cases h2 : (n : Int) < mn
    · rw [if_pos h2] at e; cases e
    · omega
theorem firstG_most {mn me mx : Int} (hm : mayB mn me mx = true) : ∀ (xs : List UInt8) (h n : Nat), (n : Int) < mx → ((firstG mn me mx h n xs).1 : Int) ≤ mx ∧ ((firstG mn me mx h n xs).2 = true → mn ≤ ((firstG mn me mx h n xs).1 : Int))
  | [], h, n, hn => by
    rw [firstG]
    exact ⟨by simp; omega, fun e => Bool.noConfusion e⟩
  | b :: r, h, n, hn => by
    rw [firstG]
    by_cases hc : endB mn me mx (roll h b) (n + 1) = true
    · rw [if_pos hc]
      refine ⟨by simp; omega, fun _ => endB_true hm hc⟩
    · rw [if_neg hc]
      have := endB_false (Bool.eq_false_iff.mpr hc)
      exact firstG_most hm r _ _ this
theorem cut_most {mn me mx : Int} (hm : mayB mn me mx = true) (xs : List UInt8) (i : Nat) (h : i < (cutL mn me mx xs).length) : 1 ≤ (cutL mn me mx xs)[i] ∧ (cutL mn me mx xs)[i] ≤ mx ∧ (i + 1 < (cutL mn me mx xs).length → mn ≤ (cutL mn me mx xs)[i]) := by
  have hp := (cut_pos hm _ xs (Nat.le_refl _)).1 _ (List.getElem_mem h)
  obtain ⟨k, hk, -, he, hl⟩ := cut_first hm xs i h
  have hmx := may_mx hm
  have hf : firstP mn me mx (xs.drop k) = firstG mn me mx 0 0 (xs.drop k) := by unfold firstP; rw [if_pos hm]
  have hb := firstG_most hm (xs.drop k) 0 0 (by omega)
  rw [hf] at he hl
  rw [he] at hp ⊢
  refine ⟨hp, hb.1, fun h2 => hb.2 ?_⟩
  have := hl h2
  cases hc : (firstG mn me mx 0 0 (xs.drop k)).2 with
  | true => rfl
  | false =>
    rw [firstG_lost mn me mx _ 0 0 hc, List.length_drop] at this
    omega
/-- A piece, where it lies in the whole. -/
theorem flat_at : ∀ (ps : List (List UInt8)) (i : Nat) (h : i < ps.length), (ps.flatten.drop (ps.take i).flatten.length).take ps[i].length = ps[i]
  | p :: r, 0, _ => by simp
  | p :: r, i + 1, h => by
    have := flat_at r i (by simpa using h)
    simp only [List.take_succ_cons, List.flatten_cons, List.length_append, List.getElem_cons_succ]
    rw [← List.drop_drop, List.drop_left]
    exact this
theorem Pcs.app {w : World} {B : Nat} {va vb : List Value} {pa pb : List (List UInt8)} {N : Nat → Prop} (h : Pcs w B va pa N) (k : Pcs w B vb pb N) : Pcs w B (va ++ vb) (pa ++ pb) N := by
  refine ⟨by simp [h.1, k.1], fun i hi u hu => ?_⟩
  rcases Nat.lt_or_ge i pa.length with hl | hl
  · rw [List.getElem?_append_left (by rw [h.1]; exact hl)] at hu
    rw [List.getElem_append_left hl]
    exact h.2 i hl u hu
  · rw [List.getElem?_append_right (by rw [h.1]; exact hl), h.1] at hu
    rw [List.getElem_append_right hl]
    exact k.2 (i - pa.length) (by rw [List.length_append] at hi; omega) u hu
/-- Blocks of other types are others. -/
theorem blk_own_ne {w : World} {B b : Nat} {cs : Array Value} {t e : TypeId} {v : Value} {n : Nat} {ys : List Value} (hb : Blk w b cs t) (ho : w.ownsRow B e 1 v n ys) (hte : t ≠ e) : ∀ g, v.ownBlock = some g → g ≠ b := by
  intro g hg he
  obtain ⟨_, ⟨rfl, _⟩ | ⟨g', cap, cur, rfl, _, hh, _⟩⟩ := ho
  · cases hg
  · have e2 : g' = g := Option.some.inj hg
    subst e2; subst he
    have := hb.symm.trans hh
    simp only [Option.some.injEq, Obj.cells.injEq] at this
    exact hte this.2.1
theorem own_own_ne {w : World} {B B' : Nat} {e e' : TypeId} {v u : Value} {n m : Nat} {ys zs : List Value} (ho : w.ownsRow B e 1 v n ys) (hu : w.ownsRow B' e' 1 u m zs) (hte : e ≠ e') : ∀ g, v.ownBlock = some g → u.ownBlock ≠ some g := by
  intro g hg hg2
  obtain ⟨_, ⟨rfl, _⟩ | ⟨g', cap, cur, rfl, _, hh, _⟩⟩ := ho
  · cases hg
  obtain ⟨_, ⟨rfl, _⟩ | ⟨g2, cap2, cur2, rfl, _, hh2, _⟩⟩ := hu
  · cases hg2
  have e1 : g' = g := Option.some.inj hg
  have e2 : g2 = g := Option.some.inj hg2
  subst e1; subst e2
  have := hh.symm.trans hh2
  simp only [Option.some.injEq, Obj.cells.injEq] at this
  exact hte this.2.1
/-- Between two writes: a Cutter, the row of the pieces so far, the pieces. w1: the world ahead of the Cutter. -/
structure WL (w1 w : World) (z : Nat) (mn me mx : Int) (gv : Value) (vals : List Value) (ps : List (List UInt8)) (hv : Value) (hs : List UInt8) (bh bn br b4 b5 : Nat) : Prop where
  cu : CuSt w w1.heap.size z mn me mx hv hs bh bn br b4 b5
  bel : Below w1.heap.size w1 w
  row : w.ownsRow w1.heap.size 24 1 gv ps.length vals
  pc : Pcs w w1.heap.size vals ps (fun g => hv.ownBlock ≠ some g)
theorem WL.write {w1 w w' : World} {z : Nat} {mn me mx : Int} {gv : Value} {vals : List Value} {ps : List (List UInt8)} {hv : Value} {hs : List UInt8} {bh bn br b4 b5 : Nat} (W : WL w1 w z mn me mx gv vals ps hv hs bh bn br b4 b5)
    {vw : Value} {vals' : List Value} {ps' : List (List UInt8)} {hv' : Value} {hs' : List UInt8} {bh' bn' br' b4' b5' : Nat} (R : WrB w w' w1.heap.size z mn me mx hv bh bn vw vals' ps' hv' hs' bh' bn' br' b4' b5' (rollL hs') hs'.length) (hlt : (hs'.length : Int) < mx) :
    WL w1 w' z mn me mx gv vals ps hv' hs' bh' bn' br' b4' b5' ∧ Pcs w' w1.heap.size vals' ps' (fun g => hv'.ownBlock ≠ some g) := by
  have C := W.cu
  have hS : ∀ k, k < w1.heap.size → ¬ (k = z ∨ k = bh ∨ k = bn ∨ hv.ownBlock = some k) := by
    intro k hk
    have := C.low
    have := C.es.low
    rintro (h | h | h | h)
    · omega
    · omega
    · omega
    · have := (owns_lt C.own k h).1; omega
  have hsz : w1.heap.size ≤ w.heap.size := W.bel.size
  refine ⟨⟨⟨R.blk, R.low, R.own, R.es, C.may, hlt, R.apz, R.aph⟩, W.bel.trans ⟨R.ch.os, R.ch.tape, R.ch.output, R.ch.size, fun k hk => R.ch.block k (Nat.lt_of_lt_of_le hk hsz) (hS k hk)⟩, owns_same W.row ?_, ?_⟩, R.pc.mono (fun g _ hN => hN.2.2.2.2.2.2.1)⟩
  · intro g hg
    refine R.ch.block g (owns_lt W.row g hg).2 ?_
    rintro (h | h | h | h)
    · exact blk_own_ne C.blk W.row (by decide) g hg h
    · exact blk_own_ne C.es.hh W.row (by decide) g hg h
    · exact blk_own_ne C.es.hn W.row (by decide) g hg h
    · exact own_own_ne W.row C.own (by decide) g hg h
  · refine ⟨W.pc.1, fun i hi v hv2 => ?_⟩
    obtain ⟨ho, hn⟩ := W.pc.2 i hi v hv2
    refine ⟨owns_same ho (fun g hg => R.ch.block g (owns_lt ho g hg).2 ?_), fun g hg e => ?_⟩
    · rintro (h | h | h | h)
      · exact blk_own_ne C.blk ho (by decide) g hg h
      · exact blk_own_ne C.es.hh ho (by decide) g hg h
      · exact blk_own_ne C.es.hn ho (by decide) g hg h
      · exact hn g hg h
    · rcases R.hl g e with q | q
      · exact hn g hg q
      · have := (owns_lt ho g hg).2; omega
theorem WL.push {w1 w w' : World} {z : Nat} {mn me mx : Int} {gv gv' : Value} {vals vals' : List Value} {ps ps' : List (List UInt8)} {hv : Value} {hs : List UInt8} {bh bn br b4 b5 : Nat} (W : WL w1 w z mn me mx gv vals ps hv hs bh bn br b4 b5)
    (hP : Pcs w w1.heap.size vals' ps' (fun g => hv.ownBlock ≠ some g)) (ho : w'.ownsRow w1.heap.size 24 1 gv' (ps ++ ps').length (vals ++ vals')) (hg : w.grownBy w' gv.ownBlock) : WL w1 w' z mn me mx gv' (vals ++ vals') (ps ++ ps') hv hs bh bn br b4 b5 := by
  have C := W.cu
  have sm : ∀ k, k < w.heap.size → gv.ownBlock ≠ some k → Same w w' k := fun k hk hn => hg.block k hk (fun e => hn e.symm)
  have sb : ∀ {b : Nat} {cs : Array Value} {t : TypeId}, Blk w b cs t → t ≠ 24 → Same w w' b := fun {b cs t} hb ht => sm b hb.lt (fun e => blk_own_ne hb W.row ht b e rfl)
  have E := C.es
  refine ⟨⟨C.blk.same (sb C.blk (by decide)), C.low, owns_same C.own (fun g e => sm g (owns_lt C.own g e).2 (own_own_ne C.own W.row (by decide) g e)), E.same (sb E.hh (by decide)) (sb E.hn (by decide)) (sb E.hr (by decide)) (sb E.h4 (by decide)) (sb E.h5 (by decide)), C.may, C.lt, C.apz, C.aph⟩, own_below W.bel W.row W.bel.size hg, ho, ?_⟩
  have h1 := W.pc.app hP
  exact ⟨h1.1, fun i hi v hv2 => ⟨owns_same (h1.2 i hi v hv2).1 (fun g e => sm g (owns_lt (h1.2 i hi v hv2).1 g e).2 (own_own_ne (h1.2 i hi v hv2).1 W.row (by decide) g e)), (h1.2 i hi v hv2).2⟩⟩
end Go.Proofs.YtamajnaeladehaaDoor
