/- A region that draws its order, in segments: quiet steps, one step that writes, quiet steps again. -/
import Derived.Test.YtdigjpddmfolgaaXQ
namespace Go.Proofs.Ytdigjpddmfolgaa
set_option linter.unusedVariables false
set_option linter.unusedSimpArgs false
namespace TX
open Go.RowKit Go.Sort

section
variable {P : Program} {ops : Array Oper} {md : Region.Mode} {C : World → Prop}
/-- All behind N wait for one of them that is not ahead of N. -/
def restB (md : Region.Mode) (ops : Array Oper) (N : Nat) : Bool :=
  (List.range ops.size).all fun t => decide (t ≤ N) || (List.range t).any fun j => decide (N ≤ j) && Region.waitsFor md ops t j
theorem rest_waits {N : Nat} {listed : Array Bool} (hs : Region.sinkB md ops N = true) (hc : restB md ops N = true) (hn : N < ops.size) (inv : HeadInv md ops N listed) :
    ∀ (d i : Nat), N - i = d → i < N → listed.getD i true = false → ∀ t, N ≤ t → t ∉ Region.ready md ops listed := by
  intro d
  induction d using Nat.strongRecOn with
  | _ d ih =>
    intro i hd hi hun t ht hr
    obtain ⟨_, ot, hot, hall⟩ := mem_ready.1 hr
    have htlt : t < ops.size := (Array.getElem?_eq_some_iff.1 hot).1
    by_cases htn : t = N
    · subst htn
      have h1 := List.all_eq_true.1 hs i (List.mem_range.2 hi)
      obtain ⟨j, hj, hj2⟩ := List.any_eq_true.1 h1
      simp only [Bool.and_eq_true, decide_eq_true_eq] at hj2
      obtain ⟨oj, hoj, e, he, hb, hon⟩ := Region.waitsFor_spec hj2.2
      have hjle : j ≤ t := by have := List.mem_range.1 hj; omega
      by_cases hjt : j = t
      · subst hjt
        have : oj = ot := Option.some.inj (hoj.symm.trans hot)
        subst this
        have h2 := hall e he hb
        rw [hon, getD_both hun] at h2
        cases h2
      · cases hl : listed.getD j false with
        | true =>
          have h2 := inv.closed j oj hoj hl e he hb
          rw [hon, getD_both hun] at h2
          cases h2
        | false =>
          have hjs : j < listed.size := by rw [inv.size]; omega
          exact ih (t - j) (by omega) j rfl (by omega) (getD_in hjs hl) t (Nat.le_refl _) hr
    · have h1 := List.all_eq_true.1 hc t (List.mem_range.2 htlt)
      simp only [Bool.or_eq_true, decide_eq_true_eq] at h1
      rcases h1 with h1 | h1
      · omega
      · obtain ⟨j, hj, hj2⟩ := List.any_eq_true.1 h1
        simp only [Bool.and_eq_true, decide_eq_true_eq] at hj2
        obtain ⟨o', ho', e, he, hb, hon⟩ := Region.waitsFor_spec hj2.2
        have : o' = ot := Option.some.inj (ho'.symm.trans hot)
        subst this
        have h2 := hall e he hb
        have hjt := List.mem_range.1 hj
        rw [hon, getD_both (inv.tail j hj2.1 (by omega))] at h2
        cases h2
theorem segQ_first {N i : Nat} {oi : Oper} {v : Value} {L : Array Bool → Act → Prop} (hi : ops[i]? = some oi) (hsel : ∀ (j : Nat) (o : Oper) cs b, ops[j]? = some o → o.op ≠ .select cs b)
    (hs : Region.sinkB md ops N = true) (hc : restB md ops N = true) (hn : N < ops.size) (hin : i < N)
    (hdone : ∀ listed a, L listed a → ∀ j ∈ Region.ready md ops listed, N ≤ j) :
    ∀ (f : Nat) (listed : Array Bool) (a : Act), HeadInv md ops N listed →
      (∀ j oj, ops[j]? = some oj → j ≠ i → listed.getD j true = false → (∀ e ∈ oj.after, Region.binds md e = true → e.on ≠ i) → oi.apart ops oj = true) →
      i ∈ Region.ready md ops listed → YieldsIn P ops C oi v a →
      wpAnyQL P md ops C N L f (listed.setIfInBounds i true) (a.put oi.dst v) → wpAnyQL P md ops C N L (f + 1) listed a := by
  intro f
  induction f with
  | zero =>
    intro listed a inv _ hr hy H
    have hun := (mem_ready.1 hr).1
    refine ⟨fun h => (by rw [h] at hr; cases hr), fun j hj => ?_⟩
    have hjn : j < N := by
      rcases Nat.lt_or_ge j N with h | h
      · exact h
      · exact absurd hj (rest_waits hs hc hn inv _ i rfl hin hun j h)
    refine ⟨hjn, ?_⟩
    by_cases hji : j = i
    · subst hji; exact hy.qOp hi H
    · have := hdone _ _ H j (ready_mono hj hji)
      omega
  | succ f ih =>
    intro listed a inv hfree hr hy H
    have hun := (mem_ready.1 hr).1
    refine ⟨fun h => (by rw [h] at hr; cases hr), fun j hj => ?_⟩
    have hjn : j < N := by
      rcases Nat.lt_or_ge j N with h | h
      · exact h
      · exact absurd hj (rest_waits hs hc hn inv _ i rfl hin hun j h)
    refine ⟨hjn, ?_⟩
    by_cases hji : j = i
    · subst hji; exact hy.qOp hi H
    · have h1 := (H.2 j (ready_mono hj hji)).2
      obtain ⟨hjun, oj, hoj, hall⟩ := mem_ready.1 hj
      have hnot : ∀ e ∈ oj.after, Region.binds md e = true → e.on ≠ i := fun e he hb heq => by
        have h1 := hall e he hb
        rw [heq, getD_both hun] at h1
        cases h1
      have h2 := qOp_put hoj (hfree j oj hoj hji hjun hnot) (fun cs b => hsel i oi cs b hi) (fun cs b => hsel j oj cs b hoj) hy h1
      have hfree' : ∀ k ok, ops[k]? = some ok → k ≠ i → (listed.setIfInBounds j true).getD k true = false →
          (∀ e ∈ ok.after, Region.binds md e = true → e.on ≠ i) → oi.apart ops ok = true := fun k ok hk hki hun hno => by
        refine hfree k ok hk hki ?_ hno
        by_cases hjk : j = k
        · subst hjk; exact hjun
        · rw [getD_set_ne true hjk] at hun; exact hun
      refine qOp_mono (fun a' h3 => ih (listed.setIfInBounds j true) a' (inv.set hj hjn) hfree' (ready_mono hr (Ne.symm hji)) h3.1 ?_) h2
      rw [Array.setIfInBounds_comm _ _ hji]
      exact h3.2
/-- From place k on, f places may be taken one behind the other, up to the list tgt. -/
def segHead (md : Region.Mode) (ops : Array Oper) (tgt : Array Bool) : Nat → Nat → Array Bool → Bool
  | 0, _, listed => listed == tgt
  | f + 1, k, listed => (Region.ready md ops listed).contains k && Region.free md ops listed k && segHead md ops tgt f (k + 1) (listed.setIfInBounds k true)
def closedB (md : Region.Mode) (ops : Array Oper) (N : Nat) (listed : Array Bool) : Bool :=
  (listed.size == ops.size) && ((List.range ops.size).all fun j => !(listed.getD j false) || (match ops[j]? with | some oj => oj.after.all fun e => !(Region.binds md e) || listed.getD e.on false | none => true))
    && ((List.range ops.size).all fun t => decide (t < N) || !(listed.getD t true))
theorem closed_inv {N : Nat} {listed : Array Bool} (h : closedB md ops N listed = true) : HeadInv md ops N listed := by
  simp only [closedB, Bool.and_eq_true, beq_iff_eq] at h
  obtain ⟨⟨h1, h2⟩, h3⟩ := h
  refine ⟨h1, fun j oj hj hl e he hb => ?_, fun t ht htl => ?_⟩
  · have hlt := (Array.getElem?_eq_some_iff.1 hj).1
    have := List.all_eq_true.1 h2 j (List.mem_range.2 hlt)
    rw [hl, hj] at this
    simp only [Bool.not_true, Bool.false_or] at this
    have h4 := (Array.all_eq_true_iff_forall_mem.1 this) e he
    rw [hb] at h4
    simpa using h4
  · have := List.all_eq_true.1 h3 t (List.mem_range.2 htl)
    simp only [Bool.or_eq_true, decide_eq_true_eq, Bool.not_eq_true'] at this
    rcases this with h | h
    · omega
    · exact h
theorem segQ_lex {N : Nat} {tgt : Array Bool} {Lq : Act → Prop} (hsel : Region.noSelect ops = true) (hs : Region.sinkB md ops N = true) (hc : restB md ops N = true) (hn : N < ops.size) (hd : ((Region.ready md ops tgt).all fun j => decide (N ≤ j)) = true) :
    ∀ (l : List Oper) (k : Nat) (listed : Array Bool) (a : Act), (∀ j, j < l.length → l[j]? = ops[k + j]?) → k + l.length = N → HeadInv md ops N listed →
    segHead md ops tgt l.length k listed = true → wpQuiet P ops C Lq l a →
    wpAnyQL P md ops C N (fun listed' a' => listed' = tgt ∧ Lq a') l.length listed a
  | [], k, listed, a, _, hk, _, hB, h => by
    simp only [List.length_nil, segHead, beq_iff_eq] at hB
    exact ⟨hB, h⟩
  | o :: l, k, listed, a, hl, hk, inv, hB, h => by
    have h0 : ops[k]? = some o := by simpa using (hl 0 (by simp)).symm
    simp only [List.length_cons, segHead, Bool.and_eq_true] at hB
    obtain ⟨⟨hr, hf⟩, hB'⟩ := hB
    have hkn : k < N := by simp only [List.length_cons] at hk; omega
    have hr' : k ∈ Region.ready md ops listed := by simpa using hr
    have hst : qOp P ops C k (wpQuiet P ops C Lq l) a := by unfold qOp; simp only [h0]; exact h
    obtain ⟨v, hy, hK⟩ := yieldsIn_of_qOp h0 hst
    exact segQ_first h0 (Region.noSelect_spec hsel) hs hc hn hkn (fun listed' a' hL j hj => by
        rw [hL.1] at hj
        simpa using List.all_eq_true.1 hd j hj) l.length listed a inv (Region.free_spec h0 hf) hr' hy
      (segQ_lex hsel hs hc hn hd l (k + 1) _ _ (fun j hj => by have := hl (j + 1) (by simp; omega); simpa [Nat.add_assoc, Nat.add_comm 1 j] using this) (by simp only [List.length_cons] at hk; omega) (inv.set hr' hkn) hB' hK)
def segB (md : Region.Mode) (ops : Array Oper) (k N : Nat) (listed tgt : Array Bool) : Bool :=
  Region.noSelect ops && decide (N < ops.size) && decide (k ≤ N) && Region.sinkB md ops N && restB md ops N && ((Region.ready md ops tgt).all fun j => decide (N ≤ j)) && closedB md ops N listed && segHead md ops tgt (N - k) k listed
end
/-- A segment of quiet steps, ahead of place N. -/
theorem seg_quiet {P : Program} {md : Region.Mode} {C : World → Prop} {Q : Exit → Act → World → Prop} {l : List Oper} {a : Act} {w : World} {g : Nat} {listed : Array Bool} (k N : Nat) (tgt : Array Bool) (hB : segB md l.toArray k N listed tgt = true) (hw : C w)
    (h : wpQuiet P l.toArray C (fun a' => ∀ w', C w' → wpAny P md l.toArray Q g tgt a' w') ((l.drop k).take (N - k)) a) : wpAny P md l.toArray Q ((N - k) + g) listed a w := by
  simp only [segB, Bool.and_eq_true, decide_eq_true_eq] at hB
  obtain ⟨⟨⟨⟨⟨⟨⟨hsel, hn⟩, hk⟩, hs⟩, hc⟩, hd⟩, hcl⟩, hh⟩ := hB
  have hn' : N < l.length := by simpa using hn
  have htl : ((l.drop k).take (N - k)).length = N - k := by simp; omega
  have H := segQ_lex (md := md) (C := C) hsel hs hc hn hd ((l.drop k).take (N - k)) k listed a (fun j hj => by
    rw [htl] at hj
    rw [List.getElem?_take_of_lt hj, List.getElem?_drop]
    simp) (by rw [htl]; omega) (closed_inv hcl) (by rw [htl]; exact hh) h
  rw [htl] at H
  exact any_of_headQ (N := N) (Q' := Q) (g := g) (fun listed' a' w' hw' hL => by rw [hL.1]; exact hL.2 w' hw') _ _ _ _ hw H
/-- One step that alone is ready: a call. -/
theorem seg_call {P : Program} {md : Region.Mode} {Q : Exit → Act → World → Prop} {ops : Array Oper} {a : Act} {w : World} {g : Nat} {listed : Array Bool} (k : Nat) (tgt : Array Bool) (hr : (Region.ready md ops listed == [k] && (listed.setIfInBounds k true == tgt)) = true) (o : Oper) (ho : ops[k]? = some o) (hg : Region.wanted o (yielded ops a.tmps) = true)
    (f : FuncId) (args : Array Value) (hrun : (execOp a.eval o).run P w = .ok (.enter f args) w) (R : Value → World → Prop) (hc : Calls P f args w fun e w' => ∃ V, e = .returned V ∧ R V w')
    (h : ∀ V w', R V w' → wpAny P md ops Q g tgt (a.put o.dst V) w') : wpAny P md ops Q (g + 1) listed a w := by
  simp only [Bool.and_eq_true, beq_iff_eq] at hr
  obtain ⟨hr, ht⟩ := hr
  refine ⟨fun h0 => (by rw [h0] at hr; cases hr), fun i hi => ?_⟩
  rw [hr] at hi
  have hik : i = k := by simpa using hi
  subst hik
  rw [ht]
  unfold wpOp
  simp only [ho, hg, if_true]
  refine .inl ?_
  unfold Oper.wp
  rw [hrun]
  refine Calls.mono hc ?_
  rintro e w' ⟨V, rfl, hR⟩
  exact h V w' hR
/-- One step that alone is ready: it writes. -/
theorem seg_skip {P : Program} {md : Region.Mode} {Q : Exit → Act → World → Prop} {ops : Array Oper} {a : Act} {w : World} {g : Nat} {listed : Array Bool} (k : Nat) (tgt : Array Bool) (hr : (Region.ready md ops listed == [k] && (listed.setIfInBounds k true == tgt)) = true) (o : Oper) (ho : ops[k]? = some o) (hg : Region.wanted o (yielded ops a.tmps) = true)
    (w' : World) (hrun : (execOp a.eval o).run P w = .ok .skip w') (h : wpAny P md ops Q g tgt (a.put o.dst undef) w') : wpAny P md ops Q (g + 1) listed a w := by
  simp only [Bool.and_eq_true, beq_iff_eq] at hr
  obtain ⟨hr, ht⟩ := hr
  refine ⟨fun h0 => (by rw [h0] at hr; cases hr), fun i hi => ?_⟩
  rw [hr] at hi
  have hik : i = k := by simpa using hi
  subst hik
  rw [ht]
  unfold wpOp
  simp only [ho, hg, if_true]
  refine .inl ?_
  unfold Oper.wp
  rw [hrun]
  exact h
/-- The rest, one behind the other. -/
theorem seg_rest {P : Program} {md : Region.Mode} {Q : Exit → Act → World → Prop} {l : List Oper} {a : Act} {w : World} {listed : Array Bool} (k : Nat) (hk : k ≤ l.length) (hB : Region.seqB md l.toArray (l.drop k).length k listed = true) (h : wpList P l.toArray Q (l.drop k) a w) : wpAny P md l.toArray Q (l.length - k) listed a w := by
  have := wpAny_of_seq (P := P) (md := md) (ops := l.toArray) (Q' := Q) (l.drop k) k listed a w (fun j => by simp [List.getElem?_drop]) hB h
  rwa [List.length_drop] at this
end TX
end Go.Proofs.Ytdigjpddmfolgaa
