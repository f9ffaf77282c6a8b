/- TableFloats: what stands behind its rounds. -/
import Derived.Test.YtnknjcnbbljagaaTG7
namespace Go.Proofs.Ytnknjcnbbljagaa
set_option linter.unusedVariables false
set_option linter.unusedSimpArgs false
namespace FF
set_option maxRecDepth 100000
open Go.RowKit
attribute [local go_sem] Oper.semAt_some

theorem allNotNil (b : Nat) (W : World) : (binOp .eql 62 (.func (.func 73) #[] #[.pointer (some ⟨b, 0, none⟩)]) .nilFunc).run Try.prog W = .ok (.bool false) W := by kernel_rfl
theorem asg1 {F : Fence} {n : Nat} {P : Program} {o1 : Oper} {i : Nat} {x1 : Operand} (g1 : o1.guard = none) (h1 : o1.op = .assign x1) (a : Act) (W0 : World) (K : Act → World → Prop) (hK : K (a.put o1.dst (a.eval x1)) W0) : (Code.region i #[o1] false).wpIn F n P (Exit.then K (fun _ _ _ => False)) a W0 :=
  wpIn_region_lit (l := [o1]) (BigFrame.wpListIn_want (by simp [Region.wanted, g1]) fun K1 hK1 => BigFrame.wpIn_assign x1 h1 (hK1 _ _ hK))
def sI : List Int → Int
  | [] => 0
  | x :: L => x + sI L
theorem sI_app (A B : List Int) : sI (A ++ B) = sI A + sI B := by
  induction A with
  | nil => simp [sI]
  | cons x A ih => simp only [List.cons_append, sI, ih]; omega
theorem sI_perm {A B : List Int} (h : A.Perm B) : sI A = sI B := by
  induction h with
  | nil => rfl
  | cons x _ ih => simp only [sI, ih]
  | swap x y l => simp only [sI]; omega
  | trans _ _ h1 h2 => exact h1.trans h2
theorem wadd (a b : Int) : wrap64 (wrap64 a + b) = wrap64 (a + b) := by unfold wrap64; omega
theorem wsub (a b : Int) : wrap64 (wrap64 a - b) = wrap64 (a - b) := by unfold wrap64; omega
theorem Rel.sum {hf : Nat → Nat} {T : TB} {M : List (Nat × Int)} {P : Nat} (h : Rel hf T M P) : sI (T.prs.map Prod.snd) = sI (M.map Prod.snd) := by
  have e : ∀ L : List (Nat × Int), (L.map cP).map Prod.snd = L.map Prod.snd := fun L => by rw [List.map_map]; rfl
  have := sI_perm (h.pm.map Prod.snd)
  rwa [e, e] at this
theorem Rel.count {hf : Nat → Nat} {T : TB} {M : List (Nat × Int)} {P : Nat} (h : Rel hf T M P) : T.prs.length = M.length := by
  have := h.pm.length_eq
  simpa using this
/-- Between two rounds of All. -/
structure PfS (wr : World) (pre : List (Nat × Int)) (W : World) : Prop where
  n : Blk W wr.heap.size #[.int .i64 (pre.length : Int)] 3
  s : Blk W (wr.heap.size + 1) #[.int .i64 (wrap64 (sI (pre.map Prod.snd)))] 3
  bel : Below wr.heap.size wr W
theorem PfS.ownFrom {wr : World} {B : Nat} (hB : wr.heap.size ≤ B) : OwnFrom B (fun pre W => PfS wr pre W) :=
  fun s A C row h hg hr => by
    have hr2 : ∀ r, row = some r → ∃ o : Obj, A.heap[r]? = some o ∧ o.isCells = false := fun r e => (hr r e).2
    exact ⟨h.n.keptRow hg hr2, h.s.keptRow hg hr2, ownFrom_below (β := List (Nat × Int)) (Nat.le_refl _) hB s A C row h.bel hg hr⟩
theorem PfS.below {wr W W' : World} {pre : List (Nat × Int)} (h : PfS wr pre W) (hb : Below W.heap.size W W') : PfS wr pre W' := ⟨h.n.below hb h.n.lt, h.s.below hb h.s.lt, h.bel.trans (hb.mono h.bel.size)⟩
theorem PfS.next {wr W : World} {pre : List (Nat × Int)} (h : PfS wr pre W) (x : Nat × Int) {c : Int} (hc : c = ((pre.length + 1 : Nat) : Int)) : PfS wr (pre ++ [x]) ((W.setCell ⟨wr.heap.size, 0, none⟩ (.int .i64 c)).setCell ⟨wr.heap.size + 1, 0, none⟩ (.int .i64 (wrap64 (wrap64 (sI (pre.map Prod.snd)) + x.2)))) ∧ KeepT tys W ((W.setCell ⟨wr.heap.size, 0, none⟩ (.int .i64 c)).setCell ⟨wr.heap.size + 1, 0, none⟩ (.int .i64 (wrap64 (wrap64 (sI (pre.map Prod.snd)) + x.2)))) ∧ KeepsOthers W ((W.setCell ⟨wr.heap.size, 0, none⟩ (.int .i64 c)).setCell ⟨wr.heap.size + 1, 0, none⟩ (.int .i64 (wrap64 (wrap64 (sI (pre.map Prod.snd)) + x.2)))) := by
  subst hc
  have h1 := h.n.set 0 (.int .i64 ((pre.length + 1 : Nat) : Int))
  have h2 := h.s.setOther ⟨wr.heap.size, 0, none⟩ (.int .i64 ((pre.length + 1 : Nat) : Int)) (by simp)
  refine ⟨⟨?_, ?_, (h.bel.setCell (Nat.le_refl _) _).setCell (Nat.le_succ _) _⟩, KeepT.trans (KeepT.setCell W ⟨wr.heap.size, 0, none⟩ _ (t := 3) (show W.heap[wr.heap.size]? = _ from h.n) (by decide)) (KeepT.setCell _ ⟨wr.heap.size + 1, 0, none⟩ _ (t := 3) (show _ = _ from h2) (by decide)), (KeepsOthers.setCell _ _ _).trans (KeepsOthers.setCell _ _ _)⟩
  · rw [List.length_append, List.length_singleton]
    exact h1.setOther _ _ (by simp)
  · rw [wadd, List.map_append, sI_app]
    have := h2.set 0 (.int .i64 (wrap64 (sI (pre.map Prod.snd) + sI ([x].map Prod.snd))))
    simpa [sI] using this
/-- Between two rounds that take the hand's values off. -/
structure LsF (wr : World) (D N : Nat) (S : Int) (W : World) : Prop where
  n : Blk W wr.heap.size #[.int .i64 (N : Int)] 3
  s : Blk W (wr.heap.size + 1) #[.int .i64 (wrap64 S)] 3
  d : W.heap[D]? = some (.deferred (some []))
  bel : Below wr.heap.size wr W
theorem LsF.next {wr W : World} {D N : Nat} {S : Int} (h : LsF wr D N S W) (y : Int) : LsF wr D N (S - y) (W.setCell ⟨wr.heap.size + 1, 0, none⟩ (.int .i64 (wrap64 (wrap64 S - y)))) := by
  refine ⟨h.n.setOther _ _ (by simp), ?_, ?_, h.bel.setCell (Nat.le_succ _) _⟩
  · rw [wsub]
    exact h.s.set 0 _
  · rw [heap_setCell_other W _ D _ (fun e => by
      have h1 := h.s
      unfold Blk at h1
      have e' : D = wr.heap.size + 1 := e
      rw [← e', h.d] at h1
      cases h1)]
    exact h.d
theorem LsF.drewN {wr W : World} {D N : Nat} {S : Int} (h : LsF wr D N S W) (q : Nat) : LsF wr D N S (W.drewN q) := ⟨h.n, h.s, h.d, h.bel.trans ((below_dN (Below.refl _ _) q).mono h.bel.size)⟩
theorem cell0 (v : Value) : (#[v] : Array Value)[0]? = some v := rfl
theorem LsF.kept {wr W W' : World} {D N : Nat} {S : Int} {z gy ge : Nat} {hv : Value} {T : TB} (h : LsF wr D N S W) (hD : wr.heap.size ≤ D) (ht : TbAt wr z gy ge hv T) (k : Frm W W' (TbB z gy ge)) : Blk W' wr.heap.size #[.int .i64 (N : Int)] 3 ∧ Blk W' (wr.heap.size + 1) #[.int .i64 (wrap64 S)] 3 ∧ W'.heap[D]? = some (.deferred (some [])) := by
  have nb : ∀ {q}, wr.heap.size ≤ q → ¬ TbB z gy ge q := fun hq e => by have := ht.lt e; omega
  exact ⟨(k.block _ h.n.lt (nb (Nat.le_refl _))).trans h.n, (k.block _ h.s.lt (nb (Nat.le_succ _))).trans h.s, (k.block _ (Array.getElem?_eq_some_iff.1 h.d).1 (nb hD)).trans h.d⟩
theorem sI_take (V : List Int) (j : Nat) (h : j < V.length) : sI (V.take (j + 1)) = sI (V.take j) + V[j] := by
  rw [List.take_add_one, List.getElem?_eq_getElem h, sI_app]
  simp [sI]
/-- A key that was just put in is found. -/
theorem is_in {hf : Nat → Nat} {T : TB} {M : List (Nat × Int)} {P k q : Nat} (hh : ∀ a b, eqK a b = true → hf a = hf b) (hk : k < 18446744073709551616) (h : Rel hf T M P) (hq : q < M.length) (he : eqK (M.getD q (0, 0)).1 k = true) : (seek eqK hf T k).1.isSome = true := by
  rcases rel_get h hh k hk with ⟨r1, _⟩ | ⟨_, _, _, r2, _⟩
  · rcases atF_spec M k M.length with ⟨_, s2⟩ | ⟨q', _, s2, _⟩
    · have := s2 q hq
      rw [he] at this
      cases this
    · rw [r1] at s2; omega
  · exact r2
theorem seven : eqK 4619567317775286272 4619567317775286272 = true := by decide +kernel
theorem put_in {hf : Nat → Nat} {T : TB} {M : List (Nat × Int)} {P k : Nat} (hh : ∀ a b, eqK a b = true → hf a = hf b) (hk : k < 18446744073709551616) (hkk : eqK k k = true) (h : Rel hf T M P) (v : Int) : ((seek eqK hf (stepT hf T) k).1.isSome = true ∨ ((seek eqK hf (stepT hf T) k).1 = none ∧ (putT eqK hf T k v).len = M.length + 1)) ∧ (seek eqK hf (putT eqK hf T k v) k).1.isSome = true := by
  rcases rel_put h hh k hk v with ⟨s1, s2, s3⟩ | ⟨q, s0, s1, s2, s4, s5⟩
  · refine ⟨.inr ⟨s2, by rw [s3.len]; simp⟩, is_in hh hk s3 (q := M.length) (by simp) ?_⟩
    rw [getD_app, if_neg (Nat.lt_irrefl _), if_pos rfl]
    exact hkk
  · refine ⟨.inl s2, is_in hh hk s5 (q := q) (by simpa using s0) ?_⟩
    rcases atF_spec M k M.length with ⟨t1, _⟩ | ⟨q', t0, t1, t2⟩
    · rw [s1] at t1; omega
    · rw [s1] at t1
      have : q' = q := by omega
      subst this
      rw [List.getD_eq_getElem?_getD, List.getElem?_set_self s0]
      exact t2
end FF
end Go.Proofs.Ytnknjcnbbljagaa
