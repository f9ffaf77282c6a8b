/- The plain list of pairs: out. -/
import Derived.Test.YtnknjcnbbljagaaTN1
namespace Go.Proofs.Ytnknjcnbbljagaa
set_option linter.unusedVariables false
set_option linter.unusedSimpArgs false
set_option maxRecDepth 100000
open Go.RowKit

theorem wpList_append_int {ops : Array Oper} {rest : List Oper} {o : Oper} {a : Act} {w : World} {Q : Exit → Act → World → Prop} (hgd : o.guard = none) (s x : Operand) (ho : o.op = .call { callee := .builtin .append, args := #[s, x], argTypes := #[40, 40] })
    (base : Nat) (v : Value) (xs : List Int) (hs : a.eval s = v) (hown : OwnsI w base v xs) (z c : Nat) (hx : a.eval x = .slice (some ⟨z, 0, none⟩) 1 c) (y : Int) (hc : w.cell? ⟨z, 0, none⟩ = some (.int .i64 y)) (hlen : xs.length + 1 ≤ 17592186044416) (hbase : base ≤ w.heap.size)
    (h : ∀ v' w', Hid (OwnsI w' base v' (xs ++ [y])) → Hid (w.grownBy w' v.ownBlock) → Hid (v'.ownBlock = v.ownBlock ∨ v'.ownBlock = some w.heap.size) → wpList Try.prog ops Q rest (a.put o.dst v') w') : wpList Try.prog ops Q (o :: rest) a w := by
  obtain ⟨i0, hi, hz0, hz1, hz2⟩ := info_parts infoI64
  refine wpList_append_own_at w hgd s x 40 ho base 3 i0 (.int .i64 0) 1 8 Try.underlying40 hi hz0 hz1 hz2 rfl (by decide) v xs.length (xs.map i64c) hs hown ⟨z, 0, none⟩ 1 c [.int .i64 y] hx rfl ?_ (by intro v hv; simp at hv; subst hv; rfl) (by unfold maxLen; omega) (by omega) hbase ?_
  · intro j u hj
    cases j with
    | zero => cases hj; exact hc
    | succ j => simp at hj
  · intro v' w' h1 h2 _ h4
    exact h v' w' (hide (by unfold OwnsI; rw [List.length_append, List.map_append]; exact h1)) (hide h2) (hide h4)
/-- The first j pairs without pair i. -/
def outL (M : List (Int × Int)) (i : Nat) : Nat → List (Int × Int)
  | 0 => []
  | j + 1 => if j = i then outL M i j else outL M i j ++ [M.getD j (0, 0)]
theorem outL_len (M : List (Int × Int)) (i j : Nat) : (outL M i j).length ≤ j := by
  induction j with
  | zero => exact Nat.le_refl _
  | succ j ih =>
    unfold outL
    split
    · omega
    · simp; omega
theorem outL_is (M : List (Int × Int)) (i : Nat) : ∀ j, j ≤ M.length → outL M i j = (M.take j).eraseIdx i := by
  intro j
  induction j with
  | zero => intro _; simp [outL]
  | succ j ih =>
    intro hj
    have ht : M.take (j + 1) = M.take j ++ [M.getD j (0, 0)] := by
      rw [List.take_add_one, List.getElem?_eq_getElem (by omega)]
      simp [List.getD_eq_getElem?_getD, List.getElem?_eq_getElem (show j < M.length by omega)]
    have hl : (M.take j).length = j := by simp; omega
    unfold outL
    split
    · next e =>
      subst e
      rw [ih (by omega), ht, List.eraseIdx_append_of_length_le (by omega), show j - (M.take j).length = 0 by omega, List.eraseIdx_of_length_le (by omega)]
      simp
    · next e =>
      rw [ih (by omega), ht]
      rcases Nat.lt_or_ge i j with h | h
      · rw [List.eraseIdx_append_of_lt_length (by omega)]
      · rw [List.eraseIdx_append_of_length_le (by omega), List.eraseIdx_of_length_le (by omega), List.eraseIdx_of_length_le (by simp; omega)]
theorem own_lowerB {w : World} {B B' : Nat} {v : Value} {xs : List Int} (h : OwnsI w B' v xs) (hB : B ≤ B') : OwnsI w B v xs := by
  obtain ⟨h0, h1 | ⟨g, cap, cur, rfl, hb, r⟩⟩ := h
  · exact ⟨h0, .inl h1⟩
  · exact ⟨h0, .inr ⟨g, cap, cur, rfl, by omega, r⟩⟩
structure OutS (w W : World) (a b : Value) (N : List (Int × Int)) : Prop where
  ks : OwnsI W w.heap.size a (N.map Prod.fst)
  vs : OwnsI W w.heap.size b (N.map Prod.snd)
  ap : ∀ g, a.ownBlock = some g → b.ownBlock ≠ some g
  bel : Below w.heap.size w W
theorem OutS.below {w W W' : World} {a b : Value} {N : List (Int × Int)} (h : OutS w W a b N) (hb : Below W.heap.size W W') : OutS w W' a b N := ⟨h.ks.below hb, h.vs.below hb, h.ap, h.bel.trans (hb.mono h.bel.size)⟩
theorem ap_grown {w w' : World} {B n m : Nat} {e e' : TypeId} {a b a' : Value} {xs ys : List Value} (hb : w.ownsRow B e' 1 b m ys) (ap : ∀ g, a.ownBlock = some g → b.ownBlock ≠ some g) (hl : a'.ownBlock = a.ownBlock ∨ a'.ownBlock = some w.heap.size) : ∀ g, a'.ownBlock = some g → b.ownBlock ≠ some g := by
  intro g h1 h2
  rcases hl with e1 | e1
  · rw [e1] at h1; exact ap g h1 h2
  · rw [e1] at h1
    have := (owns_lt hb g h2).2
    have := Option.some.inj h1
    omega
section
variable {B mb : Nat} {kv vv : Value} {M : List (Int × Int)}
theorem out_any (w : World) (H : MdAt w B mb kv vv M) (i : Nat) (hi : i < M.length) (hB : B ≤ w.heap.size) (hl : M.length ≤ 8796093022208) : Calls Try.prog 21 #[.pointer (some ⟨mb, 0, none⟩), .int .i64 (i : Int)] w fun e w' => e = .returned (.tuple #[]) ∧ (∃ kv' vv', MdAt w' B mb kv' vv' (M.eraseIdx i)) ∧ Frm w w' (fun k => k = mb) := by
  obtain ⟨ao, cap, hf, hg⟩ := H.ks.form
  obtain ⟨bo, bcap, hf2, hg2⟩ := H.vs.form
  rw [List.length_map] at hf hg hf2 hg2
  subst hf
  subst hf2
  have HH := hide H
  have HG := hide hg
  have HG2 := hide hg2
  have hm := H.blk.lt
  obtain ⟨n, hn⟩ : ∃ n, n = M.length := ⟨_, rfl⟩
  have HN := hide hn
  rw [← hn] at HH HG HG2 hl hi
  have hib : i ≤ 8796093022208 := by omega
  have HC : Hid (∀ W, Below w.heap.size w W → W.cell? ⟨mb, 0, none⟩ = some (.slice ao n cap) ∧ W.cell? ⟨mb, 1, none⟩ = some (.slice bo n bcap) ∧ (∀ q, W.frozen? ⟨mb, q, none⟩ = false)) := hide (fun W hb => by
    have h := HH.out.blk.below hb HH.out.blk.lt
    exact ⟨by rw [h.cell]; rfl, by rw [h.cell]; rfl, h.frozen⟩)
  clear H hg hg2 hn
  go_enter Try.func21, Try.ntmps21
  go_wp2
  go_loopw [4, 5, 6] (fun a b t wr => ∃ (ua ub : Value) (j : Nat), ua = a ∧ ub = b ∧ t = .int .i64 j ∧ j ≤ n ∧ OutS w wr ua ub (outL M i j)) (fun _ _ t _ => n - (intOf t).toNat)
  case atStart => exact ⟨_, _, 0, rfl, rfl, rfl, Nat.zero_le _, World.ownsRow_nil _ _ _ _, World.ownsRow_nil _ _ _ _, (fun g e => by cases e), Below.refl _ _⟩
  case round =>
    obtain ⟨ua, ub, j, rfl, rfl, rfl, hj, hS⟩ := hrel
    obtain ⟨m0, m1, m2⟩ := HC.out wr hS.bel
    by_cases hlt : j < n
    · have hji : (j : Int) < (n : Int) := by omega
      by_cases e : j = i
      · have heq : ((j : Int) == (i : Int)) = true := by simp [e]
        have hne : ((j : Int) != (i : Int)) = false := by simp [e]
        have HS2 : Hid (OutS w wr ua ub (outL M i (j + 1))) := hide (by unfold outL; rw [if_pos e]; exact hS)
        have HE := hide e
        clear hS e
        go_wp2
        go_roundw
        case rel => exact ⟨_, _, j + 1, rfl, rfl, by go_num, by omega, HS2.out⟩
        case measure => simp [intOf]; omega
      · have heq : ((j : Int) == (i : Int)) = false := by simp; omega
        have hne : ((j : Int) != (i : Int)) = true := by simp; omega
        have HE := hide e
        obtain ⟨g, rfl⟩ := HG.out (by omega)
        obtain ⟨g2, rfl⟩ := HG2.out (by omega)
        have hjm : j < (M.map Prod.fst).length := by simp; rw [← HN.out]; exact hlt
        have hjm2 : j < (M.map Prod.snd).length := by simp; rw [← HN.out]; exact hlt
        have hks := HH.out.ks.below hS.bel
        have hvs := HH.out.vs.below hS.bel
        have d := hks.at j hjm
        have d2 := hvs.at j hjm2
        have hx : (M.map Prod.fst)[j]'hjm = (M.getD j (0, 0)).1 := by
          simp at hjm
          simp [List.getD_eq_getElem?_getD, List.getElem?_eq_getElem hjm]
        have hx2 : (M.map Prod.snd)[j]'hjm2 = (M.getD j (0, 0)).2 := by
          simp at hjm2
          simp [List.getD_eq_getElem?_getD, List.getElem?_eq_getElem hjm2]
        rw [hx] at d
        rw [hx2] at d2
        have HO : Hid (outL M i (j + 1) = outL M i j ++ [M.getD j (0, 0)]) := hide (by rw [outL, if_neg e])
        have hol := outL_len M i j
        obtain ⟨X, hX⟩ : ∃ X, X = M.getD j (0, 0) := ⟨_, rfl⟩
        rw [← hX] at d d2 HO
        obtain ⟨x, y⟩ := X
        dsimp only at d d2
        obtain ⟨N, hN⟩ : ∃ N, N = outL M i j := ⟨_, rfl⟩
        rw [← hN] at hS HO hol
        obtain ⟨aa, ca, hfa, _⟩ := hS.ks.form
        obtain ⟨ab, cb, hfb, _⟩ := hS.vs.form
        rw [List.length_map] at hfa hfb
        subst hfa
        subst hfb
        have HS := hide hS
        have hg1 : g < wr.heap.size := World.block_lt_of_cell? wr _ d
        have hg2 : g2 < wr.heap.size := World.block_lt_of_cell? wr _ d2
        clear hS e hX hN hx hx2 hjm hjm2 hks hvs
        have HC1 : Hid (OwnsI (wr.alloc (.cells #[.int .i64 x] 3)) w.heap.size (.slice aa N.length ca) (N.map Prod.fst)) := hide (HS.out.ks.below (below_alloc _ _))
        have HC2 : Hid ((wr.alloc (.cells #[.int .i64 x] 3)).cell? ⟨wr.heap.size, 0, none⟩ = some (.int .i64 x)) := hide (by rw [(Blk.made wr _ _).cell]; rfl)
        have HC3 : Hid ((N.map Prod.fst).length + 1 ≤ 17592186044416) := hide (by rw [List.length_map]; omega)
        have HC4 : Hid (w.heap.size ≤ (wr.alloc (.cells #[.int .i64 x] 3)).heap.size) := hide (by have := HS.out.bel.size; simp; omega)
        go_wp2_with (at_builtin; refine wpList_append_int rfl _ _ rfl w.heap.size _ (N.map Prod.fst) rfl HC1.out wr.heap.size 1 rfl x HC2.out HC3.out HC4.out ?_; intro v' w3 HO3 HG3 HL3; generalize hG : wpList _ _ _ _ _ _ = G)
        obtain ⟨aa3, ca3, hfa, _⟩ := HO3.out.form
        rw [List.length_append, List.length_map, List.length_singleton] at hfa
        subst hfa
        have hbA := below_alloc wr (.cells #[.int .i64 x] 3)
        have hv1 := HS.out.vs.below hbA
        have HV3 := hide (hv1.grown HG3.out (fun q e1 e2 => HS.out.ap q e2.symm e1))
        have HB3 : Hid (Below w.heap.size w w3) := hide (own_below ((HS.out.bel).trans (hbA.mono HS.out.bel.size)) HC1.out HC4.out HG3.out)
        have HAP3 := hide (ap_grown (e := 3) (n := 0) (w' := w3) (xs := []) hv1 HS.out.ap HL3.out)
        have e2 : w3.cell? ⟨g2, j, none⟩ = some (.int .i64 y) := by
          have hgw : g2 < w.heap.size := (owns_lt HH.out.vs g2 rfl).2
          exact (HB3.out.cell (p := ⟨g2, j, none⟩) hgw).trans ((HS.out.bel.cell (p := ⟨g2, j, none⟩) hgw).symm.trans d2)
        obtain ⟨k0, k1, k2⟩ := HC.out w3 HB3.out
        have HK3 := hide HO3.out
        subst hG
        clear HC1 HC2 HC3 HC4 HO3 HG3 HL3 hv1 hbA d d2 m0 m1 m2 hg1
        have hg3 : g2 < w3.heap.size := World.block_lt_of_cell? w3 _ e2
        have HC1 : Hid (OwnsI (w3.alloc (.cells #[.int .i64 y] 3)) w.heap.size (.slice ab N.length cb) (N.map Prod.snd)) := hide (HV3.out.below (below_alloc _ _))
        have HC2 : Hid ((w3.alloc (.cells #[.int .i64 y] 3)).cell? ⟨w3.heap.size, 0, none⟩ = some (.int .i64 y)) := hide (by rw [(Blk.made w3 _ _).cell]; rfl)
        have HC3 : Hid ((N.map Prod.snd).length + 1 ≤ 17592186044416) := hide (by rw [List.length_map]; omega)
        have HC4 : Hid (w.heap.size ≤ (w3.alloc (.cells #[.int .i64 y] 3)).heap.size) := hide (by have := HB3.out.size; simp; omega)
        go_wp2_with (at_builtin; refine wpList_append_int rfl _ _ rfl w.heap.size _ (N.map Prod.snd) rfl HC1.out w3.heap.size 1 rfl y HC2.out HC3.out HC4.out ?_; intro v' w5 HO5 HG5 HL5; generalize hG : wpList _ _ _ _ _ _ = G)
        obtain ⟨ab5, cb5, hfb, _⟩ := HO5.out.form
        rw [List.length_append, List.length_map, List.length_singleton] at hfb
        subst hfb
        have hbB := below_alloc w3 (.cells #[.int .i64 y] 3)
        have hk1 := HK3.out.below hbB
        have HS5 : Hid (OutS w w5 (.slice aa3 (N.length + 1) ca3) (.slice ab5 (N.length + 1) cb5) (outL M i (j + 1))) := hide (by
          rw [HO.out]
          refine ⟨?_, ?_, ?_, own_below ((HB3.out).trans (hbB.mono HB3.out.size)) HC1.out HC4.out HG5.out⟩
          · rw [List.map_append]; exact hk1.grown HG5.out (fun q e1 e2 => HAP3.out q e1 e2.symm)
          · rw [List.map_append]; exact HO5.out
          · intro q e1 e2
            exact ap_grown (e := 3) (n := 0) (w' := w5) (xs := []) hk1 (fun g h1 h2 => HAP3.out g h2 h1) HL5.out q e2 e1)
        subst hG
        clear HC1 HC2 HC3 HC4 HO5 HG5 HL5 hbB hk1 HK3 HV3 HB3 HAP3 k0 k1 k2 e2
        go_wp2
        go_roundw
        case rel => exact ⟨_, _, j + 1, rfl, rfl, by go_num, by omega, HS5.out⟩
        case measure => simp [intOf]; omega
    · have hji : ¬ (j : Int) < (n : Int) := by omega
      obtain rfl : j = n := by omega
      have HO : Hid (outL M i j = M.eraseIdx i) := hide (by rw [outL_is M i j (by rw [HN.out]; exact Nat.le_refl _), HN.out, List.take_length])
      rw [HO.out] at hS
      obtain ⟨aa, ca, hfa, _⟩ := hS.ks.form
      obtain ⟨ab, cb, hfb, _⟩ := hS.vs.form
      subst hfa
      subst hfb
      have HS := hide hS
      have f0 := m2 0
      have f1 := m2 1
      generalize ((M.eraseIdx i).map Prod.fst).length = la at *
      generalize ((M.eraseIdx i).map Prod.snd).length = lb at *
      clear hS
      go_wp2
      go_returns
      refine ⟨rfl, ⟨.slice aa la ca, .slice ab lb cb, ?_⟩, ?_⟩
      · have hk := HH.out.blk.below HS.out.bel HH.out.blk.lt
        have g1 := grownBy_set wr mb 0 (.slice aa la ca)
        have g2 := grownBy_set (wr.setCell ⟨mb, 0, none⟩ (.slice aa la ca)) mb 1 (.slice ab lb cb)
        have n1 : ∀ g, (Value.slice aa la ca).ownBlock = some g → some g ≠ some mb := fun g e e2 => blk_own_ne hk HS.out.ks (by decide) g e (Option.some.inj e2)
        have n2 : ∀ g, (Value.slice ab lb cb).ownBlock = some g → some g ≠ some mb := fun g e e2 => blk_own_ne hk HS.out.vs (by decide) g e (Option.some.inj e2)
        exact ⟨(hk.set 0 _).set 1 _, own_lowerB (((HS.out.ks.grown g1 n1)).grown g2 n1) hB, own_lowerB (((HS.out.vs.grown g1 n2)).grown g2 n2) hB, HS.out.ap⟩
      · exact Frm.put (S := fun k => k = mb) (Frm.put (S := fun k => k = mb) (Frm.of_below HS.out.bel) mb _ _ rfl) mb _ _ rfl
end
end Go.Proofs.Ytnknjcnbbljagaa
