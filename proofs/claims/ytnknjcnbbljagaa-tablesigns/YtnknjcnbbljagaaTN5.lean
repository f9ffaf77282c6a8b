/- A step on table and list alike: a put. -/
import Derived.Test.YtnknjcnbbljagaaTN4
namespace Go.Proofs.Ytnknjcnbbljagaa
set_option linter.unusedVariables false
set_option linter.unusedSimpArgs false
set_option maxRecDepth 100000
open Go.RowKit

theorem OwnsI.set {w : World} {base g n cap : Nat} {xs : List Int} (h : OwnsI w base (.slice (some ⟨g, 0, none⟩) n cap) xs) (k : Nat) (y : Int) : OwnsI (w.setCell ⟨g, k, none⟩ (.int .i64 y)) base (.slice (some ⟨g, 0, none⟩) n cap) (xs.set k y) := by
  obtain ⟨hl, ⟨h1, _⟩ | ⟨g', cap', cur, e, hb, hg, hc, hm, hs, ht⟩⟩ := h
  · cases h1
  · cases e
    refine ⟨by simp, .inr ⟨g, cap, cur.setIfInBounds k (i64c y), by simp, hb, heap_setCell_same w g k cur _ _ hg, by simpa using hc, hm, by simpa using hs, ?_⟩⟩
    rw [Array.toList_setIfInBounds, List.map_set, ← ht, List.take_set, List.length_set]
theorem OwnsI.frozen {w : World} {base g n cap : Nat} {xs : List Int} (h : OwnsI w base (.slice (some ⟨g, 0, none⟩) n cap) xs) (k : Nat) : w.frozen? ⟨g, k, none⟩ = false := by
  obtain ⟨hl, ⟨h1, _⟩ | ⟨g', cap', cur, e, hb, hg, hc, hm, hs, ht⟩⟩ := h
  · cases h1
  · cases e
    have hB : Blk w g cur 3 := hg
    exact hB.frozen k
theorem step_append_int {ops : Array Oper} {o : Oper} {a : Act} {w : World} {K : Act → World → Prop} {Q : Exit → Act → World → Prop} {E : Prop} (hgd : o.guard = none) (s x : Operand) (ho : o.op = .call { callee := .builtin .append, args := #[s, x], argTypes := #[40, 40] })
    (base : Nat) (v : Value) (xs : List Int) (hs : a.eval s = v) (hown : OwnsI w base v xs) (z c : Nat) (hx : a.eval x = .slice (some ⟨z, 0, none⟩) 1 c) (y : Int) (hc : w.cell? ⟨z, 0, none⟩ = some (.int .i64 y)) (hlen : xs.length + 1 ≤ 17592186044416) (hbase : base ≤ w.heap.size)
    (h : ∀ g cap w', Hid (OwnsI w' base (.slice (some ⟨g, 0, none⟩) (xs.length + 1) cap) (xs ++ [y])) → Hid (w.grownBy w' v.ownBlock) → Hid (v.ownBlock = some g ∨ g = w.heap.size) → K (a.put o.dst (.slice (some ⟨g, 0, none⟩) (xs.length + 1) cap)) w') :
    if Region.wanted o (yielded ops a.tmps) = true then Oper.wp Try.prog o a w K Q else E := by
  obtain ⟨i0, hi, hz0, hz1, hz2⟩ := info_parts infoI64
  refine step_append_lies w hgd s x 40 ho base 3 i0 (.int .i64 0) 1 8 Try.underlying40 hi hz0 hz1 hz2 rfl (by decide) v xs.length (xs.map i64c) hs hown ⟨z, 0, none⟩ 1 c [.int .i64 y] hx rfl ?_ (by intro v hv; simp at hv; subst hv; rfl) (by decide) (by unfold maxLen; omega) (by omega) hbase w.heap.size rfl ?_
  · intro j u hj
    cases j with
    | zero => cases hj; exact hc
    | succ j => simp at hj
  · intro g cap w' h1 h2 h3 _
    exact h g cap w' (hide (by unfold OwnsI; rw [List.length_append, List.map_append]; exact h1)) (hide h2) (hide h3)
theorem cutP {P G : Prop} (f : P → G) (h : P) : G := f h
section
variable {B z gy ge mb F bt bm : Nat} {ti ma : Int} {kv vv : Value} {T : TB} {M : List (Int × Int)} {P : Nat}
theorem St.setV {W : World} {k : Int} {q g cap : Nat} (h : St W B z gy ge mb F bt bm ti ma kv vv T M) (hq : q < M.length) (hk : (M.getD q (0, 0)).1 = k) (v : Int) (hv : vv = .slice (some ⟨g, 0, none⟩) M.length cap) : St (W.setCell ⟨g, q, none⟩ (.int .i64 v)) B z gy ge mb F bt bm ti ma kv vv T (M.set q (k, v)) ∧ Below B W (W.setCell ⟨g, q, none⟩ (.int .i64 v)) := by
  subst hv
  obtain ⟨cs, t, fz, hty, rfl⟩ := own_type h.md.vs g rfl
  have hg := owns_lt h.md.vs g rfl
  have hgb := grownBy_set W g q (.int .i64 v)
  have hb : Below B W (W.setCell ⟨g, q, none⟩ (.int .i64 v)) := (Below.refl B W).setCell hg.1 _
  refine ⟨h.list ⟨h.md.blk.setOther _ _ (fun e => blk_own_ne h.md.blk h.md.vs (by decide) g rfl e.symm), ?_, ?_, h.md.ap⟩ (KeepT.setCell W _ _ hty (by decide)) hb, hb⟩
  · have e : (M.set q (k, v)).map Prod.fst = M.map Prod.fst := by
      rw [List.map_set]
      have hx : k = (M.map Prod.fst)[q]'(by simpa using hq) := by
        rw [← hk]; simp [List.getD_eq_getElem?_getD, List.getElem?_eq_getElem hq]
      rw [hx, List.set_getElem_self]
    rw [e]
    exact h.md.ks.grown hgb (fun q e1 e2 => h.md.ap q e1 (by rw [Option.some.inj e2]; rfl))
  · rw [List.map_set]
    exact h.md.vs.set q v
/-- Between the two appends. -/
structure ApS (w2 : World) (B mb : Nat) (kv vv : Value) (K V : List Int) (W : World) : Prop where
  blk : Blk W mb #[kv, vv] 42
  ks : OwnsI W B kv K
  vs : OwnsI W B vv V
  ap : ∀ g, kv.ownBlock = some g → vv.ownBlock ≠ some g
  keep : KeepT tys w2 W
  bel : Below B w2 W
theorem app_keep {W Wa w3 : World} {mb j : Nat} {v u : Value} {xs : List Int} {cs : Array Value} (hb : Below W.heap.size W Wa) (ho : OwnsI Wa B v xs) (hg : Wa.grownBy w3 v.ownBlock) (hm : Blk w3 mb cs 42) (hB : B ≤ W.heap.size) (hmb : B ≤ mb) : KeepT tys W (w3.setCell ⟨mb, j, none⟩ u) ∧ Below B W (w3.setCell ⟨mb, j, none⟩ u) := by
  refine ⟨((KeepT.below hb).trans (KeepT.grown hg (fun r e => ?_))).trans (KeepT.setCell _ _ _ hm (by decide)), (own_below (hb.mono hB) ho (Nat.le_trans hB hb.size) hg).setCell hmb _⟩
  obtain ⟨cs, t, fz, h1, h2⟩ := own_type ho r e
  exact ⟨cs, t, fz, h1, by rw [h2]; decide⟩
theorem step_put (w : World) (H : St w B z gy ge mb F bt bm ti ma kv vv T M) (R : Rel ti ma T M P) (hP : P + 1 ≤ 4398046511104) (o : Bool) (k v : Int) : Calls Try.prog 14 #[.pointer (some ⟨mb, 0, none⟩), .pointer (some ⟨z, 0, none⟩), .agg (xL 0 o k v)] w (StpC w B z mb F bt bm ti ma T P) := by
  obtain ⟨W1, hW1⟩ : ∃ W, W = w.alloc (.cells #[.int .i64 0, .bool o, .int .i64 k, .int .i64 v] 36) := ⟨_, rfl⟩
  have hb1 : Below w.heap.size w W1 := by rw [hW1]; exact below_alloc w _
  have hB1 : Blk W1 w.heap.size (xL 0 o k v) 36 := by rw [hW1]; exact Blk.made w _ _
  have hS1 := H.below hb1
  have x0 : W1.cell? ⟨w.heap.size, 0, none⟩ = some (.int .i64 0) := by rw [hB1.cell]; rfl
  have x2 : W1.cell? ⟨w.heap.size, 2, none⟩ = some (.int .i64 k) := by rw [hB1.cell]; rfl
  have x3 : W1.cell? ⟨w.heap.size, 3, none⟩ = some (.int .i64 v) := by rw [hB1.cell]; rfl
  have HAt := hide (at_any W1 hS1.md k (by have := R.lenP; omega))
  have HSS := hide hS1
  have HBB := hide (hb1.mono H.lo.2.2.2.2.2.2)
  have HR := hide R
  have HPut := hide (put_any W1 hS1.tb hS1.hs R.inv.ok k v (grow_ok R.inv hS1.tb.ly hP k v))
  unfold PutC ansV at HPut
  have HX := hide hB1
  have HXB : Hid (w.heap.size < W1.heap.size) := hide hB1.lt
  have hW1' := hW1.symm
  rcases rel_put R k v with ⟨r1, r2, r3⟩ | ⟨q, r1, r2, r3, r4, r5, r6⟩
  · rw [r1] at HAt
    rw [r2] at HPut
    have hval : valT 0 (stepT (hsh ti ma) T) none = 0 := rfl
    rw [hval] at HPut
    have HR2 := hide r3
    have HLB := hide R.lenP
    clear r1 r2 r3 hval H R hB1 hS1 hb1 hW1
    unfold xL
    go_enter Try.func14, Try.ntmps14
    go_upto_region 1 with fail
    clear hW1'
    go_upto_region 10 with (first | (go_at_call 20; refine HAt.out.mono ?_; rintro e w' ⟨rfl, hw⟩; rw [hw]; clear hw) | (go_at_call 50; refine HPut.out.mono ?_; rintro e w2 ⟨rfl, hk⟩; have HK := hide hk; clear hk))
    obtain ⟨⟨gy', ge', hs'⟩, hb'⟩ := HSS.out.table HK.out
    have hxn : ¬ TbB z gy ge w.heap.size := HSS.out.tb.notB HX.out (by decide) (by decide)
    have hxx : Blk w2 w.heap.size (xL 0 o k v) 36 := (HK.out.fr.block w.heap.size HXB.out hxn).trans HX.out
    have y2 : w2.cell? ⟨w.heap.size, 2, none⟩ = some (.int .i64 k) := by rw [hxx.cell]; rfl
    have HS2 := hide hs'
    have HB2 := hide (HBB.out.trans hb')
    have HX2 := hide hxx
    have HML : Hid (M.length ≤ 4398046511104) := hide (by have := HLB.out; omega)
    obtain ⟨ao, kcap, hkf, _⟩ := hs'.md.ks.form
    obtain ⟨bo, vcap, hvf, _⟩ := hs'.md.vs.form
    rw [List.length_map] at hkf hvf
    subst hkf
    subst hvf
    have m0 : w2.cell? ⟨mb, 0, none⟩ = some (.slice ao M.length kcap) := by rw [hs'.md.blk.cell]; rfl
    have hmb2 := hs'.md.blk.lt
    have hxl2 := hxx.lt
    clear hs' hb' HK HSS HBB HAt HPut x0 x2 x3 hxn hxx
    have hba : Below w2.heap.size w2 (w2.drew.alloc (.cells #[.int .i64 k] 3)) := below_undrew (below_alloc w2.drew _)
    have HC1 : Hid (OwnsI (w2.drew.alloc (.cells #[.int .i64 k] 3)) B (.slice ao M.length kcap) (M.map Prod.fst)) := hide (HS2.out.md.ks.below hba)
    have HC2 : Hid ((w2.drew.alloc (.cells #[.int .i64 k] 3)).cell? ⟨w2.heap.size, 0, none⟩ = some (.int .i64 k)) := hide (by have h := (Blk.made w2.drew #[.int .i64 k] 3).cell 0; exact h)
    have HC3 : Hid ((M.map Prod.fst).length + 1 ≤ 17592186044416) := hide (by rw [List.length_map]; have := HML.out; omega)
    have HC4 : Hid (B ≤ (w2.drew.alloc (.cells #[.int .i64 k] 3)).heap.size) := hide (by have := HS2.out.lo; have := hba.size; omega)
    have HMB : Hid (∀ w3, (w2.drew.alloc (.cells #[.int .i64 k] 3)).grownBy w3 (Value.slice ao M.length kcap).ownBlock → Blk w3 mb #[.slice ao M.length kcap, .slice bo M.length vcap] 42) := hide (fun w3 hg => (HS2.out.md.blk.below hba HS2.out.md.blk.lt).grown hg (fun e => blk_own_ne (HS2.out.md.blk.below hba HS2.out.md.blk.lt) HC1.out (by decide) mb e.symm rfl))
    have HBA := hide hba
    clear hba
    apply cutP
    · intro hP
      go_region_law (refine step_append_int rfl (.tmp 55) (.tmp 58) rfl B (.slice ao M.length kcap) (M.map Prod.fst) (by simp [Act.eval, Act.put]) HC1.out w2.heap.size 1 (by simp [Act.eval, Act.put]) k HC2.out HC3.out HC4.out ?_; intro g3 cap3 w3 HO3 HG3 HL3; have hm3 := HMB.out w3 HG3.out; have c3 : w3.cell? ⟨mb, 0, none⟩ = some (.slice ao M.length kcap) := (hm3.cell 0).trans rfl; have f3 := hm3.frozen 0; have HM3 := hide hm3; clear hm3)
      all_goals
        revert HM3 f3 c3 HL3 HG3 HO3
        revert w3 cap3 g3
        exact hP
    · intro g3 cap3 w3 HO3 HG3 HL3 c3 f3 HM3
      have hk4 := app_keep (j := 0) (u := .slice (some ⟨g3, 0, none⟩) (M.length + 1) cap3) HBA.out HC1.out HG3.out HM3.out HS2.out.lo.2.2.2.2.2.2 HS2.out.lo.2.2.2.1
      have HS4 : Hid (ApS w2 B mb (.slice (some ⟨g3, 0, none⟩) (M.length + 1) cap3) (.slice bo M.length vcap) (M.map Prod.fst ++ [k]) (M.map Prod.snd) (w3.setCell ⟨mb, 0, none⟩ (.slice (some ⟨g3, 0, none⟩) (M.length + 1) cap3))) := hide (by
        have hg := grownBy_set w3 mb 0 (.slice (some ⟨g3, 0, none⟩) (M.length + 1) cap3)
        have hO3 : OwnsI w3 B (.slice (some ⟨g3, 0, none⟩) (M.length + 1) cap3) (M.map Prod.fst ++ [k]) := by have := HO3.out; rw [List.length_map] at this; exact this
        have hv1 := HS2.out.md.vs.below HBA.out
        have hv3 := hv1.grown HG3.out (fun g e1 e2 => HS2.out.md.ap g e2.symm e1)
        refine ⟨HM3.out.set 0 _, hO3.grown hg (fun g e1 e2 => blk_own_ne HM3.out hO3 (by decide) g e1 (Option.some.inj e2)), hv3.grown hg (fun g e1 e2 => blk_own_ne HM3.out hv3 (by decide) g e1 (Option.some.inj e2)), ?_, hk4.1, hk4.2⟩
        intro g e1 e2
        rcases HL3.out with e | e
        · exact HS2.out.md.ap g (by rw [← e1]; exact e) e2
        · have := (owns_lt HS2.out.md.vs g e2).2
          have e3 : g3 = g := Option.some.inj e1
          have e4 : g3 = w2.heap.size + 1 := e.trans (World.size_alloc w2 _)
          omega)
      have HX4 : Hid (Blk (w3.setCell ⟨mb, 0, none⟩ (.slice (some ⟨g3, 0, none⟩) (M.length + 1) cap3)) w.heap.size (xL 0 o k v) 36) := hide (((HX2.out.below HBA.out HX2.out.lt).grown HG3.out (fun e => blk_own_ne (HX2.out.below HBA.out HX2.out.lt) HC1.out (by decide) _ e.symm rfl)).setOther _ _ (fun e => by
        have h1 := HX2.out
        have h2 := HS2.out.md.blk
        unfold Blk at h1 h2
        have e' : w.heap.size = mb := e
        rw [e', h2] at h1
        cases h1))
      clear hk4 HO3 HG3 HL3 c3 f3 HM3 HMB HC1 HC2 HC3 HC4 HBA m0 y2 hmb2 hxl2
      go_upto_region 11 with fail
      refine name_world (fun W => ApS w2 B mb (.slice (some ⟨g3, 0, none⟩) (M.length + 1) cap3) (.slice bo M.length vcap) (M.map Prod.fst ++ [k]) (M.map Prod.snd) W ∧ Blk W w.heap.size (xL 0 o k v) 36) ⟨HS4.out, HX4.out⟩ ?_
      rintro W ⟨hA, hX⟩
      have HA := hide hA
      have m1 : W.cell? ⟨mb, 1, none⟩ = some (.slice bo M.length vcap) := by rw [hA.blk.cell]; rfl
      have x3 : W.cell? ⟨w.heap.size, 3, none⟩ = some (.int .i64 v) := by rw [hX.cell]; rfl
      have hmbW := hA.blk.lt
      have hxW := hX.lt
      have hBW : B ≤ W.heap.size := Nat.le_trans HS2.out.lo.2.2.2.2.2.2 hA.bel.size
      have hba : Below W.heap.size W (W.drew.alloc (.cells #[.int .i64 v] 3)) := below_undrew (below_alloc W.drew _)
      have HC1 : Hid (OwnsI (W.drew.alloc (.cells #[.int .i64 v] 3)) B (.slice bo M.length vcap) (M.map Prod.snd)) := hide (hA.vs.below hba)
      have HC2 : Hid ((W.drew.alloc (.cells #[.int .i64 v] 3)).cell? ⟨W.heap.size, 0, none⟩ = some (.int .i64 v)) := hide (by have h := (Blk.made W.drew #[.int .i64 v] 3).cell 0; exact h)
      have HC3 : Hid ((M.map Prod.snd).length + 1 ≤ 17592186044416) := hide (by rw [List.length_map]; have := HML.out; omega)
      have HC4 : Hid (B ≤ (W.drew.alloc (.cells #[.int .i64 v] 3)).heap.size) := hide (by have := hba.size; omega)
      have HMB : Hid (∀ w5, (W.drew.alloc (.cells #[.int .i64 v] 3)).grownBy w5 (Value.slice bo M.length vcap).ownBlock → Blk w5 mb #[.slice (some ⟨g3, 0, none⟩) (M.length + 1) cap3, .slice bo M.length vcap] 42) := hide (fun w5 hg => (HA.out.blk.below hba HA.out.blk.lt).grown hg (fun e => blk_own_ne (HA.out.blk.below hba HA.out.blk.lt) HC1.out (by decide) mb e.symm rfl))
      have HBA := hide hba
      have HBW := hide hBW
      clear hba hA hX HS4 HX4 hBW
      apply cutP
      · intro hP
        go_region_law (refine step_append_int rfl (.tmp 66) (.tmp 69) rfl B (.slice bo M.length vcap) (M.map Prod.snd) (by simp [Act.eval, Act.put]) HC1.out W.heap.size 1 (by simp [Act.eval, Act.put]) v HC2.out HC3.out HC4.out ?_; intro g5 cap5 w5 HO5 HG5 HL5; have hm5 := HMB.out w5 HG5.out; have c5 : w5.cell? ⟨mb, 1, none⟩ = some (.slice bo M.length vcap) := (hm5.cell 1).trans rfl; have f5 := hm5.frozen 1; have HM5 := hide hm5; clear hm5)
        all_goals
          revert HM5 f5 c5 HL5 HG5 HO5
          revert w5 cap5 g5
          exact hP
      · intro g5 cap5 w5 HO5 HG5 HL5 c5 f5 HM5
        have hk6 := app_keep (j := 1) (u := .slice (some ⟨g5, 0, none⟩) (M.length + 1) cap5) HBA.out HC1.out HG5.out HM5.out HBW.out HS2.out.lo.2.2.2.1
        have HS6 : Hid (St (w5.setCell ⟨mb, 1, none⟩ (.slice (some ⟨g5, 0, none⟩) (M.length + 1) cap5)) B z gy' ge' mb F bt bm ti ma (.slice (some ⟨g3, 0, none⟩) (M.length + 1) cap3) (.slice (some ⟨g5, 0, none⟩) (M.length + 1) cap5) (putT eqK (hsh ti ma) T k v) (M ++ [(k, v)]) ∧ Below B w2 (w5.setCell ⟨mb, 1, none⟩ (.slice (some ⟨g5, 0, none⟩) (M.length + 1) cap5))) := hide (by
          have hg := grownBy_set w5 mb 1 (.slice (some ⟨g5, 0, none⟩) (M.length + 1) cap5)
          have hO5 : OwnsI w5 B (.slice (some ⟨g5, 0, none⟩) (M.length + 1) cap5) (M.map Prod.snd ++ [v]) := by have := HO5.out; rw [List.length_map] at this; exact this
          have hk1 := HA.out.ks.below HBA.out
          have hk3 := hk1.grown HG5.out (fun g e1 e2 => HA.out.ap g e1 e2.symm)
          have hb := HA.out.bel.trans hk6.2
          refine ⟨HS2.out.list ⟨HM5.out.set 1 _, ?_, ?_, ?_⟩ (HA.out.keep.trans hk6.1) hb, hb⟩
          · rw [List.map_append]
            exact hk3.grown hg (fun g e1 e2 => blk_own_ne HM5.out hk3 (by decide) g e1 (Option.some.inj e2))
          · rw [List.map_append]
            exact hO5.grown hg (fun g e1 e2 => blk_own_ne HM5.out hO5 (by decide) g e1 (Option.some.inj e2))
          · intro g e1 e2
            rcases HL5.out with e | e
            · exact HA.out.ap g e1 (by rw [← e2]; exact e)
            · have := (owns_lt HA.out.ks g e1).2
              have e3 : g5 = g := Option.some.inj e2
              have e4 : g5 = W.heap.size + 1 := e.trans (World.size_alloc W _)
              omega)
        clear hk6 HO5 HG5 HL5 c5 f5 HM5 HMB HC1 HC2 HC3 HC4 HBA HA m1 x3 hmbW hxW
        go_wp2
        go_ret
        exact stp_ok HS6.out.1 HR2.out (left_put HR.out.inv k v) (HB2.out.trans HS6.out.2)
  · rw [r2] at HAt
    rw [r4, r5] at HPut
    obtain ⟨g, cap, hvf, hc, hm1⟩ := hS1.md.val r1
    have hgl := World.block_lt_of_cell? W1 _ hc
    have hmb1 := hS1.md.blk.lt
    generalize hy : (M.getD q (0, 0)).2 = y at *
    have hlb := R.lenP
    have hqi : (q : Int) < (M.length : Int) := by omega
    have hq0 : (0 : Int) ≤ (q : Int) := by omega
    have hqb : q ≤ 4398046511104 := by omega
    have HR2 := hide r6
    have HQ := hide r1
    have HRK := hide r3
    have HLB := hide hlb
    clear r1 r2 r3 r4 r5 r6 hlb H R hB1 hS1 hb1 hW1
    unfold xL
    go_enter Try.func14, Try.ntmps14
    go_upto_region 1 with fail
    clear hW1'
    go_upto_region 9 with (first | (go_at_call 20; refine HAt.out.mono ?_; rintro e w' ⟨rfl, hw⟩; rw [hw]; clear hw) | (go_at_call 50; refine HPut.out.mono ?_; rintro e w2 ⟨rfl, hk⟩; have HK := hide hk; clear hk))
    obtain ⟨⟨gy', ge', hs'⟩, hb'⟩ := HSS.out.table HK.out
    have hxn : ¬ TbB z gy ge w.heap.size := HSS.out.tb.notB HX.out (by decide) (by decide)
    have hxb := (HK.out.fr.block w.heap.size HXB.out hxn).trans HX.out
    have x3 : w2.cell? ⟨w.heap.size, 3, none⟩ = some (.int .i64 v) := by
      have hxx : Blk w2 w.heap.size (xL 0 o k v) 36 := hxb
      rw [hxx.cell]; rfl
    obtain ⟨g', cap', hvf', hc', hm1'⟩ := hs'.md.val HQ.out
    have hf' : w2.frozen? ⟨g', q, none⟩ = false := by
      have := hs'.md.vs
      rw [hvf'] at this
      exact this.frozen q
    have hgl2 := World.block_lt_of_cell? w2 _ hc'
    have hmb2 := hs'.md.blk.lt
    have hxl2 := World.block_lt_of_cell? w2 _ x3
    have hmi : ((M.length : Nat) : Int) ≤ 4398046511104 := by have := HLB.out; omega
    have HS2 := hide hs'
    have HB2 := hide (HBB.out.trans hb')
    have HVF := hide hvf'
    generalize hy2 : (M.getD q (0, 0)).2 = y2 at *
    obtain ⟨n, hn⟩ : ∃ n, n = M.length := ⟨_, rfl⟩
    rw [← hn] at hqi hm1' hmi
    have HN := hide hn
    clear hs' hb' HK HSS HBB HAt HPut hc hm1 hgl x0 x2 hxn hxb hvf' hn hvf hmb1 hy2 hy
    go_region
    go_wp2
    go_ret
    have hset := HS2.out.setV HQ.out HRK.out v (by rw [HVF.out])
    exact stp_ok (hset.1.drewN 1) HR2.out (left_put HR.out.inv k v) (below_dN (HB2.out.trans hset.2) 1)
end
end Go.Proofs.Ytnknjcnbbljagaa
