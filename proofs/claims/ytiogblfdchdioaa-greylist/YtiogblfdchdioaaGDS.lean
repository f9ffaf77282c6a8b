/- The document's work list: Push, end, At, Bump. -/
import Derived.Test.YtiogblfdchdioaaGDR
namespace Go.Proofs.Ytiogblfdchdioaa
set_option linter.unusedVariables false
set_option linter.unusedSimpArgs false
namespace RG
open Go.RowKit
set_option maxRecDepth 100000

abbrev RT : TypeId := 28
/-- The document's list at q: its row v holds V. -/
structure RlAt (w : World) (q B : Nat) (v : Value) (V : List EL) : Prop where
  blk : Blk w q #[v] RT
  own : OwnG w B v V
theorem RlAt.below {w w' : World} {q B : Nat} {v : Value} {V : List EL} (h : RlAt w q B v V) (hb : Below w.heap.size w w') : RlAt w' q B v V := ⟨h.blk.below hb h.blk.lt, h.own.below hb⟩
/-- What a call leaves: a row made anew. -/
structure DocS (w w' : World) (q : Nat) (V : List EL) : Prop where
  ex : ∃ v, RlAt w' q w.heap.size v V
  fr : Frm w w' (fun k => k = q)
theorem wpList_ldKb {ops : Array Oper} {rest : List Oper} {op : Oper} {a : Act} {w : World} {Q : Exit → Act → World → Prop} (hg : Region.wanted op (yielded ops a.tmps) = true) (x : Operand) (ho : op.op = .load 31 x) (z : Nat) (hx : a.eval x = .pointer (some ⟨z, 0, none⟩)) (k : List UInt8) (hk : k.length = 32) (h : BoxK w z k)
    (hK : wpList Try.prog ops Q rest (a.put op.dst (.agg (kA k))) w) : wpList Try.prog ops Q (op :: rest) a w :=
  wpList_valG _ hg (run_ldK hk ho hx h) hK
theorem wpList_buildG {ops : Array Oper} {rest : List Oper} {op : Oper} {a : Act} {w : World} {Q : Exit → Act → World → Prop} (hg : Region.wanted op (yielded ops a.tmps) = true) (x : Operand) (ho : op.op = .build elT #[(0, x)]) (k : List UInt8) (h : k.length = 32) (hx : a.eval x = .agg (kA k))
    (hK : wpList Try.prog ops Q rest (a.put op.dst (elV (greyOf k h))) w) : wpList Try.prog ops Q (op :: rest) a w :=
  wpList_valG _ hg (run_buildG ho k h hx w) hK
section
variable {w : World} {q B : Nat} {v : Value} {V : List EL}
theorem rpush_any (h : RlAt w q B v V) (hn : V.length ≤ 3518437208000) (ks : List UInt8) (hks : ks.length = 32) : Calls Try.prog 20 #[.pointer (some ⟨q, 0, none⟩), .agg (kA ks)] w fun e w' => e = .returned (.tuple #[]) ∧ DocS w w' q (V ++ [greyOf ks hks]) := by
  obtain ⟨W0, hW0⟩ : ∃ W, W = w.alloc (.cells (kA ks) 31) := ⟨_, rfl⟩
  have hb0 : Below w.heap.size w W0 := by rw [hW0]; exact below_alloc w _
  have hk0 : BoxK W0 w.heap.size ks := by rw [hW0]; exact Blk.made w _ _
  have h0 := h.below hb0
  have HG := hide (greys_any W0 v V h0.own.read hn)
  obtain ⟨ao, c, rfl, _⟩ := h.own.form
  have c0 : W0.cell? ⟨q, 0, none⟩ = some (.slice ao V.length c) := by rw [h0.blk.cell]; rfl
  have hql := h0.blk.lt
  have HQ := hide h0.blk
  have HQW := hide h.blk.lt
  have HK := hide hk0
  have HB0 := hide hb0
  have HLN : Hid (V.length + 1 ≤ 3518437208832) := hide (by omega)
  obtain ⟨k, hkk⟩ : ∃ k, k = w.heap.size := ⟨_, rfl⟩
  rw [← hkk] at HK
  clear h hb0 hk0 h0 hn
  have HEF : Hid (∀ u b, (∃ W', OwnG W' W0.heap.size u V) → u.ownBlock = some b → W0.heap.size ≤ b) := hide (fun u b ⟨W', hW'⟩ e => (hW'.lt e).2)
  obtain ⟨e1, he1⟩ : ∃ e, e = greyOf ks hks := ⟨_, rfl⟩
  have HE1 := hide he1
  generalize V.length = n at c0 HG HQ ⊢
  go_enter Try.func20, Try.ntmps20
  go_upto_region 1 with fail
  rw [← hW0, ← hkk]
  have HKK := hide hkk
  clear hW0 hkk
  go_upto_region 2 with (go_at_call 37; (with_reducible refine HG.out.mono ?_); rintro e w2 ⟨u, rfl, h1, h2⟩; have H1 := hide h1; have H2 := hide h2; clear h1 h2)
  have HK2 := hide (show BoxK w2 k ks from Blk.below HK.out H2.out HK.out.lt)
  have HO2 : Hid (OwnG (w2.alloc (.cells (elA e1) elT)) W0.heap.size u V) := hide (H1.out.below (below_alloc _ _))
  have HBX : Hid (BoxEl (w2.alloc (.cells (elA e1) elT)) w2.heap.size e1) := hide (BoxEl.made _ _)
  have HBB : Hid (W0.heap.size ≤ (w2.alloc (.cells (elA e1) elT)).heap.size) := hide (by have := H2.out.size; simp; omega)
  clear c0 he1 HG
  go_upto_region 3 with (first | ((with_reducible refine wpList_ldKb ?_ (.tmp 3) ?_ k ?_ ks hks HK2.out ?_); rfl; rfl; rfl) | ((with_reducible refine wpList_buildG ?_ (.tmp 11) ?_ ks hks ?_ ?_); rfl; rfl; rfl; rw [← HE1.out]) | ((with_reducible refine wpList_bsE ?_ (.tmp 12) e1 ?_ ?_ ?_); rfl; rfl; rfl) | ((with_reducible refine wpList_appE ?_ (.tmp 10) (.tmp 13) ?_ W0.heap.size u V ?_ HO2.out w2.heap.size ?_ e1 HBX.out HLN.out HBB.out ?_); rfl; rfl; rfl; rfl; intro u2 w3 h1 h2 h3))
  obtain ⟨a9, c9, e9, _⟩ := h1.out.form
  generalize hlg : (V ++ [e1]).length = n9 at e9
  subst e9
  have hq3 : Blk w3 q #[.slice ao n c] RT := Blk.grown ((Blk.below HQ.out H2.out HQ.out.lt).alloc _) h2.out (fun e => by
    have := HEF.out u q ⟨_, HO2.out⟩ e.symm
    have := HQ.out.lt
    have := HQW.out
    have := HB0.out.size
    omega)
  have c3 := hq3.cell 0
  have e3 : (#[.slice ao n c] : Array Value)[0]? = some (.slice ao n c) := rfl
  rw [e3] at c3
  have f3 := hq3.frozen 0
  have hl3 := hq3.lt
  have HQ3 := hide hq3
  clear hq3 e3 HLN HBX
  go_wp2
  go_returns
  have hq9 := HQ3.out.set 0 (.slice a9 n9 c9)
  have s0 := HB0.out.size
  have hO9 : OwnG w3 W0.heap.size (.slice a9 n9 c9) (V ++ [e1]) := h1.out
  rw [← HE1.out]
  refine ⟨rfl, ⟨_, hq9, (hO9.lower s0).same (fun b e => heap_setCell_other _ _ _ _ (fun e2 => ?_))⟩, ?_⟩
  · have e3 : b = q := e2
    have := (hO9.lt e).2
    have := HQ.out.lt
    have := HQW.out
    omega
  · have f1 : Frm w w3 (fun k => k = q) := ⟨h2.out.os.trans (H2.out.os.trans HB0.out.os), h2.out.tape.trans (H2.out.tape.trans HB0.out.tape), h2.out.output.trans (H2.out.output.trans HB0.out.output), Nat.le_trans s0 (Nat.le_trans HBB.out h2.out.size), fun i hi hn => by
      refine (h2.out.block i (by have := HBB.out; omega) (fun e => ?_)).trans ((Below.heap_alloc w2 _ i (by have := H2.out.size; omega)).trans ((H2.out.block i (by omega)).trans (HB0.out.block i hi)))
      have := HEF.out u i ⟨_, HO2.out⟩ e.symm
      omega⟩
    exact f1.put _ _ _ (.inl rfl)
/-- The place of an end; -1: there is nothing. -/
def endK (bot : Bool) (V : List EL) : Int := if V.length = 0 then -1 else (endI bot V : Nat)
theorem rend_any (h : RlAt w q B v V) (hn : V.length ≤ 3518437208000) (bot : Bool) : Calls Try.prog 38 #[.pointer (some ⟨q, 0, none⟩), .bool bot] w fun e w' => e = .returned (.int .i64 (endK bot V)) ∧ w' = w := by
  obtain ⟨ao, c, rfl, _⟩ := h.own.form
  have c0 : w.cell? ⟨q, 0, none⟩ = some (.slice ao V.length c) := by rw [h.blk.cell]; rfl
  have hql := h.blk.lt
  clear h
  cases bot
  · have e : endK false V = (V.length : Int) - 1 := by
      unfold endK endI
      split
      · omega
      · rw [if_neg (by decide)]; omega
    rw [e]
    generalize V.length = n at *
    clear e
    go_enter Try.func38, Try.ntmps38
    go_wp2
    go_ret
    exact ⟨rfl, rfl⟩
  · by_cases h0 : V.length = 0
    · have e : endK true V = -1 := by unfold endK; rw [if_pos h0]
      rw [e]
      rw [h0] at c0
      clear e hn
      go_enter Try.func38, Try.ntmps38
      go_wp2
      go_ret
      exact ⟨rfl, rfl⟩
    · have e : endK true V = 0 := by unfold endK endI; rw [if_neg h0]; rfl
      rw [e]
      have hp : 0 < V.length := by omega
      have hpi : (0 : Int) < (V.length : Int) := by omega
      generalize V.length = n at *
      clear e h0
      go_enter Try.func38, Try.ntmps38
      go_wp2
      go_ret
      exact ⟨rfl, rfl⟩
theorem rat_any (h : RlAt w q B v V) (hn : V.length ≤ 3518437208000) (bot : Bool) : Calls Try.prog 22 #[.pointer (some ⟨q, 0, none⟩), .bool bot] w (LookC w (endV bot V)) := by
  obtain ⟨W0, hW0⟩ : ∃ W, W = w.alloc (.cells (elA elZ) elT) := ⟨_, rfl⟩
  have hb0 : Below w.heap.size w W0 := by rw [hW0]; exact below_alloc w _
  have hk0 : BoxEl W0 w.heap.size elZ := by rw [hW0]; exact BoxEl.made w _
  have h0 := h.below hb0
  obtain ⟨ao, c, rfl, hao⟩ := h.own.form
  have c0 : W0.cell? ⟨q, 0, none⟩ = some (.slice ao V.length c) := by rw [h0.blk.cell]; rfl
  have hql := h0.blk.lt
  have HE := hide (rend_any h0 hn bot)
  have HRD := hide h0.own.read
  obtain ⟨k, hkk⟩ : ∃ k, k = w.heap.size := ⟨_, rfl⟩
  rw [← hkk] at hk0
  have HK := hide hk0
  have HB0 := hide hb0
  have hz0 := zero_el
  rw [endV_at]
  clear h hb0 hk0 h0
  by_cases hl : V.length = 0
  · have hv : V[endI bot V]? = none := List.getElem?_eq_none (by omega)
    rw [hv]
    have he : endK bot V = -1 := by unfold endK; rw [if_pos hl]
    rw [he] at HE
    clear hv he HRD hao
    generalize V.length = n at *
    go_enter Try.func22, Try.ntmps22
    go_upto_region 1 with fail
    rw [← hW0, ← hkk]
    have HKK := hide hkk
    clear hW0 hkk
    go_wp2_with (first | (go_at_call 38; (with_reducible refine HE.out.mono ?_); rintro e w' ⟨rfl, hw⟩; rw [hw]; clear hw) | ((with_reducible refine wpList_zeroB ?_ ?_ ?_); rfl; rfl) | ((with_reducible refine wpList_stB ?_ (.tmp 4) (.tmp 12) ?_ k ?_ elZ elZ ?_ HK.out ?_); rfl; rfl; rfl; rfl; intro w5 hk5 hg5))
    refine ⟨rfl, _, results_cell_tmp (p := 4) (q := 5) (ty := elT) rfl _ _ ⟨k, 0, none⟩ rfl (elV elZ) (.bool false) rfl (loadB hk5.out), rfl, ?_⟩
    exact HB0.out.trans (below_grownBy hg5.out (by rw [HKK.out]; exact Nat.le_refl _) HB0.out.size)
  · obtain ⟨i, hi⟩ : ∃ i, i = endI bot V := ⟨_, rfl⟩
    have hil : i < V.length := by rw [hi]; unfold endI; split <;> omega
    obtain ⟨x, hx⟩ : ∃ x, V[i]? = some x := ⟨_, List.getElem?_eq_getElem hil⟩
    rw [← hi, hx]
    have he : endK bot V = (i : Nat) := by unfold endK; rw [if_neg hl, hi]
    rw [he] at HE
    obtain ⟨g, rfl⟩ := hao (by omega)
    have HRI : Hid (W0.rangeAt g (i * 33) (elC x)) := hide (by
      obtain ⟨ao2, c2, e1, e2⟩ := HRD.out
      cases e1
      obtain ⟨h2, so2, e3, e4⟩ := e2 (by omega)
      cases e3
      have := e4 i x hx
      rw [Nat.zero_add] at this
      exact this)
    have hil2 : (i : Int) < (V.length : Int) := by omega
    have hgl : g < W0.heap.size := World.block_lt_of_cell? W0 _ (HRI.out 32 (.int .i64 x.nxt) (by unfold elC; rw [List.getElem?_append_right (by simp [x.k32])]; simp [x.k32]))
    clear hi he hx HRD hao hl
    generalize V.length = n at *
    go_enter Try.func22, Try.ntmps22
    go_upto_region 1 with fail
    rw [← hW0, ← hkk]
    have HKK := hide hkk
    clear hW0 hkk
    go_wp2_with (first | (go_at_call 38; (with_reducible refine HE.out.mono ?_); rintro e w' ⟨rfl, hw⟩; rw [hw]; clear hw) | ((with_reducible refine wpList_ldR ?_ (.tmp 18) ?_ g (i * 33) ?_ x HRI.out ?_); rfl; rfl; rfl) | ((with_reducible refine wpList_stB ?_ (.tmp 4) (.tmp 19) ?_ k ?_ x elZ ?_ HK.out ?_); rfl; rfl; rfl; rfl; intro w5 hk5 hg5))
    refine ⟨rfl, _, results_cell_tmp (p := 4) (q := 5) (ty := elT) rfl _ _ ⟨k, 0, none⟩ rfl (elV x) (.bool true) rfl (loadB hk5.out), rfl, ?_⟩
    exact HB0.out.trans (below_grownBy hg5.out (by rw [HKK.out]; exact Nat.le_refl _) HB0.out.size)
end
end RG
end Go.Proofs.Ytiogblfdchdioaa
