/- slices.AppendSeq and Collect over a set's keys. -/
import Derived.Test.YtnloglecfbhpcaaKN4
import Derived.Test.YtnloglecfbhpcaaKRF2
import Derived.Maps.OwnIn
import Derived.Lib.OwnKind
import Derived.Shelf.Abstract
namespace Go.Proofs.Ytnloglecfbhpcaa
set_option linter.unusedVariables false
set_option linter.unusedSimpArgs false
open Go.RowKit
open Go.Maps (Keyed)
set_option maxRecDepth 100000
attribute [local go_sem] Oper.semAt_some

theorem wpListIn_put_keyK {F : Fence} {n : Nat} {ops : Array Oper} {rest : List Oper} {op : Oper} {a : Act} {w : World} {Q : Exit → Act → World → Prop} (hgd : op.guard = none) (x y : Operand) (ho : op.op = .store 38 x y) (z : Nat) (hx : a.eval x = .pointer (some ⟨z, 0, none⟩)) (w0 : World) (hw : w = w0.alloc (.cells keyZ 38)) (hz : z = w0.heap.size) (bs : List UInt8) (hl : bs.length = 32) (hy : a.eval y = keyV bs)
    (h : ∀ w', Hid (KeyAt w' z bs) → Below w0.heap.size w0 w' → wpListIn F n Try.prog ops Q rest (a.put op.dst undef) w') : wpListIn F n Try.prog ops Q (op :: rest) a w := by
  subst hw hz
  have hk := Blk.made w0 keyZ 38
  have hs : ((bs.map u8c).toArray).size = keyZ.size := by simp [hl, keyZ]
  obtain ⟨k1, k2⟩ := setCells_blk hk (bs.map u8c).toArray hs
  refine wpListIn_plain hgd fun K' hK' => ?_
  unfold Oper.wpIn
  refine ⟨by simp [Oper.about, ho], ?_⟩
  have hr : (execOp a.eval op).run Try.prog (w0.alloc (.cells keyZ 38)) = .ok .skip ((w0.alloc (.cells keyZ 38)).setCells w0.heap.size 0 (bs.map u8c).toArray.toList) := by
    have hst := run_storeAt_mid (P := Try.prog) (w0.alloc (.cells keyZ 38)) w0.heap.size 0 38 (bs.map u8c).toArray (thereBlk hk _ (by rw [hs]; exact Nat.le_refl _)) (by rw [hs]; exact infoKey) (all_oneCell_toArray (u8c_one bs))
    simp only [execOp, ho, hx, hy, keyV, Sem.run_bind, hst, Result.andThen_ok, Sem.run_pure]
  rw [Oper.semAt_plain F _ _ (by rw [ho]; intro c hc'; cases hc'), hr]
  exact hK' _ _ (h _ (hide ⟨k1, hl⟩) (below_grownBy (grownBy_trans (World.grownBy_alloc _ _ _) k2) (Nat.le_refl _) (Nat.le_refl _)))
theorem infoKeyP : ∃ i, Try.prog.info? 38 = some i ∧ i.zero = some (.agg keyZ) ∧ i.size = 32 ∧ i.bytes = 32 := by
  have h : (Try.prog.info? 38).map (fun i => (i.zero, i.size, i.bytes)) = some (some (.agg keyZ), 32, 32) := by kernel_rfl
  cases hi : Try.prog.info? 38 with
  | none => rw [hi] at h; cases h
  | some i =>
    rw [hi] at h
    simp at h
    exact ⟨i, rfl, h.1, h.2.1, h.2.2⟩
/-- The cells of a row of keys. -/
def rowK (ks : List K32) : List Value := ks.flatMap fun x => x.1.map u8c
theorem rowK_snoc (ks : List K32) (x : K32) : rowK (ks ++ [x]) = rowK ks ++ x.1.map u8c := by simp [rowK]
theorem owns_keptK {W W' : World} {base n s : Nat} {e : TypeId} {v : Value} {ys : List Value} {row : Option Nat} (h : W.ownsRow base e s v n ys) (hg : W.grownBy W' row) (hr : ∀ r, row = some r → ∃ o : Obj, W.heap[r]? = some o ∧ o.isCells = false) : W'.ownsRow base e s v n ys := by
  obtain ⟨h0, h1 | ⟨g, cap, cur, rfl, hb, hh, hx⟩⟩ := h
  · exact ⟨h0, .inl h1⟩
  · exact ⟨h0, .inr ⟨g, cap, cur, rfl, hb, (grownBy_keeps_cells hg hr hh rfl).trans hh, hx⟩⟩
theorem Blk.keptRowK {W W' : World} {b : Nat} {cs : Array Value} {t : TypeId} {row : Option Nat} (h : Blk W b cs t) (hg : W.grownBy W' row) (hr : ∀ r, row = some r → ∃ o : Obj, W.heap[r]? = some o ∧ o.isCells = false) : Blk W' b cs t :=
  (grownBy_keeps_cells hg hr h rfl).trans h
theorem own_typeK {w : World} {B s n : Nat} {e : TypeId} {v : Value} {ys : List Value} (ho : w.ownsRow B e s v n ys) : ∀ r, v.ownBlock = some r → ∃ (cs : Array Value) (t : TypeId) (fz : Nat × Nat), w.heap[r]? = some (Obj.cells cs t fz) ∧ t = e := fun r hr => by
  obtain ⟨c, fz, k1⟩ := Go.Lib.ownsRow_kind ho r hr
  exact ⟨c, e, fz, k1, rfl⟩
theorem own_formK {w : World} {B s n : Nat} {e : TypeId} {v : Value} {ys : List Value} (ho : w.ownsRow B e s v n ys) : ∃ ao cap, v = .slice ao n cap := by
  obtain ⟨h0, ⟨h1, h2⟩ | ⟨g, cap, cur, rfl, hb, hh, hx⟩⟩ := ho
  · exact ⟨none, 0, by rw [h1, h2]⟩
  · exact ⟨_, cap, rfl⟩
theorem blk_own_neK {w : World} {B b s : Nat} {cs : Array Value} {t e : TypeId} {v : Value} {n : Nat} {ys : List Value} (hb : Blk w b cs t) (ho : w.ownsRow B e s v n ys) (hte : t ≠ e) : ∀ g, v.ownBlock = some g → g ≠ b := by
  intro g hg he
  obtain ⟨c, t', fz, h1, rfl⟩ := own_typeK ho g hg
  rw [he] at h1
  unfold Blk at hb
  rw [hb] at h1
  cases h1
  exact hte rfl
theorem owns_belowK {W W' : World} {base n s : Nat} {e : TypeId} {v : Value} {ys : List Value} (h : W.ownsRow base e s v n ys) (hb : Below W.heap.size W W') : W'.ownsRow base e s v n ys := owns_keptK h (grownBy_below hb (row := none)) (fun r e => by cases e)
theorem list32K (k : List UInt8) (h : k.length = 32) : ∃ b0 b1 b2 b3 b4 b5 b6 b7 b8 b9 b10 b11 b12 b13 b14 b15 b16 b17 b18 b19 b20 b21 b22 b23 b24 b25 b26 b27 b28 b29 b30 b31, k = [b0, b1, b2, b3, b4, b5, b6, b7, b8, b9, b10, b11, b12, b13, b14, b15, b16, b17, b18, b19, b20, b21, b22, b23, b24, b25, b26, b27, b28, b29, b30, b31] := by
  match k, h with
  | [b0, b1, b2, b3, b4, b5, b6, b7, b8, b9, b10, b11, b12, b13, b14, b15, b16, b17, b18, b19, b20, b21, b22, b23, b24, b25, b26, b27, b28, b29, b30, b31], _ => exact ⟨_, _, _, _, _, _, _, _, _, _, _, _, _, _, _, _, _, _, _, _, _, _, _, _, _, _, _, _, _, _, _, _, rfl⟩
theorem run_bsK {op : Oper} {ev : Operand → Value} {x : Operand} {w : World} (k : List UInt8) (hk : k.length = 32) (ho : op.op = .buildSlice 39 1 #[(0, x)]) (hx : ev x = keyV k) : (execOp ev op).run Try.prog w = .ok (.value (.slice (some ⟨w.heap.size, 0, none⟩) 1 1)) (w.alloc (.cells (k.map u8c).toArray 38)) := by
  simp only [execOp, ho]
  simp only [List.map_toArray, List.map_cons, List.map_nil, hx]
  obtain ⟨b0, b1, b2, b3, b4, b5, b6, b7, b8, b9, b10, b11, b12, b13, b14, b15, b16, b17, b18, b19, b20, b21, b22, b23, b24, b25, b26, b27, b28, b29, b30, b31, rfl⟩ := list32K k hk
  kernel_rfl
theorem wpListIn_bsK {F : Fence} {n : Nat} {ops : Array Oper} {rest : List Oper} {o : Oper} {a : Act} {w : World} {Q : Exit → Act → World → Prop} (x : Operand) (k : List UInt8) (hk : k.length = 32) (hg : o.guard = none) (ho : o.op = .buildSlice 39 1 #[(0, x)]) (hx : a.eval x = keyV k)
    (h : wpListIn F n Try.prog ops Q rest (a.put o.dst (.slice (some ⟨w.heap.size, 0, none⟩) 1 1)) (w.alloc (.cells (k.map u8c).toArray 38))) : wpListIn F n Try.prog ops Q (o :: rest) a w := by
  refine wpListIn_plain hg fun K' hK' => ?_
  unfold Oper.wpIn
  refine ⟨by simp [Oper.about, ho], ?_⟩
  rw [Oper.semAt_plain F _ _ (by rw [ho]; intro c hc'; cases hc'), run_bsK k hk ho hx]
  exact hK' _ _ h
/-- One key more. -/
theorem wpListIn_append_keyK {F : Fence} {nF : Nat} {ops : Array Oper} {rest : List Oper} {o : Oper} {a : Act} {w : World} {Q : Exit → Act → World → Prop} (hgd : o.guard = none) (s x : Operand) (ho : o.op = .call { callee := .builtin .append, args := #[s, x], argTypes := #[39, 39] })
    (base : Nat) (v : Value) (ks : List K32) (hs : a.eval s = v) (hown : w.ownsRow base 38 32 v ks.length (rowK ks)) (z : Nat) (hx : a.eval x = .slice (some ⟨z, 0, none⟩) 1 1) (k : K32) (hc : Blk w z (k.1.map u8c).toArray 38) (hlen : ks.length + 1 ≤ 4398046511104) (hbase : base ≤ w.heap.size)
    (h : ∀ v' w', Hid (w'.ownsRow base 38 32 v' (ks ++ [k]).length (rowK (ks ++ [k]))) → Hid (w.grownBy w' v.ownBlock) → Hid (v'.ownBlock = v.ownBlock ∨ v'.ownBlock = some w.heap.size) → wpListIn F nF Try.prog ops Q rest (a.put o.dst v') w') : wpListIn F nF Try.prog ops Q (o :: rest) a w := by
  obtain ⟨i0, hi, hz0, hz1, hz2⟩ := infoKeyP
  refine wpListIn_append_own_at (w := w) hgd s x 39 ho base 38 i0 (.agg keyZ) 32 32 Try.underlying39 hi hz0 hz1 hz2 rfl (by decide) v ks.length (rowK ks) hs hown ⟨z, 0, none⟩ 1 1 (k.1.map u8c) hx (by simp [k.2]) ?_ (u8c_one k.1) (by unfold maxLen; omega) (by omega) hbase ?_
  · intro j u hj
    rw [Addr.add_mid, hc.cell]
    simpa using hj
  · intro v' w' h1 h2 _ h4
    refine h v' w' (hide ?_) (hide h2) (hide h4)
    rw [rowK_snoc, List.length_append, List.length_singleton]
    exact h1
theorem own_lowerK {w : World} {B s n : Nat} {e : TypeId} {v : Value} {ys : List Value} (h : w.ownsRow (B + 1) e s v n ys) : w.ownsRow B e s v n ys := by
  obtain ⟨h0, h1 | ⟨g, cap, cur, rfl, hb, hh, hx⟩⟩ := h
  · exact ⟨h0, .inl h1⟩
  · exact ⟨h0, .inr ⟨g, cap, cur, rfl, by omega, hh, hx⟩⟩
theorem owns_grownK {w w' : World} {B s n : Nat} {e : TypeId} {v : Value} {ys : List Value} {row : Option Nat} (h : w.ownsRow B e s v n ys) (hg : w.grownBy w' row) (hne : ∀ g, v.ownBlock = some g → some g ≠ row) : w'.ownsRow B e s v n ys := by
  obtain ⟨h0, h1 | ⟨g, cap, cur, rfl, hb, hh, hx⟩⟩ := h
  · exact ⟨h0, .inl h1⟩
  · exact ⟨h0, .inr ⟨g, cap, cur, rfl, hb, (hg.block g (Array.getElem?_eq_some_iff.1 hh).1 (hne g rfl)).trans hh, hx⟩⟩
/-- Between two rounds of Collect. -/
structure CoS (w : World) (N : Nat) (pre : List K32) (W : World) : Prop where
  out : ∃ v, Blk W N #[v] 39 ∧ W.ownsRow (N + 1) 38 32 v pre.length (rowK pre)
  bel : Below N w W
theorem CoS.ownFrom {w : World} {N B : Nat} (hB : N ≤ B) : OwnFrom B (fun pre W => CoS w N pre W) :=
  fun s A C row h hg hr => by
    have hr2 : ∀ r, row = some r → ∃ o : Obj, A.heap[r]? = some o ∧ o.isCells = false := fun r e => (hr r e).2
    obtain ⟨v, h1, h2⟩ := h.out
    exact ⟨⟨v, h1.keptRowK hg hr2, owns_keptK h2 hg hr2⟩, ⟨hg.os.trans h.bel.os, hg.tape.trans h.bel.tape, hg.output.trans h.bel.output, Nat.le_trans h.bel.size hg.size, fun k hk => (hg.block k (by have := h1.lt; omega) (fun e => by have := (hr k e.symm).1; omega)).trans (h.bel.block k hk)⟩⟩
theorem CoS.below {w W W' : World} {N : Nat} {pre : List K32} (h : CoS w N pre W) (hb : Below W.heap.size W W') : CoS w N pre W' := by
  obtain ⟨v, h1, h2⟩ := h.out
  exact ⟨⟨v, h1.below hb h1.lt, owns_belowK h2 hb⟩, h.bel.trans (hb.mono (by have := h1.lt; omega))⟩
theorem name_worldInK' {F : Fence} {n : Nat} {P : Program} {c : Code} {a : Act} {w : World} {Q : World → Exit → Act → World → Prop} (R : World → Prop) (h : R w) (k : ∀ W, R W → c.wpIn F n P (Q W) a W) : c.wpIn F n P (Q w) a w := k w h
theorem leave1K {fn : Func} {t : Tmp} {R : Ending → World → Prop} (hres : fn.results = #[.tmp t]) {tmps : Array Value} {W : World} {D : Nat} {v : Value} (e1 : W.heap[D]? = some (.deferred (some []))) (hv : tmps.getD t undef = v) (hR : R (.returned v) (W.putObj D (.deferred none))) :
    bodyPostM Fence.wide 5 Try.prog fn R .ret { tmps := tmps, defers := [{ target := .collected D, args := #[] }] } W := by
  refine ⟨by simp, .inl ⟨_, _, rfl, run_takeDeferred e1, ?_⟩⟩
  have hv' : tmps[t]?.getD undef = v := by simpa using hv
  exact ⟨v, by simp [results, hres, hv'], hR⟩
/-- What Collect leaves. -/
def CollC (w : World) (S : List (List UInt8)) (e : Ending) (w' : World) : Prop := ∃ v xs, e = .returned v ∧ kyS S xs ∧ w'.ownsRow w.heap.size 38 32 v xs.length (rowK xs) ∧ Below w.heap.size w w'
def keF (bm : Nat) : Value := .func (.func 52) #[] #[.pointer (some ⟨bm, 0, none⟩)]
set_option maxHeartbeats 4000000 in
theorem appendSeq_any (w : World) (b bm : Nat) (S : List (List UInt8)) (hS : KSet w b S) (hb : Blk w bm #[.map (some b)] 53) (hn : S.length ≤ 4398046510976) : Calls Try.prog 55 #[.slice none 0 0, keF bm] w (CollC w S) := by
  obtain ⟨N, hN⟩ : ∃ N, N = w.heap.size := ⟨_, rfl⟩
  have HW : Hid (∀ W, W = w.alloc (.cells #[.slice none 0 0] 39) → CoS w N [] W ∧ KSet W b S ∧ Blk W bm #[.map (some b)] 53 ∧ N < W.heap.size) := hide (fun W e => by
    subst e
    have b1 : Below w.heap.size w (w.alloc (.cells #[.slice none 0 0] 39)) := (Below.refl _ _).alloc (Nat.le_refl _) _
    refine ⟨⟨⟨_, by rw [hN]; exact Blk.made w _ _, World.ownsRow_nil _ _ _ _⟩, by rw [hN]; exact b1⟩, hS.below b1, hb.below b1 hb.lt, by rw [hN]; simp⟩)
  have HN := hide hN
  have HLn := hide hn
  clear hS hb hn
  unfold keF
  refine (callsIn_wide (n := 5)).1 ?_
  refine callsIn_of_wp_marks Try.func55 rfl trivial ?_ rfl
  refine wpIn_wide.2 ?_
  simp only [Try.ntmps55, List.size_toArray, List.length_cons, List.length_nil, Nat.reduceAdd, Nat.reduceSub, Array.replicate_succ, Array.replicate_zero, List.push_toArray, List.append_toArray, List.nil_append, List.cons_append]
  go_upto_region 1 with fail
  rw [← hN]
  clear hN
  refine name_worldK (fun W => CoS w N [] W ∧ KSet W b S ∧ Blk W bm #[.map (some b)] 53 ∧ N < W.heap.size) (HW.out _ rfl) ?_
  rintro W ⟨hC, hS, hB, hNW⟩
  have HC := hide hC
  have HS := hide hS
  have HB := hide hB
  clear HW hC hS hB
  go_wp2
  refine (wpIn_wide (n := 5)).1 ?_
  refine wpIn_rangeKa rfl (by omega) (gf := 52) (lb := #[.pointer (some ⟨bm, 0, none⟩)]) rfl trivial (enters_of Try.func52 (by kernel_rfl) rfl) (keys_fit (5 - 1) W b S HS.out bm HB.out) (Below.refl _ _) KeepM.keeping (fun _ => rfl)
    (fun pre W => CoS w N pre W)
    (fun _ _ _ => False)
    (CoS.ownFrom (Nat.le_of_lt hNW))
    (fun _ _ _ _ _ h _ _ => h)
    HC.out (fun A B h => KeepM.below h) ?round ?done ?stop
  case round =>
    rintro l pre x Wp W1 hC1 hbW hfit
    have HC1 := hide (hC1.below hbW)
    have HX := hide x.2
    have HPL : Hid (pre.length + 1 ≤ 4398046511104) := hide (by
      have h1 : (pre.map Subtype.val).length ≤ S.length := List.Nodup.length_le_of_subset (List.Pairwise.map Subtype.val (fun a b h e => h (Subtype.ext e)) hfit.2.2.1) (fun y hy => by
        obtain ⟨q, hq, rfl⟩ := List.mem_map.1 hy
        exact hfit.2.2.2 q hq)
      have := HLn.out
      simp at h1
      omega)
    clear hC1 hbW hfit
    refine ⟨fun a₁ W₂ => a₁ = { tmps := #[.slice none 0 0, .func (.func 52) #[] #[.pointer (some ⟨bm, 0, none⟩)], .pointer (some ⟨N, 0, none⟩), undef, .slice none 0 0, .pointer (some ⟨W1.heap.size, 0, none⟩), .func (.func 52) #[] #[.pointer (some ⟨bm, 0, none⟩)], keyV x.1, undef, undef, undef, undef, undef], defers := [] } ∧ KeyAt W₂ W1.heap.size x.1, ?asg, ?bd⟩
    case asg =>
      intro K hK
      unfold keV
      simp only [List.zip_toArray, List.zip_cons_cons, List.zip_nil_right, List.foldl_toArray, List.foldl_cons, List.foldl_nil, List.setIfInBounds_toArray, List.set_cons_succ, List.set_cons_zero]
      gi_wp2_with ((with_reducible refine wpListIn_put_keyK ?_ (.tmp 5) (.tmp 7) ?_ W1.heap.size ?_ W1 ?_ ?_ x.1 HX.out ?_ ?_); rfl; rfl; rfl; rfl; rfl; rfl; intro w2 HK2 hb2)
      exact hK _ _ ⟨rfl, HK2.out⟩ hb2
    case bd =>
      rintro a₁ W₂ q o' ⟨rfl, hk⟩ hb2 hlo hle
      have hC2 := HC1.out.below hb2
      have hC3 : CoS w N pre (W₂.putObj l o') := (CoS.ownFrom (Nat.le_of_lt hNW)).putObj o' hC2 hle hlo rfl
      have hne : W1.heap.size ≠ l := fun e => by
        have h1 := hk.1
        unfold Blk at h1
        rw [e, hlo] at h1
        cases h1
      have hk3 : KeyAt (W₂.putObj l o') W1.heap.size x.1 := ⟨(World.putObj_heap_other hne).trans hk.1, hk.2⟩
      refine name_worldInK' (fun V => CoS w N pre V ∧ KeyAt V W1.heap.size x.1) ⟨hC3, hk3⟩ ?_
      rintro V ⟨hCV, hKV⟩
      obtain ⟨v, hv1, hv2⟩ := hCV.out
      obtain ⟨ao, cap, rfl⟩ := own_formK hv2
      obtain ⟨p, hp⟩ : ∃ p, p = pre.length := ⟨_, rfl⟩
      rw [← hp] at hv1
      have c2 : V.cell? ⟨N, 0, none⟩ = some (.slice ao p cap) := by rw [hv1.cell]; rfl
      have l2 := hv1.lt
      have HV1 := hide hv1
      have HKV := hide hKV
      have bA : Below V.heap.size V (V.alloc (.cells (x.1.map u8c).toArray 38)) := (Below.refl _ _).alloc (Nat.le_refl _) _
      have HO1 : Hid ((V.alloc (.cells (x.1.map u8c).toArray 38)).ownsRow (N + 1) 38 32 (.slice ao p cap) pre.length (rowK pre)) := hide (by rw [hp]; exact owns_belowK hv2 bA)
      have HBk : Hid (Blk (V.alloc (.cells (x.1.map u8c).toArray 38)) V.heap.size (x.1.map u8c).toArray 38) := hide (Blk.made V _ _)
      have HBs : Hid (N + 1 ≤ (V.alloc (.cells (x.1.map u8c).toArray 38)).heap.size) := hide (by have := bA.size; omega)
      have HBl := hide hCV.bel
      have HBA := hide bA
      clear hC2 hC3 hne hk3 hk hb2 hlo hle hCV hKV hv1 hv2 bA hp
      gi_wp2_with (first | ((with_reducible refine wpListIn_keyK (.tmp 5) W1.heap.size x.1 HKV.out ?_ ?_ ?_ ?_); rfl; rfl; rfl) | ((with_reducible refine wpListIn_bsK (.tmp 9) x.1 HX.out ?_ ?_ ?_ ?_); rfl; rfl; rfl) | (gi_at_builtin; refine wpListIn_append_keyK rfl (.tmp 8) (.tmp 10) rfl (N + 1) (.slice ao p cap) pre rfl HO1.out V.heap.size rfl x HBk.out HPL.out HBs.out ?_; intro v' w3 HO3 HG3 HL3; generalize hG : wpListIn _ _ _ _ _ _ _ _ = G))
      obtain ⟨ao3, cap3, hf3⟩ := own_formK HO3.out
      subst hf3
      generalize hl3 : (pre ++ [x]).length = p3 at *
      have HB3 : Hid (Blk w3 N #[.slice ao p cap] 39) := hide (((HV1.out.below HBA.out HV1.out.lt)).grown HG3.out (fun e => blk_own_neK (HV1.out.below HBA.out HV1.out.lt) HO1.out (by decide) _ e.symm rfl))
      have c3 : w3.cell? ⟨N, 0, none⟩ = some (.slice ao p cap) := by rw [HB3.out.cell]; rfl
      have f3 := HB3.out.frozen 0
      have l3 := HB3.out.lt
      have HBw : Hid (Below N w w3) := hide (by
        have h1 : Below N w (V.alloc (.cells (x.1.map u8c).toArray 38)) := HBl.out.trans (HBA.out.mono (by omega))
        exact own_below h1 (own_lowerK HO1.out) (by have := HBs.out; omega) HG3.out)
      have HKM : Hid (KeepM V w3) := hide ((KeepM.below HBA.out).trans (KeepM.grown HG3.out (fun r e => by
        obtain ⟨cs, t, fz, h1, _⟩ := own_typeK HO1.out r e
        exact ⟨cs, t, fz, h1⟩)))
      have HKO : Hid (KeepsOthers V w3) := hide ((KeepsOthers.of_grownBy (grownBy_below HBA.out (row := none)) (fun _ _ e => by cases e)).trans (KeepsOthers.of_grownBy HG3.out (fun r o e1 e2 => by
        obtain ⟨cs, t, fz, h1, h2⟩ := own_typeK HO1.out r e1
        rw [h1] at e2
        cases e2
        rfl)))
      have HS4 : Hid (CoS w N (pre ++ [x]) (w3.setCell ⟨N, 0, none⟩ (.slice ao3 p3 cap3))) := hide ⟨⟨_, HB3.out.set 0 _, by
        rw [hl3]
        exact owns_grownK HO3.out (grownBy_set _ _ _ _) (fun g e1 e2 => blk_own_neK HB3.out HO3.out (by decide) g e1 (Option.some.inj e2))⟩, HBw.out.setCell (Nat.le_refl _) _⟩
      have HKM4 : Hid (KeepM V (w3.setCell ⟨N, 0, none⟩ (.slice ao3 p3 cap3))) := hide (HKM.out.trans (KeepM.grown (grownBy_set _ _ _ _) (fun r e => by cases e; exact ⟨_, _, _, HB3.out⟩)))
      have HKO4 : Hid (KeepsOthers V (w3.setCell ⟨N, 0, none⟩ (.slice ao3 p3 cap3))) := hide (HKO.out.trans (KeepsOthers.setCell _ _ _))
      subst hG
      clear HO1 HBk HBs HO3 HG3 HL3 HV1 HB3 HBw HKM HKO hl3 c2 l2
      gi_wp2
      exact ⟨HKO4.out, HKM4.out, HS4.out⟩
  case stop =>
    rintro D c pre W3 hD hS hK
    exact hS.elim
  case done =>
    rintro D xs W3 hD hxs hC3 hK
    obtain ⟨v, hv1, hv2⟩ := hC3.out
    obtain ⟨ao, cap, rfl⟩ := own_formK hv2
    have c2 : W3.cell? ⟨N, 0, none⟩ = some (.slice ao xs.length cap) := by rw [hv1.cell]; rfl
    have l2 := hv1.lt
    have HR : Hid (CollC w S (.returned (.slice ao xs.length cap)) (W3.putObj D (.deferred none))) := hide ⟨_, xs, rfl, hxs, by
      rw [← HN.out]
      exact owns_keptK (own_lowerK hv2) (grownBy_putObj' W3 D (.deferred none)) (fun r e => by cases e; exact ⟨_, hK, rfl⟩), by
      rw [← HN.out]
      exact below_put hC3.bel D _ (by omega)⟩
    have HK := hide hK
    generalize xs.length = m at *
    clear hv1 hv2 hxs hC3 hK hD
    go_wp2
    exact leave1K (t := 4) (v := .slice ao m cap) rfl HK.out rfl HR.out
theorem collect_any (w : World) (b bm : Nat) (S : List (List UInt8)) (hS : KSet w b S) (hb : Blk w bm #[.map (some b)] 53) (hn : S.length ≤ 4398046510976) : Calls Try.prog 50 #[keF bm] w (CollC w S) := by
  have HA := hide (appendSeq_any w b bm S hS hb hn)
  clear hS hb
  unfold keF at HA ⊢
  go_enter Try.func50, Try.ntmps50
  go_wp2_with (go_at_call 55; refine HA.out.mono ?_; rintro e w' ⟨v, xs, rfl, h1, h2, h3⟩; have H1 := hide h1; have H2 := hide h2; have H3 := hide h3; obtain ⟨ao, cap, hf⟩ := own_formK h2; subst hf; clear h1 h2 h3)
  go_ret
  exact ⟨_, xs, rfl, H1.out, H2.out, H3.out⟩
end Go.Proofs.Ytnloglecfbhpcaa
