/- The index: Sizes, Len. -/
import Derived.Test.YtdigjpddmfolgaaXT
namespace Go.Proofs.Ytdigjpddmfolgaa
set_option linter.unusedVariables false
set_option linter.unusedSimpArgs false
namespace TX
set_option maxRecDepth 100000
set_option maxHeartbeats 8000000
open Go.RowKit Go.Sort

abbrev SZT : TypeId := 72
theorem tlen_any {w : World} {z gy ge F : Nat} {hf : KY → Nat} {g : KY → Option EN} {P : Nat} (h : TbM w z gy ge F hf g P) : ∃ A : List (KY × EN), Maps A g ∧ A.length ≤ 17592186044416 ∧ Calls Try.prog 45 #[.pointer (some ⟨z, 0, none⟩)] w fun e w' => e = .returned (.int .i64 (A.length : Int)) ∧ ∃ q, w' = w.drewN q := by
  obtain ⟨T, ht, h1, h2⟩ := h.ex
  refine ⟨T.prs, h2, ?_, ?_⟩
  · have b := ht.b43
    have b1 := cnt_le T.y 1
    have b2 := cnt_le T.e 1
    rw [← Tb.len_prs]
    unfold Tb.len
    omega
  · rw [← Tb.len_prs]
    exact len_any w ht
/-- How many entries the first tables have. -/
def szC (ns : List Nat) : List Value := ns.map (fun n => .int .i64 (n : Int)) ++ List.replicate (16 - ns.length) (.int .i64 0)
def SzR (f : KY → Option EN) (ns : List Nat) : Prop := ∀ (i n : Nat), ns[i]? = some n → n ≤ 17592186044416 ∧ ∃ A : List (KY × EN), Maps A (gsh f i) ∧ A.length = n
theorem szC_len {ns : List Nat} (h : ns.length ≤ 16) : (szC ns).length = 16 := by unfold szC; simp; omega
theorem szC_one (ns : List Nat) : ∀ v ∈ szC ns, v.oneCell' = true := by
  intro v hv
  rcases List.mem_append.1 hv with h | h
  · obtain ⟨n, _, rfl⟩ := List.mem_map.1 h
    rfl
  · rw [List.eq_of_mem_replicate h]; rfl
theorem szC_snoc {ns : List Nat} (h : ns.length < 16) (n : Nat) : (szC ns).set ns.length (.int .i64 (n : Int)) = szC (ns ++ [n]) := by
  unfold szC
  rw [List.length_append, List.length_singleton, List.map_append, List.set_append_right _ _ (by simp), List.length_map, Nat.sub_self, show 16 - ns.length = (16 - (ns.length + 1)) + 1 by omega, List.replicate_succ, List.set_cons_zero, List.append_assoc]
  rfl
def szA (ns : List Nat) : Array Value := (szC ns).toArray
abbrev szV (ns : List Nat) : Value := .agg (szA ns)
/-- A box with sizes. -/
def ZB (w : World) (b : Nat) (ns : List Nat) : Prop := Blk w b (szA ns) SZT
theorem zero_Z (W : World) : (zeroValue SZT).run Try.prog W = .ok (.agg (szA [])) W := by kernel_rfl
theorem iZ : (Try.prog.info? SZT).map (·.size) = some 16 := by kernel_rfl
theorem iPA : (Try.prog.info? AST).map (·.size) = some 16 := by kernel_rfl
theorem run_ldZ {w : World} {b : Nat} {ns : List Nat} (hn : ns.length ≤ 16) (h : ZB w b ns) : (Instr.loadAt SZT (.pointer (some ⟨b, 0, none⟩))).run Try.prog w = .ok (szV ns) w :=
  run_loadAt_mid (P := Try.prog) w b 0 SZT (szC ns) _ (Blk.range h) Try.underlying72 rfl (by rw [szC_len hn]; exact iZ)
theorem loadZ {w : World} {b : Nat} {ns : List Nat} (hn : ns.length ≤ 16) (h : ZB w b ns) : (loadVar SZT ⟨b, 0, none⟩).run Try.prog w = .ok (szV ns) w :=
  run_loadVar_mid (P := Try.prog) w b 0 SZT (szC ns) _ (Blk.range h) Try.underlying72 rfl (by rw [szC_len hn]; exact iZ)
theorem ZB.put {w : World} {b : Nat} {ms : List Nat} (hm : ms.length ≤ 16) (h : ZB w b ms) (ns : List Nat) (hn : ns.length ≤ 16) : ZB (w.setCells b 0 (szC ns)) b ns ∧ w.grownBy (w.setCells b 0 (szC ns)) (some b) := by
  obtain ⟨h1, h2⟩ := setCells_row (szC ns) 0 w (szA ms) h (by unfold szA; rw [szC_len hn, List.size_toArray, szC_len hm]; decide)
  refine ⟨?_, h2⟩
  have e : (szA ms).toList.take 0 ++ szC ns ++ (szA ms).toList.drop (0 + (szC ns).length) = szC ns := by
    rw [List.take_zero, List.nil_append, List.drop_of_length_le (by unfold szA; rw [szC_len hn]; show (szC ms).length ≤ _; rw [szC_len hm]; decide), List.append_nil]
  rw [e] at h1
  exact h1
theorem szA_size {ns : List Nat} (h : ns.length ≤ 16) : (szA ns).size = 16 := by unfold szA; rw [List.size_toArray, szC_len h]
section
variable {ops : Array Oper} {rest : List Oper} {op : Oper} {a : Act} {w : World} {Q : Exit → Act → World → Prop}
theorem wpList_ldZ (hgd : op.guard = none) (x : Operand) (ho : op.op = .load SZT x) (b : Nat) (hx : a.eval x = .pointer (some ⟨b, 0, none⟩)) (ns : List Nat) (hn : ns.length ≤ 16) (h : ZB w b ns)
    (hk : wpList Try.prog ops Q rest (a.put op.dst (szV ns)) w) : wpList Try.prog ops Q (op :: rest) a w :=
  wpList_val (szV ns) hgd (run_loadO ho hx (run_ldZ hn h)) hk
theorem wpList_stZ (hgd : op.guard = none) (x y : Operand) (ho : op.op = .store SZT x y) (b : Nat) (hx : a.eval x = .pointer (some ⟨b, 0, none⟩)) (ms ns : List Nat) (hm : ms.length ≤ 16) (hn : ns.length ≤ 16) (hy : a.eval y = szV ns) (h : ZB w b ms)
    (hk : ∀ w', Hid (ZB w' b ns) → Hid (w.grownBy w' (some b)) → wpList Try.prog ops Q rest (a.put op.dst undef) w') : wpList Try.prog ops Q (op :: rest) a w := by
  refine wpList_skip (w.setCells b 0 (szC ns)) hgd ?_ (hk _ (hide (h.put hm ns hn).1) (hide (h.put hm ns hn).2))
  have ht : w.there b 0 16 := there_row h 0 16 (by rw [szA_size hm]; decide)
  have := run_storeAt_mid (P := Try.prog) w b 0 SZT (szA ns) (by rw [szA_size hn]; exact ht) (by rw [szA_size hn]; exact iZ) (all_oneCell_toArray (szC_one ns))
  have e : (szA ns).toList = szC ns := rfl
  rw [e] at this
  simp only [execOp, ho, hx, hy, Sem.run_bind, this, Result.andThen_ok, Sem.run_pure]
theorem wpList_ldI (hgd : op.guard = none) (x : Operand) (ho : op.op = .load AST x) (b : Nat) (hx : a.eval x = .pointer (some ⟨b, 0, none⟩)) (L : List Tab) (f : KY → Option EN) (P : Nat) (h : IxL w b 16 L f P)
    (hk : wpList Try.prog ops Q rest (a.put op.dst (.agg (ixC L).toArray)) w) : wpList Try.prog ops Q (op :: rest) a w := by
  refine wpList_val _ hgd (run_loadO ho hx (run_loadAt_mid (P := Try.prog) w b 0 AST (ixC L) _ (Blk.range h.blk) uA16 rfl ?_)) hk
  have : (ixC L).length = 16 := by unfold ixC; simp [h.len]
  rw [this]
  exact iPA
theorem run_ixI {op : Oper} {ev : Operand → Value} {x y : Operand} (ho : op.op = .index AST x y) (L : List Tab) (j : Nat) (t : Tab) (ht : L[j]? = some t) (hx : ev x = .agg (ixC L).toArray) (hy : ev y = .int .i64 (j : Int)) (hj : j < 16) (w : World) : (execOp ev op).run Try.prog w = .ok (.value (ptrV t)) w := by
  have hu := uA16
  have hs := szP
  have hp := Try.underlying65
  have h0 : ((ixC L).toArray)[j]? = some (ptrV t) := by
    have hl := (List.getElem?_eq_some_iff.1 ht).1
    rw [List.getElem?_toArray]
    unfold ixC
    rw [List.getElem?_append_left (by simpa using hl), List.getElem?_map, ht]
    rfl
  generalize (ixC L).toArray = cs at *
  simp only [execOp, ho, hx, hy]
  simp [Instr.index, run_underlying hu, run_underlying hp, asIntOf, hs, part, isAgg, hj, h0, Sem.run_bind, go_sem]
theorem wpList_ixI (hgd : op.guard = none) (x y : Operand) (ho : op.op = .index AST x y) (L : List Tab) (j : Nat) (t : Tab) (ht : L[j]? = some t) (hx : a.eval x = .agg (ixC L).toArray) (hy : a.eval y = .int .i64 (j : Int)) (hj : j < 16)
    (h : wpList Try.prog ops Q rest (a.put op.dst (.pointer (some ⟨t.z, 0, none⟩))) w) : wpList Try.prog ops Q (op :: rest) a w :=
  wpList_val _ hgd (run_ixI ho L j t ht hx hy hj w) h
theorem run_ixZ {op : Oper} {ev : Operand → Value} {x y : Operand} (ho : op.op = .index SZT x y) (ns : List Nat) (j n : Nat) (ht : ns[j]? = some n) (hx : ev x = szV ns) (hy : ev y = .int .i64 (j : Int)) (hj : j < 16) (w : World) : (execOp ev op).run Try.prog w = .ok (.value (.int .i64 (n : Int))) w := by
  have hu := Try.underlying72
  have hs : ∀ w, (sizeOf 3).run Try.prog w = .ok 1 w := fun w => by kernel_rfl
  have h0 : (szA ns)[j]? = some (.int .i64 (n : Int)) := by
    have hl := (List.getElem?_eq_some_iff.1 ht).1
    unfold szA szC
    rw [List.getElem?_toArray, List.getElem?_append_left (by simpa using hl), List.getElem?_map, ht]
    rfl
  have hx' : ev x = .agg (szA ns) := hx
  clear hx
  generalize szA ns = cs at *
  simp only [execOp, ho, hx', hy]
  simp [Instr.index, run_underlying hu, asIntOf, hs, part, isAgg, hj, h0, Sem.run_bind, go_sem]
theorem wpList_ixZ (hgd : op.guard = none) (x y : Operand) (ho : op.op = .index SZT x y) (ns : List Nat) (j n : Nat) (ht : ns[j]? = some n) (hx : a.eval x = szV ns) (hy : a.eval y = .int .i64 (j : Int)) (hj : j < 16)
    (h : wpList Try.prog ops Q rest (a.put op.dst (.int .i64 (n : Int))) w) : wpList Try.prog ops Q (op :: rest) a w :=
  wpList_val _ hgd (run_ixZ ho ns j n ht hx hy hj w) h
end
section
variable {w : World} {x : Nat} {L : List Tab} {f : KY → Option EN} {P : Nat}
theorem ZB.below {w w' : World} {b : Nat} {ns : List Nat} (h : ZB w b ns) (hb : Below w.heap.size w w') : ZB w' b ns := Blk.below h hb (Blk.lt h)
theorem ZB.made' {w : World} {n : Nat} (hn : w.heap.size = n) (ns : List Nat) : ZB (w.alloc (.cells (szA ns) SZT)) n ns := by rw [← hn]; exact Blk.made w _ _
theorem ZB.snoc {w : World} {b : Nat} {ns : List Nat} (h : ZB w b ns) (hl : ns.length < 16) (n : Nat) : ZB (w.setCell ⟨b, ns.length, none⟩ (.int .i64 (n : Int))) b (ns ++ [n]) := by
  have h2 := Blk.set h ns.length (.int .i64 (n : Int))
  unfold szA at h2
  rw [List.setIfInBounds_toArray, szC_snoc hl] at h2
  exact h2
theorem sizes_ix (h : IxL w x 16 L f P) : Calls Try.prog 25 #[.pointer (some ⟨x, 0, none⟩)] w fun e w' => ∃ ns, ns.length = 16 ∧ SzR f ns ∧ e = .returned (szV ns) ∧ Below w.heap.size w w' := by
  have HH := hide h
  have hz0 := zero_Z
  clear h
  go_enter Try.func25, Try.ntmps25
  go_upto_region 2 with fail
  refine name_world (fun W => Below w.heap.size w W ∧ ZB W w.heap.size [] ∧ ZB W (w.heap.size + 1) []) ⟨(below_alloc w _).alloc (by simp) _, Blk.alloc (ZB.made' rfl []) _, ZB.made' (by simp) []⟩ ?_
  rintro W ⟨hB, hZ, hZ2⟩
  have HB := hide hB
  have HX := hide (HH.out.below hB)
  obtain ⟨kb, hkb⟩ : ∃ kb, kb = w.heap.size := ⟨_, rfl⟩
  rw [← hkb] at hZ hZ2 ⊢
  have HKB := hide hkb
  have HZ := hide hZ
  have HZ2 := hide hZ2
  have hxW := HX.out.blk.lt
  clear hB hZ hZ2 hkb hz0
  go_upto_region 5 with ((with_reducible refine wpList_ldI ?_ (.tmp 11) ?_ x ?_ L f P HX.out ?_); rfl; rfl; rfl)
  go_loopw [13] (fun t wr => ∃ (j : Nat) (ns : List Nat), t = .int .i64 j ∧ j ≤ 16 ∧ Hid (ns.length = j) ∧ Hid (SzR f ns) ∧ Hid (ZB wr (kb + 1) ns) ∧ Hid (ZB wr kb []) ∧ Hid (Below w.heap.size w wr) ∧ Hid (IxL wr x 16 L f P)) (fun t _ => 16 - (intOf t).toNat)
  case atStart => exact ⟨0, [], rfl, by omega, hide rfl, hide (fun i n h => by simp at h), HZ2, HZ, HB, HX⟩
  case round =>
    obtain ⟨j, ns, rfl, hj, HL, HR, HZj, HZ0, HBj, HXj⟩ := hrel
    clear HX HZ HZ2 HB
    by_cases hlt : j < 16
    · have hji : (j : Int) < 16 := by omega
      obtain ⟨t, ht⟩ : ∃ t, L[j]? = some t := ⟨_, List.getElem?_eq_getElem (by rw [HXj.out.len]; exact hlt)⟩
      obtain ⟨A, hA, hAl, hC⟩ := tlen_any (HXj.out.tab j t ht)
      have HT := hide ht
      have HC := hide hC
      have HA := hide hA
      have HAL := hide hAl
      obtain ⟨n, hn⟩ : ∃ n, n = A.length := ⟨_, rfl⟩
      rw [← hn] at HC
      have HN := hide hn
      have cz : wr.cell? ⟨kb + 1, j, none⟩ = some (.int .i64 0) := by
        rw [Blk.cell HZj.out]
        unfold szA szC
        rw [List.getElem?_toArray, List.getElem?_append_right (by simp [HL.out]), List.length_map, HL.out, Nat.sub_self, show 16 - j = (15 - j) + 1 by omega]
        rfl
      have fz := Blk.frozen HZj.out j
      have zl := Blk.lt HZj.out
      clear ht hA hAl hC hn
      go_upto_region 7 with (refine wpList_ixI ?_ (.tmp 12) (.tmp 13) ?_ L j t HT.out ?_ ?_ hlt ?_; rfl; rfl; rfl; rfl)
      go_upto_region 8 with (go_at_call 45; (with_reducible refine HC.out.mono ?_); rintro e w1 ⟨rfl, q, hw⟩; rw [hw]; clear hw)
      obtain ⟨w2, hw2⟩ : ∃ w2, w2 = (wr.drewN q).setCell ⟨kb + 1, j, none⟩ (.int .i64 (n : Int)) := ⟨_, rfl⟩
      have hZ3 : ZB w2 (kb + 1) (ns ++ [n]) := by
        rw [hw2]
        have h3 := ZB.snoc (w := wr.drewN q) HZj.out (by rw [HL.out]; exact hlt) n
        rw [HL.out] at h3
        exact h3
      have hg : wr.grownBy w2 (some (kb + 1)) := by rw [hw2]; exact grownBy_trans (grownBy_drewN wr q (some (kb + 1))) (grownBy_set (wr.drewN q) (kb + 1) j _)
      rw [← hw2]
      have HZ3 := hide hZ3
      have HZ4 : Hid (ZB w2 kb []) := hide (Blk.grown HZ0.out hg (fun e => by have := Option.some.inj e; omega))
      have HB4 : Hid (Below w.heap.size w w2) := hide (HBj.out.grown hg HBj.out.size (fun k hk => by cases hk; have := HKB.out; omega))
      have HX4 : Hid (IxL w2 x 16 L f P) := hide (HXj.out.same (fun b hb => hg.block b (HXj.out.lt hb) (fun e => HXj.out.notB HZj.out (by decide) (by decide) (by decide) (by rw [← Option.some.inj e]; exact hb))))
      have HR4 : Hid (SzR f (ns ++ [n])) := hide (fun i m hi => by
        rcases Nat.lt_or_ge i ns.length with h | h
        · rw [List.getElem?_append_left h] at hi
          exact HR.out i m hi
        · rw [List.getElem?_append_right h] at hi
          have e : i - ns.length = 0 := by
            rcases Nat.eq_zero_or_pos (i - ns.length) with e | e
            · exact e
            · rw [List.getElem?_eq_none (by simp; omega)] at hi; cases hi
          rw [e] at hi
          simp at hi
          have ei : i = j := by have := HL.out; omega
          subst ei
          subst hi
          exact ⟨by rw [HN.out]; exact HAL.out, A, HA.out, HN.out.symm⟩)
      clear hZ3 hg hw2 cz fz zl HC HZj HZ0 HBj HXj
      go_wp2
      go_roundw
      case rel => exact ⟨j + 1, ns ++ [n], by go_num, by omega, hide (by rw [List.length_append, HL.out]; rfl), HR4, HZ3, HZ4, HB4, HX4⟩
      case measure => simp [intOf]; omega
    · obtain rfl : j = 16 := by omega
      have hnl : ns.length ≤ 16 := by rw [HL.out]; exact Nat.le_refl _
      have HNLE := hide hnl
      clear hnl
      go_wp2_with (first | ((with_reducible refine wpList_ldZ ?_ (.tmp 3) ?_ (kb + 1) ?_ ns HNLE.out HZj.out ?_); rfl; rfl; rfl) | ((with_reducible refine wpList_stZ ?_ (.tmp 2) (.tmp 22) ?_ kb ?_ [] ns (Nat.zero_le _) HNLE.out ?_ HZ0.out ?_); rfl; rfl; rfl; rfl; intro w4 h4 hg4))
      refine ⟨rfl, _, results_cell (p := 2) (ty := SZT) rfl _ _ ⟨kb, 0, none⟩ rfl (szV ns) (loadZ HNLE.out h4.out), ns, HL.out, HR.out, rfl, ?_⟩
      exact HBj.out.grown hg4.out HBj.out.size (fun k hk => by cases hk; have := HKB.out; omega)
end
end TX
end Go.Proofs.Ytdigjpddmfolgaa
