/- GreyList: the law walked. -/
import Derived.Test.YtiogblfdchdioaaGDP
import Derived.Test.YtiogblfdchdioaaGWK
namespace Go.Proofs.Ytiogblfdchdioaa
set_option linter.unusedVariables false
set_option linter.unusedSimpArgs false
namespace RG
open Go.RowKit
set_option maxRecDepth 100000

/-- A Move. -/
structure Mp where
  k : Int
  nl : Bool
  bt : Bool
  ks : List UInt8
  h : ks.length = 32
def Mp.L (p : Mp) : List Value := mvL p.k p.nl p.bt p.ks
theorem Mp.len (p : Mp) : p.L.length = 35 := by simp [Mp.L, mvL, p.h]
def MRow (w : World) (ao : Option Addr) (ps : List Mp) : Prop := ∀ i p, ps[i]? = some p → ∃ g o, ao = some ⟨g, o, none⟩ ∧ w.rangeAt g (o + i * 35) p.L
theorem mvSize : (Try.prog.info? mvT).map (·.size) = some 35 := by kernel_rfl
theorem zero_mv (W : World) : (zeroValue mvT).run Try.prog W = .ok (.agg (mvL 0 false false (List.replicate 32 0)).toArray) W := by kernel_rfl
theorem mvL_one (p : Mp) : ∀ v ∈ p.L, v.oneCell' = true := fun v hv => by
  unfold Mp.L mvL at hv
  rcases List.mem_append.1 hv with e | e
  · simp at e
    rcases e with rfl | rfl | rfl <;> rfl
  · exact u8c_one _ v e
theorem wpList_ldM {ops : Array Oper} {rest : List Oper} {op : Oper} {a : Act} {w : World} {Q : Exit → Act → World → Prop} (hg : Region.wanted op (yielded ops a.tmps) = true) (x : Operand) (ho : op.op = .load mvT x) (b o : Nat) (hx : a.eval x = .pointer (some ⟨b, o, none⟩)) (p : Mp) (h : w.rangeAt b o p.L)
    (hK : wpList Try.prog ops Q rest (a.put op.dst (.agg p.L.toArray)) w) : wpList Try.prog ops Q (op :: rest) a w := by
  have hl := run_loadVar_mid (P := Try.prog) w b o mvT p.L _ h Try.underlying33 rfl (by rw [p.len]; exact mvSize)
  exact wpList_valG _ hg (run_load ho hx (by simp only [Instr.loadAt, Instr.sureAddr, Sem.run_bind, Sem.run_pure, Result.andThen_ok]; exact hl)) hK
theorem wpList_stM {ops : Array Oper} {rest : List Oper} {op : Oper} {a : Act} {w : World} {Q : Exit → Act → World → Prop} (hgd : op.guard = none) (x y : Operand) (ho : op.op = .store mvT x y) (b : Nat) (hx : a.eval x = .pointer (some ⟨b, 0, none⟩)) (p : Mp) (hy : a.eval y = .agg p.L.toArray) (cs : Array Value) (hc : Blk w b cs mvT) (hs : cs.size = 35)
    (h : ∀ w', Hid (Blk w' b p.L.toArray mvT) → Hid (w.grownBy w' (some b)) → wpList Try.prog ops Q rest (a.put op.dst undef) w') : wpList Try.prog ops Q (op :: rest) a w := by
  obtain ⟨q1, q2⟩ := setCells_row p.L 0 w cs hc (by rw [p.len]; omega)
  refine wpList_store_mid hgd mvT x y ho b 0 p.L.toArray hx hy (by simpa [p.len] using there_row hc 0 35 (by omega)) (by simpa [p.len] using mvSize) (all_oneCell_toArray (mvL_one p)) (h _ (hide ?_) (hide q2))
  have e : cs.toList.take 0 ++ p.L ++ cs.toList.drop (0 + p.L.length) = p.L := by
    rw [List.drop_of_length_le (by rw [p.len, Array.length_toList]; omega)]
    simp
  rw [e] at q1
  exact q1
theorem mv_range {W : World} {b : Nat} {p : Mp} (h : Blk W b p.L.toArray mvT) : W.rangeAt b 0 p.L := fun j u hj => by
  rw [Nat.zero_add, h.cell, ← Array.getElem?_toList]
  exact hj
set_option maxHeartbeats 8000000 in
theorem list_any (w : World) (aa : Option Addr) (cc : Nat) (ps : List Mp) (hr : MRow w aa ps) (hn : ps.length ≤ 3518437207999) : Calls Try.prog 3 #[.slice aa ps.length cc] w fun e w' => e = .returned (.bool true) ∧ Below w.heap.size w w' := by
  have HNew := hide (newList_any (M := GM) w)
  have HW := hide (fun W => works_any W)
  obtain ⟨Z, hZ, hz0⟩ : ∃ Z : Array Value, Hid (Z.size = 35) ∧ ∀ W : World, (zeroValue mvT).run Try.prog W = .ok (.agg Z) W := ⟨_, hide (by simp [mvL]), zero_mv⟩
  obtain ⟨n, hnn⟩ : ∃ n, n = ps.length := ⟨_, rfl⟩
  have HN := hide hnn
  have HR := hide hr
  rw [← hnn] at hn ⊢
  clear hr hnn
  go_enter Try.func3, Try.ntmps3
  go_upto_region 2 with (go_at_call 5; (with_reducible refine HNew.out.mono ?_); rintro e w1 ⟨z, g, rfl, h1, h2, h3, h4⟩; have H1 := hide h1; have H2 := hide h2; have H3 := hide h3; have H4 := hide h4; clear h1 h2 h3 h4)
  go_upto_region 3 with fail
  have hgs : GrS w (w1.alloc (.cells #[.slice none 0 0] RT)).heap.size (w1.alloc (.cells #[.slice none 0 0] RT)) z w1.heap.size [] [] := by
    have hb := below_alloc w1 (.cells #[.slice none 0 0] RT)
    have hz := H1.out.lt
    exact (show GrS w w1.heap.size _ z w1.heap.size [] [] from ⟨⟨g, w.heap.size, .slice none 0 0, H1.out.below hb, ⟨Blk.made _ _ _, OwnG.nil _ _⟩, H3.out, Nat.le_refl _, by omega, (fun b e => absurd e (by simp [Value.ownBlock])), (fun i hi _ => ⟨by omega, by simp [Value.ownBlock]⟩)⟩, H2.out, H4.out.size, by omega, H4.out.alloc H4.out.size _⟩).renew
  have HG := hide hgs
  clear hgs HNew
  go_upto_region 6 with (go_at_call 6; (with_reducible refine (HW.out _).mono ?_); rintro e w2 ⟨rfl, h5⟩; have G2 := hide (HG.out.keep h5).renew; clear h5)
  generalize w1.heap.size = q at G2 ⊢
  clear HG H1 H2 H3 H4 HW
  go_loopw [5] (fun t wr => ∃ i : Nat, t = .int .i64 (i : Int) ∧ i ≤ n ∧ ∃ V, GrS w wr.heap.size wr z q V V ∧ OkV V ∧ V.length ≤ i) (fun t _ => n - (intOf t).toNat)
  case atStart => exact ⟨0, rfl, Nat.zero_le _, [], G2.out, fun x hx => by simp at hx, Nat.le_refl _⟩
  case round =>
    clear G2
    obtain ⟨i, rfl, hi, V, hG, hO, hV⟩ := hrel
    have HG := hide hG
    have HO := hide hO
    have HV := hide hV
    clear hG hO hV
    by_cases hlt : i < n
    · have hii : (i : Int) < (n : Int) := by omega
      obtain ⟨p, hp⟩ : ∃ p, ps[i]? = some p := ⟨_, List.getElem?_eq_getElem (by rw [← HN.out]; exact hlt)⟩
      obtain ⟨g, o, rfl, hr⟩ := HR.out i p hp
      have HX : Hid (wr.rangeAt g (o + i * 35) p.L) := hide (fun j u hu => (HG.out.bel.cell (World.block_lt_of_cell? w _ (hr j u hu))).trans (hr j u hu))
      clear hr hp
      have HB0 : Hid (Blk (wr.alloc (.cells Z mvT)) wr.heap.size Z mvT) := hide (Blk.made _ _ _)
      go_upto_region 9 with (first | ((with_reducible refine wpList_ldM ?_ (.tmp 22) ?_ g (o + i * 35) ?_ p HX.out ?_); rfl; rfl; rfl) | ((with_reducible refine wpList_stM ?_ (.tmp 6) (.tmp 23) ?_ wr.heap.size ?_ p ?_ Z HB0.out hZ.out ?_); rfl; rfl; rfl; rfl; intro w3 h1 h2))
      have hb3 : Below wr.heap.size wr w3 := (below_alloc wr (.cells Z mvT)).grown h2.out (by simp) (fun k e => by have := Option.some.inj e; omega)
      have HG3 := hide (HG.out.keep hb3).renew
      have HX3 : Hid (w3.rangeAt wr.heap.size 0 p.L) := hide (mv_range h1.out)
      have c1 : w3.cell? ⟨wr.heap.size, 1, none⟩ = some (.bool p.nl) := by rw [h1.out.cell, ← Array.getElem?_toList]; rfl
      have hVl : V.length < GM := by have := HV.out; show _ < 3518437208000; omega
      clear h1 h2 hb3 HX HB0
      cases hnl : p.nl
      · rw [hnl] at c1
        have HMV : Hid (Calls Try.prog 7 #[.pointer (some ⟨z, 0, none⟩), .pointer (some ⟨q, 0, none⟩), .agg p.L.toArray] w3 (MvC w z q (V.length + 1))) := hide (by
          have := moves_any HG3.out HO.out hVl p.k p.bt p.ks p.h
          unfold Mp.L
          rw [hnl]
          exact this)
        generalize wr.heap.size = b at *
        go_wp2_with (first | ((with_reducible refine wpList_ldM ?_ (.tmp 6) ?_ b 0 ?_ p HX3.out ?_); rfl; rfl; rfl) | (go_at_call 7; (with_reducible refine HMV.out.mono ?_); rintro e w4 ⟨rfl, V1, g4, o4, l4⟩; have G4 := hide g4; have O4 := hide o4; have L4 := hide l4; clear g4 o4 l4))
        exact ⟨⟨i + 1, by go_num, by omega, V1, G4.out, O4.out, by have := L4.out; have := HV.out; omega⟩, by simp [intOf]; omega⟩
      · rw [hnl] at c1
        have HX4 : Hid ((w3.alloc (.cells #[.slice none 0 0] RT)).rangeAt wr.heap.size 0 p.L) := hide (fun j u hu => ((below_alloc w3 _).cell (World.block_lt_of_cell? w3 _ (HX3.out j u hu))).trans (HX3.out j u hu))
        have HG4 := hide (HG3.out.keep (below_alloc w3 (.cells #[.slice none 0 0] RT)))
        have HMV : Hid (Calls Try.prog 7 #[.pointer none, .pointer (some ⟨w3.heap.size, 0, none⟩), .agg p.L.toArray] (w3.alloc (.cells #[.slice none 0 0] RT)) (MnC (w3.alloc (.cells #[.slice none 0 0] RT)))) := hide (by
          have := nmoves_any (W0 := w3.alloc (.cells #[.slice none 0 0] RT)) (q := w3.heap.size) (Blk.made _ _ _) p.k p.bt p.ks p.h
          unfold Mp.L
          rw [hnl]
          exact this)
        generalize wr.heap.size = b at *
        go_wp2_with (first | ((with_reducible refine wpList_ldM ?_ (.tmp 6) ?_ b 0 ?_ p HX4.out ?_); rfl; rfl; rfl) | (go_at_call 7; (with_reducible refine HMV.out.mono ?_); rintro e w4 ⟨rfl, g4⟩; have G4 := hide g4; clear g4))
        exact ⟨⟨i + 1, by go_num, by omega, V, (HG4.out.keep G4.out).renew, HO.out, by have := HV.out; omega⟩, by simp [intOf]; omega⟩
    · have hii : ¬ (i : Int) < (n : Int) := by omega
      have hVl : V.length ≤ 3518437208000 := by have := HV.out; omega
      have HA : Hid (∀ W, Below wr.heap.size wr W → Calls Try.prog 8 #[.pointer (some ⟨z, 0, none⟩), .pointer (some ⟨q, 0, none⟩)] W fun e W' => e = .returned (.bool true) ∧ Below wr.heap.size wr W') := hide (fun W hW => by
        obtain ⟨g, B, v, h1, h2, _⟩ := (HG.out.keep hW).ex
        exact (own_any h1 (by decide) h2 hVl).mono (fun e W' ⟨he, k⟩ => ⟨he, hW.trans (k.mono hW.size)⟩))
      have HLn : Hid (∀ W, Below wr.heap.size wr W → Calls Try.prog 9 #[.pointer (some ⟨z, 0, none⟩)] W fun e W' => e = .returned (.int .i64 (V.length : Int)) ∧ W' = W) := hide (fun W hW => by
        obtain ⟨g, B, v, h1, h2, _⟩ := (HG.out.keep hW).ex
        exact llen_any h1)
      obtain ⟨ao, c, HQ⟩ : ∃ ao c, Hid (∀ W, Below wr.heap.size wr W → W.cell? ⟨q, 0, none⟩ = some (.slice ao V.length c) ∧ q < W.heap.size) := by
        obtain ⟨g, B, v, h1, h2, _⟩ := HG.out.ex
        obtain ⟨ao, c, rfl, _⟩ := h2.own.form
        exact ⟨ao, c, hide (fun W hW => ⟨by rw [(h2.blk.below hW h2.blk.lt).cell]; rfl, (h2.blk.below hW h2.blk.lt).lt⟩)⟩
      have HBw := hide HG.out.bel
      have HBd : Hid (Below wr.heap.size wr wr.drew) := hide (below_dW wr)
      obtain ⟨c0, q0⟩ := HQ.out wr (Below.refl _ _)
      clear HG HO HV
      go_upto_region 14 with fail
      go_region_with (first | (go_at_call 8; (with_reducible refine (HA.out wr.drew HBd.out).mono ?_); rintro e w5 ⟨rfl, h5⟩; obtain ⟨c5, q5⟩ := HQ.out w5 h5; have H5 := hide h5; clear h5) | (go_at_call 9; (with_reducible refine (HLn.out w5 H5.out).mono ?_); rintro e w6 ⟨rfl, hw⟩; rw [hw]; clear hw))
      all_goals
        go_wp2
        go_ret
        exact ⟨rfl, HBw.out.trans (H5.out.mono HBw.out.size)⟩
end RG
end Go.Proofs.Ytiogblfdchdioaa
