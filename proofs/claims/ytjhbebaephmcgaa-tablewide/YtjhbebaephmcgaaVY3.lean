/- TableWide: the law. -/
import Derived.Test.YtjhbebaephmcgaaVY2
import Derived.Test.YtjhbebaephmcgaaRF1
namespace Go.Proofs.Ytjhbebaephmcgaa
set_option linter.unusedVariables false
set_option linter.unusedSimpArgs false
namespace TX
set_option maxRecDepth 100000
set_option maxHeartbeats 32000000
open Go.RowKit Go.Sort

/-- A list's bytes can be read. -/
def ValR (w : World) (e : EN) : Prop := e.n ≤ 9223372036854775807 ∧ ∀ i, i < e.n → ∃ b o u, e.ao = some ⟨b, o, none⟩ ∧ w.cell? ⟨b, o + i, none⟩ = some (u8c u)
/-- A script that came in. -/
def WpIn (w : World) (v : Value) (SC : List WD) : Prop := ∃ ao c, v = .slice ao SC.length c ∧ (0 < SC.length → ∃ h so, ao = some ⟨h, so, none⟩ ∧ ∀ (j : Nat) (s : WD), SC[j]? = some s → w.rangeAt h (so + j * 6) (wdC s) ∧ ValR w s.val)
theorem range_bel {w w' : World} {B b o : Nat} {cs : List Value} (h : w.rangeAt b o cs) (hb : Below B w w') (hl : w.heap.size ≤ B) : w'.rangeAt b o cs := fun j v hj => (hb.cell (Nat.lt_of_lt_of_le (World.block_lt_of_cell? w _ (h j v hj)) hl)).trans (h j v hj)
theorem wpList_appW {ops : Array Oper} {rest : List Oper} {op : Oper} {a : Act} {w : World} {Q : Exit → Act → World → Prop} (hgd : op.guard = none) (s x : Operand) (ho : op.op = .call { callee := .builtin .append, args := #[s, x], argTypes := #[WLT, WLT] })
    (base : Nat) (v : Value) (V : List WD) (hs : a.eval s = v) (hown : OwnW w base v V) (z : Nat) (hx : a.eval x = .slice (some ⟨z, 0, none⟩) 1 1) (e : WD) (hc : WB w z e) (hlen : V.length + 1 ≤ 2513169434915) (hbase : base ≤ w.heap.size)
    (h : ∀ v' w', Hid (OwnW w' base v' (V ++ [e])) → Hid (w.grownBy w' v.ownBlock) → wpList Try.prog ops Q rest (a.put op.dst v') w') : wpList Try.prog ops Q (op :: rest) a w := by
  obtain ⟨i0, hi, hz0, hz1, hz2⟩ := wtI
  refine wpList_append_own_at w hgd s x WLT ho base WT i0 (.agg (wdA wdZ)) 6 56 Try.underlying22 hi hz0 hz1 hz2 rfl (by decide) v V.length (V.flatMap wdC) hs hown ⟨z, 0, none⟩ 1 1 (wdC e) hx rfl ?_ (wdC_one e) (by unfold maxLen; omega) (by omega) hbase ?_
  · intro j u hj
    rw [Addr.add_mid]
    exact (Blk.range hc) j u hj
  · intro v' w' h1 h2 _ h4
    refine h v' w' (hide ?_) (hide h2)
    unfold OwnW
    rw [List.length_append, List.length_singleton, List.flatMap_append, List.flatMap_singleton]
    exact h1
theorem setCells_wd (W : World) (q o : Nat) (x : WD) (b : Bool) (hb : x.out = b) : W.setCells q o (wdC x) = ((((((W.setCell ⟨q, o, none⟩ (.int .i8 x.key.a)).setCell ⟨q, o + 1, none⟩ (.int .u8 (x.key.b0.toNat : Int))).setCell ⟨q, o + 2, none⟩ (.int .u8 (x.key.b1.toNat : Int))).setCell ⟨q, o + 3, none⟩ (.string ⟨x.key.c.toArray⟩)).setCell ⟨q, o + 4, none⟩ (.slice x.val.ao x.val.n x.val.cp)).setCell ⟨q, o + 5, none⟩ (.bool b)) := by
  subst hb
  rfl
theorem run_ldU {w : World} {b o : Nat} {u : UInt8} (h : w.rangeAt b o [u8c u]) : (Instr.loadAt 5 (.pointer (some ⟨b, o, none⟩))).run Try.prog w = .ok (.int .u8 (u.toNat : Int)) w := by
  have hu := Try.underlying5
  have hc : w.cell? ⟨b, o, none⟩ = some (.int .u8 (u.toNat : Int)) := h 0 _ rfl
  simp [go_sem, hc, hu]
theorem neS (w : World) : (binOp .neq 29 (.slice none 0 0) (.slice none 0 0)).run Try.prog w = .ok (.bool false) w := by kernel_rfl
theorem eqS (w : World) : (binOp .eql 29 (.slice none 0 0) (.slice none 0 0)).run Try.prog w = .ok (.bool true) w := by kernel_rfl
def kE : KY := ⟨0, 0, 0, [101, 110, 100]⟩
theorem allNotNilW (b : Nat) (W : World) : (binOp .eql 38 (.func (.func 23) #[] #[.pointer (some ⟨b, 0, none⟩)]) .nilFunc).run Try.prog W = .ok (.bool false) W := by kernel_rfl
theorem load_boolT {w : World} {b o : Nat} {v : Value} (h : w.cell? ⟨b, o, none⟩ = some v) : (loadVar 4 ⟨b, o, none⟩).run Try.prog w = .ok v w := by
  have hu := Try.underlying4
  simp [go_sem, h, hu]
theorem leave1c {fn : Func} {t : Tmp} {b : Nat} (hres : fn.results = #[.cell t 4]) {tmps : Array Value} {W w : World} {D : Nat} (e1 : W.heap[D]? = some (.deferred (some []))) (hv : tmps.getD t undef = .pointer (some ⟨b, 0, none⟩)) (hk : Blk W b #[.bool true] 4) (hB : Below w.heap.size w W) (l1 : w.heap.size ≤ D) :
    bodyPostM Fence.wide 5 Try.prog fn (fun e w' => e = .returned (.bool true) ∧ Below w.heap.size w w') .ret { tmps := tmps, defers := [{ target := .collected D, args := #[] }] } W := by
  have hn : b ≠ D := fun e => by
    have h0 : W.heap[b]? = some _ := hk
    rw [e, e1] at h0
    cases h0
  refine ⟨by simp, .inl ⟨_, _, rfl, run_takeDeferred e1, ?_⟩⟩
  have hk3 : Blk (W.putObj D (.deferred none)) b #[.bool true] 4 := (World.putObj_heap_other hn).trans hk
  refine ⟨_, results_cell (p := t) (ty := 4) hres _ _ ⟨b, 0, none⟩ hv (.bool true) (load_boolT (hk3.cell 0)), ?_⟩
  exact ⟨rfl, below_put hB D _ l1⟩
theorem all_none_fit (n : Nat) (w : World) (b : Nat) (hb : Blk w b #[.pointer none] 23) : SeqFit Fence.wide n Try.prog 23 #[.pointer (some ⟨b, 0, none⟩)] (fun x : Empty => x.elim) 0 0 (fun xs => xs = []) (fun _ _ _ _ => False) w := by
  intro l J Jx W hW hJ hJx hY h0
  refine callsIn_of_wp Try.func23 rfl trivial ?_ rfl
  have HR : Hid ((∃ xs : List Empty, xs = [] ∧ J xs W) ∨ ∃ pre, Jx pre W) := hide (.inl ⟨[], rfl, h0⟩)
  have hc := (Blk.below hb hW hb.lt).cell 0
  clear hY hJ hJx hW h0
  simp only [Try.ntmps23, List.size_toArray, List.length_cons, List.length_nil, Nat.reduceAdd, Nat.reduceSub, Array.replicate_succ, Array.replicate_zero, List.push_toArray, List.append_toArray, List.nil_append, List.cons_append]
  gi_wp2
  refine ⟨trivial, ?_⟩
  refine ⟨fun h => absurd h (by decide), ?_⟩
  refine (callsIn_wide.2 (none_nil W)).mono ?_
  rintro e w' ⟨rfl, hw⟩
  rw [hw]
  clear hw
  gi_wp2
  first | refine bodyPost_end (results_none rfl _ _ _) rfl ?_ | refine bodyPost_ret (results_none rfl _ _ _) rfl ?_
  exact ⟨⟨_, rfl⟩, HR.out⟩
theorem row_frz {W : World} {B q n pc : Nat} {L : List WD} (h : OwnW W B (.slice (some ⟨q, 0, none⟩) n pc) L) (hn : n = L.length) {j : Nat} (hj : j < n) : W.there q (j * 6) 6 := by
  subst hn
  exact (rowSetQ h hj (wdC wdZ) (wdC_len wdZ)).1
theorem row_setW {W : World} {B q n pc : Nat} {L : List WD} (h : OwnW W B (.slice (some ⟨q, 0, none⟩) n pc) L) (hn : n = L.length) {j : Nat} (hj : j < n) (k : WD) : OwnW (W.setCells q (j * 6) (wdC k)) B (.slice (some ⟨q, 0, none⟩) n pc) (L.set j k) ∧ W.grownBy (W.setCells q (j * 6) (wdC k)) (some q) := by
  subst hn
  obtain ⟨q1, q2, q3⟩ := rowSetQ h hj (wdC k) (wdC_len k)
  refine ⟨?_, q3⟩
  unfold OwnW
  rw [List.length_set, show (L.set j k).flatMap wdC = (L.flatMap wdC).take (j * 6) ++ wdC k ++ (L.flatMap wdC).drop (j * 6 + 6) from flat_set L j k (fun y hy => wdC_len y) hj]
  exact q2
theorem wide_law (w0 : World) (v : Value) (SC : List WD) (hS : WpIn w0 v SC) (hM : SC.length ≤ 2513169434843) : Calls Try.prog 3 #[v] w0 fun e w' => e = .returned (.bool true) ∧ Below w0.heap.size w0 w' := by
  obtain ⟨N, hN⟩ : ∃ N, N = w0.heap.size := ⟨_, rfl⟩
  obtain ⟨ao, c, rfl, hr⟩ := hS
  obtain ⟨n, hn⟩ : ∃ n, n = SC.length := ⟨_, rfl⟩
  have HSC : Hid (∀ W, Below N w0 W → ∀ (i : Nat) (s : WD), SC[i]? = some s → ∃ h so, ao = some ⟨h, so, none⟩ ∧ W.rangeAt h (so + i * 6) (wdC s)) := hide (fun W hb i s hi => by
    obtain ⟨h, so, e, h3⟩ := hr (by have := (List.getElem?_eq_some_iff.1 hi).1; omega)
    exact ⟨h, so, e, range_bel (h3 i s hi).1 hb (by omega)⟩)
  have HSV : Hid (∀ x ∈ SC, ValR w0 x.val) := hide (fun x hx => by
    obtain ⟨i, hi⟩ := List.mem_iff_getElem?.1 hx
    obtain ⟨h, so, e, h3⟩ := hr (by have := (List.getElem?_eq_some_iff.1 hi).1; omega)
    exact (h3 i x hi).2)
  have HN := hide hN
  have HNn := hide hn
  rw [← hn] at hM ⊢
  clear hr hn
  refine (callsIn_wide (n := 5)).1 ?_
  refine callsIn_of_wp_marks Try.func3 rfl trivial ?_ rfl
  refine wpIn_wide.2 ?_
  simp only [Try.ntmps3, List.size_toArray, List.length_cons, List.length_nil, Nat.reduceAdd, Nat.reduceSub, Array.replicate_succ, Array.replicate_zero, List.push_toArray, List.append_toArray, List.nil_append, List.cons_append]
  go_upto_region 1 with fail
  refine name_world (fun W => Below N w0 W ∧ Blk W N #[.bool false] BT) ⟨by rw [hN]; exact below_alloc w0 _, by rw [hN]; exact Blk.made w0 _ _⟩ ?_
  rintro W ⟨hB, hC⟩
  rw [← hN]
  have HB := hide hB
  have HC := hide hC
  have HNew := hide (tnew_any W HFN hK)
  clear hB hC hN
  unfold hvF at HNew
  go_upto_region 2 with (go_at_call 4; (with_reducible refine HNew.out.mono ?_); rintro e w1 ⟨z, g1, rfl, ht, hz, hg, hb⟩; have HT := hide ht; have HZ := hide hz; have HG := hide hg; have HB1 := hide hb; clear ht hz hg hb)
  have HS0 : Hid (WdS w0 w1 N z g1 g1 0 (fun _ => none) false (.slice none 0 0) []) := hide (by
    have hl := HC.out.lt
    refine ⟨HB.out.trans (HB1.out.mono (by omega)), HT.out, fun k hk => ?_, HC.out.below HB1.out hl, World.ownsRow_nil _ _ _ _⟩
    have h1 := HZ.out
    have h2 := HG.out
    rcases hk with rfl | rfl | rfl <;> omega)
  have HN2 := hide (tnew_nil w1)
  clear HNew HT HZ HG HB1 HB HC
  go_upto_region 7 with (go_at_call 4; (with_reducible refine HN2.out.mono ?_); rintro e w2 ⟨rfl, hw⟩; rw [hw]; clear hw)
  go_loopw [5, 6] (fun t5 t6 wr => ∃ (i : Nat) (pv : Value) (L : List WD) (gy ge : Nat) (g : KY → Option EN), t5 = pv ∧ t6 = .int .i64 i ∧ i ≤ n ∧ WdS w0 wr N z gy ge i g false pv L ∧ WpR L g ∧ L.length ≤ i ∧ ∀ x ∈ L, x ∈ SC) (fun _ t6 _ => n - (intOf t6).toNat)
  case atStart => exact ⟨0, _, [], _, _, _, rfl, rfl, by omega, HS0.out, WpR.nil, Nat.le_refl _, fun x hx => by cases hx⟩
  case round =>
    obtain ⟨i, pv, L, gy, ge, g, rfl, rfl, hi, hS, hR, hL, hX⟩ := hrel
    have HS := hide hS
    have HR := hide hR
    have HLL := hide hL
    have HX := hide hX
    clear hS hR hX hL HS0 HN2
    by_cases hlt : i < n
    · have hji : (i : Int) < (n : Int) := by omega
      obtain ⟨s, hs⟩ : ∃ s, SC[i]? = some s := ⟨_, List.getElem?_eq_getElem (by rw [← HNn.out]; exact hlt)⟩
      obtain ⟨h, so, rfl, hrg⟩ := HSC.out wr HS.out.bel i s hs
      have HSs := hide (List.mem_of_getElem? hs)
      have HRG := hide hrg

      have HZ : Hid (WB (wr.alloc (.cells (wdA wdZ) WT)) wr.heap.size wdZ) := hide (Blk.made wr _ _)
      clear hs hrg
      have d0 : wr.cell? ⟨h, so + i * 6, none⟩ = some (.int .i8 s.key.a) := HRG.out 0 _ rfl
      have d1 : wr.cell? ⟨h, so + i * 6 + 1, none⟩ = some (.int .u8 (s.key.b0.toNat : Int)) := HRG.out 1 _ rfl
      have d2 : wr.cell? ⟨h, so + i * 6 + 2, none⟩ = some (.int .u8 (s.key.b1.toNat : Int)) := HRG.out 2 _ rfl
      have d3 : wr.cell? ⟨h, so + i * 6 + 3, none⟩ = some (.string ⟨s.key.c.toArray⟩) := HRG.out 3 _ rfl
      have d4 : wr.cell? ⟨h, so + i * 6 + 4, none⟩ = some (.slice s.val.ao s.val.n s.val.cp) := HRG.out 4 _ rfl
      have d5 : wr.cell? ⟨h, so + i * 6 + 5, none⟩ = some (.bool s.out) := HRG.out 5 _ rfl
      go_upto_region 10 with fail
      refine name_world (fun W => Below wr.heap.size wr W ∧ WB W wr.heap.size s) ⟨below_alloc wr _, Blk.made wr (wdA s) WT⟩ ?_
      rintro W ⟨hbW, hw⟩
      have HSW := hide (HS.out.below hbW)
      obtain ⟨sb, hsb⟩ : ∃ sb, sb = wr.heap.size := ⟨_, rfl⟩
      rw [← hsb] at hw ⊢
      have HSB := hide hw
      clear hbW hw hsb HS HRG HZ d0 d1 d2 d3 d4 d5
      obtain ⟨nl, hnl⟩ : ∃ nl, nl = L.length := ⟨_, rfl⟩
      obtain ⟨pao, pc, rfl, hpg⟩ := HSW.out.pr.slice
      rw [← hnl] at hpg HSW ⊢
      have HNL := hide hnl
      have HPG := hide hpg
      clear hnl hpg
      go_upto_region 12 with fail
      go_loopw [8, 9] (fun t8 t9 wk => ∃ (m : Nat) (t : Int), t8 = .int .i64 t ∧ t9 = .int .i64 m ∧ m ≤ nl ∧ AtR L s.key m t ∧ WdS w0 wk N z gy ge i g false (.slice pao nl pc) L ∧ WB wk sb s) (fun _ t9 _ => nl - (intOf t9).toNat)
      case atStart => exact ⟨0, -1, rfl, rfl, by omega, AtR.zero _ _, HSW.out, HSB.out⟩
      case round =>
        obtain ⟨m, t, rfl, rfl, hm, ha, hSk, hBk⟩ := hrel
        have HA := hide ha
        have HSk := hide hSk
        have HBk := hide hBk
        have hnl : nl ≤ 2513169434843 := by have := HLL.out; have := HNL.out; omega
        clear ha hSk hBk HSW HSB
        by_cases hlm : m < nl
        · have hjm : (m : Int) < (nl : Int) := by omega
          obtain ⟨y, hy⟩ : ∃ y, L[m]? = some y := ⟨_, List.getElem?_eq_getElem (by rw [← HNL.out]; exact hlm)⟩
          obtain ⟨q, rfl⟩ := HPG.out (by omega)
          have HY := hide hy
          have HK1 : Hid (∀ d os, (grow (redrawn wr d) os).rangeAt q (m * 6) (kC y.key)) := hide (range_regrown (range_key (HSk.out.pr.read rfl hy)))
          have HK2 : Hid (∀ d os, (grow (redrawn wr d) os).rangeAt sb 0 (kC s.key)) := hide (range_regrown HBk.out.key)
          clear hy
          go_upto_region 14 with fail
          refine wp_region_quiet_below (by kernel_rfl) (by kernel_rfl) ?_
          iterate 4 quiet_step (fail)
          refine wpQuiet_val (kV y.key) rfl (fun w0 hw => ?_) ?_
          · obtain ⟨p0, rfl⟩ := hw
            exact run_loadO rfl rfl (run_ldK (HK1.out _ _))
          quiet_step (fail)
          refine wpQuiet_val (kV s.key) rfl (fun w0 hw => ?_) ?_
          · obtain ⟨p0, rfl⟩ := hw
            exact run_loadO rfl rfl (run_ldK (HK2.out _ _))
          refine wpQuiet_val (.bool (eqK y.key s.key)) rfl (fun w0 _ => run_eqlK rfl rfl rfl w0) ?_
          refine wpQuiet_nil ?_
          intro w1 hw1
          have hb1 : RowKit.Below wr.heap.size wr w1 := below_of hw1
          have HS1 := hide (HSk.out.below hb1)
          have HB1 : Hid (WB w1 sb s) := hide (Blk.below HBk.out hb1 (Blk.lt HBk.out))
          clear hw1 hb1 HK1 HK2 HSk HBk
          cases he : eqK y.key s.key with
          | true =>
            have HA1 := hide (AtR.yes HY.out he)
            clear he
            go_wp2
            go_roundw
            case rel => exact ⟨m + 1, _, rfl, by go_num, by omega, HA1.out, HS1.out, HB1.out⟩
            case measure => simp [intOf]; omega
          | false =>
            have HA1 := hide (HA.out.next HY.out he)
            clear he
            go_wp2
            go_roundw
            case rel => exact ⟨m + 1, _, rfl, by go_num, by omega, HA1.out, HS1.out, HB1.out⟩
            case measure => simp [intOf]; omega
        · have hjm : ¬ (m : Int) < (nl : Int) := by omega
          have hml : nl = m := by omega
          clear hlm hm hjm
          have c0 : wr.cell? ⟨sb, 0, none⟩ = some (.int .i8 s.key.a) := HBk.out.key 0 _ rfl
          have c1 : wr.cell? ⟨sb, 1, none⟩ = some (.int .u8 (s.key.b0.toNat : Int)) := HBk.out.key 1 _ rfl
          have c2 : wr.cell? ⟨sb, 2, none⟩ = some (.int .u8 (s.key.b1.toNat : Int)) := HBk.out.key 2 _ rfl
          have c3 : wr.cell? ⟨sb, 3, none⟩ = some (.string ⟨s.key.c.toArray⟩) := HBk.out.key 3 _ rfl
          have c4 : wr.cell? ⟨sb, 4, none⟩ = some (.slice s.val.ao s.val.n s.val.cp) := HBk.out.val
          have c5 : wr.cell? ⟨sb, 5, none⟩ = some (.bool s.out) := HBk.out.out
          subst hml
          rcases HA.out with ⟨rfl, hno⟩ | ⟨j, y, rfl, hjl, hy, hyk⟩
          · have HAX : Hid (s.key ∉ L.map WD.key) := hide (fun hm => by
              obtain ⟨x, hx, e⟩ := List.mem_map.1 hm
              exact hno x (by rw [List.take_of_length_le (by rw [← HNL.out]; exact Nat.le_refl _)]; exact hx) e)
            clear hno HA
            cases ho : s.out with
            | true =>
              rw [ho] at c5
              have hgk : (g s.key).isSome = false := by
                rw [HR.out.no s.key HAX.out]; rfl
              have HCl : Hid (Calls Try.prog 6 #[.pointer (some ⟨z, 0, none⟩), .agg #[.int .i8 s.key.a, .int .u8 (s.key.b0.toNat : Int), .int .u8 (s.key.b1.toNat : Int), .string ⟨s.key.c.toArray⟩]] wr fun e w' => ∃ v0, e = .returned (.tuple #[v0, .bool false]) ∧ TbN wr w' z gy ge HFN hK (upd g s.key s.left) (i + 1)) := hide (by
                have hl : s.left = none := by rw [WD.left, ho]; rfl
                rw [hl]
                refine (tdel_any HSk.out.tb hash_is s.key).mono ?_
                rintro e w3 ⟨rfl, hn⟩
                refine ⟨_, by unfold optV; rw [hgk], ?_⟩
                obtain ⟨gy2, ge2, m1, m2⟩ := hn.ex
                exact ⟨⟨gy2, ge2, m1.more (by omega), m2⟩, hn.fr⟩)
              clear hgk
              go_upto_region 17 with fail
              go_upto_region 18 with (go_at_call 6; (with_reducible refine HCl.out.mono ?_); rintro e w3 ⟨v0, rfl, hn⟩; have HN3 := hide hn; clear hn)
              obtain ⟨gy3, ge3, hS3⟩ := HSk.out.call HN3.out
              have HB3 : Hid (WB w3 sb s) := hide ((HN3.out.fr.block sb HBk.out.lt (HSk.out.tb.notB HBk.out (by decide) (by decide))).trans HBk.out)
              have HS3 := hide hS3
              clear hS3 HCl HSk HBk c0 c1 c2 c3 c4 c5
              have c0 : w3.cell? ⟨sb, 0, none⟩ = some (.int .i8 s.key.a) := HB3.out.key 0 _ rfl
              have c1 : w3.cell? ⟨sb, 1, none⟩ = some (.int .u8 (s.key.b0.toNat : Int)) := HB3.out.key 1 _ rfl
              have c2 : w3.cell? ⟨sb, 2, none⟩ = some (.int .u8 (s.key.b1.toNat : Int)) := HB3.out.key 2 _ rfl
              have c3 : w3.cell? ⟨sb, 3, none⟩ = some (.string ⟨s.key.c.toArray⟩) := HB3.out.key 3 _ rfl
              have c4 : w3.cell? ⟨sb, 4, none⟩ = some (.slice s.val.ao s.val.n s.val.cp) := HB3.out.val
              have c5 : w3.cell? ⟨sb, 5, none⟩ = some (.bool s.out) := HB3.out.out
              go_upto_region 23 with fail
              go_upto_region 25 with fail
              have HBX : Hid (WB (w3.alloc (.cells #[.int .i8 s.key.a, .int .u8 (s.key.b0.toNat : Int), .int .u8 (s.key.b1.toNat : Int), .string ⟨s.key.c.toArray⟩, .slice s.val.ao s.val.n s.val.cp, .bool true] WT)) w3.heap.size s) := hide (by have := Blk.made w3 (wdA s) WT; unfold wdA wdC at this; rw [ho] at this; unfold WB wdA wdC; rw [ho]; exact this)
              have HSA : Hid (WdS w0 (w3.alloc (.cells #[.int .i8 s.key.a, .int .u8 (s.key.b0.toNat : Int), .int .u8 (s.key.b1.toNat : Int), .string ⟨s.key.c.toArray⟩, .slice s.val.ao s.val.n s.val.cp, .bool true] WT)) N z gy3 ge3 (i + 1) (upd g s.key s.left) false (.slice pao nl pc) L) := hide (HS3.out.below (below_alloc w3 _))
              have HNb : Hid (N + 1 ≤ (w3.alloc (.cells #[.int .i8 s.key.a, .int .u8 (s.key.b0.toNat : Int), .int .u8 (s.key.b1.toNat : Int), .string ⟨s.key.c.toArray⟩, .slice s.val.ao s.val.n s.val.cp, .bool true] WT)).heap.size) := hide HSA.out.sz
              have HLn : Hid (L.length + 1 ≤ 2513169434915) := hide (by have := HLL.out; omega)
              go_upto_region 8 with ((with_reducible refine wpList_appW ?_ (.tmp 108) (.tmp 110) ?_ (N + 1) (.slice pao nl pc) L ?_ HSA.out.pr w3.heap.size ?_ s HBX.out HLn.out HNb.out ?_); rfl; rfl; rfl; rfl; intro pv4 w4 h1 h2)
              have HS4 := hide (HSA.out.row h2.out h1.out)
              have HR4 : Hid (WpR (L ++ [s]) (upd g s.key s.left)) := hide (HR.out.add HAX.out)
              clear c0 c1 c2 c3 c4 c5 h1 h2 HBX HSA HS3 HB3 HN3
              go_wp2
              go_roundw
              case rel => exact ⟨i + 1, _, L ++ [s], gy3, ge3, _, rfl, by go_num, by omega, HS4.out, HR4.out, by rw [List.length_append]; have := HLL.out; simp; omega, fun x hx => (List.mem_append.1 hx).elim (HX.out x) (fun e => (List.mem_singleton.1 e) ▸ HSs.out)⟩
              case measure => simp [intOf]; omega
            | false =>
              rw [ho] at c5
              have hgk : (g s.key).isSome = false := by
                rw [HR.out.no s.key HAX.out]; rfl
              have HCl : Hid (Calls Try.prog 7 #[.pointer (some ⟨z, 0, none⟩), .agg #[.int .i8 s.key.a, .int .u8 (s.key.b0.toNat : Int), .int .u8 (s.key.b1.toNat : Int), .string ⟨s.key.c.toArray⟩], .slice s.val.ao s.val.n s.val.cp] wr fun e w' => ∃ v0, e = .returned (.tuple #[v0, .bool false]) ∧ TbN wr w' z gy ge HFN hK (upd g s.key s.left) (i + 1)) := hide (by
                have hl : s.left = (some s.val) := by rw [WD.left, ho]; rfl
                rw [hl]
                refine (tput_any HSk.out.tb hash_is (by omega) s.key s.val).mono ?_
                rintro e w3 ⟨rfl, hn⟩
                refine ⟨_, by unfold optV; rw [hgk], ?_⟩
                exact hn)
              clear hgk
              go_upto_region 20 with fail
              go_upto_region 21 with (go_at_call 7; (with_reducible refine HCl.out.mono ?_); rintro e w3 ⟨v0, rfl, hn⟩; have HN3 := hide hn; clear hn)
              obtain ⟨gy3, ge3, hS3⟩ := HSk.out.call HN3.out
              have HB3 : Hid (WB w3 sb s) := hide ((HN3.out.fr.block sb HBk.out.lt (HSk.out.tb.notB HBk.out (by decide) (by decide))).trans HBk.out)
              have HS3 := hide hS3
              clear hS3 HCl HSk HBk c0 c1 c2 c3 c4 c5
              have c0 : w3.cell? ⟨sb, 0, none⟩ = some (.int .i8 s.key.a) := HB3.out.key 0 _ rfl
              have c1 : w3.cell? ⟨sb, 1, none⟩ = some (.int .u8 (s.key.b0.toNat : Int)) := HB3.out.key 1 _ rfl
              have c2 : w3.cell? ⟨sb, 2, none⟩ = some (.int .u8 (s.key.b1.toNat : Int)) := HB3.out.key 2 _ rfl
              have c3 : w3.cell? ⟨sb, 3, none⟩ = some (.string ⟨s.key.c.toArray⟩) := HB3.out.key 3 _ rfl
              have c4 : w3.cell? ⟨sb, 4, none⟩ = some (.slice s.val.ao s.val.n s.val.cp) := HB3.out.val
              have c5 : w3.cell? ⟨sb, 5, none⟩ = some (.bool s.out) := HB3.out.out
              go_upto_region 23 with fail
              go_upto_region 25 with fail
              have HBX : Hid (WB (w3.alloc (.cells #[.int .i8 s.key.a, .int .u8 (s.key.b0.toNat : Int), .int .u8 (s.key.b1.toNat : Int), .string ⟨s.key.c.toArray⟩, .slice s.val.ao s.val.n s.val.cp, .bool false] WT)) w3.heap.size s) := hide (by have := Blk.made w3 (wdA s) WT; unfold wdA wdC at this; rw [ho] at this; unfold WB wdA wdC; rw [ho]; exact this)
              have HSA : Hid (WdS w0 (w3.alloc (.cells #[.int .i8 s.key.a, .int .u8 (s.key.b0.toNat : Int), .int .u8 (s.key.b1.toNat : Int), .string ⟨s.key.c.toArray⟩, .slice s.val.ao s.val.n s.val.cp, .bool false] WT)) N z gy3 ge3 (i + 1) (upd g s.key s.left) false (.slice pao nl pc) L) := hide (HS3.out.below (below_alloc w3 _))
              have HNb : Hid (N + 1 ≤ (w3.alloc (.cells #[.int .i8 s.key.a, .int .u8 (s.key.b0.toNat : Int), .int .u8 (s.key.b1.toNat : Int), .string ⟨s.key.c.toArray⟩, .slice s.val.ao s.val.n s.val.cp, .bool false] WT)).heap.size) := hide HSA.out.sz
              have HLn : Hid (L.length + 1 ≤ 2513169434915) := hide (by have := HLL.out; omega)
              go_upto_region 8 with ((with_reducible refine wpList_appW ?_ (.tmp 108) (.tmp 110) ?_ (N + 1) (.slice pao nl pc) L ?_ HSA.out.pr w3.heap.size ?_ s HBX.out HLn.out HNb.out ?_); rfl; rfl; rfl; rfl; intro pv4 w4 h1 h2)
              have HS4 := hide (HSA.out.row h2.out h1.out)
              have HR4 : Hid (WpR (L ++ [s]) (upd g s.key s.left)) := hide (HR.out.add HAX.out)
              clear c0 c1 c2 c3 c4 c5 h1 h2 HBX HSA HS3 HB3 HN3
              go_wp2
              go_roundw
              case rel => exact ⟨i + 1, _, L ++ [s], gy3, ge3, _, rfl, by go_num, by omega, HS4.out, HR4.out, by rw [List.length_append]; have := HLL.out; simp; omega, fun x hx => (List.mem_append.1 hx).elim (HX.out x) (fun e => (List.mem_singleton.1 e) ▸ HSs.out)⟩
              case measure => simp [intOf]; omega
          · have HY := hide hy
            have HK := hide hyk
            obtain ⟨q, rfl⟩ := HPG.out (by omega)
            clear hy hyk HA
            have hjm : (j : Int) < (nl : Int) := by omega
            have hj0 : (0 : Int) ≤ (j : Int) := by omega
            cases hyo : y.out with
            | true =>
              cases ho : s.out with
              | true =>
                rw [ho] at c5
                have hgk : (g s.key).isSome = false := by
                  have := HR.out.mem y (List.mem_of_getElem? HY.out)
                  rw [HK.out] at this
                  rw [this, WD.left, hyo]; rfl
                have HCl : Hid (Calls Try.prog 6 #[.pointer (some ⟨z, 0, none⟩), .agg #[.int .i8 s.key.a, .int .u8 (s.key.b0.toNat : Int), .int .u8 (s.key.b1.toNat : Int), .string ⟨s.key.c.toArray⟩]] wr fun e w' => ∃ v0, e = .returned (.tuple #[v0, .bool false]) ∧ TbN wr w' z gy ge HFN hK (upd g s.key s.left) (i + 1)) := hide (by
                  have hl : s.left = none := by rw [WD.left, ho]; rfl
                  rw [hl]
                  refine (tdel_any HSk.out.tb hash_is s.key).mono ?_
                  rintro e w3 ⟨rfl, hn⟩
                  refine ⟨_, by unfold optV; rw [hgk], ?_⟩
                  obtain ⟨gy2, ge2, m1, m2⟩ := hn.ex
                  exact ⟨⟨gy2, ge2, m1.more (by omega), m2⟩, hn.fr⟩)
                clear hgk
                go_upto_region 17 with fail
                go_upto_region 18 with (go_at_call 6; (with_reducible refine HCl.out.mono ?_); rintro e w3 ⟨v0, rfl, hn⟩; have HN3 := hide hn; clear hn)
                obtain ⟨gy3, ge3, hS3⟩ := HSk.out.call HN3.out
                have HB3 : Hid (WB w3 sb s) := hide ((HN3.out.fr.block sb HBk.out.lt (HSk.out.tb.notB HBk.out (by decide) (by decide))).trans HBk.out)
                have HS3 := hide hS3
                clear hS3 HCl HSk HBk c0 c1 c2 c3 c4 c5
                have c0 : w3.cell? ⟨sb, 0, none⟩ = some (.int .i8 s.key.a) := HB3.out.key 0 _ rfl
                have c1 : w3.cell? ⟨sb, 1, none⟩ = some (.int .u8 (s.key.b0.toNat : Int)) := HB3.out.key 1 _ rfl
                have c2 : w3.cell? ⟨sb, 2, none⟩ = some (.int .u8 (s.key.b1.toNat : Int)) := HB3.out.key 2 _ rfl
                have c3 : w3.cell? ⟨sb, 3, none⟩ = some (.string ⟨s.key.c.toArray⟩) := HB3.out.key 3 _ rfl
                have c4 : w3.cell? ⟨sb, 4, none⟩ = some (.slice s.val.ao s.val.n s.val.cp) := HB3.out.val
                have c5 : w3.cell? ⟨sb, 5, none⟩ = some (.bool s.out) := HB3.out.out
                have hRD := HS3.out.pr.read rfl HY.out
                have d5 : w3.cell? ⟨q, j * 6 + 5, none⟩ = some (.bool y.out) := hRD 5 _ rfl
                rw [hyo] at d5
                go_upto_region 23 with fail
                go_upto_region 24 with fail
                have d0 : w3.cell? ⟨q, j * 6, none⟩ = some (.int .i8 y.key.a) := hRD 0 _ rfl
                have d1 : w3.cell? ⟨q, j * 6 + 1, none⟩ = some (.int .u8 (y.key.b0.toNat : Int)) := hRD 1 _ rfl
                have d2 : w3.cell? ⟨q, j * 6 + 2, none⟩ = some (.int .u8 (y.key.b1.toNat : Int)) := hRD 2 _ rfl
                have d3 : w3.cell? ⟨q, j * 6 + 3, none⟩ = some (.string ⟨y.key.c.toArray⟩) := hRD 3 _ rfl
                have d4 : w3.cell? ⟨q, j * 6 + 4, none⟩ = some (.slice y.val.ao y.val.n y.val.cp) := hRD 4 _ rfl
                have hTH := row_frz HS3.out.pr HNL.out hjl
                have f0 : w3.frozen? ⟨q, j * 6, none⟩ = false := (hTH 0 (by decide)).2
                have f1 : w3.frozen? ⟨q, j * 6 + 1, none⟩ = false := (hTH 1 (by decide)).2
                have f2 : w3.frozen? ⟨q, j * 6 + 2, none⟩ = false := (hTH 2 (by decide)).2
                have f3 : w3.frozen? ⟨q, j * 6 + 3, none⟩ = false := (hTH 3 (by decide)).2
                have f4 : w3.frozen? ⟨q, j * 6 + 4, none⟩ = false := (hTH 4 (by decide)).2
                have f5 : w3.frozen? ⟨q, j * 6 + 5, none⟩ = false := (hTH 5 (by decide)).2
                clear hRD hTH
                have HRS : Hid (OwnW (w3.setCells q (j * 6) (wdC s)) (N + 1) (.slice (some ⟨q, 0, none⟩) nl pc) (L.set j s) ∧ w3.grownBy (w3.setCells q (j * 6) (wdC s)) (some q)) := hide (row_setW HS3.out.pr HNL.out hjl s)
                rw [setCells_wd w3 q (j * 6) s true ho] at HRS
                go_upto_region 8 with fail
                refine name_world (fun W => OwnW W (N + 1) (.slice (some ⟨q, 0, none⟩) nl pc) (L.set j s) ∧ w3.grownBy W (some q)) HRS.out ?_
                rintro w4 ⟨ho4, hg4⟩
                have HS4 := hide (HS3.out.row hg4 ho4)
                have HR4 : Hid (WpR (L.set j s) (upd g s.key s.left)) := hide (HR.out.set HY.out HK.out)
                clear c0 c1 c2 c3 c4 c5 d0 d1 d2 d3 d4 d5 f0 f1 f2 f3 f4 f5 ho4 hg4 HRS HS3 HB3 HN3
                go_wp2
                go_roundw
                case rel => exact ⟨i + 1, _, L.set j s, gy3, ge3, _, rfl, by go_num, by omega, HS4.out, HR4.out, by rw [List.length_set]; have := HLL.out; omega, fun x hx => (List.mem_or_eq_of_mem_set hx).elim (HX.out x) (fun e => e ▸ HSs.out)⟩
                case measure => simp [intOf]; omega
              | false =>
                rw [ho] at c5
                have hgk : (g s.key).isSome = false := by
                  have := HR.out.mem y (List.mem_of_getElem? HY.out)
                  rw [HK.out] at this
                  rw [this, WD.left, hyo]; rfl
                have HCl : Hid (Calls Try.prog 7 #[.pointer (some ⟨z, 0, none⟩), .agg #[.int .i8 s.key.a, .int .u8 (s.key.b0.toNat : Int), .int .u8 (s.key.b1.toNat : Int), .string ⟨s.key.c.toArray⟩], .slice s.val.ao s.val.n s.val.cp] wr fun e w' => ∃ v0, e = .returned (.tuple #[v0, .bool false]) ∧ TbN wr w' z gy ge HFN hK (upd g s.key s.left) (i + 1)) := hide (by
                  have hl : s.left = (some s.val) := by rw [WD.left, ho]; rfl
                  rw [hl]
                  refine (tput_any HSk.out.tb hash_is (by omega) s.key s.val).mono ?_
                  rintro e w3 ⟨rfl, hn⟩
                  refine ⟨_, by unfold optV; rw [hgk], ?_⟩
                  exact hn)
                clear hgk
                go_upto_region 20 with fail
                go_upto_region 21 with (go_at_call 7; (with_reducible refine HCl.out.mono ?_); rintro e w3 ⟨v0, rfl, hn⟩; have HN3 := hide hn; clear hn)
                obtain ⟨gy3, ge3, hS3⟩ := HSk.out.call HN3.out
                have HB3 : Hid (WB w3 sb s) := hide ((HN3.out.fr.block sb HBk.out.lt (HSk.out.tb.notB HBk.out (by decide) (by decide))).trans HBk.out)
                have HS3 := hide hS3
                clear hS3 HCl HSk HBk c0 c1 c2 c3 c4 c5
                have c0 : w3.cell? ⟨sb, 0, none⟩ = some (.int .i8 s.key.a) := HB3.out.key 0 _ rfl
                have c1 : w3.cell? ⟨sb, 1, none⟩ = some (.int .u8 (s.key.b0.toNat : Int)) := HB3.out.key 1 _ rfl
                have c2 : w3.cell? ⟨sb, 2, none⟩ = some (.int .u8 (s.key.b1.toNat : Int)) := HB3.out.key 2 _ rfl
                have c3 : w3.cell? ⟨sb, 3, none⟩ = some (.string ⟨s.key.c.toArray⟩) := HB3.out.key 3 _ rfl
                have c4 : w3.cell? ⟨sb, 4, none⟩ = some (.slice s.val.ao s.val.n s.val.cp) := HB3.out.val
                have c5 : w3.cell? ⟨sb, 5, none⟩ = some (.bool s.out) := HB3.out.out
                have hRD := HS3.out.pr.read rfl HY.out
                have d5 : w3.cell? ⟨q, j * 6 + 5, none⟩ = some (.bool y.out) := hRD 5 _ rfl
                rw [hyo] at d5
                go_upto_region 23 with fail
                go_upto_region 24 with fail
                have d0 : w3.cell? ⟨q, j * 6, none⟩ = some (.int .i8 y.key.a) := hRD 0 _ rfl
                have d1 : w3.cell? ⟨q, j * 6 + 1, none⟩ = some (.int .u8 (y.key.b0.toNat : Int)) := hRD 1 _ rfl
                have d2 : w3.cell? ⟨q, j * 6 + 2, none⟩ = some (.int .u8 (y.key.b1.toNat : Int)) := hRD 2 _ rfl
                have d3 : w3.cell? ⟨q, j * 6 + 3, none⟩ = some (.string ⟨y.key.c.toArray⟩) := hRD 3 _ rfl
                have d4 : w3.cell? ⟨q, j * 6 + 4, none⟩ = some (.slice y.val.ao y.val.n y.val.cp) := hRD 4 _ rfl
                have hTH := row_frz HS3.out.pr HNL.out hjl
                have f0 : w3.frozen? ⟨q, j * 6, none⟩ = false := (hTH 0 (by decide)).2
                have f1 : w3.frozen? ⟨q, j * 6 + 1, none⟩ = false := (hTH 1 (by decide)).2
                have f2 : w3.frozen? ⟨q, j * 6 + 2, none⟩ = false := (hTH 2 (by decide)).2
                have f3 : w3.frozen? ⟨q, j * 6 + 3, none⟩ = false := (hTH 3 (by decide)).2
                have f4 : w3.frozen? ⟨q, j * 6 + 4, none⟩ = false := (hTH 4 (by decide)).2
                have f5 : w3.frozen? ⟨q, j * 6 + 5, none⟩ = false := (hTH 5 (by decide)).2
                clear hRD hTH
                have HRS : Hid (OwnW (w3.setCells q (j * 6) (wdC s)) (N + 1) (.slice (some ⟨q, 0, none⟩) nl pc) (L.set j s) ∧ w3.grownBy (w3.setCells q (j * 6) (wdC s)) (some q)) := hide (row_setW HS3.out.pr HNL.out hjl s)
                rw [setCells_wd w3 q (j * 6) s false ho] at HRS
                go_upto_region 8 with fail
                refine name_world (fun W => OwnW W (N + 1) (.slice (some ⟨q, 0, none⟩) nl pc) (L.set j s) ∧ w3.grownBy W (some q)) HRS.out ?_
                rintro w4 ⟨ho4, hg4⟩
                have HS4 := hide (HS3.out.row hg4 ho4)
                have HR4 : Hid (WpR (L.set j s) (upd g s.key s.left)) := hide (HR.out.set HY.out HK.out)
                clear c0 c1 c2 c3 c4 c5 d0 d1 d2 d3 d4 d5 f0 f1 f2 f3 f4 f5 ho4 hg4 HRS HS3 HB3 HN3
                go_wp2
                go_roundw
                case rel => exact ⟨i + 1, _, L.set j s, gy3, ge3, _, rfl, by go_num, by omega, HS4.out, HR4.out, by rw [List.length_set]; have := HLL.out; omega, fun x hx => (List.mem_or_eq_of_mem_set hx).elim (HX.out x) (fun e => e ▸ HSs.out)⟩
                case measure => simp [intOf]; omega
            | false =>
              cases ho : s.out with
              | true =>
                rw [ho] at c5
                have hgk : (g s.key).isSome = true := by
                  have := HR.out.mem y (List.mem_of_getElem? HY.out)
                  rw [HK.out] at this
                  rw [this, WD.left, hyo]; rfl
                have HCl : Hid (Calls Try.prog 6 #[.pointer (some ⟨z, 0, none⟩), .agg #[.int .i8 s.key.a, .int .u8 (s.key.b0.toNat : Int), .int .u8 (s.key.b1.toNat : Int), .string ⟨s.key.c.toArray⟩]] wr fun e w' => ∃ v0, e = .returned (.tuple #[v0, .bool true]) ∧ TbN wr w' z gy ge HFN hK (upd g s.key s.left) (i + 1)) := hide (by
                  have hl : s.left = none := by rw [WD.left, ho]; rfl
                  rw [hl]
                  refine (tdel_any HSk.out.tb hash_is s.key).mono ?_
                  rintro e w3 ⟨rfl, hn⟩
                  refine ⟨_, by unfold optV; rw [hgk], ?_⟩
                  obtain ⟨gy2, ge2, m1, m2⟩ := hn.ex
                  exact ⟨⟨gy2, ge2, m1.more (by omega), m2⟩, hn.fr⟩)
                clear hgk
                go_upto_region 17 with fail
                go_upto_region 18 with (go_at_call 6; (with_reducible refine HCl.out.mono ?_); rintro e w3 ⟨v0, rfl, hn⟩; have HN3 := hide hn; clear hn)
                obtain ⟨gy3, ge3, hS3⟩ := HSk.out.call HN3.out
                have HB3 : Hid (WB w3 sb s) := hide ((HN3.out.fr.block sb HBk.out.lt (HSk.out.tb.notB HBk.out (by decide) (by decide))).trans HBk.out)
                have HS3 := hide hS3
                clear hS3 HCl HSk HBk c0 c1 c2 c3 c4 c5
                have c0 : w3.cell? ⟨sb, 0, none⟩ = some (.int .i8 s.key.a) := HB3.out.key 0 _ rfl
                have c1 : w3.cell? ⟨sb, 1, none⟩ = some (.int .u8 (s.key.b0.toNat : Int)) := HB3.out.key 1 _ rfl
                have c2 : w3.cell? ⟨sb, 2, none⟩ = some (.int .u8 (s.key.b1.toNat : Int)) := HB3.out.key 2 _ rfl
                have c3 : w3.cell? ⟨sb, 3, none⟩ = some (.string ⟨s.key.c.toArray⟩) := HB3.out.key 3 _ rfl
                have c4 : w3.cell? ⟨sb, 4, none⟩ = some (.slice s.val.ao s.val.n s.val.cp) := HB3.out.val
                have c5 : w3.cell? ⟨sb, 5, none⟩ = some (.bool s.out) := HB3.out.out
                have hRD := HS3.out.pr.read rfl HY.out
                have d5 : w3.cell? ⟨q, j * 6 + 5, none⟩ = some (.bool y.out) := hRD 5 _ rfl
                rw [hyo] at d5
                go_upto_region 23 with fail
                go_upto_region 24 with fail
                have d0 : w3.cell? ⟨q, j * 6, none⟩ = some (.int .i8 y.key.a) := hRD 0 _ rfl
                have d1 : w3.cell? ⟨q, j * 6 + 1, none⟩ = some (.int .u8 (y.key.b0.toNat : Int)) := hRD 1 _ rfl
                have d2 : w3.cell? ⟨q, j * 6 + 2, none⟩ = some (.int .u8 (y.key.b1.toNat : Int)) := hRD 2 _ rfl
                have d3 : w3.cell? ⟨q, j * 6 + 3, none⟩ = some (.string ⟨y.key.c.toArray⟩) := hRD 3 _ rfl
                have d4 : w3.cell? ⟨q, j * 6 + 4, none⟩ = some (.slice y.val.ao y.val.n y.val.cp) := hRD 4 _ rfl
                have hTH := row_frz HS3.out.pr HNL.out hjl
                have f0 : w3.frozen? ⟨q, j * 6, none⟩ = false := (hTH 0 (by decide)).2
                have f1 : w3.frozen? ⟨q, j * 6 + 1, none⟩ = false := (hTH 1 (by decide)).2
                have f2 : w3.frozen? ⟨q, j * 6 + 2, none⟩ = false := (hTH 2 (by decide)).2
                have f3 : w3.frozen? ⟨q, j * 6 + 3, none⟩ = false := (hTH 3 (by decide)).2
                have f4 : w3.frozen? ⟨q, j * 6 + 4, none⟩ = false := (hTH 4 (by decide)).2
                have f5 : w3.frozen? ⟨q, j * 6 + 5, none⟩ = false := (hTH 5 (by decide)).2
                clear hRD hTH
                have HRS : Hid (OwnW (w3.setCells q (j * 6) (wdC s)) (N + 1) (.slice (some ⟨q, 0, none⟩) nl pc) (L.set j s) ∧ w3.grownBy (w3.setCells q (j * 6) (wdC s)) (some q)) := hide (row_setW HS3.out.pr HNL.out hjl s)
                rw [setCells_wd w3 q (j * 6) s true ho] at HRS
                go_upto_region 8 with fail
                refine name_world (fun W => OwnW W (N + 1) (.slice (some ⟨q, 0, none⟩) nl pc) (L.set j s) ∧ w3.grownBy W (some q)) HRS.out ?_
                rintro w4 ⟨ho4, hg4⟩
                have HS4 := hide (HS3.out.row hg4 ho4)
                have HR4 : Hid (WpR (L.set j s) (upd g s.key s.left)) := hide (HR.out.set HY.out HK.out)
                clear c0 c1 c2 c3 c4 c5 d0 d1 d2 d3 d4 d5 f0 f1 f2 f3 f4 f5 ho4 hg4 HRS HS3 HB3 HN3
                go_wp2
                go_roundw
                case rel => exact ⟨i + 1, _, L.set j s, gy3, ge3, _, rfl, by go_num, by omega, HS4.out, HR4.out, by rw [List.length_set]; have := HLL.out; omega, fun x hx => (List.mem_or_eq_of_mem_set hx).elim (HX.out x) (fun e => e ▸ HSs.out)⟩
                case measure => simp [intOf]; omega
              | false =>
                rw [ho] at c5
                have hgk : (g s.key).isSome = true := by
                  have := HR.out.mem y (List.mem_of_getElem? HY.out)
                  rw [HK.out] at this
                  rw [this, WD.left, hyo]; rfl
                have HCl : Hid (Calls Try.prog 7 #[.pointer (some ⟨z, 0, none⟩), .agg #[.int .i8 s.key.a, .int .u8 (s.key.b0.toNat : Int), .int .u8 (s.key.b1.toNat : Int), .string ⟨s.key.c.toArray⟩], .slice s.val.ao s.val.n s.val.cp] wr fun e w' => ∃ v0, e = .returned (.tuple #[v0, .bool true]) ∧ TbN wr w' z gy ge HFN hK (upd g s.key s.left) (i + 1)) := hide (by
                  have hl : s.left = (some s.val) := by rw [WD.left, ho]; rfl
                  rw [hl]
                  refine (tput_any HSk.out.tb hash_is (by omega) s.key s.val).mono ?_
                  rintro e w3 ⟨rfl, hn⟩
                  refine ⟨_, by unfold optV; rw [hgk], ?_⟩
                  exact hn)
                clear hgk
                go_upto_region 20 with fail
                go_upto_region 21 with (go_at_call 7; (with_reducible refine HCl.out.mono ?_); rintro e w3 ⟨v0, rfl, hn⟩; have HN3 := hide hn; clear hn)
                obtain ⟨gy3, ge3, hS3⟩ := HSk.out.call HN3.out
                have HB3 : Hid (WB w3 sb s) := hide ((HN3.out.fr.block sb HBk.out.lt (HSk.out.tb.notB HBk.out (by decide) (by decide))).trans HBk.out)
                have HS3 := hide hS3
                clear hS3 HCl HSk HBk c0 c1 c2 c3 c4 c5
                have c0 : w3.cell? ⟨sb, 0, none⟩ = some (.int .i8 s.key.a) := HB3.out.key 0 _ rfl
                have c1 : w3.cell? ⟨sb, 1, none⟩ = some (.int .u8 (s.key.b0.toNat : Int)) := HB3.out.key 1 _ rfl
                have c2 : w3.cell? ⟨sb, 2, none⟩ = some (.int .u8 (s.key.b1.toNat : Int)) := HB3.out.key 2 _ rfl
                have c3 : w3.cell? ⟨sb, 3, none⟩ = some (.string ⟨s.key.c.toArray⟩) := HB3.out.key 3 _ rfl
                have c4 : w3.cell? ⟨sb, 4, none⟩ = some (.slice s.val.ao s.val.n s.val.cp) := HB3.out.val
                have c5 : w3.cell? ⟨sb, 5, none⟩ = some (.bool s.out) := HB3.out.out
                have hRD := HS3.out.pr.read rfl HY.out
                have d5 : w3.cell? ⟨q, j * 6 + 5, none⟩ = some (.bool y.out) := hRD 5 _ rfl
                rw [hyo] at d5
                go_upto_region 23 with fail
                go_upto_region 24 with fail
                have d0 : w3.cell? ⟨q, j * 6, none⟩ = some (.int .i8 y.key.a) := hRD 0 _ rfl
                have d1 : w3.cell? ⟨q, j * 6 + 1, none⟩ = some (.int .u8 (y.key.b0.toNat : Int)) := hRD 1 _ rfl
                have d2 : w3.cell? ⟨q, j * 6 + 2, none⟩ = some (.int .u8 (y.key.b1.toNat : Int)) := hRD 2 _ rfl
                have d3 : w3.cell? ⟨q, j * 6 + 3, none⟩ = some (.string ⟨y.key.c.toArray⟩) := hRD 3 _ rfl
                have d4 : w3.cell? ⟨q, j * 6 + 4, none⟩ = some (.slice y.val.ao y.val.n y.val.cp) := hRD 4 _ rfl
                have hTH := row_frz HS3.out.pr HNL.out hjl
                have f0 : w3.frozen? ⟨q, j * 6, none⟩ = false := (hTH 0 (by decide)).2
                have f1 : w3.frozen? ⟨q, j * 6 + 1, none⟩ = false := (hTH 1 (by decide)).2
                have f2 : w3.frozen? ⟨q, j * 6 + 2, none⟩ = false := (hTH 2 (by decide)).2
                have f3 : w3.frozen? ⟨q, j * 6 + 3, none⟩ = false := (hTH 3 (by decide)).2
                have f4 : w3.frozen? ⟨q, j * 6 + 4, none⟩ = false := (hTH 4 (by decide)).2
                have f5 : w3.frozen? ⟨q, j * 6 + 5, none⟩ = false := (hTH 5 (by decide)).2
                clear hRD hTH
                have HRS : Hid (OwnW (w3.setCells q (j * 6) (wdC s)) (N + 1) (.slice (some ⟨q, 0, none⟩) nl pc) (L.set j s) ∧ w3.grownBy (w3.setCells q (j * 6) (wdC s)) (some q)) := hide (row_setW HS3.out.pr HNL.out hjl s)
                rw [setCells_wd w3 q (j * 6) s false ho] at HRS
                go_upto_region 8 with fail
                refine name_world (fun W => OwnW W (N + 1) (.slice (some ⟨q, 0, none⟩) nl pc) (L.set j s) ∧ w3.grownBy W (some q)) HRS.out ?_
                rintro w4 ⟨ho4, hg4⟩
                have HS4 := hide (HS3.out.row hg4 ho4)
                have HR4 : Hid (WpR (L.set j s) (upd g s.key s.left)) := hide (HR.out.set HY.out HK.out)
                clear c0 c1 c2 c3 c4 c5 d0 d1 d2 d3 d4 d5 f0 f1 f2 f3 f4 f5 ho4 hg4 HRS HS3 HB3 HN3
                go_wp2
                go_roundw
                case rel => exact ⟨i + 1, _, L.set j s, gy3, ge3, _, rfl, by go_num, by omega, HS4.out, HR4.out, by rw [List.length_set]; have := HLL.out; omega, fun x hx => (List.mem_or_eq_of_mem_set hx).elim (HX.out x) (fun e => e ▸ HSs.out)⟩
                case measure => simp [intOf]; omega
    · have hji : ¬ (i : Int) < (n : Int) := by omega
      have hin : n = i := by omega
      subst hin
      obtain ⟨nl, hnl⟩ : ∃ nl, nl = L.length := ⟨_, rfl⟩
      obtain ⟨pao, pc, rfl, hpg⟩ := HS.out.pr.slice
      rw [← hnl] at hpg HS ⊢
      have HNL := hide hnl
      have HPG := hide hpg
      have hnl2 : nl ≤ 2513169434843 := by have := HLL.out; omega
      clear hnl hpg hlt hji hi
      go_upto_region 27 with fail
      go_loopw [14] (fun t14 wk => ∃ (k : Nat), t14 = .int .i64 k ∧ k ≤ nl ∧ WdS w0 wk N z gy ge n g false (.slice pao nl pc) L) (fun t14 _ => nl - (intOf t14).toNat)
      case atStart => exact ⟨0, rfl, by omega, HS.out⟩
      case round =>
        obtain ⟨k, rfl, hk, hSk⟩ := hrel
        have HSk := hide hSk
        clear hSk HS
        by_cases hlk : k < nl
        · have hjk : (k : Int) < (nl : Int) := by omega
          obtain ⟨y, hy⟩ : ∃ y, L[k]? = some y := ⟨_, List.getElem?_eq_getElem (by rw [← HNL.out]; exact hlk)⟩
          obtain ⟨q, rfl⟩ := HPG.out (by omega)
          have HY := hide hy
          have HYS := hide (HSV.out y (HX.out y (List.mem_of_getElem? hy)))
          have hRD := HSk.out.pr.read rfl hy
          have c0 : wr.cell? ⟨q, k * 6, none⟩ = some (.int .i8 y.key.a) := hRD 0 _ rfl
          have c1 : wr.cell? ⟨q, k * 6 + 1, none⟩ = some (.int .u8 (y.key.b0.toNat : Int)) := hRD 1 _ rfl
          have c2 : wr.cell? ⟨q, k * 6 + 2, none⟩ = some (.int .u8 (y.key.b1.toNat : Int)) := hRD 2 _ rfl
          have c3 : wr.cell? ⟨q, k * 6 + 3, none⟩ = some (.string ⟨y.key.c.toArray⟩) := hRD 3 _ rfl
          have hgy : g y.key = y.left := HR.out.mem y (List.mem_of_getElem? hy)
          clear hy hRD
          cases hyo : y.out with
          | true =>
            have HGet : Hid (Calls Try.prog 8 #[.pointer (some ⟨z, 0, none⟩), .agg #[.int .i8 y.key.a, .int .u8 (y.key.b0.toNat : Int), .int .u8 (y.key.b1.toNat : Int), .string ⟨y.key.c.toArray⟩]] wr fun e w' => e = .returned (.tuple #[.slice none 0 0, .bool false]) ∧ Below wr.heap.size wr w') := hide (by
              have h := tget_any HSk.out.tb hash_is y.key
              rw [hgy, WD.left, hyo] at h
              exact h)
            clear hgy
            go_upto_region 30 with (go_at_call 8; (with_reducible refine HGet.out.mono ?_); rintro e w5 ⟨rfl, hb⟩; have HB5 := hide hb; clear hb)
            have HS5 := hide (HSk.out.below HB5.out)
            have hRD := HS5.out.pr.read rfl HY.out
            have d4 : w5.cell? ⟨q, k * 6 + 4, none⟩ = some (.slice y.val.ao y.val.n y.val.cp) := hRD 4 _ rfl
            have d5 : w5.cell? ⟨q, k * 6 + 5, none⟩ = some (.bool y.out) := hRD 5 _ rfl
            rw [hyo] at d5
            have hnn := neS w5
            clear hRD c0 c1 c2 c3 HGet HB5 HSk
            go_upto_region 33 with fail
            clear d4 d5 hnn
            go_loopw [17] (fun t17 wk => ∃ (m : Nat), t17 = .int .i64 m ∧ m ≤ 0 ∧ WdS w0 wk N z gy ge n g false (.slice (some ⟨q, 0, none⟩) nl pc) L) (fun t17 _ => 0 - (intOf t17).toNat)
            case atStart => exact ⟨0, rfl, by omega, HS5.out⟩
            case round =>
              obtain ⟨m, rfl, hm, hSm⟩ := hrel
              have HSm := hide hSm
              clear hSm HS5
              obtain rfl : m = 0 := by omega
              clear hm
              go_upto_region 28 with fail
              go_wp2
              go_roundw
              case rel => exact ⟨k + 1, by go_num, by omega, HSm.out⟩
              case measure => simp [intOf]; omega
          | false =>
            have HGet : Hid (Calls Try.prog 8 #[.pointer (some ⟨z, 0, none⟩), .agg #[.int .i8 y.key.a, .int .u8 (y.key.b0.toNat : Int), .int .u8 (y.key.b1.toNat : Int), .string ⟨y.key.c.toArray⟩]] wr fun e w' => e = .returned (.tuple #[.slice y.val.ao y.val.n y.val.cp, .bool true]) ∧ Below wr.heap.size wr w') := hide (by
              have h := tget_any HSk.out.tb hash_is y.key
              rw [hgy, WD.left, hyo] at h
              exact h)
            clear hgy
            go_upto_region 30 with (go_at_call 8; (with_reducible refine HGet.out.mono ?_); rintro e w5 ⟨rfl, hb⟩; have HB5 := hide hb; clear hb)
            have HS5 := hide (HSk.out.below HB5.out)
            have hRD := HS5.out.pr.read rfl HY.out
            have d4 : w5.cell? ⟨q, k * 6 + 4, none⟩ = some (.slice y.val.ao y.val.n y.val.cp) := hRD 4 _ rfl
            have d5 : w5.cell? ⟨q, k * 6 + 5, none⟩ = some (.bool y.out) := hRD 5 _ rfl
            rw [hyo] at d5
            have hnn := neS w5
            clear hRD c0 c1 c2 c3 HGet HB5 HSk
            go_upto_region 33 with fail
            clear d4 d5 hnn
            go_loopw [17] (fun t17 wk => ∃ (m : Nat), t17 = .int .i64 m ∧ m ≤ y.val.n ∧ WdS w0 wk N z gy ge n g false (.slice (some ⟨q, 0, none⟩) nl pc) L) (fun t17 _ => y.val.n - (intOf t17).toNat)
            case atStart => exact ⟨0, rfl, by omega, HS5.out⟩
            case round =>
              obtain ⟨m, rfl, hm, hSm⟩ := hrel
              have HSm := hide hSm
              clear hSm HS5
              by_cases hlm : m < y.val.n
              · have hjm : (m : Int) < (y.val.n : Int) := by omega
                obtain ⟨vb, vo, u, hao, hu⟩ := HYS.out.2 m hlm
                have hvl := HYS.out.1
                have HU : Hid (∀ d os, (grow (redrawn wr d) os).rangeAt vb (vo + m) [u8c u]) := hide (range_regrown (range_bel (fun j v hj => by
                  match j, hj with
                  | 0, hj => cases hj; exact hu) HSm.out.bel (Nat.le_of_eq HN.out.symm)))
                have HVL : Hid (∀ d os, (grow (redrawn wr d) os).rangeAt q (k * 6 + 4) (eC y.val)) := hide (range_regrown (fun j v hj => by
                  match j, hj with
                  | 0, hj => cases hj; exact (HSm.out.pr.read rfl HY.out) 4 _ rfl))
                have hev : eV y.val = .slice (some ⟨vb, vo, none⟩) y.val.n y.val.cp := by rw [eV, hao]
                rw [hao]
                clear hao hu
                go_upto_region 35 with fail
                refine wp_region_quiet_below (by kernel_rfl) (by kernel_rfl) ?_
                iterate 3 quiet_step (fail)
                refine wpQuiet_val (.int .u8 (u.toNat : Int)) rfl (fun w0 hw => ?_) ?_
                · obtain ⟨p0, rfl⟩ := hw
                  exact run_loadO rfl rfl (run_ldU (HU.out _ _))
                iterate 4 quiet_step (fail)
                refine wpQuiet_val (.slice (some ⟨vb, vo, none⟩) y.val.n y.val.cp) rfl (fun w0 hw => ?_) ?_
                · obtain ⟨p0, rfl⟩ := hw
                  rw [← hev]
                  exact run_loadO rfl rfl (run_ldE (HVL.out _ _))
                iterate 2 quiet_step (fail)
                refine wpQuiet_val (.int .u8 (u.toNat : Int)) rfl (fun w0 hw => ?_) ?_
                · obtain ⟨p0, rfl⟩ := hw
                  exact run_loadO rfl rfl (run_ldU (HU.out _ _))
                quiet_step (fail)
                refine wpQuiet_nil ?_
                intro w1 hw1
                have hb1 : RowKit.Below wr.heap.size wr w1 := below_of hw1
                have HS1 := hide (HSm.out.below hb1)
                clear hw1 hb1 HU HVL HSm
                go_wp2
                go_roundw
                case rel => exact ⟨m + 1, by go_num, by omega, HS1.out⟩
                case measure => simp [intOf]; omega
              · obtain rfl : y.val.n = m := by omega
                clear hm hlm
                go_upto_region 28 with fail
                go_wp2
                go_roundw
                case rel => exact ⟨k + 1, by go_num, by omega, HSm.out⟩
                case measure => simp [intOf]; omega
        · obtain rfl : nl = k := by omega
          have hjk : ¬ (nl : Int) < (nl : Int) := by omega
          clear hk hlk
          have HPn : Hid (∀ W b, Calls Try.prog 7 #[.pointer none, .agg #[.int .i8 0, .int .u8 0, .int .u8 0, .string ⟨#[]⟩], .slice (some ⟨b, 0, none⟩) 1 1] W fun e w' => e = .returned (.tuple #[.slice none 0 0, .bool false]) ∧ Below W.heap.size W w') := hide (fun W b => tput_nil W kZ ⟨some ⟨b, 0, none⟩, 1, 1⟩)
          have HGn : Hid (∀ W, Calls Try.prog 8 #[.pointer none, .agg #[.int .i8 0, .int .u8 0, .int .u8 0, .string ⟨#[]⟩]] W fun e w' => e = .returned (.tuple #[.slice none 0 0, .bool false]) ∧ Below W.heap.size W w') := hide (fun W => tget_nil W kZ)
          have HDn : Hid (∀ W, Calls Try.prog 6 #[.pointer none, .agg #[.int .i8 0, .int .u8 0, .int .u8 0, .string ⟨#[]⟩]] W fun e w' => e = .returned (.tuple #[.slice none 0 0, .bool false]) ∧ Below W.heap.size W w') := hide (fun W => tdel_nil W kZ)
          have HAn := hide tall_nil
          go_upto_region 37 with fail
          have HS6 := hide HSk.out
          clear HSk
          go_upto_region 38 with (go_at_call 7; (with_reducible refine (HPn.out _ _).mono ?_); rintro e w6 ⟨rfl, hb⟩; have HB6 := hide hb; clear hb)
          have HS7 := hide (HS6.out.below ((below_alloc wr (.cells #[.int .u8 1] 5)).trans (HB6.out.mono (by rw [World.size_alloc]; omega))))
          clear HB6 HS6 HPn
          go_upto_region 39 with (go_at_call 8; (with_reducible refine (HGn.out _).mono ?_); rintro e w7 ⟨rfl, hb⟩; have HB7 := hide hb; clear hb)
          go_upto_region 40 with (go_at_call 6; (with_reducible refine (HDn.out _).mono ?_); rintro e w8 ⟨rfl, hb⟩; have HB8 := hide hb; clear hb)
          have HS8 := hide ((HS7.out.below HB7.out).below HB8.out)
          clear HS7 HB7 HB8 HGn HDn
          go_upto_region 41 with (go_at_call 9; (with_reducible refine (HAn.out _).mono ?_); rintro e w9 ⟨rfl, hw⟩; rw [hw]; clear hw)
          refine name_world (fun W => WdS w0 W N z gy ge n g false (.slice pao nl pc) L ∧ Blk W w8.heap.size #[.pointer none] 23) ⟨HS8.out.below (below_alloc w8 _), Blk.made w8 _ _⟩ ?_
          rintro W9 ⟨hS9, hB9⟩
          have HS9 := hide hS9
          have HB9 := hide hB9
          clear hS9 hB9 HS8 HAn
          generalize w8.heap.size = b9 at *
          have hnf := allNotNilW b9
          go_upto_region 43 with fail
          clear hnf
          go_wp2
          refine (wpIn_wide (n := 5)).1 ?_
          refine wpIn_rangeFit rfl (by omega) (gf := 23) (lb := #[.pointer (some ⟨b9, 0, none⟩)]) rfl trivial (enters_of Try.func23 (by kernel_rfl) rfl) (all_none_fit (5 - 1) W9 b9 HB9.out) (Below.refl _ _) (Nat.zero_le _) (fun x : Empty => x.elim) (fun _ _ _ _ _ _ _ h _ _ => h.elim)
            (fun _ W => Below W9.heap.size W9 W) (fun _ _ _ => False) (ownFrom_below (Nat.le_refl _) (Nat.le_refl _)) (fun _ _ _ _ _ h _ _ => h) (Below.refl _ _) ?round ?done ?stop
          case round => exact fun _ _ x => x.elim
          case stop => exact fun _ _ _ _ _ h => h.elim
          case done =>
            intro D xs W hD _ hI heD
            have HS10 := hide (HS9.out.below hI)
            have hDl : D < W.heap.size := (Array.getElem?_eq_some_iff.1 heD).1
            have HDz : Hid (¬ TbB z gy ge D) := hide (fun h => by have := HS9.out.tb.lt h; omega)
            have hDN : N ≤ D := by have := HS9.out.sz; omega
            have HDb := hide heD
            clear hI heD HS9 HB9 hD
            have HSA := hide (HS10.out.below (below_alloc W (.cells #[.int .u8 9] 5)))
            have HDA : Hid ((W.alloc (.cells #[.int .u8 9] 5)).heap[D]? = some (.deferred (some []))) := hide (((below_alloc W _).block D hDl).trans HDb.out)
            have HEA : Hid (Blk (W.alloc (.cells #[.int .u8 9] 5)) W.heap.size #[.int .u8 9] 5) := hide (Blk.made W _ _)
            have HPt : Hid (Calls Try.prog 7 #[.pointer (some ⟨z, 0, none⟩), .agg #[.int .i8 0, .int .u8 0, .int .u8 0, .string ⟨#[101, 110, 100]⟩], .slice (some ⟨W.heap.size, 0, none⟩) 1 1] (W.alloc (.cells #[.int .u8 9] 5)) fun e w' => ∃ v0 b0, e = .returned (.tuple #[v0, .bool b0]) ∧ TbN (W.alloc (.cells #[.int .u8 9] 5)) w' z gy ge HFN hK (upd g kE (some ⟨some ⟨W.heap.size, 0, none⟩, 1, 1⟩)) (n + 1)) := hide (by
              refine (tput_any HSA.out.tb hash_is (by omega) kE ⟨some ⟨W.heap.size, 0, none⟩, 1, 1⟩).mono ?_
              rintro e w' ⟨rfl, hn⟩
              exact ⟨_, _, rfl, hn⟩)
            obtain ⟨b10, hb10⟩ : ∃ b, b = W.heap.size := ⟨_, rfl⟩
            go_upto_region 46 with (go_at_call 7; (with_reducible refine HPt.out.mono ?_); rintro e w11 ⟨v0, b0, rfl, hn⟩; have HN11 := hide hn; clear hn)
            rw [← hb10] at HEA HN11
            obtain ⟨gy3, ge3, hS11⟩ := HSA.out.call HN11.out
            have HS11 := hide hS11
            have HE11 : Hid (Blk w11 b10 #[.int .u8 9] 5) := hide ((HN11.out.fr.block b10 HEA.out.lt (HSA.out.tb.notB HEA.out (by decide) (by decide))).trans HEA.out)
            have HD11 : Hid (w11.heap[D]? = some (.deferred (some []))) := hide ((HN11.out.fr.block D (Array.getElem?_eq_some_iff.1 HDA.out).1 HDz.out).trans HDA.out)
            clear hS11 HN11 HEA HDA HSA HPt HDb HS10 HDz hDl hb10
            have HGt : Hid (Calls Try.prog 8 #[.pointer (some ⟨z, 0, none⟩), .agg #[.int .i8 0, .int .u8 0, .int .u8 0, .string ⟨#[101, 110, 100]⟩]] w11 fun e w' => e = .returned (.tuple #[.slice (some ⟨b10, 0, none⟩) 1 1, .bool true]) ∧ Below w11.heap.size w11 w') := hide (by
              have h := tget_any HS11.out.tb hash_is kE
              rw [upd_same] at h
              exact h)
            go_upto_region 47 with (go_at_call 8; (with_reducible refine HGt.out.mono ?_); rintro e w12 ⟨rfl, hb⟩; have HB12 := hide hb; clear hb)
            have HS12 := hide (HS11.out.below HB12.out)
            have HE12 := hide (Blk.below HE11.out HB12.out HE11.out.lt)
            have HD12 : Hid (w12.heap[D]? = some (.deferred (some []))) := hide ((HB12.out.block D (Array.getElem?_eq_some_iff.1 HD11.out).1).trans HD11.out)
            have HLe := hide tlen_nil
            have HCa := hide tcap_nil
            have HTo := hide ttombs_nil
            have HLf := hide tleft_nil
            have HPr : Hid (∀ W, Calls Try.prog 14 #[.pointer none, .agg #[.int .i8 0, .int .u8 0, .int .u8 0, .string ⟨#[]⟩]] W fun e w' => e = .returned (.int .i64 0) ∧ Below W.heap.size W w') := hide (fun W => tprobes_nil W kZ)
            have hqS := eqS
            clear HS11 HE11 HD11 HB12 HGt
            go_wp2_with (first | (go_at_call 10; (with_reducible refine (HLe.out _).mono ?_); rintro e w13 ⟨rfl, hb⟩; have HB13 := hide hb; clear hb) | (go_at_call 11; (with_reducible refine (HCa.out _).mono ?_); rintro e w14 ⟨rfl, hb⟩; have HB14 := hide hb; clear hb) | (go_at_call 12; (with_reducible refine (HTo.out _).mono ?_); rintro e w15 ⟨rfl, hb⟩; have HB15 := hide hb; clear hb) | (go_at_call 13; (with_reducible refine (HLf.out _).mono ?_); rintro e w16 ⟨rfl, hb⟩; have HB16 := hide hb; clear hb) | (go_at_call 14; (with_reducible refine (HPr.out _).mono ?_); rintro e w17 ⟨rfl, hb⟩; have hbb := ((((HB13.out.trans (HB14.out.mono HB13.out.size)).trans (HB15.out.mono (Nat.le_trans HB13.out.size HB14.out.size))).trans (HB16.out.mono (Nat.le_trans (Nat.le_trans HB13.out.size HB14.out.size) HB15.out.size))).trans (hb.mono (Nat.le_trans (Nat.le_trans (Nat.le_trans HB13.out.size HB14.out.size) HB15.out.size) HB16.out.size))); have HS17 := hide (HS12.out.below hbb); have HD17 := hide ((hbb.block D (Array.getElem?_eq_some_iff.1 HD12.out).1).trans HD12.out); have c9 := (Blk.below HE12.out hbb HE12.out.lt).cell 0; have cN := HS17.out.rc.cell 0; have fN := HS17.out.rc.frozen 0; clear hb hbb HB13 HB14 HB15 HB16))
            have hDN2 : D ≠ N := fun e => by
              have h0 : w17.heap[N]? = some _ := HS17.out.rc
              have h1 := HD17.out
              rw [e, h0] at h1
              cases h1
            exact leave1c rfl ((heap_setCell_other w17 ⟨N, 0, none⟩ D _ hDN2).trans HD17.out) rfl (HS17.out.rc.set 0 (.bool true)) (by rw [← HN.out]; exact HS17.out.bel.setCell (Nat.le_refl _) _) (by rw [← HN.out]; exact hDN)
end TX
end Go.Proofs.Ytjhbebaephmcgaa
