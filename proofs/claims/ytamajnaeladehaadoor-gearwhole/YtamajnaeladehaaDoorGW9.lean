/- GearWhole, walked. -/
import Derived.Test.YtamajnaeladehaaDoorGW7
import Derived.Test.YtamajnaeladehaaDoorGB4
namespace Go.Proofs.YtamajnaeladehaaDoor
set_option linter.unusedVariables false
set_option linter.unusedSimpArgs false
open Go.RowKit

theorem WL.below {w1 w w' : World} {z : Nat} {mn me mx : Int} {gv : Value} {vals : List Value} {ps : List (List UInt8)} {hv : Value} {hs : List UInt8} {bh bn br b4 b5 : Nat} (W : WL w1 w z mn me mx gv vals ps hv hs bh bn br b4 b5) (hb : Below w.heap.size w w') : WL w1 w' z mn me mx gv vals ps hv hs bh bn br b4 b5 :=
  ⟨W.cu.below hb, W.bel.trans (hb.mono W.bel.size), owns_below W.row hb, W.pc.same (fun g hg _ => hb.block g hg)⟩
/-- All pieces, in their row. -/
structure Fin3 (w1 w : World) (gv : Value) (vals : List Value) (ps : List (List UInt8)) : Prop where
  bel : Below w1.heap.size w1 w
  row : w.ownsRow w1.heap.size 24 1 gv ps.length vals
  pc : Pcs w w1.heap.size vals ps (fun _ => True)
theorem WL.fin {w1 w w' : World} {z : Nat} {mn me mx : Int} {gv : Value} {vals : List Value} {ps : List (List UInt8)} {hv : Value} {hs : List UInt8} {bh bn br b4 b5 : Nat} (W : WL w1 w z mn me mx gv vals ps hv hs bh bn br b4 b5) (hc : Ch w w' (fun k => k = z)) : Fin3 w1 w' gv vals ps ∧ OwnsB w' w1.heap.size hv hs := by
  have C := W.cu
  have hsz := W.bel.size
  refine ⟨⟨W.bel.trans ⟨hc.os, hc.tape, hc.output, hc.size, fun k hk => hc.block k (Nat.lt_of_lt_of_le hk hsz) (fun e => by have := C.low; omega)⟩, owns_same W.row (fun g e => hc.block g (owns_lt W.row g e).2 (blk_own_ne C.blk W.row (by decide) g e)), W.pc.1, fun i hi v hv2 => ⟨?_, fun _ _ => trivial⟩⟩, owns_same C.own (fun g e => hc.block g (owns_lt C.own g e).2 (C.aph g e).1)⟩
  have ho := (W.pc.2 i hi v hv2).1
  exact owns_same ho (fun g e => hc.block g (owns_lt ho g e).2 (blk_own_ne C.blk ho (by decide) g e))
theorem Fin3.below {w1 w w' : World} {gv : Value} {vals : List Value} {ps : List (List UInt8)} (F : Fin3 w1 w gv vals ps) (hb : Below w.heap.size w w') : Fin3 w1 w' gv vals ps :=
  ⟨F.bel.trans (hb.mono F.bel.size), owns_below F.row hb, F.pc.same (fun g hg _ => hb.block g hg)⟩
theorem Fin3.push {w1 w w' : World} {gv gv' pv : Value} {vals : List Value} {ps : List (List UInt8)} {p : List UInt8} (F : Fin3 w1 w gv vals ps) (hp : OwnsB w w1.heap.size pv p) (ho : w'.ownsRow w1.heap.size 24 1 gv' (ps.length + 1) (vals ++ [pv])) (hg : w.grownBy w' gv.ownBlock) : Fin3 w1 w' gv' (vals ++ [pv]) (ps ++ [p]) := by
  have h1 := F.pc.snoc (N := fun _ => True) hp (fun _ _ => trivial)
  refine ⟨own_below F.bel F.row F.bel.size hg, by rw [List.length_append, List.length_singleton]; exact ho, h1.1, fun i hi v hv2 => ⟨?_, fun _ _ => trivial⟩⟩
  have h2 := (h1.2 i hi v hv2).1
  exact owns_same h2 (fun g e => hg.block g (owns_lt h2 g e).2 (fun e2 => own_own_ne h2 F.row (by decide) g e e2.symm))
theorem run_sliceLH {op : Oper} {ev : Operand → Value} {t : TypeId} {x y y2 : Operand} {p u u2 v : Value} {w : World} (ho : op.op = .slice t x (some y) (some y2) none) (hx : ev x = p) (hy : ev y = u) (hy2 : ev y2 = u2) (hl : (Instr.sliceAt t p (some u) (some u2) none).run Tryd.prog w = .ok v w) : (execOp ev op).run Tryd.prog w = .ok (.value v) w := by
  simp only [execOp, ho, hx, Option.map_none, Option.map_some, hy, hy2, Sem.run_bind, hl, Result.andThen_ok, Sem.run_pure]
set_option maxRecDepth 20000 in
set_option maxHeartbeats 8000000 in
theorem whole_law (w : World) (hT : Tabs w) (mn me mx : Int) (dv : Value) (X : List UInt8) (hd : RdA w dv X) (ap : Option Addr) (n c : Nat) (ps : List (List UInt8)) (hn : n = ps.length) (hP : Parts w ap ps) (hnl : n ≤ 5864062014806) (hps : ∀ p ∈ ps, p.length ≤ 140737488355328) :
    Calls Tryd.prog 6 #[askV mn me mx dv, .slice ap n c] w fun e w' => e = .returned (.bool true) ∧ Below w.heap.size w w' := by
  unfold askV
  obtain ⟨W0, hW0⟩ : ∃ W0, W0 = w.alloc (.cells #[.int .i64 mn, .int .i64 me, .int .i64 mx, dv] 26) := ⟨_, rfl⟩
  have HB00 : Hid (Below w.heap.size w W0) := hide (by rw [hW0]; exact (Below.refl w.heap.size w).alloc (Nat.le_refl _) _)
  have HA0 : Hid (AskAt W0 w.heap.size mn me mx dv) := hide (by rw [hW0]; exact Blk.made w _ _)
  have HS0 : Hid (W0.heap.size = w.heap.size + 1) := hide (by rw [hW0]; simp)
  have HT0 := hide (hT.below HB00.out hT.size)
  have HP0 := hide (hP.below HB00.out)
  have HN := hide hn
  have HPS := hide hps
  have h1T : 1 < w.heap.size := hT.size
  obtain ⟨da, dc, rfl, hdl⟩ := hd.slice
  clear hT hd hP hn hps
  have hW0' : w.alloc (.cells #[.int .i64 mn, .int .i64 me, .int .i64 mx, .slice da X.length dc] 26) = W0 := hW0.symm
  clear hW0
  go_enter Tryd.func6, Tryd.ntmps6
  go_wp2_with fail
  refine (lives_any W0 HT0.out).mono ?_
  rintro e w1 ⟨rfl, hb1⟩
  have hz1 : w.heap.size + 1 ≤ w1.heap.size := by have := hb1.size; rw [HS0.out] at this; exact this
  have HA1 := hide (HA0.out.below hb1 (by rw [HS0.out]; omega))
  have HT1 := hide (HT0.out.below hb1 HT0.out.size)
  have HP1 := hide (HP0.out.below hb1)
  have HB1 := hide (HB00.out.trans (hb1.mono HB00.out.size))
  clear hb1 HA0 HT0 HP0 HB00
  go_wp2
  go_loopw [5, 6] (fun dl iv wr => ∃ (va : Value) (k : Nat), va = dl ∧ iv = .int .i64 k ∧ k ≤ n ∧ OwnsB wr w1.heap.size va (joinTo ps k) ∧ (joinTo ps k).length ≤ 1048576 ∧ Below w1.heap.size w1 wr) (fun _ iv _ => n - (intOf iv).toNat)
  case atStart => exact ⟨_, 0, rfl, rfl, by omega, World.ownsRow_nil _ _ _ _, by rw [joinTo_zero]; decide, Below.refl _ _⟩
  case round =>
    obtain ⟨va, k, rfl, rfl, hk, hO, hjl, hbl⟩ := hrel
    by_cases hlt : k < n
    · have hkp : k < ps.length := by rw [← HN.out]; exact hlt
      obtain ⟨b, o, ao, c2, rfl, hm63, hmb, hpart⟩ := HP1.out.part k hkp
      obtain ⟨hc, hr⟩ := hpart wr hbl
      have hlp := HPS.out ps[k] (List.getElem_mem _)
      have hnx := joinTo_succ ps k hkp
      obtain ⟨x, hx⟩ : ∃ x, x = ps[k] := ⟨_, rfl⟩
      rw [← hx] at hc hr hlp hm63 hnx
      obtain ⟨aa, ac, hva, -⟩ := own_formB hO
      subst hva
      have HO := hide hO
      have HR := hide hr
      have HNx := hide hnx
      have HBl := hide hbl
      have hnl2 : (joinTo ps (k + 1)).length = (joinTo ps k).length + x.length := by rw [hnx, List.length_append]
      obtain ⟨J, hJ⟩ : ∃ J, J = joinTo ps k := ⟨_, rfl⟩
      rw [← hJ] at HO HNx hjl hnl2 ⊢
      have hki : (k : Int) < n := by omega
      have hzr : w1.heap.size ≤ wr.heap.size := hbl.size
      clear hr hO hx hpart hmb hnx hbl hJ
      by_cases hbig : x.length ≤ 1048576 - J.length
      · have hg1 : ¬ (1048576 : Int) - (J.length : Int) < (x.length : Int) := by omega
        go_wp2_with (at_builtin; refine wpList_append_rdX rfl _ _ rfl w1.heap.size _ _ J x rfl HO.out rfl HR.out ?a1 ?a2 ?_)
        case a1 => omega
        intro va2 w2 HO2 HG2 HX2
        have HB2 := hide (own_below HBl.out HO.out hzr HG2.out)
        clear HG2 HX2
        go_wp2
        refine ⟨⟨_, k + 1, rfl, by go_num, by omega, by rw [HNx.out]; exact HO2.out, by omega, HB2.out⟩, by simp [intOf]; omega⟩
      · have hg1 : (1048576 : Int) - (J.length : Int) < (x.length : Int) := by omega
        go_wp2
        go_ret
        exact ⟨rfl, HB1.out.trans (HBl.out.mono (by omega))⟩
    · have hki : ¬ (k : Int) < n := by omega
      obtain rfl : k = n := by omega
      obtain ⟨D, hD⟩ : ∃ D, D = joinTo ps k := ⟨_, rfl⟩
      rw [← hD] at hO hjl
      have HDj := hide hD
      obtain ⟨va, vc, hva, -⟩ := own_formB hO
      subst hva
      obtain ⟨w2, hw2⟩ : ∃ w2, w2 = wr := ⟨_, rfl⟩
      rw [← hw2] at hO hbl ⊢
      have HA2 := hide (HA1.out.below hbl (by omega))
      have HT2 := hide (HT1.out.below hbl HT1.out.size)
      have HP2 := hide (HP1.out.below hbl)
      have HB2 := hide (HB1.out.trans (hbl.mono (by omega)))
      have HO2 := hide hO
      have hz2 : w.heap.size + 1 ≤ w2.heap.size := Nat.le_trans hz1 hbl.size
      clear hO hbl HA1 HT1 HP1 HB1 hD hw2
      have c0 : w2.cell? ⟨w.heap.size, 0, none⟩ = some (.int .i64 mn) := HA2.out.cell 0
      have c1 : w2.cell? ⟨w.heap.size, 1, none⟩ = some (.int .i64 me) := HA2.out.cell 1
      have c2 : w2.cell? ⟨w.heap.size, 2, none⟩ = some (.int .i64 mx) := HA2.out.cell 2
      go_wp2_with fail
      refine (cut_any w2 HT2.out mn me mx _ D (.inl (Rd_owned HO2.out)) (by omega)).mono ?_
      rintro e w3 ⟨lv, rfl, hO3, hb3⟩
      have HOl := hide hO3.rd
      have HD3 := hide (owns_below HO2.out hb3)
      have HA3 := hide (HA2.out.below hb3 (by omega))
      have HT3 := hide (HT2.out.below hb3 HT2.out.size)
      have HP3 := hide (HP2.out.below hb3)
      have HB3 := hide (HB2.out.trans (hb3.mono (by omega)))
      have hz3 : w.heap.size + 1 ≤ w3.heap.size := Nat.le_trans hz2 hb3.size
      obtain ⟨la, lc, hlv, -⟩ := hO3.form
      subst hlv
      clear hO3 hb3 HA2 HT2 HP2 HB2 HO2 c0 c1 c2
      have c0 : w3.cell? ⟨w.heap.size, 0, none⟩ = some (.int .i64 mn) := HA3.out.cell 0
      have c1 : w3.cell? ⟨w.heap.size, 1, none⟩ = some (.int .i64 me) := HA3.out.cell 1
      have c2 : w3.cell? ⟨w.heap.size, 2, none⟩ = some (.int .i64 mx) := HA3.out.cell 2
      cases hm : mayB mn me mx with
      | false =>
        have hcut : cutR mn me mx D = [] := by unfold cutR; rw [if_neg (by rw [hm]; simp)]
        have hck : chk mn me mx = 50 := by unfold chk; rw [if_neg (by rw [hm]; simp)]
        rw [hcut, hck]
        clear HOl
        go_wp2_with fail
        refine (new_none w3 mn me mx hm).mono ?_
        rintro e w4 ⟨rfl, hb4⟩
        have HA4 := hide (HA3.out.below hb4 (by omega))
        have HB4 := hide (HB3.out.trans (hb4.mono (by omega)))
        have hz4 : w.heap.size + 1 ≤ w4.heap.size := Nat.le_trans hz3 hb4.size
        clear hb4 c0 c1 c2
        have c0 : w4.cell? ⟨w.heap.size, 0, none⟩ = some (.int .i64 mn) := HA4.out.cell 0
        have c1 : w4.cell? ⟨w.heap.size, 1, none⟩ = some (.int .i64 me) := HA4.out.cell 1
        have c2 : w4.cell? ⟨w.heap.size, 2, none⟩ = some (.int .i64 mx) := HA4.out.cell 2
        go_wp2_with fail
        refine (check_any mn me mx w4).mono ?_
        rintro e w5 ⟨rfl, hb5⟩
        rw [hck]
        go_wp2
        go_ret
        exact ⟨rfl, HB4.out.trans (hb5.mono (by omega))⟩
      | true =>
        have hcut : cutR mn me mx D = cutL mn me mx D := by unfold cutR; rw [if_pos hm]
        have hck : chk mn me mx = 0 := by unfold chk; rw [if_pos hm]
        rw [hcut] at HOl ⊢
        have hLl := cutL_len hm _ D (Nat.le_refl _)
        have HLp := hide (cut_pos hm _ D (Nat.le_refl _))
        have HLm := hide (cut_most hm D)
        have HLf := hide (feed_cut hm _ D (Nat.le_refl _))
        obtain ⟨L, hL⟩ : ∃ L, L = cutL mn me mx D := ⟨_, rfl⟩
        rw [← hL] at HOl HLp HLm hLl HLf ⊢
        rw [hck]
        clear hcut hL
        go_wp2_with fail
        refine (new_any w3 HT3.out mn me mx hm).mono ?_
        rintro e w4 ⟨z, bh, bn, br, b4, b5, rfl, hC4, hb4⟩
        have HA4 := hide (HA3.out.below hb4 (by omega))
        have hz4 : w.heap.size + 1 ≤ w4.heap.size := Nat.le_trans hz3 hb4.size
        clear c0 c1 c2
        have c0 : w4.cell? ⟨w.heap.size, 0, none⟩ = some (.int .i64 mn) := HA4.out.cell 0
        have c1 : w4.cell? ⟨w.heap.size, 1, none⟩ = some (.int .i64 me) := HA4.out.cell 1
        have c2 : w4.cell? ⟨w.heap.size, 2, none⟩ = some (.int .i64 mx) := HA4.out.cell 2
        have HC4 := hide hC4
        have HB4 := hide hb4
        clear hC4 hb4
        unfold ptr
        go_wp2_with fail
        refine (check_any mn me mx w4).mono ?_
        rintro e w5 ⟨rfl, hb5⟩
        rw [hck]
        have HW5 : Hid (WL w3 w5 z mn me mx (.slice none 0 0) [] [] (.slice none 0 0) [] bh bn br b4 b5) := hide ⟨HC4.out.below hb5, HB4.out.trans (hb5.mono HB4.out.size), World.ownsRow_nil _ _ _ _, rfl, fun i hi => by simp at hi⟩
        clear hb5 HC4 HB4 c0 c1 c2 HA4
        have HLc : Hid (∀ (W : World), Below w3.heap.size w3 W → ∀ i (h : i < L.length), ∃ g, la = some ⟨g, 0, none⟩ ∧ W.cell? ⟨g, i, none⟩ = some (.int .i64 L[i])) := hide (fun W hb i h => (HOl.out.below hb).cell i h)
        have HS3 : Hid (w.heap.size < w3.heap.size) := hide (by omega)
        have HAc : Hid (∀ (W : World), Below w3.heap.size w3 W → AskAt W w.heap.size mn me mx (.slice da X.length dc)) := hide (fun W hb => HA3.out.below hb HS3.out)
        have hsm := HLp.out.2
        go_wp2
        go_loopw [11, 12] (fun sv iv wr => ∃ i : Nat, iv = .int .i64 i ∧ i ≤ L.length ∧ sv = .int .i64 (L.take i).sum ∧ WL w3 wr z mn me mx (.slice none 0 0) [] [] (.slice none 0 0) [] bh bn br b4 b5) (fun _ iv _ => L.length - (intOf iv).toNat)
        case atStart => exact ⟨0, rfl, by omega, by simp, HW5.out⟩
        case round =>
          clear HW5
          obtain ⟨i, rfl, hi, rfl, hW⟩ := hrel
          have HW := hide hW
          by_cases hil : i < L.length
          · have hii : (i : Int) < L.length := by omega
            obtain ⟨g, rfl, hlc⟩ := HLc.out wr hW.bel i hil
            have hAr := HAc.out wr hW.bel
            have c0 : wr.cell? ⟨w.heap.size, 0, none⟩ = some (.int .i64 mn) := hAr.cell 0
            have c2 : wr.cell? ⟨w.heap.size, 2, none⟩ = some (.int .i64 mx) := hAr.cell 2
            have hs0 := pre_nonneg L HLp.out.1 i
            have hs1 := pre_le L HLp.out.1 (i + 1)
            have hsL := pre_step L i hil
            obtain ⟨hx1, hx2, hx3⟩ := HLm.out i hil
            obtain ⟨x, hx⟩ : ∃ x, x = L[i] := ⟨_, rfl⟩
            rw [← hx] at hlc hx1 hx2 hx3 hsL
            obtain ⟨s, hs⟩ : ∃ s, s = (L.take i).sum := ⟨_, rfl⟩
            rw [← hs] at hs0 hsL ⊢
            have HSL := hide hsL
            have hsx : s + x ≤ 1048576 := by omega
            have hw1 : IntKind.i64.wrap (s + x) = s + x := by simp [IntKind.wrap, IntKind.bits, IntKind.signed]; omega
            obtain ⟨q, hq⟩ : ∃ q : Int, q = (L.length : Int) - 1 := ⟨_, rfl⟩
            have hwl : IntKind.i64.wrap ((L.length : Int) - 1) = q := by rw [hq]; simp [IntKind.wrap, IntKind.bits, IntKind.signed]; omega
            have hy1 : ¬ x < 1 := by omega
            have hy2 : ¬ mx < x := by omega
            clear hx hs hsL hs1 hW hAr
            by_cases hla : i + 1 < L.length
            · have hy3 : ¬ x < mn := by have := hx3 hla; omega
              have hy4 : (i : Int) < q := by omega
              clear hx3 hq
              go_wp2
              go_quiet (fail)
              go_wp2
              exact ⟨⟨i + 1, by go_num, by omega, by rw [HSL.out], HW.out.below ⟨rfl, rfl, rfl, Nat.le_refl _, fun _ _ => rfl⟩⟩, by simp [intOf]; omega⟩
            · have hy4 : ¬ (i : Int) < q := by omega
              clear hx3 hq
              go_wp2
              refine wp_region_quiet_lit (by kernel_rfl) (by kernel_rfl) ?_
              repeat (first | quiet_step (fail) | (refine wpQuiet_step (fun K hK => ?_); go_simp; rw [if_neg (show ¬ (i : Int) < q by omega)]; refine hK _ ?_; clear hK K))
              refine wpQuiet_nil ?_
              intro _ hw'
              obtain ⟨nq, hw''⟩ := hw'
              subst hw''
              go_wp2
              exact ⟨⟨i + 1, by go_num, by omega, by rw [HSL.out], HW.out.below ⟨rfl, rfl, rfl, Nat.le_refl _, fun _ _ => rfl⟩⟩, by simp [intOf]; omega⟩
          · have hii : ¬ (i : Int) < L.length := by omega
            have hst : (L.take i).sum = (D.length : Int) := by rw [List.take_of_length_le (by omega)]; exact hsm
            rw [hst]
            clear hst hW
            go_wp2
            clear hii hil hi
            obtain ⟨w6, hw6⟩ : ∃ w6, w6 = wr := ⟨_, rfl⟩
            rw [← hw6] at HW ⊢
            clear hw6
            have hmx8 := may_mx hm
            go_loopw [13, 14] (fun gl iv wr => ∃ (gv : Value) (i : Nat) (vals : List Value) (hv : Value) (bh bn br b4 b5 : Nat), gv = gl ∧ iv = .int .i64 i ∧ i ≤ k ∧ WL w3 wr z mn me mx gv vals (feed mn me mx [] (joinTo ps i)).1 hv (feed mn me mx [] (joinTo ps i)).2 bh bn br b4 b5) (fun _ iv _ => k - (intOf iv).toNat)
            case atStart => exact ⟨_, 0, [], _, bh, bn, br, b4, b5, rfl, rfl, by omega, HW.out⟩
            case round =>
              clear HW
              obtain ⟨gv, i, vals, hv, bh, bn, br, b4, b5, rfl, rfl, hi, hW⟩ := hrel
              have HW := hide hW
              by_cases hil : i < k
              · have hii : (i : Int) < k := by omega
                have hip : i < ps.length := by rw [← HN.out]; exact hil
                obtain ⟨pb, po, ao, pc, rfl, hm63, hmb, hpart⟩ := HP3.out.part i hip
                obtain ⟨hc, hr⟩ := hpart wr hW.bel
                have hlp : ps[i].length ≤ 1048576 := by
                  have h1 := joinTo_mono ps (i + 1) k (by omega)
                  rw [← HDj.out, joinTo_succ ps i hip, List.length_append] at h1
                  omega
                have hnx := joinTo_succ ps i hip
                have hfa := feed_append mn me mx (joinTo ps i) ps[i] []
                rw [← hnx] at hfa
                have hjl2 : (joinTo ps i).length ≤ 1048576 := by
                  have := joinTo_mono ps i k hi
                  rw [← HDj.out] at this
                  omega
                have hfl := feed_len mn me mx (joinTo ps i) []
                obtain ⟨x, hx⟩ : ∃ x, x = ps[i] := ⟨_, rfl⟩
                rw [← hx] at hc hr hlp hm63 hmb hfa
                obtain ⟨qs, hqs⟩ : ∃ qs, qs = (feed mn me mx [] (joinTo ps i)).1 := ⟨_, rfl⟩
                obtain ⟨hs, hhs⟩ : ∃ hs, hs = (feed mn me mx [] (joinTo ps i)).2 := ⟨_, rfl⟩
                rw [← hqs, ← hhs] at HW hW hfa hfl
                rw [List.length_nil, Nat.zero_add] at hfl
                have HFa := hide hfa
                have HTr := hide (HT3.out.below hW.bel HT3.out.size)
                have hlow : ∀ q, q < w3.heap.size → ¬ (q = z ∨ q = bh ∨ q = bn ∨ hv.ownBlock = some q) := by
                  intro q hq
                  have := hW.cu.low
                  have := hW.cu.es.low
                  rintro (h | h | h | h)
                  · omega
                  · omega
                  · omega
                  · have := (owns_lt hW.cu.own q h).1; omega
                have HWr := hide (write_any wr HTr.out w3.heap.size z mn me mx hv hs bh bn br b4 b5 hW.cu (by omega) _ x hr (fun b o l c e hp => by
                  obtain ⟨e1, -, -⟩ := (Value.slice.injEq ..).mp e
                  exact hlow b (hmb b o e1 hp)) (by omega))
                have hBr : w3.heap.size ≤ wr.heap.size := hW.bel.size
                obtain ⟨ga, gc, hgv, -⟩ := own_formB hW.row
                subst hgv
                unfold ptr at HWr
                have hfl2 := feed_len mn me mx x hs
                clear hr hx hpart hmb hnx hW hlow hqs hhs hfa
                go_wp2_with fail
                refine HWr.out.mono ?_
                rintro e w7 ⟨vw, vals', hv', bh', bn', br', b4', b5', rfl, hR, hlt7⟩
                obtain ⟨hW7, hP7⟩ := HW.out.write hR hlt7
                have HW7 := hide hW7
                have HP7 := hide hP7
                have HR7 := hide hR.row
                obtain ⟨wa, wc, hvw, -⟩ := own_formB hR.row
                subst hvw
                clear hW7 hP7 hR hlt7 HWr HTr hc
                go_wp2_with (at_builtin; refine wpList_append_sls rfl _ _ rfl w3.heap.size wr.heap.size _ _ qs.length _ vals vals' rfl HW7.out.row rfl HR7.out HP7.out.one ?g1 ?g2 ?_)
                case g1 => omega
                case g2 => exact HW7.out.bel.size
                intro gv' w8 HG8 HB8
                have HW8 := hide (HW7.out.push HP7.out (by rw [List.length_append]; exact HG8.out) HB8.out)
                clear HG8 HB8 HW7 HP7 HR7
                go_wp2
                refine ⟨⟨_, i + 1, vals ++ vals', hv', bh', bn', br', b4', b5', rfl, by go_num, by omega, ?_⟩, by simp [intOf]; omega⟩
                rw [HFa.out]
                exact HW8.out
              · have hii : ¬ (i : Int) < k := by omega
                obtain rfl : i = k := by omega
                rw [← HDj.out] at hW
                obtain ⟨qs, hqs⟩ : ∃ qs, qs = (feed mn me mx [] D).1 := ⟨_, rfl⟩
                obtain ⟨hs, hhs⟩ : ∃ hs, hs = (feed mn me mx [] D).2 := ⟨_, rfl⟩
                have hall : allL (feed mn me mx [] D) = qs ++ (if hs.length = 0 then [] else [hs]) := by unfold allL; rw [hqs, hhs]
                have hfl := feed_len mn me mx D []
                rw [hall] at HLf
                rw [← hqs, ← hhs] at hW hfl
                rw [List.length_nil, Nat.zero_add] at hfl
                have HWk := hide hW
                have HEn := hide (end_any wr w3.heap.size z mn me mx hv hs bh bn br b4 b5 hW.cu)
                unfold ptr at HEn
                obtain ⟨ga, gc, hgv, -⟩ := own_formB hW.row
                subst hgv
                obtain ⟨ha, hc, hhv, -⟩ := own_formB hW.cu.own
                subst hhv
                clear hW HW hqs hhs hall
                go_wp2_with fail
                refine HEn.out.mono ?_
                rintro e w7 ⟨rfl, hc7⟩
                obtain ⟨hF7, hH7⟩ := HWk.out.fin hc7
                have HF7 := hide hF7
                have HH7 := hide hH7
                clear hF7 hH7 hc7 HEn HWk
                by_cases hh0 : hs.length = 0
                · rw [if_pos hh0, List.append_nil] at HLf
                  have hh1 : ¬ (0 : Int) < (hs.length : Int) := by omega
                  have hle : L.length = qs.length := by rw [HLf.out.1, List.length_map]
                  have hle2 : (qs.length : Int) = (L.length : Int) := by omega
                  have HLe := hide hle
                  clear hle
                  have HLi : Hid (∀ i (h : i < L.length) (h2 : i < qs.length), L[i] = (qs[i].length : Int)) := hide (fun i h h2 => by rw [List.getElem_of_eq HLf.out.1 h, List.getElem_map])
                  have HF9 := hide HF7.out
                  clear HF7 HH7
                  go_wp2
                  go_loopw [11, 19] (fun sv iv wr => ∃ i : Nat, iv = .int .i64 i ∧ i ≤ qs.length ∧ sv = .int .i64 (joinTo qs i).length ∧ Fin3 w3 wr (.slice ga qs.length gc) vals qs) (fun _ iv _ => qs.length - (intOf iv).toNat)
                  case atStart => exact ⟨0, rfl, by omega, rfl, HF9.out⟩
                  case round =>
                    clear HF9
                    obtain ⟨i, rfl, hi, rfl, hF⟩ := hrel
                    by_cases hil : i < qs.length
                    · have hii : (i : Int) < qs.length := by omega
                      have hiL : i < L.length := by have := HLe.out; omega
                      have hii2 : (i : Int) < L.length := by omega
                      obtain ⟨g, rfl, hlc⟩ := HLc.out wr hF.bel i hiL
                      rw [HLi.out i hiL hil] at hlc
                      obtain ⟨ga', gc', hgv, hgp⟩ := own_formB hF.row
                      obtain ⟨g2, hg2⟩ := hgp (by omega)
                      obtain ⟨e1, -, e3⟩ := (Value.slice.injEq ..).mp hgv
                      rw [hg2] at e1
                      subst e1
                      subst e3
                      clear hg2
                      have hvl : i < vals.length := by rw [hF.pc.1]; exact hil
                      have hcv := own_cellV hF.row i _ (List.getElem?_eq_getElem hvl)
                      have hpo := (hF.pc.2 i hil _ (List.getElem?_eq_getElem hvl)).1
                      obtain ⟨pa, pcap, hpv, -⟩ := own_formB hpo
                      rw [hpv] at hcv hpo
                      have hdo : RdA wr (.slice va D.length vc) D := .inl (Rd_owned (owns_below HD3.out hF.bel))
                      have hcap := hdo.cap
                      have hnx := joinTo_succ qs i hil
                      have hmo := joinTo_mono qs (i + 1) qs.length (by omega)
                      have hfa := flat_at qs i hil
                      rw [← HLf.out.2] at hfa
                      have hjD : joinTo qs qs.length = D := by unfold joinTo; rw [List.take_length]; exact HLf.out.2.symm
                      rw [hjD, hnx, List.length_append] at hmo
                      have HNx : Hid ((joinTo qs (i + 1)).length = (joinTo qs i).length + qs[i].length) := hide (by rw [hnx, List.length_append])
                      have hfa' : (D.drop (joinTo qs i).length).take ((joinTo qs i).length + qs[i].length - (joinTo qs i).length) = qs[i] := by rw [Nat.add_sub_cancel_left]; exact hfa
                      obtain ⟨A, hA⟩ : ∃ A, A = (joinTo qs i).length := ⟨_, rfl⟩
                      obtain ⟨P, hPP⟩ : ∃ P, P = qs[i] := ⟨_, rfl⟩
                      rw [← hA] at hmo hfa' HNx ⊢
                      rw [← hPP] at hmo hfa' HNx hpo hcv hlc
                      have HSm := hide (fun d os => sameBytes_any (Sort.grow (redrawn wr d) os) (.slice pa P.length pcap) (sliced va A (A + P.length) vc 1) P ((RdA.below (.inl (Rd_owned hpo)) (below_regrown wr d os))) (by
                        have := (hdo.below (below_regrown wr d os)).sliced A (A + P.length) (by omega) hmo
                        rw [hfa'] at this
                        exact this))
                      have HSl := hide (fun W => slice_lh va D.length vc A (A + P.length) (by omega) (by omega) (A : Int) ((A : Int) + (P.length : Int)) rfl (by omega) W)
                      obtain ⟨sv, hsv⟩ : ∃ sv, sv = sliced va A (A + P.length) vc 1 := ⟨_, rfl⟩
                      rw [← hsv] at HSm HSl
                      have hg1 := fun d os => cell_regrown hcv d os
                      have hg2' := fun d os => cell_regrown hlc d os
                      have hwA : IntKind.i64.wrap ((A : Int) + (P.length : Int)) = (A : Int) + (P.length : Int) := by simp [IntKind.wrap, IntKind.bits, IntKind.signed]; omega
                      have HF := hide hF
                      clear hA hPP hsv hfa hfa' hnx hjD hcap hdo hpo hpv hF hgv hgp
                      go_wp2
                      refine wp_region_quiet_below (by kernel_rfl) (by kernel_rfl) ?_
                      iterate 23 quiet_step (fail)
                      refine wpQuiet_val sv rfl (fun w hw => ?_) ?_
                      · exact run_sliceLH rfl rfl rfl rfl (HSl.out w)
                      quiet_step (exact Calls.regrown_of (HSm.out _ _))
                      quiet_step (fail)
                      quiet_step (fail)
                      refine wpQuiet_nil ?_
                      intro w9 hw'
                      obtain ⟨⟨dq, osq⟩, hw''⟩ := hw'
                      have hb2 := below_regrown wr dq osq
                      rw [← hw''] at hb2
                      have HF9 := hide (HF.out.below hb2)
                      have hlc9 : w9.cell? ⟨g, i, none⟩ = some (.int .i64 (P.length : Int)) := by rw [hw'']; exact hg2' dq osq
                      clear hw'' hb2 hg1 hg2' HSm HSl HF
                      go_wp2
                      refine ⟨⟨i + 1, by go_num, by omega, ?_, HF9.out⟩, by simp [intOf]; omega⟩
                      rw [HNx.out]
                      push_cast
                      rfl
                    · have hii : ¬ (i : Int) < qs.length := by omega
                      have hii2 : ¬ (i : Int) < L.length := by omega
                      have HF := hide hF
                      clear hF
                      go_wp2
                      go_ret
                      exact ⟨rfl, HB3.out.trans (HF.out.bel.mono (by omega))⟩
                · rw [if_neg hh0] at HLf
                  have hh1 : (0 : Int) < (hs.length : Int) := by omega
                  have hb8 := (Below.refl w7.heap.size w7).alloc (Nat.le_refl _) (.cells #[.slice ha hs.length hc] 24)
                  have HF8 := hide (HF7.out.below hb8)
                  have HH8 := hide (owns_below HH7.out hb8)
                  clear hb8 HF7 HH7
                  go_wp2_with (at_builtin; refine wpList_append_sl rfl _ _ rfl w3.heap.size _ qs.length vals rfl HF8.out.row w7.heap.size 1 rfl ha hs.length hc ?k1 ?k2 ?k3 ?_)
                  case k1 => exact (Blk.made w7 _ _).cell 0
                  case k2 => omega
                  case k3 => exact HF8.out.bel.size
                  intro gv2 w8 HG8 HB8 HX8
                  have hF9 := HF8.out.push HH8.out HG8.out HB8.out
                  obtain ⟨PS, hPS⟩ : ∃ PS, PS = qs ++ [hs] := ⟨_, rfl⟩
                  rw [← hPS] at hF9 HLf
                  have hpl : PS.length = qs.length + 1 := by rw [hPS]; simp
                  obtain ⟨vals2, hv2⟩ : ∃ vals2, vals2 = vals ++ [.slice ha hs.length hc] := ⟨_, rfl⟩
                  rw [← hv2] at hF9
                  obtain ⟨gb, gd, hgv2, -⟩ := own_formB hF9.row
                  subst hgv2
                  have HF9 := hide hF9
                  have hle : L.length = PS.length := by rw [HLf.out.1, List.length_map]
                  have hle2 : (PS.length : Int) = (L.length : Int) := by omega
                  have HLe := hide hle
                  clear hle
                  have HLi : Hid (∀ i (h : i < L.length) (h2 : i < PS.length), L[i] = (PS[i].length : Int)) := hide (fun i h h2 => by rw [List.getElem_of_eq HLf.out.1 h, List.getElem_map])
                  clear HG8 HB8 HX8 hF9 HF8 HH8 hPS hv2 hpl
                  go_wp2
                  go_loopw [11, 19] (fun sv iv wr => ∃ i : Nat, iv = .int .i64 i ∧ i ≤ PS.length ∧ sv = .int .i64 (joinTo PS i).length ∧ Fin3 w3 wr (.slice gb PS.length gd) vals2 PS) (fun _ iv _ => PS.length - (intOf iv).toNat)
                  case atStart => exact ⟨0, rfl, by omega, rfl, HF9.out⟩
                  case round =>
                    clear HF9
                    obtain ⟨i, rfl, hi, rfl, hF⟩ := hrel
                    by_cases hil : i < PS.length
                    · have hii : (i : Int) < PS.length := by omega
                      have hiL : i < L.length := by have := HLe.out; omega
                      have hii2 : (i : Int) < L.length := by omega
                      obtain ⟨g, rfl, hlc⟩ := HLc.out wr hF.bel i hiL
                      rw [HLi.out i hiL hil] at hlc
                      obtain ⟨ga', gc', hgv, hgp⟩ := own_formB hF.row
                      obtain ⟨g2, hg2⟩ := hgp (by omega)
                      obtain ⟨e1, -, e3⟩ := (Value.slice.injEq ..).mp hgv
                      rw [hg2] at e1
                      subst e1
                      subst e3
                      clear hg2
                      have hvl : i < vals2.length := by rw [hF.pc.1]; exact hil
                      have hcv := own_cellV hF.row i _ (List.getElem?_eq_getElem hvl)
                      have hpo := (hF.pc.2 i hil _ (List.getElem?_eq_getElem hvl)).1
                      obtain ⟨pa, pcap, hpv, -⟩ := own_formB hpo
                      rw [hpv] at hcv hpo
                      have hdo : RdA wr (.slice va D.length vc) D := .inl (Rd_owned (owns_below HD3.out hF.bel))
                      have hcap := hdo.cap
                      have hnx := joinTo_succ PS i hil
                      have hmo := joinTo_mono PS (i + 1) PS.length (by omega)
                      have hfa := flat_at PS i hil
                      rw [← HLf.out.2] at hfa
                      have hjD : joinTo PS PS.length = D := by unfold joinTo; rw [List.take_length]; exact HLf.out.2.symm
                      rw [hjD, hnx, List.length_append] at hmo
                      have HNx : Hid ((joinTo PS (i + 1)).length = (joinTo PS i).length + PS[i].length) := hide (by rw [hnx, List.length_append])
                      have hfa' : (D.drop (joinTo PS i).length).take ((joinTo PS i).length + PS[i].length - (joinTo PS i).length) = PS[i] := by rw [Nat.add_sub_cancel_left]; exact hfa
                      obtain ⟨A, hA⟩ : ∃ A, A = (joinTo PS i).length := ⟨_, rfl⟩
                      obtain ⟨P, hPP⟩ : ∃ P, P = PS[i] := ⟨_, rfl⟩
                      rw [← hA] at hmo hfa' HNx ⊢
                      rw [← hPP] at hmo hfa' HNx hpo hcv hlc
                      have HSm := hide (fun d os => sameBytes_any (Sort.grow (redrawn wr d) os) (.slice pa P.length pcap) (sliced va A (A + P.length) vc 1) P ((RdA.below (.inl (Rd_owned hpo)) (below_regrown wr d os))) (by
                        have := (hdo.below (below_regrown wr d os)).sliced A (A + P.length) (by omega) hmo
                        rw [hfa'] at this
                        exact this))
                      have HSl := hide (fun W => slice_lh va D.length vc A (A + P.length) (by omega) (by omega) (A : Int) ((A : Int) + (P.length : Int)) rfl (by omega) W)
                      obtain ⟨sv, hsv⟩ : ∃ sv, sv = sliced va A (A + P.length) vc 1 := ⟨_, rfl⟩
                      rw [← hsv] at HSm HSl
                      have hg1 := fun d os => cell_regrown hcv d os
                      have hg2' := fun d os => cell_regrown hlc d os
                      have hwA : IntKind.i64.wrap ((A : Int) + (P.length : Int)) = (A : Int) + (P.length : Int) := by simp [IntKind.wrap, IntKind.bits, IntKind.signed]; omega
                      have HF := hide hF
                      clear hA hPP hsv hfa hfa' hnx hjD hcap hdo hpo hpv hF hgv hgp
                      go_wp2
                      refine wp_region_quiet_below (by kernel_rfl) (by kernel_rfl) ?_
                      iterate 23 quiet_step (fail)
                      refine wpQuiet_val sv rfl (fun w hw => ?_) ?_
                      · exact run_sliceLH rfl rfl rfl rfl (HSl.out w)
                      quiet_step (exact Calls.regrown_of (HSm.out _ _))
                      quiet_step (fail)
                      quiet_step (fail)
                      refine wpQuiet_nil ?_
                      intro w9 hw'
                      obtain ⟨⟨dq, osq⟩, hw''⟩ := hw'
                      have hb2 := below_regrown wr dq osq
                      rw [← hw''] at hb2
                      have HF9 := hide (HF.out.below hb2)
                      have hlc9 : w9.cell? ⟨g, i, none⟩ = some (.int .i64 (P.length : Int)) := by rw [hw'']; exact hg2' dq osq
                      clear hw'' hb2 hg1 hg2' HSm HSl HF
                      go_wp2
                      refine ⟨⟨i + 1, by go_num, by omega, ?_, HF9.out⟩, by simp [intOf]; omega⟩
                      rw [HNx.out]
                      push_cast
                      rfl
                    · have hii : ¬ (i : Int) < PS.length := by omega
                      have hii2 : ¬ (i : Int) < L.length := by omega
                      have HF := hide hF
                      clear hF
                      go_wp2
                      go_ret
                      exact ⟨rfl, HB3.out.trans (HF.out.bel.mono (by omega))⟩
end Go.Proofs.YtamajnaeladehaaDoor
