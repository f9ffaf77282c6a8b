/- GearPieces, walked. -/
import Derived.Test.YtamajnaeladehaaDoorGP5a
import Derived.Test.YtamajnaeladehaaDoorRQ2
namespace Go.Proofs.YtamajnaeladehaaDoor
set_option linter.unusedVariables false
set_option linter.unusedSimpArgs false
open Go.RowKit Go.Sort
attribute [local go_sem] Oper.semAt_some

theorem run_sliceLH {op : Oper} {ev : Operand → Value} {t : TypeId} {x y y2 : Operand} {p u u2 v : Value} {w : World} (ho : op.op = .slice t x (some y) (some y2) none) (hx : ev x = p) (hy : ev y = u) (hy2 : ev y2 = u2) (hl : (Instr.sliceAt t p (some u) (some u2) none).run Tryd.prog w = .ok v w) : (execOp ev op).run Tryd.prog w = .ok (.value v) w := by
  simp only [execOp, ho, hx, Option.map_none, Option.map_some, hy, hy2, Sem.run_bind, hl, Result.andThen_ok, Sem.run_pure]
set_option maxRecDepth 40000 in
set_option maxHeartbeats 16000000 in
theorem pieces_law (w : World) (hT : Tabs w) (mn me mx stop : Int) (dv : Value) (X : List UInt8) (hd : RdA w dv X) (h1 : X.length ≤ 1048576) :
    Calls Tryd.prog 4 #[askV mn me mx dv, .int .i64 stop] w fun e w' => e = .returned (.bool true) ∧ Below w.heap.size w w' := by
  unfold askV
  obtain ⟨W0, hW0⟩ : ∃ W0, W0 = ((w.alloc (.cells #[.int .i64 mn, .int .i64 me, .int .i64 mx, dv] 26)).alloc (.cells #[.int .i64 stop] 3)).alloc (.cells #[.bool false] 4) := ⟨_, rfl⟩
  have HB0 : Hid (Below w.heap.size w W0) := hide (by rw [hW0]; exact (((Below.refl w.heap.size w).alloc (Nat.le_refl _) _).alloc (by simp) _).alloc (by simp; omega) _)
  have HA0 : Hid (AskAt W0 w.heap.size mn me mx dv) := hide (by rw [hW0]; exact ((Blk.made w _ _).alloc _).alloc _)
  have HS0 : Hid (Blk W0 (w.heap.size + 1) #[.int .i64 stop] 3) := hide (by
    have h := (Blk.made (w.alloc (.cells #[.int .i64 mn, .int .i64 me, .int .i64 mx, dv] 26)) #[.int .i64 stop] 3).alloc (.cells #[.bool false] 4)
    rw [World.size_alloc] at h
    rw [hW0]; exact h)
  have HR0 : Hid (Blk W0 (w.heap.size + 1 + 1) #[.bool false] 4) := hide (by
    have h := Blk.made ((w.alloc (.cells #[.int .i64 mn, .int .i64 me, .int .i64 mx, dv] 26)).alloc (.cells #[.int .i64 stop] 3)) #[.bool false] 4
    rw [World.size_alloc, World.size_alloc] at h
    rw [hW0]; exact h)
  have HT0 := hide (hT.below HB0.out hT.size)
  have HD0 := hide (hd.below HB0.out)
  obtain ⟨da, dc, rfl, hdl⟩ := hd.slice
  clear hT hd
  have hW0' : ((w.alloc (.cells #[.int .i64 mn, .int .i64 me, .int .i64 mx, .slice da X.length dc] 26)).alloc (.cells #[.int .i64 stop] 3)).alloc (.cells #[.bool false] 4) = W0 := hW0.symm
  have c0 : W0.cell? ⟨w.heap.size, 0, none⟩ = some (.int .i64 mn) := HA0.out.cell 0
  have c1 : W0.cell? ⟨w.heap.size, 1, none⟩ = some (.int .i64 me) := HA0.out.cell 1
  have c2 : W0.cell? ⟨w.heap.size, 2, none⟩ = some (.int .i64 mx) := HA0.out.cell 2
  have c3 : W0.cell? ⟨w.heap.size, 3, none⟩ = some (.slice da X.length dc) := HA0.out.cell 3
  clear hW0
  obtain ⟨Wc, hWc⟩ : ∃ Wc, Wc = cutR mn me mx X := ⟨_, rfl⟩
  have HWc := hide hWc
  have HWl : Hid (Wc.length ≤ X.length) := hide (by
    rw [hWc]; unfold cutR
    split
    · rename_i hm; exact cutL_len hm _ X (Nat.le_refl _)
    · simp)
  obtain ⟨hc1, hc2, hc3⟩ := cut_pieces mn me mx X
  rw [← hWc] at hc1 hc2
  have HC3 : Hid (∀ j, j < Wc.length → Wc[j]? = some (lenK mn me mx X j : Int)) := hide (by subst hWc; exact fun j h => by rw [List.getElem?_eq_getElem h, hc3 j h])
  have HC1 := hide hc1
  have HC2 := hide hc2
  clear hWc hc1 hc2 hc3
  refine (callsIn_wide (n := 5)).1 ?_
  refine callsIn_of_wp_marks Tryd.func4 rfl trivial ?_ rfl
  refine wpIn_wide.2 ?_
  simp only [Tryd.ntmps4, List.size_toArray, List.length_cons, List.length_nil, Nat.reduceAdd, Nat.reduceSub, Array.replicate_succ, Array.replicate_zero, List.push_toArray, List.append_toArray, List.nil_append, List.cons_append]
  go_wp2_with fail
  refine (rcut_any W0 mn me mx _ X HD0.out (by omega)).mono ?_
  rintro e w1 ⟨vw, rfl, hO1, hb1⟩
  rw [← HWc.out] at hO1
  have HB1 := hide hb1
  obtain ⟨wa, wc, hvw, -⟩ := hO1.form
  obtain ⟨N, hN⟩ : ∃ N, N = Wc.length := ⟨_, rfl⟩
  rw [← hN] at hvw HC1 HC2 HC3
  subst hvw
  have HN := hide hN
  have hNX : N ≤ 1048576 := by rw [hN]; exact Nat.le_trans HWl.out h1
  obtain ⟨w2, hw2⟩ : ∃ w2, w2 = w1.alloc (.cells #[.slice wa N wc] 29) := ⟨_, rfl⟩
  have hb2 : Below w1.heap.size w1 w2 := by rw [hw2]; exact (Below.refl _ _).alloc (Nat.le_refl _) _
  have HB2 := hide (Below.step hb1 hb2)
  have HO2 := hide (hO1.below hb2)
  have HL2 : Hid (Blk w2 w1.heap.size #[.slice wa N wc] 29) := hide (by rw [hw2]; exact Blk.made _ _ _)
  have hz0 : w.heap.size + 1 + 1 < W0.heap.size := HR0.out.lt
  have hz1 : W0.heap.size ≤ w1.heap.size := hb1.size
  have HA2 := hide (HA0.out.below HB2.out HA0.out.lt)
  clear hb1 hO1 hb2 c0 c1 c2 c3 hN HB1 hW0'
  have c3 : w2.cell? ⟨w.heap.size, 3, none⟩ = some (.slice da X.length dc) := HA2.out.cell 3
  rw [hw2] at c3
  go_wp2_with fail
  rw [← hw2]
  refine (lent_any w2 _ X (HD0.out.below HB2.out) (by omega)).mono ?_
  rintro e w3 ⟨g, cap, rfl, hO3, h80, hcap, hb3⟩
  have HOl3 := hide hO3
  have HB3 := hide (Below.step HB2.out hb3)
  have HO3 := hide (HO2.out.below hb3)
  have HL3 := hide (HL2.out.below hb3 HL2.out.lt)
  have HA3 := hide (HA2.out.below hb3 HA2.out.lt)
  have hz2 : w1.heap.size < w2.heap.size := HL2.out.lt
  have hz3 : w2.heap.size ≤ w3.heap.size := hb3.size
  have HRl := hide (fun (w' : World) (B : Nat) (h : OwnsB w' B (.slice (some ⟨g, 0, none⟩) (X.length + 80) cap) (padL X 80)) => (show RdA w' (.slice (some ⟨g, 0, none⟩) X.length cap) X from .inl (by
    have := Rd.owned_take h (m := X.length) (c0 := cap) (by rw [padL_len]; omega) (by omega) (by unfold maxLen; omega)
    rwa [padL_take] at this)))
  clear hO3 hb3 HB2 HO2 HL2 HA2 c3 hw2
  have c0 : w3.cell? ⟨w.heap.size, 0, none⟩ = some (.int .i64 mn) := HA3.out.cell 0
  have c1 : w3.cell? ⟨w.heap.size, 1, none⟩ = some (.int .i64 me) := HA3.out.cell 1
  have c2 : w3.cell? ⟨w.heap.size, 2, none⟩ = some (.int .i64 mx) := HA3.out.cell 2
  go_wp2_with fail
  refine (pieces_any w3 mn me mx _ X (HRl.out _ _ HOl3.out) (by omega)).mono ?_
  rintro e w6 ⟨hb6, hP⟩
  have HB6 := hide (Below.step HB3.out hb6)
  have HO6 := hide (HO3.out.below hb6)
  have HL6 := hide (HL3.out.below hb6 HL3.out.lt)
  have HA6 := hide (HA3.out.below hb6 HA3.out.lt)
  have HOl6 := hide (owns_below HOl3.out hb6)
  have hz6 : w3.heap.size ≤ w6.heap.size := hb6.size
  have HT6 := hide (HT0.out.below HB6.out HT0.out.size)
  have HD6 := hide (HD0.out.below HB6.out)
  have HS6 := hide (HS0.out.below HB6.out HS0.out.lt)
  have HR6 := hide (HR0.out.below HB6.out HR0.out.lt)
  have HBw6 := hide (Below.step HB0.out HB6.out)
  obtain ⟨o, gf, lb, hwv, rfl, hen, hseq⟩ : ∃ o gf lb, walkV o = .func (.func gf) #[] lb ∧ e = .returned (walkV o) ∧ (∀ args W, (callFunc gf args).run Tryd.prog W = .ok (.enter gf args) W) ∧ ∀ n, SeqFit Fence.wide n Tryd.prog gf lb recV 0 w6.heap.size (pcS mn me mx X) (pcFit mn me mx X) w6 := by
    rcases hP with ⟨hm, rfl⟩ | ⟨hm, z, y, v, rfl, hz, hy, hv, -, -⟩
    · exact ⟨none, 33, #[], rfl, rfl, enters_of Tryd.func33 (by kernel_rfl) rfl, fun n => nothing_fit n w6 mn me mx X hm⟩
    · exact ⟨some (z, y), 35, _, rfl, rfl, enters_of Tryd.func35 (by kernel_rfl) rfl, fun n => pieces_fit n w6 HT6.out z y _ v mn me mx X hm hz hy hv (by omega)⟩
  have q1 := walkNotNil o
  have q2 := walkGuard o
  rw [hwv] at q1 q2 ⊢
  have HEn := hide hen
  have HSeq := hide hseq
  clear hb6 hP HB3 HO3 HL3 HA3 HOl3 c0 c1 c2 hen hseq hwv
  obtain ⟨W9, hW9⟩ : ∃ W9, W9 = (w6.alloc (.cells #[.slice none 0 0] 42)).alloc (.cells #[.int .i64 0] 3) := ⟨_, rfl⟩
  have hb9 : Below w6.heap.size w6 W9 := by rw [hW9]; exact ((Below.refl _ _).alloc (Nat.le_refl _) _).alloc (by simp) _
  have HG9 : Hid (KSt w6 W9 w6.heap.size (.slice none 0 0) 0 (fun _ => .slice none 0 0) (fun _ => [])) := hide ⟨by rw [hW9]; exact (Blk.made w6 _ _).alloc _, World.ownsRow_nil _ _ _ _, ⟨fun i hi => by omega, fun i j hi => by omega⟩, fun i hi => by omega, hb9⟩
  have HT9 : Hid (Blk W9 (w6.heap.size + 1) #[.int .i64 0] 3) := hide (by
    have h := Blk.made (w6.alloc (.cells #[.slice none 0 0] 42)) #[.int .i64 0] 3
    rw [World.size_alloc] at h
    rw [hW9]; exact h)
  have HA9 : Hid (AllD [] W9) := hide (fun D hD => by cases hD)
  clear hb9
  go_wp2
  rw [← hW9]
  clear hW9
  refine wp_loop_rounds 4 ?_
  rw [rounds_succ]
  obtain ⟨qa0, hqa0⟩ : ∃ q, q = W9.heap.size := ⟨_, rfl⟩
  obtain ⟨V0, hV0⟩ : ∃ V, V = (W9.alloc (.cells #[.int .i64 0] 3)).alloc (.cells #[.int .i64 0] 3) := ⟨_, rfl⟩
  have hbV0 : Below W9.heap.size W9 V0 := by rw [hV0]; exact ((Below.refl _ _).alloc (Nat.le_refl _) _).alloc (by simp) _
  have HGV0 := hide (HG9.out.below hbV0)
  have HAV0 : Hid (AllD [] V0) := hide (HA9.out.below hbV0)
  have HTV0 := hide (HT9.out.below hbV0 HT9.out.lt)
  have HKa0 : Hid (Blk V0 qa0 #[.int .i64 0] 3) := hide (by rw [hV0, hqa0]; exact (Blk.made _ _ _).alloc _)
  have HKn0 : Hid (Blk V0 (qa0 + 1) #[.int .i64 0] 3) := hide (by
    have h := Blk.made (W9.alloc (.cells #[.int .i64 0] 3)) #[.int .i64 0] 3
    rw [World.size_alloc] at h
    rw [hV0, hqa0]; exact h)
  have hqr0 : w6.heap.size < (w6.heap.size + 1) := by omega
  have hqq0 : (w6.heap.size + 1) < qa0 := by rw [hqa0]; exact HT9.out.lt
  have HDl0 : Hid (∀ D ∈ [], D < V0.heap.size) := hide (fun D hD => (Array.getElem?_eq_some_iff.1 (HAV0.out D hD)).1)
  have HV6L0 : Hid (w6.heap.size ≤ V0.heap.size) := hide HGV0.out.bel.size
  have hct0 : W9.cell? ⟨(w6.heap.size + 1), 0, none⟩ = some (.int .i64 0) := HT9.out.cell 0
  clear hbV0
  go_wp2
  rw [← hV0, ← hqa0]
  clear hV0 hqa0 hct0
  refine (wpIn_wide (n := 5)).1 ?_
  refine wpIn_rangeBrk 2 rfl (by omega) (gf := gf) (lb := lb) rfl trivial HEn.out (HSeq.out (5 - 1)) HGV0.out.bel HV6L0.out (fun _ => rfl) (pcFit_put mn me mx X)
    (fun _ => False) (fun _ _ h => inBlock_exit _ h)
    (fun pre W => Blk W qa0 #[.int .i64 ((posK mn me mx X pre.length : Nat) : Int)] 3 ∧ Blk W (qa0 + 1) #[.int .i64 ((pre.length : Nat) : Int)] 3 ∧ Blk W (w6.heap.size + 1) #[.int .i64 0] 3 ∧ (∃ vl lvs ys, KSt w6 W w6.heap.size vl (0 + pre.length) lvs ys) ∧ AllD [] W ∧ V0.heap.size ≤ W.heap.size)
    (OwnFrom.and (blk_ownFrom _ _ _ (fun pre : List Rec => #[.int .i64 ((posK mn me mx X pre.length : Nat) : Int)])) (OwnFrom.and (blk_ownFrom _ _ _ (fun pre : List Rec => #[.int .i64 ((pre.length : Nat) : Int)])) (OwnFrom.and (blk_ownFrom _ _ _ (fun _ : List Rec => #[.int .i64 0])) (OwnFrom.and (KSt.ownFrom (c := fun pre : List Rec => 0 + pre.length) HV6L0.out) (OwnFrom.and (AllD.ownFrom HDl0.out) (fun s A C row hs hg hr => Nat.le_trans hs hg.size))))))
    ⟨HKa0.out, HKn0.out, HTV0.out, ⟨_, _, _, HGV0.out⟩, HAV0.out, Nat.le_refl _⟩ ?round0 ?fin0
  case round0 =>
    rintro l pre ⟨pq, bd, vx⟩ Wp W ⟨hka, hkn, hkr, ⟨vl, lvs, ys, hGp⟩, hAp, hW4⟩ hbW ⟨f1, f2, f3, f4⟩
    dsimp only at f2 f3 f4
    have hj : pre.length < N := Nat.lt_of_not_le fun h => HC2.out (f1 N h)
    subst f2 f3
    have hpl := pcK_len (HC1.out pre.length hj)
    have hlp := lenK_pos (HC1.out pre.length hj)
    obtain ⟨vx1, cx1, rfl, -, -⟩ := f4.slice
    have hGW := hGp.below hbW
    have hkaW := hka.below hbW hka.lt
    have hknW := hkn.below hbW hkn.lt
    have hkrW := hkr.below hbW hkr.lt
    have hAW := hAp.below hbW
    have hMp : ∀ i, i < 0 + pre.length → ∀ g, (lvs i).ownBlock = some g → g < Wp.heap.size := fun i hi g hg => (OwnsB.blk_ge (hGp.ls.own i hi) g hg).2
    have h7p : w6.heap.size ≤ Wp.heap.size := hGp.bel.size
    have hgw : ∃ gw, wa = some ⟨gw, 0, none⟩ := by
      obtain ⟨a', c', e, h⟩ := HO6.out.form
      obtain ⟨rfl, -, -⟩ := (Value.slice.injEq ..).mp e
      exact h (by rw [← HN.out]; omega)
    obtain ⟨gw, rfl⟩ := hgw
    have hrow : W.cell? ⟨gw, pre.length, none⟩ = some (.int .i64 ((lenK mn me mx X pre.length : Nat) : Int)) := by
      have h := (owns_below_at HO6.out hGW.bel).at pre.length (by rw [← HN.out]; exact hj)
      have e := HC3.out pre.length hj
      rw [List.getElem?_eq_getElem (by rw [← HN.out]; exact hj)] at e
      rw [h, Option.some.inj e]
    have HRow : Hid (∀ W', Below w6.heap.size w6 W' → W'.cell? ⟨gw, pre.length, none⟩ = some (.int .i64 ((lenK mn me mx X pre.length : Nat) : Int))) := hide (fun W' hb => by
      have h := (owns_below_at HO6.out hb).at pre.length (by rw [← HN.out]; exact hj)
      have e := HC3.out pre.length hj
      rw [List.getElem?_eq_getElem (by rw [← HN.out]; exact hj)] at e
      rw [h, Option.some.inj e])
    have hc5 : W.cell? ⟨w1.heap.size, 0, none⟩ = some (.slice (some ⟨gw, 0, none⟩) N wc) := (HL6.out.below hGW.bel HL6.out.lt).cell 0
    have hc3 : W.cell? ⟨w.heap.size, 3, none⟩ = some (.slice da X.length dc) := (HA6.out.below hGW.bel HA6.out.lt).cell 3
    have hca : W.cell? ⟨qa0, 0, none⟩ = some (.int .i64 ((posK mn me mx X pre.length : Nat) : Int)) := hkaW.cell 0
    have hcn : W.cell? ⟨qa0 + 1, 0, none⟩ = some (.int .i64 ((pre.length : Nat) : Int)) := hknW.cell 0
    have HRX := hide (HD6.out.below hGW.bel)
    have hdc : X.length ≤ dc := (HD6.out.cap).2.1
    have HP0 : Hid (posK mn me mx X (pre.length + 1) = posK mn me mx X pre.length + lenK mn me mx X pre.length) := hide rfl
    have HPC : Hid (pcK mn me mx X pre.length = (X.drop (posK mn me mx X pre.length)).take (lenK mn me mx X pre.length)) := hide rfl
    have HF4 := hide f4
    have HGW := hide hGW
    have HKaW := hide hkaW
    have HKnW := hide hknW
    have HKrW := hide hkrW
    have HAW := hide hAW
    have HMp := hide hMp
    have HV4 := hide (Nat.le_trans hW4 hbW.size)
    obtain ⟨y, hy⟩ : ∃ y, y = pcK mn me mx X pre.length := ⟨_, rfl⟩
    obtain ⟨j, hjj⟩ : ∃ j, j = pre.length := ⟨_, rfl⟩
    obtain ⟨m, hm⟩ : ∃ m, m = lenK mn me mx X pre.length := ⟨_, rfl⟩
    obtain ⟨q, hq⟩ : ∃ q, q = posK mn me mx X pre.length := ⟨_, rfl⟩
    have HJJ := hide hjj
    have HQ := hide hq
    have HY := hide hy
    rw [← hm] at hpl hlp hrow HRow HP0 HPC
    rw [← hq] at hlp hca HP0 HPC HKaW
    rw [← hy] at hpl HPC HF4 ⊢
    rw [hpl] at HF4 ⊢
    have HPL := hide hpl
    rw [← hjj] at hrow HRow hcn HKnW HGW HMp HP0
    obtain ⟨t, ht⟩ : ∃ t, t = q + m := ⟨_, rfl⟩
    have htl : t ≤ X.length := by omega
    have hwA : IntKind.i64.wrap ((q : Int) + (m : Int)) = (q : Int) + (m : Int) := by simp [IntKind.wrap, IntKind.bits, IntKind.signed]; omega
    have HTT := hide ht
    have hjN : ¬ ((N : Nat) : Int) ≤ (j : Int) := by omega
    have hjb : j < N := by omega
    have hjn : ¬ N ≤ j := by omega
    have hjd : decide (N ≤ j) = false := decide_eq_false hjn
    have HS2 := hide (fun W => slice_lh da X.length dc q t (by omega) (by omega) (q : Int) ((q : Int) + (m : Int)) rfl (by omega) W)
    have hRs := HRX.out.sliced q t (by omega) htl
    rw [show t - q = m from by omega, ← HPC.out] at hRs
    obtain ⟨su, hsu⟩ : ∃ su, su = sliced da q t dc 1 := ⟨_, rfl⟩
    rw [← hsu] at HS2 hRs
    have HSame := hide (fun d os => sameBytes_any (grow (redrawn W d) os) (.slice vx1 m cx1) su y (HF4.out.below (below_regrown W d os)).rd (hRs.below (below_regrown W d os)))
    clear f1 f4 hka hkn hkr hGp hAp hW4 hbW hGW hkaW hknW hkrW hAW hMp hy hm hjj hq hj hsu hRs ht hpl
    refine ⟨?aa0, ?asg0, ?bd0⟩
    case asg0 =>
      intro W0 K hK
      refine asg2 (x1 := .tmp 37) (x2 := .tmp 38) rfl rfl rfl rfl _ W0 K ?_
      exact hK
    case bd0 =>
      unfold recV
      simp only [List.zip_toArray, List.zip_cons_cons, List.zip_nil_right, List.foldl_toArray, List.foldl_cons, List.foldl_nil, List.setIfInBounds_toArray, List.set_cons_succ, List.set_cons_zero, Act.put, Act.eval]
      rw [← HQ.out]
      gi_wp2
      have x1 := fun d os => cell_regrown hcn d os
      have x2 := fun d os => cell_regrown hc5 d os
      have x3 := fun d os => cell_regrown hca d os
      have x4 := fun d os => cell_regrown hc3 d os
      have x5 := fun d os => cell_regrown hrow d os
      refine wpIn_round_quiet (by kernel_rfl) (by kernel_rfl) (by kernel_rfl) ?_
      iterate 20 quiet_step (fail)
      refine wpQuiet_val su rfl (fun w hw => ?_) ?_
      · exact run_sliceLH rfl rfl rfl rfl (HS2.out w)
      quiet_step (exact Calls.regrown_of (HSame.out _ _))
      quiet_step (fail)
      quiet_step (fail)
      refine wpQuiet_nil ?_
      intro w10 hw'
      obtain ⟨⟨dq, osq⟩, hw''⟩ := hw'
      have hb10 := below_regrown W dq osq
      rw [← show w10 = grow (redrawn W dq) osq from hw''] at hb10
      obtain ⟨cc, hcc⟩ : ∃ cc, cc = 0 + j := ⟨_, rfl⟩
      rw [← hcc] at HGW HMp
      have HCC := hide hcc
      have hccb : cc ≤ 100000000 := by omega
      have hG10 := HGW.out.below hb10
      have f10 := HF4.out.below hb10
      have ka10 := HKaW.out.below hb10 HKaW.out.lt
      have kn10 := HKnW.out.below hb10 HKnW.out.lt
      have kr10 := HKrW.out.below hb10 HKrW.out.lt
      obtain ⟨al, cl, rfl⟩ := row_form hG10.lists
      have hc13 : w10.cell? ⟨w6.heap.size, 0, none⟩ = some (.slice al cc cl) := hG10.lbox.cell 0
      have HK10 : Hid (KeepsOthers W w10) := hide (keeps_below hb10)
      have HG10 := hide hG10
      have HF10 := hide f10
      have HKa10 := hide ka10
      have HKn10 := hide kn10
      have HKr10 := hide kr10
      clear hw'' x1 x2 x3 x4 x5 hG10 f10 ka10 kn10 kr10 hb10 HSame hrow hc5 hc3 hca hcn hcc HKaW HKnW HKrW HF4 HS2
      gi_wp2_with (gi_at_builtin; refine wpListIn_append_list rfl _ _ rfl w6.heap.size _ cc ((List.range cc).map lvs) rfl ?c10 w10.heap.size 1 rfl (.slice vx1 m cx1) rfl ?c20 ?c30 ?c40 ?_)
      case c10 => exact owns_below HG10.out.lists ((Below.refl _ _).alloc (Nat.le_refl _) _)
      case c20 => exact (Blk.made _ _ _).cell 0
      case c30 => omega
      case c40 => have := HG10.out.bel.size; simp; omega
      intro v' w12 HO' HG' HBk
      obtain ⟨al2, cl2, rfl⟩ := row_form HO'.out
      have hal : Below w10.heap.size w10 (w10.alloc (.cells #[.slice vx1 m cx1] 24)) := (Below.refl _ _).alloc (Nat.le_refl _) _
      have h1' := HG10.out.below hal
      have hG13 := HG10.out.add HF10.out HMp.out h7p (by rw [HPL.out]; omega) (Nat.le_refl _) HO'.out HG'.out
      have lb2 := h1'.lbox.grown HG'.out (fun e => blk_own_ne h1'.lbox h1'.lists (by decide) w6.heap.size e.symm rfl)
      have ka2 := (HKa10.out.alloc (.cells #[.slice vx1 m cx1] 24)).grown HG'.out (fun e => blk_own_ne (HKa10.out.alloc (.cells #[.slice vx1 m cx1] 24)) h1'.lists (by decide) qa0 e.symm rfl)
      have kn2 := (HKn10.out.alloc (.cells #[.slice vx1 m cx1] 24)).grown HG'.out (fun e => blk_own_ne (HKn10.out.alloc (.cells #[.slice vx1 m cx1] 24)) h1'.lists (by decide) (qa0 + 1) e.symm rfl)
      have kr2 := (HKr10.out.alloc (.cells #[.slice vx1 m cx1] 24)).grown HG'.out (fun e => blk_own_ne (HKr10.out.alloc (.cells #[.slice vx1 m cx1] 24)) h1'.lists (by decide) (w6.heap.size + 1) e.symm rfl)
      have y0 : w12.cell? ⟨w6.heap.size, 0, none⟩ = some (.slice al cc cl) := lb2.cell 0
      have y1 := lb2.frozen 0
      obtain ⟨W13, hW13⟩ : ∃ W13, W13 = w12.setCell ⟨w6.heap.size, 0, none⟩ (.slice al2 (cc + 1) cl2) := ⟨_, rfl⟩
      have ka13 : Blk W13 qa0 #[.int .i64 (q : Int)] 3 := by rw [hW13]; exact ka2.setOther _ _ (by show qa0 ≠ w6.heap.size; omega)
      have kn13 : Blk W13 (qa0 + 1) #[.int .i64 (j : Int)] 3 := by rw [hW13]; exact kn2.setOther _ _ (by show qa0 + 1 ≠ w6.heap.size; omega)
      have kr13 : Blk W13 (w6.heap.size + 1) #[.int .i64 0] 3 := by rw [hW13]; exact kr2.setOther _ _ (by show (w6.heap.size + 1) ≠ w6.heap.size; omega)
      have hKo13 : KeepsOthers W W13 := ((HK10.out.trans (keeps_below hal)).trans (keeps_own h1'.lists HG'.out)).trans (by rw [hW13]; exact KeepsOthers.setCell _ _ _)
      rw [← hW13] at hG13
      have HG13 := hide hG13
      have HKa13 := hide ka13
      have HKn13 := hide kn13
      have HKr13 := hide kr13
      have HKo13 := hide hKo13
      clear h1' hal lb2 ka2 kn2 kr2 ka13 kn13 kr13 hG13 hKo13 HO' HG' HBk HG10 HF10 HKa10 HKn10 HKr10 hc13 HK10
      gi_wp2
      rw [← hW13]
      clear y0 y1 hW13
      have u1 : W13.cell? ⟨qa0, 0, none⟩ = some (.int .i64 (q : Int)) := HKa13.out.cell 0
      have u2 : W13.cell? ⟨w1.heap.size, 0, none⟩ = some (.slice (some ⟨gw, 0, none⟩) N wc) := (HL6.out.below HG13.out.bel HL6.out.lt).cell 0
      have u3 : W13.cell? ⟨qa0 + 1, 0, none⟩ = some (.int .i64 (j : Int)) := HKn13.out.cell 0
      have u4 : W13.cell? ⟨gw, j, none⟩ = some (.int .i64 (m : Int)) := HRow.out _ HG13.out.bel
      have u5 := HKa13.out.frozen 0
      apply cutP
      · intro hP
        gi_region
        all_goals exact hP
      obtain ⟨W13s, hW13s⟩ : ∃ W13s, W13s = W13.setCell ⟨qa0, 0, none⟩ (.int .i64 ((q : Int) + (m : Int))) := ⟨_, rfl⟩
      obtain ⟨W14, hW14⟩ : ∃ W14, W14 = (W13.setCell ⟨qa0, 0, none⟩ (.int .i64 ((q : Int) + (m : Int)))).drew := ⟨_, rfl⟩
      have hdr : Below W13s.heap.size W13s W14 := by rw [hW14, hW13s]; exact below_drew _
      rw [← hW14]
      clear hW14
      have hgd : W13.grownBy W13s (some qa0) := by rw [hW13s]; exact grownBy_set _ _ _ _
      have ka13s : Blk W13s qa0 #[.int .i64 ((q : Int) + (m : Int))] 3 := by rw [hW13s]; exact HKa13.out.set 0 _
      have ka14 := ka13s.below hdr ka13s.lt
      have kn13s := HKn13.out.grown hgd (fun e => by have := Option.some.inj e; omega)
      have kn14 := kn13s.below hdr kn13s.lt
      have kr13s := HKr13.out.grown hgd (fun e => by have := Option.some.inj e; omega)
      have kr14 := kr13s.below hdr kr13s.lt
      have hG14 := (HG13.out.other hgd HKa13.out (by omega) (by omega) (by decide) (by decide)).below hdr
      have hKo14 := (HKo13.out.trans (show KeepsOthers W13 W13s by rw [hW13s]; exact KeepsOthers.setCell _ _ _)).trans (keeps_below hdr)
      obtain ⟨W15, hW15⟩ : ∃ W15, W15 = W14.setCell ⟨qa0 + 1, 0, none⟩ (.int .i64 ((j : Int) + 1)) := ⟨_, rfl⟩
      have hge : W14.grownBy W15 (some (qa0 + 1)) := by rw [hW15]; exact grownBy_set _ _ _ _
      have HKa15 := hide (ka14.grown hge (fun e => by have := Option.some.inj e; omega))
      have HKn15 : Hid (Blk W15 (qa0 + 1) #[.int .i64 ((j : Int) + 1)] 3) := hide (by rw [hW15]; exact kn14.set 0 _)
      have HKr15 := hide (kr14.grown hge (fun e => by have := Option.some.inj e; omega))
      have HG15 := hide (hG14.other hge kn14 (by omega) (by omega) (by decide) (by decide))
      have HKo : Hid (KeepsOthers W W15) := hide (hKo14.trans (by rw [hW15]; exact KeepsOthers.setCell _ _ _))
      have z1 : W14.cell? ⟨qa0 + 1, 0, none⟩ = some (.int .i64 (j : Int)) := kn14.cell 0
      have z2 := kn14.frozen 0
      have z3 : W15.cell? ⟨(w6.heap.size + 1), 0, none⟩ = some (.int .i64 0) := HKr15.out.cell 0
      have z4 : W15.cell? ⟨qa0 + 1, 0, none⟩ = some (.int .i64 ((j : Int) + 1)) := HKn15.out.cell 0
      have z5 : W15.cell? ⟨w.heap.size + 1, 0, none⟩ = some (.int .i64 stop) := (HS6.out.below HG15.out.bel HS6.out.lt).cell 0
      have hN1 : pre.length + 1 = j + 1 := by rw [HJJ.out]
      have HI : Hid (∀ x : Rec, Blk W15 qa0 #[.int .i64 ((posK mn me mx X (pre ++ [x]).length : Nat) : Int)] 3 ∧ Blk W15 (qa0 + 1) #[.int .i64 (((pre ++ [x]).length : Nat) : Int)] 3 ∧ Blk W15 (w6.heap.size + 1) #[.int .i64 0] 3 ∧ (∃ vl lvs ys, KSt w6 W15 w6.heap.size vl (0 + (pre ++ [x]).length) lvs ys) ∧ AllD [] W15 ∧ V0.heap.size ≤ W15.heap.size) := hide (fun x => by
        rw [snoc_len, hN1]
        refine ⟨?_, ?_, HKr15.out, ⟨_, _, _, by rw [show 0 + (j + 1) = cc + 1 from by rw [HCC.out]; omega]; exact HG15.out⟩, HAW.out.keep HKo.out, Nat.le_trans HV4.out HKo.out.size⟩
        · rw [HP0.out]; push_cast; exact HKa15.out
        · push_cast; exact HKn15.out)
      rw [hW15] at z3 z4 z5
      clear hdr hgd hge ka13s kn13s kr13s hW13s ka14 kn14 kr14 hG14 hKo14 u1 u2 u3 u4 u5 HG13 HKa13 HKn13 HKr13 HKo13 HRow
      gi_wp2
      rw [← hW15]
      exact ⟨HKo.out, keepR_of HGW.out.bel HG15.out.bel HKo.out.size, HI.out _⟩
  case fin0 =>
    rintro D0 xs W hD0 hSp ⟨hka, hkn, hkr, ⟨vl0, lvs0, ys0, hGW⟩, hAW, hVW⟩ hK
    have hcnt : xs.length = N := by
      rcases hSp with ⟨h1, h2⟩ | h
      · exact (first_one HC1.out HC2.out h1 h2).symm
      · exact h.elim
    obtain ⟨k, hk⟩ : ∃ k, k = xs.length := ⟨_, rfl⟩
    rw [← hk] at hkn hGW hcnt
    obtain ⟨n0, hn0⟩ : ∃ n, n = 0 + k := ⟨_, rfl⟩
    rw [← hn0] at hGW
    have hkN : k ≤ N := by omega
    have hnb0 : n0 ≤ (0 + 1) * 1048576 := by omega
    have hc12 : W.cell? ⟨qa0 + 1, 0, none⟩ = some (.int .i64 ((k : Nat) : Int)) := hkn.cell 0
    have hc10 : W.cell? ⟨(w6.heap.size + 1), 0, none⟩ = some (.int .i64 0) := hkr.cell 0
    have hc5 : W.cell? ⟨w1.heap.size, 0, none⟩ = some (.slice wa N wc) := (HL6.out.below hGW.bel HL6.out.lt).cell 0
    have hcs : W.cell? ⟨w.heap.size + 1, 0, none⟩ = some (.int .i64 stop) := (HS6.out.below hGW.bel HS6.out.lt).cell 0
    obtain ⟨qr0, hqr'⟩ : ∃ q, q = W.heap.size := ⟨_, rfl⟩
    obtain ⟨Y0, hY0⟩ : ∃ Y, Y = W.alloc (.cells #[.int .i64 1] 3) := ⟨_, rfl⟩
    have hbY : Below W.heap.size W Y0 := by rw [hY0]; exact (Below.refl _ _).alloc (Nat.le_refl _) _
    have HGY0 := hide (hGW.below hbY)
    have HAY0 : Hid (AllD [D0] Y0) := hide (AllD.below (fun D hD => by
      rcases List.mem_cons.1 hD with e | e
      · rw [e]; exact hK
      · exact hAW D e) hbY)
    have HTY0 : Hid (Blk Y0 qr0 #[.int .i64 1] 3) := hide (by rw [hY0, hqr']; exact Blk.made _ _ _)
    have hqg0 : w6.heap.size < qr0 := by have := hkr.lt; omega
    have HDn0 : Hid (∀ D ∈ [], D ≠ D0) := hide (fun D hD => by have := HDl0.out D hD; omega)
    have HDw0 : Hid (w.heap.size ≤ D0) := hide (by have := HV6L0.out; omega)
    clear hSp hka hkn hkr hGW hAW hVW hK hbY hn0 hk
    have hce := hcnt.symm
    clear hcnt
    subst hce
    have hbb : ((N : Int) == (N : Int)) = true := beq_self_eq_true _
    go_wp2
    rw [← hY0, ← hqr']
    clear hY0 hqr' hc12 hc10 hc5 hcs hkN
    rw [rounds_succ]
    obtain ⟨qa1, hqa1⟩ : ∃ q, q = Y0.heap.size := ⟨_, rfl⟩
    obtain ⟨V1, hV1⟩ : ∃ V, V = (Y0.alloc (.cells #[.int .i64 0] 3)).alloc (.cells #[.int .i64 0] 3) := ⟨_, rfl⟩
    have hbV1 : Below Y0.heap.size Y0 V1 := by rw [hV1]; exact ((Below.refl _ _).alloc (Nat.le_refl _) _).alloc (by simp) _
    have HGV1 := hide (HGY0.out.below hbV1)
    have HAV1 : Hid (AllD [D0] V1) := hide (HAY0.out.below hbV1)
    have HTV1 := hide (HTY0.out.below hbV1 HTY0.out.lt)
    have HKa1 : Hid (Blk V1 qa1 #[.int .i64 0] 3) := hide (by rw [hV1, hqa1]; exact (Blk.made _ _ _).alloc _)
    have HKn1 : Hid (Blk V1 (qa1 + 1) #[.int .i64 0] 3) := hide (by
      have h := Blk.made (Y0.alloc (.cells #[.int .i64 0] 3)) #[.int .i64 0] 3
      rw [World.size_alloc] at h
      rw [hV1, hqa1]; exact h)
    have hqr1 : w6.heap.size < qr0 := by omega
    have hqq1 : qr0 < qa1 := by rw [hqa1]; exact HTY0.out.lt
    have HDl1 : Hid (∀ D ∈ [D0], D < V1.heap.size) := hide (fun D hD => (Array.getElem?_eq_some_iff.1 (HAV1.out D hD)).1)
    have HV6L1 : Hid (w6.heap.size ≤ V1.heap.size) := hide HGV1.out.bel.size
    have hct1 : Y0.cell? ⟨qr0, 0, none⟩ = some (.int .i64 1) := HTY0.out.cell 0
    clear hbV1
    go_wp2
    rw [← hV1, ← hqa1]
    clear hV1 hqa1 hct1
    refine (wpIn_wide (n := 5)).1 ?_
    refine wpIn_rangeBrk 2 rfl (by omega) (gf := gf) (lb := lb) rfl trivial HEn.out (HSeq.out (5 - 1)) HGV1.out.bel HV6L1.out (fun _ => rfl) (pcFit_put mn me mx X)
      (fun pre => (pre.length : Int) = stop ∧ 1 ≤ pre.length ∧ pre.length ≤ N) (fun _ _ h => inBlock_exit _ h)
      (fun pre W => Blk W qa1 #[.int .i64 ((posK mn me mx X pre.length : Nat) : Int)] 3 ∧ Blk W (qa1 + 1) #[.int .i64 ((pre.length : Nat) : Int)] 3 ∧ Blk W qr0 #[.int .i64 1] 3 ∧ (∃ vl lvs ys, KSt w6 W w6.heap.size vl (n0 + pre.length) lvs ys) ∧ AllD [D0] W ∧ V1.heap.size ≤ W.heap.size)
      (OwnFrom.and (blk_ownFrom _ _ _ (fun pre : List Rec => #[.int .i64 ((posK mn me mx X pre.length : Nat) : Int)])) (OwnFrom.and (blk_ownFrom _ _ _ (fun pre : List Rec => #[.int .i64 ((pre.length : Nat) : Int)])) (OwnFrom.and (blk_ownFrom _ _ _ (fun _ : List Rec => #[.int .i64 1])) (OwnFrom.and (KSt.ownFrom (c := fun pre : List Rec => n0 + pre.length) HV6L1.out) (OwnFrom.and (AllD.ownFrom HDl1.out) (fun s A C row hs hg hr => Nat.le_trans hs hg.size))))))
      ⟨HKa1.out, HKn1.out, HTV1.out, ⟨_, _, _, HGV1.out⟩, HAV1.out, Nat.le_refl _⟩ ?round1 ?fin1
    case round1 =>
      rintro l pre ⟨pq, bd, vx⟩ Wp W ⟨hka, hkn, hkr, ⟨vl, lvs, ys, hGp⟩, hAp, hW4⟩ hbW ⟨f1, f2, f3, f4⟩
      dsimp only at f2 f3 f4
      have hj : pre.length < N := Nat.lt_of_not_le fun h => HC2.out (f1 N h)
      subst f2 f3
      have hpl := pcK_len (HC1.out pre.length hj)
      have hlp := lenK_pos (HC1.out pre.length hj)
      obtain ⟨vx1, cx1, rfl, -, -⟩ := f4.slice
      have hGW := hGp.below hbW
      have hkaW := hka.below hbW hka.lt
      have hknW := hkn.below hbW hkn.lt
      have hkrW := hkr.below hbW hkr.lt
      have hAW := hAp.below hbW
      have hMp : ∀ i, i < n0 + pre.length → ∀ g, (lvs i).ownBlock = some g → g < Wp.heap.size := fun i hi g hg => (OwnsB.blk_ge (hGp.ls.own i hi) g hg).2
      have h7p : w6.heap.size ≤ Wp.heap.size := hGp.bel.size
      have hgw : ∃ gw, wa = some ⟨gw, 0, none⟩ := by
        obtain ⟨a', c', e, h⟩ := HO6.out.form
        obtain ⟨rfl, -, -⟩ := (Value.slice.injEq ..).mp e
        exact h (by rw [← HN.out]; omega)
      obtain ⟨gw, rfl⟩ := hgw
      have hrow : W.cell? ⟨gw, pre.length, none⟩ = some (.int .i64 ((lenK mn me mx X pre.length : Nat) : Int)) := by
        have h := (owns_below_at HO6.out hGW.bel).at pre.length (by rw [← HN.out]; exact hj)
        have e := HC3.out pre.length hj
        rw [List.getElem?_eq_getElem (by rw [← HN.out]; exact hj)] at e
        rw [h, Option.some.inj e]
      have HRow : Hid (∀ W', Below w6.heap.size w6 W' → W'.cell? ⟨gw, pre.length, none⟩ = some (.int .i64 ((lenK mn me mx X pre.length : Nat) : Int))) := hide (fun W' hb => by
        have h := (owns_below_at HO6.out hb).at pre.length (by rw [← HN.out]; exact hj)
        have e := HC3.out pre.length hj
        rw [List.getElem?_eq_getElem (by rw [← HN.out]; exact hj)] at e
        rw [h, Option.some.inj e])
      have hc5 : W.cell? ⟨w1.heap.size, 0, none⟩ = some (.slice (some ⟨gw, 0, none⟩) N wc) := (HL6.out.below hGW.bel HL6.out.lt).cell 0
      have hc3 : W.cell? ⟨w.heap.size, 3, none⟩ = some (.slice da X.length dc) := (HA6.out.below hGW.bel HA6.out.lt).cell 3
      have hca : W.cell? ⟨qa1, 0, none⟩ = some (.int .i64 ((posK mn me mx X pre.length : Nat) : Int)) := hkaW.cell 0
      have hcn : W.cell? ⟨qa1 + 1, 0, none⟩ = some (.int .i64 ((pre.length : Nat) : Int)) := hknW.cell 0
      have HRX := hide (HD6.out.below hGW.bel)
      have hdc : X.length ≤ dc := (HD6.out.cap).2.1
      have HP0 : Hid (posK mn me mx X (pre.length + 1) = posK mn me mx X pre.length + lenK mn me mx X pre.length) := hide rfl
      have HPC : Hid (pcK mn me mx X pre.length = (X.drop (posK mn me mx X pre.length)).take (lenK mn me mx X pre.length)) := hide rfl
      have HF4 := hide f4
      have HGW := hide hGW
      have HKaW := hide hkaW
      have HKnW := hide hknW
      have HKrW := hide hkrW
      have HAW := hide hAW
      have HMp := hide hMp
      have HV4 := hide (Nat.le_trans hW4 hbW.size)
      obtain ⟨y, hy⟩ : ∃ y, y = pcK mn me mx X pre.length := ⟨_, rfl⟩
      obtain ⟨j, hjj⟩ : ∃ j, j = pre.length := ⟨_, rfl⟩
      obtain ⟨m, hm⟩ : ∃ m, m = lenK mn me mx X pre.length := ⟨_, rfl⟩
      obtain ⟨q, hq⟩ : ∃ q, q = posK mn me mx X pre.length := ⟨_, rfl⟩
      have HJJ := hide hjj
      have HQ := hide hq
      have HY := hide hy
      rw [← hm] at hpl hlp hrow HRow HP0 HPC
      rw [← hq] at hlp hca HP0 HPC HKaW
      rw [← hy] at hpl HPC HF4 ⊢
      rw [hpl] at HF4 ⊢
      have HPL := hide hpl
      rw [← hjj] at hrow HRow hcn HKnW HGW HMp HP0
      obtain ⟨t, ht⟩ : ∃ t, t = q + m := ⟨_, rfl⟩
      have htl : t ≤ X.length := by omega
      have hwA : IntKind.i64.wrap ((q : Int) + (m : Int)) = (q : Int) + (m : Int) := by simp [IntKind.wrap, IntKind.bits, IntKind.signed]; omega
      have HTT := hide ht
      have hjN : ¬ ((N : Nat) : Int) ≤ (j : Int) := by omega
      have hjb : j < N := by omega
      have hjn : ¬ N ≤ j := by omega
      have hjd : decide (N ≤ j) = false := decide_eq_false hjn
      have HS2 := hide (fun W => slice_lh da X.length dc q t (by omega) (by omega) (q : Int) ((q : Int) + (m : Int)) rfl (by omega) W)
      have hRs := HRX.out.sliced q t (by omega) htl
      rw [show t - q = m from by omega, ← HPC.out] at hRs
      obtain ⟨su, hsu⟩ : ∃ su, su = sliced da q t dc 1 := ⟨_, rfl⟩
      rw [← hsu] at HS2 hRs
      have HSame := hide (fun d os => sameBytes_any (grow (redrawn W d) os) (.slice vx1 m cx1) su y (HF4.out.below (below_regrown W d os)).rd (hRs.below (below_regrown W d os)))
      clear f1 f4 hka hkn hkr hGp hAp hW4 hbW hGW hkaW hknW hkrW hAW hMp hy hm hjj hq hj hsu hRs ht hpl
      refine ⟨?aa1, ?asg1, ?bd1⟩
      case asg1 =>
        intro W0 K hK
        refine asg2 (x1 := .tmp 37) (x2 := .tmp 38) rfl rfl rfl rfl _ W0 K ?_
        exact hK
      case bd1 =>
        unfold recV
        simp only [List.zip_toArray, List.zip_cons_cons, List.zip_nil_right, List.foldl_toArray, List.foldl_cons, List.foldl_nil, List.setIfInBounds_toArray, List.set_cons_succ, List.set_cons_zero, Act.put, Act.eval]
        rw [← HQ.out]
        gi_wp2
        have x1 := fun d os => cell_regrown hcn d os
        have x2 := fun d os => cell_regrown hc5 d os
        have x3 := fun d os => cell_regrown hca d os
        have x4 := fun d os => cell_regrown hc3 d os
        have x5 := fun d os => cell_regrown hrow d os
        refine wpIn_round_quiet (by kernel_rfl) (by kernel_rfl) (by kernel_rfl) ?_
        iterate 20 quiet_step (fail)
        refine wpQuiet_val su rfl (fun w hw => ?_) ?_
        · exact run_sliceLH rfl rfl rfl rfl (HS2.out w)
        quiet_step (exact Calls.regrown_of (HSame.out _ _))
        quiet_step (fail)
        quiet_step (fail)
        refine wpQuiet_nil ?_
        intro w10 hw'
        obtain ⟨⟨dq, osq⟩, hw''⟩ := hw'
        have hb10 := below_regrown W dq osq
        rw [← show w10 = grow (redrawn W dq) osq from hw''] at hb10
        obtain ⟨cc, hcc⟩ : ∃ cc, cc = n0 + j := ⟨_, rfl⟩
        rw [← hcc] at HGW HMp
        have HCC := hide hcc
        have hccb : cc ≤ 100000000 := by omega
        have hG10 := HGW.out.below hb10
        have f10 := HF4.out.below hb10
        have ka10 := HKaW.out.below hb10 HKaW.out.lt
        have kn10 := HKnW.out.below hb10 HKnW.out.lt
        have kr10 := HKrW.out.below hb10 HKrW.out.lt
        obtain ⟨al, cl, rfl⟩ := row_form hG10.lists
        have hc13 : w10.cell? ⟨w6.heap.size, 0, none⟩ = some (.slice al cc cl) := hG10.lbox.cell 0
        have HK10 : Hid (KeepsOthers W w10) := hide (keeps_below hb10)
        have HG10 := hide hG10
        have HF10 := hide f10
        have HKa10 := hide ka10
        have HKn10 := hide kn10
        have HKr10 := hide kr10
        clear hw'' x1 x2 x3 x4 x5 hG10 f10 ka10 kn10 kr10 hb10 HSame hrow hc5 hc3 hca hcn hcc HKaW HKnW HKrW HF4 HS2
        gi_wp2_with (gi_at_builtin; refine wpListIn_append_list rfl _ _ rfl w6.heap.size _ cc ((List.range cc).map lvs) rfl ?c11 w10.heap.size 1 rfl (.slice vx1 m cx1) rfl ?c21 ?c31 ?c41 ?_)
        case c11 => exact owns_below HG10.out.lists ((Below.refl _ _).alloc (Nat.le_refl _) _)
        case c21 => exact (Blk.made _ _ _).cell 0
        case c31 => omega
        case c41 => have := HG10.out.bel.size; simp; omega
        intro v' w12 HO' HG' HBk
        obtain ⟨al2, cl2, rfl⟩ := row_form HO'.out
        have hal : Below w10.heap.size w10 (w10.alloc (.cells #[.slice vx1 m cx1] 24)) := (Below.refl _ _).alloc (Nat.le_refl _) _
        have h1' := HG10.out.below hal
        have hG13 := HG10.out.add HF10.out HMp.out h7p (by rw [HPL.out]; omega) (Nat.le_refl _) HO'.out HG'.out
        have lb2 := h1'.lbox.grown HG'.out (fun e => blk_own_ne h1'.lbox h1'.lists (by decide) w6.heap.size e.symm rfl)
        have ka2 := (HKa10.out.alloc (.cells #[.slice vx1 m cx1] 24)).grown HG'.out (fun e => blk_own_ne (HKa10.out.alloc (.cells #[.slice vx1 m cx1] 24)) h1'.lists (by decide) qa1 e.symm rfl)
        have kn2 := (HKn10.out.alloc (.cells #[.slice vx1 m cx1] 24)).grown HG'.out (fun e => blk_own_ne (HKn10.out.alloc (.cells #[.slice vx1 m cx1] 24)) h1'.lists (by decide) (qa1 + 1) e.symm rfl)
        have kr2 := (HKr10.out.alloc (.cells #[.slice vx1 m cx1] 24)).grown HG'.out (fun e => blk_own_ne (HKr10.out.alloc (.cells #[.slice vx1 m cx1] 24)) h1'.lists (by decide) qr0 e.symm rfl)
        have y0 : w12.cell? ⟨w6.heap.size, 0, none⟩ = some (.slice al cc cl) := lb2.cell 0
        have y1 := lb2.frozen 0
        obtain ⟨W13, hW13⟩ : ∃ W13, W13 = w12.setCell ⟨w6.heap.size, 0, none⟩ (.slice al2 (cc + 1) cl2) := ⟨_, rfl⟩
        have ka13 : Blk W13 qa1 #[.int .i64 (q : Int)] 3 := by rw [hW13]; exact ka2.setOther _ _ (by show qa1 ≠ w6.heap.size; omega)
        have kn13 : Blk W13 (qa1 + 1) #[.int .i64 (j : Int)] 3 := by rw [hW13]; exact kn2.setOther _ _ (by show qa1 + 1 ≠ w6.heap.size; omega)
        have kr13 : Blk W13 qr0 #[.int .i64 1] 3 := by rw [hW13]; exact kr2.setOther _ _ (by show qr0 ≠ w6.heap.size; omega)
        have hKo13 : KeepsOthers W W13 := ((HK10.out.trans (keeps_below hal)).trans (keeps_own h1'.lists HG'.out)).trans (by rw [hW13]; exact KeepsOthers.setCell _ _ _)
        rw [← hW13] at hG13
        have HG13 := hide hG13
        have HKa13 := hide ka13
        have HKn13 := hide kn13
        have HKr13 := hide kr13
        have HKo13 := hide hKo13
        clear h1' hal lb2 ka2 kn2 kr2 ka13 kn13 kr13 hG13 hKo13 HO' HG' HBk HG10 HF10 HKa10 HKn10 HKr10 hc13 HK10
        gi_wp2
        rw [← hW13]
        clear y0 y1 hW13
        have u1 : W13.cell? ⟨qa1, 0, none⟩ = some (.int .i64 (q : Int)) := HKa13.out.cell 0
        have u2 : W13.cell? ⟨w1.heap.size, 0, none⟩ = some (.slice (some ⟨gw, 0, none⟩) N wc) := (HL6.out.below HG13.out.bel HL6.out.lt).cell 0
        have u3 : W13.cell? ⟨qa1 + 1, 0, none⟩ = some (.int .i64 (j : Int)) := HKn13.out.cell 0
        have u4 : W13.cell? ⟨gw, j, none⟩ = some (.int .i64 (m : Int)) := HRow.out _ HG13.out.bel
        have u5 := HKa13.out.frozen 0
        apply cutP
        · intro hP
          gi_region
          all_goals exact hP
        obtain ⟨W13s, hW13s⟩ : ∃ W13s, W13s = W13.setCell ⟨qa1, 0, none⟩ (.int .i64 ((q : Int) + (m : Int))) := ⟨_, rfl⟩
        obtain ⟨W14, hW14⟩ : ∃ W14, W14 = (W13.setCell ⟨qa1, 0, none⟩ (.int .i64 ((q : Int) + (m : Int)))).drew := ⟨_, rfl⟩
        have hdr : Below W13s.heap.size W13s W14 := by rw [hW14, hW13s]; exact below_drew _
        rw [← hW14]
        clear hW14
        have hgd : W13.grownBy W13s (some qa1) := by rw [hW13s]; exact grownBy_set _ _ _ _
        have ka13s : Blk W13s qa1 #[.int .i64 ((q : Int) + (m : Int))] 3 := by rw [hW13s]; exact HKa13.out.set 0 _
        have ka14 := ka13s.below hdr ka13s.lt
        have kn13s := HKn13.out.grown hgd (fun e => by have := Option.some.inj e; omega)
        have kn14 := kn13s.below hdr kn13s.lt
        have kr13s := HKr13.out.grown hgd (fun e => by have := Option.some.inj e; omega)
        have kr14 := kr13s.below hdr kr13s.lt
        have hG14 := (HG13.out.other hgd HKa13.out (by omega) (by omega) (by decide) (by decide)).below hdr
        have hKo14 := (HKo13.out.trans (show KeepsOthers W13 W13s by rw [hW13s]; exact KeepsOthers.setCell _ _ _)).trans (keeps_below hdr)
        obtain ⟨W15, hW15⟩ : ∃ W15, W15 = W14.setCell ⟨qa1 + 1, 0, none⟩ (.int .i64 ((j : Int) + 1)) := ⟨_, rfl⟩
        have hge : W14.grownBy W15 (some (qa1 + 1)) := by rw [hW15]; exact grownBy_set _ _ _ _
        have HKa15 := hide (ka14.grown hge (fun e => by have := Option.some.inj e; omega))
        have HKn15 : Hid (Blk W15 (qa1 + 1) #[.int .i64 ((j : Int) + 1)] 3) := hide (by rw [hW15]; exact kn14.set 0 _)
        have HKr15 := hide (kr14.grown hge (fun e => by have := Option.some.inj e; omega))
        have HG15 := hide (hG14.other hge kn14 (by omega) (by omega) (by decide) (by decide))
        have HKo : Hid (KeepsOthers W W15) := hide (hKo14.trans (by rw [hW15]; exact KeepsOthers.setCell _ _ _))
        have z1 : W14.cell? ⟨qa1 + 1, 0, none⟩ = some (.int .i64 (j : Int)) := kn14.cell 0
        have z2 := kn14.frozen 0
        have z3 : W15.cell? ⟨qr0, 0, none⟩ = some (.int .i64 1) := HKr15.out.cell 0
        have z4 : W15.cell? ⟨qa1 + 1, 0, none⟩ = some (.int .i64 ((j : Int) + 1)) := HKn15.out.cell 0
        have z5 : W15.cell? ⟨w.heap.size + 1, 0, none⟩ = some (.int .i64 stop) := (HS6.out.below HG15.out.bel HS6.out.lt).cell 0
        have hN1 : pre.length + 1 = j + 1 := by rw [HJJ.out]
        have HI : Hid (∀ x : Rec, Blk W15 qa1 #[.int .i64 ((posK mn me mx X (pre ++ [x]).length : Nat) : Int)] 3 ∧ Blk W15 (qa1 + 1) #[.int .i64 (((pre ++ [x]).length : Nat) : Int)] 3 ∧ Blk W15 qr0 #[.int .i64 1] 3 ∧ (∃ vl lvs ys, KSt w6 W15 w6.heap.size vl (n0 + (pre ++ [x]).length) lvs ys) ∧ AllD [D0] W15 ∧ V1.heap.size ≤ W15.heap.size) := hide (fun x => by
          rw [snoc_len, hN1]
          refine ⟨?_, ?_, HKr15.out, ⟨_, _, _, by rw [show n0 + (j + 1) = cc + 1 from by rw [HCC.out]; omega]; exact HG15.out⟩, HAW.out.keep HKo.out, Nat.le_trans HV4.out HKo.out.size⟩
          · rw [HP0.out]; push_cast; exact HKa15.out
          · push_cast; exact HKn15.out)
        rw [hW15] at z3 z4 z5
        clear hdr hgd hge ka13s kn13s kr13s hW13s ka14 kn14 kr14 hG14 hKo14 u1 u2 u3 u4 u5 HG13 HKa13 HKn13 HKr13 HKo13 HRow
        by_cases hst : (j : Int) + 1 = stop
        · have hsb : ((j : Int) + 1 == stop) = true := by rw [hst]; exact beq_self_eq_true _
          have HST := hide hst
          clear hst
          gi_wp2
          rw [← hW15]
          refine ⟨HKo.out, rfl, ⟨by rw [snoc_len, hN1]; push_cast; exact HST.out, by rw [snoc_len]; omega, by rw [snoc_len, hN1]; omega⟩, HI.out _⟩
        · have hsb : ((j : Int) + 1 == stop) = false := beq_false_of_ne hst
          gi_wp2
          rw [← hW15]
          exact ⟨HKo.out, keepR_of HGW.out.bel HG15.out.bel HKo.out.size, HI.out _⟩
    case fin1 =>
      rintro D1 xs W hD1 hSp ⟨hka, hkn, hkr, ⟨vl1, lvs1, ys1, hGW⟩, hAW, hVW⟩ hK
      have hcnt : xs.length = N ∨ ((xs.length : Int) = stop ∧ 1 ≤ xs.length ∧ xs.length ≤ N) := by
        rcases hSp with ⟨h1, h2⟩ | h
        · exact .inl (first_one HC1.out HC2.out h1 h2).symm
        · exact .inr h
      obtain ⟨k, hk⟩ : ∃ k, k = xs.length := ⟨_, rfl⟩
      rw [← hk] at hkn hGW hcnt
      obtain ⟨n1, hn1⟩ : ∃ n, n = n0 + k := ⟨_, rfl⟩
      rw [← hn1] at hGW
      have hkN : k ≤ N := by omega
      have hnb1 : n1 ≤ (1 + 1) * 1048576 := by omega
      have hc12 : W.cell? ⟨qa1 + 1, 0, none⟩ = some (.int .i64 ((k : Nat) : Int)) := hkn.cell 0
      have hc10 : W.cell? ⟨qr0, 0, none⟩ = some (.int .i64 1) := hkr.cell 0
      have hc5 : W.cell? ⟨w1.heap.size, 0, none⟩ = some (.slice wa N wc) := (HL6.out.below hGW.bel HL6.out.lt).cell 0
      have hcs : W.cell? ⟨w.heap.size + 1, 0, none⟩ = some (.int .i64 stop) := (HS6.out.below hGW.bel HS6.out.lt).cell 0
      obtain ⟨qr1, hqr'⟩ : ∃ q, q = W.heap.size := ⟨_, rfl⟩
      obtain ⟨Y1, hY1⟩ : ∃ Y, Y = W.alloc (.cells #[.int .i64 2] 3) := ⟨_, rfl⟩
      have hbY : Below W.heap.size W Y1 := by rw [hY1]; exact (Below.refl _ _).alloc (Nat.le_refl _) _
      have HGY1 := hide (hGW.below hbY)
      have HAY1 : Hid (AllD [D1, D0] Y1) := hide (AllD.below (fun D hD => by
        rcases List.mem_cons.1 hD with e | e
        · rw [e]; exact hK
        · exact hAW D e) hbY)
      have HTY1 : Hid (Blk Y1 qr1 #[.int .i64 2] 3) := hide (by rw [hY1, hqr']; exact Blk.made _ _ _)
      have hqg1 : w6.heap.size < qr1 := by have := hkr.lt; omega
      have HDn1 : Hid (∀ D ∈ [D0], D ≠ D1) := hide (fun D hD => by have := HDl1.out D hD; omega)
      have HDw1 : Hid (w.heap.size ≤ D1) := hide (by have := HV6L1.out; omega)
      clear hSp hka hkn hkr hGW hAW hVW hK hbY hn1 hk
      rcases (show (stop < 1 ∧ k = N) ∨ ((N : Int) < stop ∧ k = N) ∨ (¬ stop < 1 ∧ ¬ (N : Int) < stop) by omega) with ⟨hs1, hkk⟩ | ⟨hs2, hkk⟩ | ⟨hs1, hs2⟩
      · have hce := hkk.symm
        clear hkk
        subst hce
        have hbb : ((N : Int) == (N : Int)) = true := beq_self_eq_true _
        go_wp2
        rw [← hY1, ← hqr']
        clear hY1 hqr' hc12 hc10 hc5 hcs hcnt hkN
        rw [rounds_succ]
        obtain ⟨qa2, hqa2⟩ : ∃ q, q = Y1.heap.size := ⟨_, rfl⟩
        obtain ⟨V2, hV2⟩ : ∃ V, V = (Y1.alloc (.cells #[.int .i64 0] 3)).alloc (.cells #[.int .i64 0] 3) := ⟨_, rfl⟩
        have hbV2 : Below Y1.heap.size Y1 V2 := by rw [hV2]; exact ((Below.refl _ _).alloc (Nat.le_refl _) _).alloc (by simp) _
        have HGV2 := hide (HGY1.out.below hbV2)
        have HAV2 : Hid (AllD [D1, D0] V2) := hide (HAY1.out.below hbV2)
        have HTV2 := hide (HTY1.out.below hbV2 HTY1.out.lt)
        have HKa2 : Hid (Blk V2 qa2 #[.int .i64 0] 3) := hide (by rw [hV2, hqa2]; exact (Blk.made _ _ _).alloc _)
        have HKn2 : Hid (Blk V2 (qa2 + 1) #[.int .i64 0] 3) := hide (by
          have h := Blk.made (Y1.alloc (.cells #[.int .i64 0] 3)) #[.int .i64 0] 3
          rw [World.size_alloc] at h
          rw [hV2, hqa2]; exact h)
        have hqr2 : w6.heap.size < qr1 := by omega
        have hqq2 : qr1 < qa2 := by rw [hqa2]; exact HTY1.out.lt
        have HDl2 : Hid (∀ D ∈ [D1, D0], D < V2.heap.size) := hide (fun D hD => (Array.getElem?_eq_some_iff.1 (HAV2.out D hD)).1)
        have HV6L2 : Hid (w6.heap.size ≤ V2.heap.size) := hide HGV2.out.bel.size
        have hct2 : Y1.cell? ⟨qr1, 0, none⟩ = some (.int .i64 2) := HTY1.out.cell 0
        clear hbV2
        go_wp2
        rw [← hV2, ← hqa2]
        clear hV2 hqa2 hct2
        refine (wpIn_wide (n := 5)).1 ?_
        refine wpIn_rangeBrk 2 rfl (by omega) (gf := gf) (lb := lb) rfl trivial HEn.out (HSeq.out (5 - 1)) HGV2.out.bel HV6L2.out (fun _ => rfl) (pcFit_put mn me mx X)
          (fun _ => False) (fun _ _ h => inBlock_exit _ h)
          (fun pre W => Blk W qa2 #[.int .i64 ((posK mn me mx X pre.length : Nat) : Int)] 3 ∧ Blk W (qa2 + 1) #[.int .i64 ((pre.length : Nat) : Int)] 3 ∧ Blk W qr1 #[.int .i64 2] 3 ∧ (∃ vl lvs ys, KSt w6 W w6.heap.size vl (n1 + pre.length) lvs ys) ∧ AllD [D1, D0] W ∧ V2.heap.size ≤ W.heap.size)
          (OwnFrom.and (blk_ownFrom _ _ _ (fun pre : List Rec => #[.int .i64 ((posK mn me mx X pre.length : Nat) : Int)])) (OwnFrom.and (blk_ownFrom _ _ _ (fun pre : List Rec => #[.int .i64 ((pre.length : Nat) : Int)])) (OwnFrom.and (blk_ownFrom _ _ _ (fun _ : List Rec => #[.int .i64 2])) (OwnFrom.and (KSt.ownFrom (c := fun pre : List Rec => n1 + pre.length) HV6L2.out) (OwnFrom.and (AllD.ownFrom HDl2.out) (fun s A C row hs hg hr => Nat.le_trans hs hg.size))))))
          ⟨HKa2.out, HKn2.out, HTV2.out, ⟨_, _, _, HGV2.out⟩, HAV2.out, Nat.le_refl _⟩ ?round2x ?fin2x
        case round2x =>
          rintro l pre ⟨pq, bd, vx⟩ Wp W ⟨hka, hkn, hkr, ⟨vl, lvs, ys, hGp⟩, hAp, hW4⟩ hbW ⟨f1, f2, f3, f4⟩
          dsimp only at f2 f3 f4
          have hj : pre.length < N := Nat.lt_of_not_le fun h => HC2.out (f1 N h)
          subst f2 f3
          have hpl := pcK_len (HC1.out pre.length hj)
          have hlp := lenK_pos (HC1.out pre.length hj)
          obtain ⟨vx1, cx1, rfl, -, -⟩ := f4.slice
          have hGW := hGp.below hbW
          have hkaW := hka.below hbW hka.lt
          have hknW := hkn.below hbW hkn.lt
          have hkrW := hkr.below hbW hkr.lt
          have hAW := hAp.below hbW
          have hMp : ∀ i, i < n1 + pre.length → ∀ g, (lvs i).ownBlock = some g → g < Wp.heap.size := fun i hi g hg => (OwnsB.blk_ge (hGp.ls.own i hi) g hg).2
          have h7p : w6.heap.size ≤ Wp.heap.size := hGp.bel.size
          have hgw : ∃ gw, wa = some ⟨gw, 0, none⟩ := by
            obtain ⟨a', c', e, h⟩ := HO6.out.form
            obtain ⟨rfl, -, -⟩ := (Value.slice.injEq ..).mp e
            exact h (by rw [← HN.out]; omega)
          obtain ⟨gw, rfl⟩ := hgw
          have hrow : W.cell? ⟨gw, pre.length, none⟩ = some (.int .i64 ((lenK mn me mx X pre.length : Nat) : Int)) := by
            have h := (owns_below_at HO6.out hGW.bel).at pre.length (by rw [← HN.out]; exact hj)
            have e := HC3.out pre.length hj
            rw [List.getElem?_eq_getElem (by rw [← HN.out]; exact hj)] at e
            rw [h, Option.some.inj e]
          have HRow : Hid (∀ W', Below w6.heap.size w6 W' → W'.cell? ⟨gw, pre.length, none⟩ = some (.int .i64 ((lenK mn me mx X pre.length : Nat) : Int))) := hide (fun W' hb => by
            have h := (owns_below_at HO6.out hb).at pre.length (by rw [← HN.out]; exact hj)
            have e := HC3.out pre.length hj
            rw [List.getElem?_eq_getElem (by rw [← HN.out]; exact hj)] at e
            rw [h, Option.some.inj e])
          have hc5 : W.cell? ⟨w1.heap.size, 0, none⟩ = some (.slice (some ⟨gw, 0, none⟩) N wc) := (HL6.out.below hGW.bel HL6.out.lt).cell 0
          have hc3 : W.cell? ⟨w.heap.size, 3, none⟩ = some (.slice da X.length dc) := (HA6.out.below hGW.bel HA6.out.lt).cell 3
          have hca : W.cell? ⟨qa2, 0, none⟩ = some (.int .i64 ((posK mn me mx X pre.length : Nat) : Int)) := hkaW.cell 0
          have hcn : W.cell? ⟨qa2 + 1, 0, none⟩ = some (.int .i64 ((pre.length : Nat) : Int)) := hknW.cell 0
          have HRX := hide (HD6.out.below hGW.bel)
          have hdc : X.length ≤ dc := (HD6.out.cap).2.1
          have HP0 : Hid (posK mn me mx X (pre.length + 1) = posK mn me mx X pre.length + lenK mn me mx X pre.length) := hide rfl
          have HPC : Hid (pcK mn me mx X pre.length = (X.drop (posK mn me mx X pre.length)).take (lenK mn me mx X pre.length)) := hide rfl
          have HF4 := hide f4
          have HGW := hide hGW
          have HKaW := hide hkaW
          have HKnW := hide hknW
          have HKrW := hide hkrW
          have HAW := hide hAW
          have HMp := hide hMp
          have HV4 := hide (Nat.le_trans hW4 hbW.size)
          obtain ⟨y, hy⟩ : ∃ y, y = pcK mn me mx X pre.length := ⟨_, rfl⟩
          obtain ⟨j, hjj⟩ : ∃ j, j = pre.length := ⟨_, rfl⟩
          obtain ⟨m, hm⟩ : ∃ m, m = lenK mn me mx X pre.length := ⟨_, rfl⟩
          obtain ⟨q, hq⟩ : ∃ q, q = posK mn me mx X pre.length := ⟨_, rfl⟩
          have HJJ := hide hjj
          have HQ := hide hq
          have HY := hide hy
          rw [← hm] at hpl hlp hrow HRow HP0 HPC
          rw [← hq] at hlp hca HP0 HPC HKaW
          rw [← hy] at hpl HPC HF4 ⊢
          rw [hpl] at HF4 ⊢
          have HPL := hide hpl
          rw [← hjj] at hrow HRow hcn HKnW HGW HMp HP0
          obtain ⟨t, ht⟩ : ∃ t, t = q + m := ⟨_, rfl⟩
          have htl : t ≤ X.length := by omega
          have hwA : IntKind.i64.wrap ((q : Int) + (m : Int)) = (q : Int) + (m : Int) := by simp [IntKind.wrap, IntKind.bits, IntKind.signed]; omega
          have HTT := hide ht
          have hjN : ¬ ((N : Nat) : Int) ≤ (j : Int) := by omega
          have hjb : j < N := by omega
          have hjn : ¬ N ≤ j := by omega
          have hjd : decide (N ≤ j) = false := decide_eq_false hjn
          have HS2 := hide (fun W => slice_lh da X.length dc q t (by omega) (by omega) (q : Int) ((q : Int) + (m : Int)) rfl (by omega) W)
          have hRs := HRX.out.sliced q t (by omega) htl
          rw [show t - q = m from by omega, ← HPC.out] at hRs
          obtain ⟨su, hsu⟩ : ∃ su, su = sliced da q t dc 1 := ⟨_, rfl⟩
          rw [← hsu] at HS2 hRs
          have HSame := hide (fun d os => sameBytes_any (grow (redrawn W d) os) (.slice vx1 m cx1) su y (HF4.out.below (below_regrown W d os)).rd (hRs.below (below_regrown W d os)))
          clear f1 f4 hka hkn hkr hGp hAp hW4 hbW hGW hkaW hknW hkrW hAW hMp hy hm hjj hq hj hsu hRs ht hpl
          refine ⟨?aa2x, ?asg2x, ?bd2x⟩
          case asg2x =>
            intro W0 K hK
            refine asg2 (x1 := .tmp 37) (x2 := .tmp 38) rfl rfl rfl rfl _ W0 K ?_
            exact hK
          case bd2x =>
            unfold recV
            simp only [List.zip_toArray, List.zip_cons_cons, List.zip_nil_right, List.foldl_toArray, List.foldl_cons, List.foldl_nil, List.setIfInBounds_toArray, List.set_cons_succ, List.set_cons_zero, Act.put, Act.eval]
            rw [← HQ.out]
            gi_wp2
            have x1 := fun d os => cell_regrown hcn d os
            have x2 := fun d os => cell_regrown hc5 d os
            have x3 := fun d os => cell_regrown hca d os
            have x4 := fun d os => cell_regrown hc3 d os
            have x5 := fun d os => cell_regrown hrow d os
            refine wpIn_round_quiet (by kernel_rfl) (by kernel_rfl) (by kernel_rfl) ?_
            iterate 20 quiet_step (fail)
            refine wpQuiet_val su rfl (fun w hw => ?_) ?_
            · exact run_sliceLH rfl rfl rfl rfl (HS2.out w)
            quiet_step (exact Calls.regrown_of (HSame.out _ _))
            quiet_step (fail)
            quiet_step (fail)
            refine wpQuiet_nil ?_
            intro w10 hw'
            obtain ⟨⟨dq, osq⟩, hw''⟩ := hw'
            have hb10 := below_regrown W dq osq
            rw [← show w10 = grow (redrawn W dq) osq from hw''] at hb10
            obtain ⟨cc, hcc⟩ : ∃ cc, cc = n1 + j := ⟨_, rfl⟩
            rw [← hcc] at HGW HMp
            have HCC := hide hcc
            have hccb : cc ≤ 100000000 := by omega
            have hG10 := HGW.out.below hb10
            have f10 := HF4.out.below hb10
            have ka10 := HKaW.out.below hb10 HKaW.out.lt
            have kn10 := HKnW.out.below hb10 HKnW.out.lt
            have kr10 := HKrW.out.below hb10 HKrW.out.lt
            obtain ⟨al, cl, rfl⟩ := row_form hG10.lists
            have hc13 : w10.cell? ⟨w6.heap.size, 0, none⟩ = some (.slice al cc cl) := hG10.lbox.cell 0
            have HK10 : Hid (KeepsOthers W w10) := hide (keeps_below hb10)
            have HG10 := hide hG10
            have HF10 := hide f10
            have HKa10 := hide ka10
            have HKn10 := hide kn10
            have HKr10 := hide kr10
            clear hw'' x1 x2 x3 x4 x5 hG10 f10 ka10 kn10 kr10 hb10 HSame hrow hc5 hc3 hca hcn hcc HKaW HKnW HKrW HF4 HS2
            gi_wp2_with (gi_at_builtin; refine wpListIn_append_list rfl _ _ rfl w6.heap.size _ cc ((List.range cc).map lvs) rfl ?c12x w10.heap.size 1 rfl (.slice vx1 m cx1) rfl ?c22x ?c32x ?c42x ?_)
            case c12x => exact owns_below HG10.out.lists ((Below.refl _ _).alloc (Nat.le_refl _) _)
            case c22x => exact (Blk.made _ _ _).cell 0
            case c32x => omega
            case c42x => have := HG10.out.bel.size; simp; omega
            intro v' w12 HO' HG' HBk
            obtain ⟨al2, cl2, rfl⟩ := row_form HO'.out
            have hal : Below w10.heap.size w10 (w10.alloc (.cells #[.slice vx1 m cx1] 24)) := (Below.refl _ _).alloc (Nat.le_refl _) _
            have h1' := HG10.out.below hal
            have hG13 := HG10.out.add HF10.out HMp.out h7p (by rw [HPL.out]; omega) (Nat.le_refl _) HO'.out HG'.out
            have lb2 := h1'.lbox.grown HG'.out (fun e => blk_own_ne h1'.lbox h1'.lists (by decide) w6.heap.size e.symm rfl)
            have ka2 := (HKa10.out.alloc (.cells #[.slice vx1 m cx1] 24)).grown HG'.out (fun e => blk_own_ne (HKa10.out.alloc (.cells #[.slice vx1 m cx1] 24)) h1'.lists (by decide) qa2 e.symm rfl)
            have kn2 := (HKn10.out.alloc (.cells #[.slice vx1 m cx1] 24)).grown HG'.out (fun e => blk_own_ne (HKn10.out.alloc (.cells #[.slice vx1 m cx1] 24)) h1'.lists (by decide) (qa2 + 1) e.symm rfl)
            have kr2 := (HKr10.out.alloc (.cells #[.slice vx1 m cx1] 24)).grown HG'.out (fun e => blk_own_ne (HKr10.out.alloc (.cells #[.slice vx1 m cx1] 24)) h1'.lists (by decide) qr1 e.symm rfl)
            have y0 : w12.cell? ⟨w6.heap.size, 0, none⟩ = some (.slice al cc cl) := lb2.cell 0
            have y1 := lb2.frozen 0
            obtain ⟨W13, hW13⟩ : ∃ W13, W13 = w12.setCell ⟨w6.heap.size, 0, none⟩ (.slice al2 (cc + 1) cl2) := ⟨_, rfl⟩
            have ka13 : Blk W13 qa2 #[.int .i64 (q : Int)] 3 := by rw [hW13]; exact ka2.setOther _ _ (by show qa2 ≠ w6.heap.size; omega)
            have kn13 : Blk W13 (qa2 + 1) #[.int .i64 (j : Int)] 3 := by rw [hW13]; exact kn2.setOther _ _ (by show qa2 + 1 ≠ w6.heap.size; omega)
            have kr13 : Blk W13 qr1 #[.int .i64 2] 3 := by rw [hW13]; exact kr2.setOther _ _ (by show qr1 ≠ w6.heap.size; omega)
            have hKo13 : KeepsOthers W W13 := ((HK10.out.trans (keeps_below hal)).trans (keeps_own h1'.lists HG'.out)).trans (by rw [hW13]; exact KeepsOthers.setCell _ _ _)
            rw [← hW13] at hG13
            have HG13 := hide hG13
            have HKa13 := hide ka13
            have HKn13 := hide kn13
            have HKr13 := hide kr13
            have HKo13 := hide hKo13
            clear h1' hal lb2 ka2 kn2 kr2 ka13 kn13 kr13 hG13 hKo13 HO' HG' HBk HG10 HF10 HKa10 HKn10 HKr10 hc13 HK10
            gi_wp2
            rw [← hW13]
            clear y0 y1 hW13
            have u1 : W13.cell? ⟨qa2, 0, none⟩ = some (.int .i64 (q : Int)) := HKa13.out.cell 0
            have u2 : W13.cell? ⟨w1.heap.size, 0, none⟩ = some (.slice (some ⟨gw, 0, none⟩) N wc) := (HL6.out.below HG13.out.bel HL6.out.lt).cell 0
            have u3 : W13.cell? ⟨qa2 + 1, 0, none⟩ = some (.int .i64 (j : Int)) := HKn13.out.cell 0
            have u4 : W13.cell? ⟨gw, j, none⟩ = some (.int .i64 (m : Int)) := HRow.out _ HG13.out.bel
            have u5 := HKa13.out.frozen 0
            apply cutP
            · intro hP
              gi_region
              all_goals exact hP
            obtain ⟨W13s, hW13s⟩ : ∃ W13s, W13s = W13.setCell ⟨qa2, 0, none⟩ (.int .i64 ((q : Int) + (m : Int))) := ⟨_, rfl⟩
            obtain ⟨W14, hW14⟩ : ∃ W14, W14 = (W13.setCell ⟨qa2, 0, none⟩ (.int .i64 ((q : Int) + (m : Int)))).drew := ⟨_, rfl⟩
            have hdr : Below W13s.heap.size W13s W14 := by rw [hW14, hW13s]; exact below_drew _
            rw [← hW14]
            clear hW14
            have hgd : W13.grownBy W13s (some qa2) := by rw [hW13s]; exact grownBy_set _ _ _ _
            have ka13s : Blk W13s qa2 #[.int .i64 ((q : Int) + (m : Int))] 3 := by rw [hW13s]; exact HKa13.out.set 0 _
            have ka14 := ka13s.below hdr ka13s.lt
            have kn13s := HKn13.out.grown hgd (fun e => by have := Option.some.inj e; omega)
            have kn14 := kn13s.below hdr kn13s.lt
            have kr13s := HKr13.out.grown hgd (fun e => by have := Option.some.inj e; omega)
            have kr14 := kr13s.below hdr kr13s.lt
            have hG14 := (HG13.out.other hgd HKa13.out (by omega) (by omega) (by decide) (by decide)).below hdr
            have hKo14 := (HKo13.out.trans (show KeepsOthers W13 W13s by rw [hW13s]; exact KeepsOthers.setCell _ _ _)).trans (keeps_below hdr)
            obtain ⟨W15, hW15⟩ : ∃ W15, W15 = W14.setCell ⟨qa2 + 1, 0, none⟩ (.int .i64 ((j : Int) + 1)) := ⟨_, rfl⟩
            have hge : W14.grownBy W15 (some (qa2 + 1)) := by rw [hW15]; exact grownBy_set _ _ _ _
            have HKa15 := hide (ka14.grown hge (fun e => by have := Option.some.inj e; omega))
            have HKn15 : Hid (Blk W15 (qa2 + 1) #[.int .i64 ((j : Int) + 1)] 3) := hide (by rw [hW15]; exact kn14.set 0 _)
            have HKr15 := hide (kr14.grown hge (fun e => by have := Option.some.inj e; omega))
            have HG15 := hide (hG14.other hge kn14 (by omega) (by omega) (by decide) (by decide))
            have HKo : Hid (KeepsOthers W W15) := hide (hKo14.trans (by rw [hW15]; exact KeepsOthers.setCell _ _ _))
            have z1 : W14.cell? ⟨qa2 + 1, 0, none⟩ = some (.int .i64 (j : Int)) := kn14.cell 0
            have z2 := kn14.frozen 0
            have z3 : W15.cell? ⟨qr1, 0, none⟩ = some (.int .i64 2) := HKr15.out.cell 0
            have z4 : W15.cell? ⟨qa2 + 1, 0, none⟩ = some (.int .i64 ((j : Int) + 1)) := HKn15.out.cell 0
            have z5 : W15.cell? ⟨w.heap.size + 1, 0, none⟩ = some (.int .i64 stop) := (HS6.out.below HG15.out.bel HS6.out.lt).cell 0
            have hN1 : pre.length + 1 = j + 1 := by rw [HJJ.out]
            have HI : Hid (∀ x : Rec, Blk W15 qa2 #[.int .i64 ((posK mn me mx X (pre ++ [x]).length : Nat) : Int)] 3 ∧ Blk W15 (qa2 + 1) #[.int .i64 (((pre ++ [x]).length : Nat) : Int)] 3 ∧ Blk W15 qr1 #[.int .i64 2] 3 ∧ (∃ vl lvs ys, KSt w6 W15 w6.heap.size vl (n1 + (pre ++ [x]).length) lvs ys) ∧ AllD [D1, D0] W15 ∧ V2.heap.size ≤ W15.heap.size) := hide (fun x => by
              rw [snoc_len, hN1]
              refine ⟨?_, ?_, HKr15.out, ⟨_, _, _, by rw [show n1 + (j + 1) = cc + 1 from by rw [HCC.out]; omega]; exact HG15.out⟩, HAW.out.keep HKo.out, Nat.le_trans HV4.out HKo.out.size⟩
              · rw [HP0.out]; push_cast; exact HKa15.out
              · push_cast; exact HKn15.out)
            rw [hW15] at z3 z4 z5
            clear hdr hgd hge ka13s kn13s kr13s hW13s ka14 kn14 kr14 hG14 hKo14 u1 u2 u3 u4 u5 HG13 HKa13 HKn13 HKr13 HKo13 HRow
            gi_wp2
            rw [← hW15]
            exact ⟨HKo.out, keepR_of HGW.out.bel HG15.out.bel HKo.out.size, HI.out _⟩
        case fin2x =>
          rintro D2 xs W hD2 hSp ⟨hka, hkn, hkr, ⟨vl2, lvs2, ys2, hGW⟩, hAW, hVW⟩ hK
          have hcnt : xs.length = N := by
            rcases hSp with ⟨h1, h2⟩ | h
            · exact (first_one HC1.out HC2.out h1 h2).symm
            · exact h.elim
          obtain ⟨k, hk⟩ : ∃ k, k = xs.length := ⟨_, rfl⟩
          rw [← hk] at hkn hGW hcnt
          obtain ⟨n2, hn2⟩ : ∃ n, n = n1 + k := ⟨_, rfl⟩
          rw [← hn2] at hGW
          have hkN : k ≤ N := by omega
          have hnb2 : n2 ≤ (2 + 1) * 1048576 := by omega
          have hc12 : W.cell? ⟨qa2 + 1, 0, none⟩ = some (.int .i64 ((k : Nat) : Int)) := hkn.cell 0
          have hc10 : W.cell? ⟨qr1, 0, none⟩ = some (.int .i64 2) := hkr.cell 0
          have hc5 : W.cell? ⟨w1.heap.size, 0, none⟩ = some (.slice wa N wc) := (HL6.out.below hGW.bel HL6.out.lt).cell 0
          have hcs : W.cell? ⟨w.heap.size + 1, 0, none⟩ = some (.int .i64 stop) := (HS6.out.below hGW.bel HS6.out.lt).cell 0
          obtain ⟨qr2, hqr'⟩ : ∃ q, q = W.heap.size := ⟨_, rfl⟩
          obtain ⟨Y2, hY2⟩ : ∃ Y, Y = W.alloc (.cells #[.int .i64 3] 3) := ⟨_, rfl⟩
          have hbY : Below W.heap.size W Y2 := by rw [hY2]; exact (Below.refl _ _).alloc (Nat.le_refl _) _
          have HGY2 := hide (hGW.below hbY)
          have HAY2 : Hid (AllD [D2, D1, D0] Y2) := hide (AllD.below (fun D hD => by
            rcases List.mem_cons.1 hD with e | e
            · rw [e]; exact hK
            · exact hAW D e) hbY)
          have HTY2 : Hid (Blk Y2 qr2 #[.int .i64 3] 3) := hide (by rw [hY2, hqr']; exact Blk.made _ _ _)
          have hqg2 : w6.heap.size < qr2 := by have := hkr.lt; omega
          have HDn2 : Hid (∀ D ∈ [D1, D0], D ≠ D2) := hide (fun D hD => by have := HDl2.out D hD; omega)
          have HDw2 : Hid (w.heap.size ≤ D2) := hide (by have := HV6L2.out; omega)
          clear hSp hka hkn hkr hGW hAW hVW hK hbY hn2 hk
          have hce := hcnt.symm
          clear hcnt
          subst hce
          have hbb : ((N : Int) == (N : Int)) = true := beq_self_eq_true _
          go_wp2
          rw [← hY2, ← hqr']
          clear hY2 hqr' hc12 hc10 hc5 hcs hkN
          rw [rounds_succ]
          obtain ⟨al, cl, rfl⟩ := row_form HGY2.out.lists
          obtain ⟨R, hR⟩ := HGY2.out.lrow
          have hct : Y2.cell? ⟨qr2, 0, none⟩ = some (.int .i64 3) := HTY2.out.cell 0
          have hck : Y2.cell? ⟨w6.heap.size, 0, none⟩ = some (.slice al n2 cl) := HGY2.out.lbox.cell 0
          have HAp := hide (apart_keeps Y2 w6.heap.size R n2 al cl lvs2 ys2 (fun i => (ys2 i).length) (fun _ _ => rfl) HGY2.out.ls hR HGY2.out.bel.size (by omega) HGY2.out.len)
          clear hR
          go_wp2_with fail
          refine HAp.out.mono ?_
          rintro e wA ⟨rfl, hbA, hkA⟩
          have HBA : Hid (Below w6.heap.size w6 wA) := hide (HGY2.out.bel.trans hbA)
          have HKA := hide hkA
          have HLf := hide (left_any wA _ g cap _ X (owns_below HOl6.out HBA.out) (by omega) hcap (HD6.out.below HBA.out))
          have hca : wA.cell? ⟨w.heap.size, 3, none⟩ = some (.slice da X.length dc) := (HA6.out.below HBA.out HA6.out.lt).cell 3
          clear hbA hkA HAp hct hck
          go_wp2_with fail
          refine HLf.out.mono ?_
          rintro e wB ⟨rfl, hbB⟩
          have HBB := hide (Below.step HBA.out hbB)
          have HKB := hide (HKA.out.trans (keeps_below hbB))
          have HLv := hide (lives_any wB (HT6.out.below HBB.out HT6.out.size))
          clear hbB HLf hca
          go_wp2_with fail
          refine HLv.out.mono ?_
          rintro e wC ⟨rfl, hbC⟩
          have HBC := hide (Below.step HBB.out hbC)
          have HKC := hide (HKB.out.trans (keeps_below hbC))
          have HRC := hide (HR6.out.below HBC.out HR6.out.lt)
          have hcr : wC.cell? ⟨w.heap.size + 1 + 1, 0, none⟩ = some (.bool false) := HRC.out.cell 0
          have hfr := HRC.out.frozen 0
          have HBZ : Hid (Below w.heap.size w (wC.setCell ⟨w.heap.size + 1 + 1, 0, none⟩ (.bool true))) := hide ((Below.step HBw6.out HBC.out).setCell (p := ⟨w.heap.size + 1 + 1, 0, none⟩) (by show w.heap.size ≤ w.heap.size + 1 + 1; omega) _)
          have HAZ : Hid (AllD [D2, D1, D0] (wC.setCell ⟨w.heap.size + 1 + 1, 0, none⟩ (.bool true))) := hide ((HAY2.out.keep HKC.out).keep (KeepsOthers.setCell _ _ _))
          have HRZ : Hid (Blk (wC.setCell ⟨w.heap.size + 1 + 1, 0, none⟩ (.bool true)) (w.heap.size + 1 + 1) #[.bool true] 4) := hide (HRC.out.set 0 (.bool true))
          clear hbC HLv
          go_wp2
          exact leave3c (t := 4) rfl HAZ.out (HDn1.out D0 (by simp)) (HDn2.out D0 (by simp)) (HDn2.out D1 (by simp)) rfl HRZ.out HBZ.out HDw0.out HDw1.out HDw2.out
      · have hce := hkk.symm
        clear hkk
        subst hce
        have hs1 : ¬ stop < 1 := by omega
        have hbb : ((N : Int) == (N : Int)) = true := beq_self_eq_true _
        go_wp2
        rw [← hY1, ← hqr']
        clear hY1 hqr' hc12 hc10 hc5 hcs hcnt hkN
        rw [rounds_succ]
        obtain ⟨qa2, hqa2⟩ : ∃ q, q = Y1.heap.size := ⟨_, rfl⟩
        obtain ⟨V2, hV2⟩ : ∃ V, V = (Y1.alloc (.cells #[.int .i64 0] 3)).alloc (.cells #[.int .i64 0] 3) := ⟨_, rfl⟩
        have hbV2 : Below Y1.heap.size Y1 V2 := by rw [hV2]; exact ((Below.refl _ _).alloc (Nat.le_refl _) _).alloc (by simp) _
        have HGV2 := hide (HGY1.out.below hbV2)
        have HAV2 : Hid (AllD [D1, D0] V2) := hide (HAY1.out.below hbV2)
        have HTV2 := hide (HTY1.out.below hbV2 HTY1.out.lt)
        have HKa2 : Hid (Blk V2 qa2 #[.int .i64 0] 3) := hide (by rw [hV2, hqa2]; exact (Blk.made _ _ _).alloc _)
        have HKn2 : Hid (Blk V2 (qa2 + 1) #[.int .i64 0] 3) := hide (by
          have h := Blk.made (Y1.alloc (.cells #[.int .i64 0] 3)) #[.int .i64 0] 3
          rw [World.size_alloc] at h
          rw [hV2, hqa2]; exact h)
        have hqr2 : w6.heap.size < qr1 := by omega
        have hqq2 : qr1 < qa2 := by rw [hqa2]; exact HTY1.out.lt
        have HDl2 : Hid (∀ D ∈ [D1, D0], D < V2.heap.size) := hide (fun D hD => (Array.getElem?_eq_some_iff.1 (HAV2.out D hD)).1)
        have HV6L2 : Hid (w6.heap.size ≤ V2.heap.size) := hide HGV2.out.bel.size
        have hct2 : Y1.cell? ⟨qr1, 0, none⟩ = some (.int .i64 2) := HTY1.out.cell 0
        clear hbV2
        go_wp2
        rw [← hV2, ← hqa2]
        clear hV2 hqa2 hct2
        refine (wpIn_wide (n := 5)).1 ?_
        refine wpIn_rangeBrk 2 rfl (by omega) (gf := gf) (lb := lb) rfl trivial HEn.out (HSeq.out (5 - 1)) HGV2.out.bel HV6L2.out (fun _ => rfl) (pcFit_put mn me mx X)
          (fun _ => False) (fun _ _ h => inBlock_exit _ h)
          (fun pre W => Blk W qa2 #[.int .i64 ((posK mn me mx X pre.length : Nat) : Int)] 3 ∧ Blk W (qa2 + 1) #[.int .i64 ((pre.length : Nat) : Int)] 3 ∧ Blk W qr1 #[.int .i64 2] 3 ∧ (∃ vl lvs ys, KSt w6 W w6.heap.size vl (n1 + pre.length) lvs ys) ∧ AllD [D1, D0] W ∧ V2.heap.size ≤ W.heap.size)
          (OwnFrom.and (blk_ownFrom _ _ _ (fun pre : List Rec => #[.int .i64 ((posK mn me mx X pre.length : Nat) : Int)])) (OwnFrom.and (blk_ownFrom _ _ _ (fun pre : List Rec => #[.int .i64 ((pre.length : Nat) : Int)])) (OwnFrom.and (blk_ownFrom _ _ _ (fun _ : List Rec => #[.int .i64 2])) (OwnFrom.and (KSt.ownFrom (c := fun pre : List Rec => n1 + pre.length) HV6L2.out) (OwnFrom.and (AllD.ownFrom HDl2.out) (fun s A C row hs hg hr => Nat.le_trans hs hg.size))))))
          ⟨HKa2.out, HKn2.out, HTV2.out, ⟨_, _, _, HGV2.out⟩, HAV2.out, Nat.le_refl _⟩ ?round2y ?fin2y
        case round2y =>
          rintro l pre ⟨pq, bd, vx⟩ Wp W ⟨hka, hkn, hkr, ⟨vl, lvs, ys, hGp⟩, hAp, hW4⟩ hbW ⟨f1, f2, f3, f4⟩
          dsimp only at f2 f3 f4
          have hj : pre.length < N := Nat.lt_of_not_le fun h => HC2.out (f1 N h)
          subst f2 f3
          have hpl := pcK_len (HC1.out pre.length hj)
          have hlp := lenK_pos (HC1.out pre.length hj)
          obtain ⟨vx1, cx1, rfl, -, -⟩ := f4.slice
          have hGW := hGp.below hbW
          have hkaW := hka.below hbW hka.lt
          have hknW := hkn.below hbW hkn.lt
          have hkrW := hkr.below hbW hkr.lt
          have hAW := hAp.below hbW
          have hMp : ∀ i, i < n1 + pre.length → ∀ g, (lvs i).ownBlock = some g → g < Wp.heap.size := fun i hi g hg => (OwnsB.blk_ge (hGp.ls.own i hi) g hg).2
          have h7p : w6.heap.size ≤ Wp.heap.size := hGp.bel.size
          have hgw : ∃ gw, wa = some ⟨gw, 0, none⟩ := by
            obtain ⟨a', c', e, h⟩ := HO6.out.form
            obtain ⟨rfl, -, -⟩ := (Value.slice.injEq ..).mp e
            exact h (by rw [← HN.out]; omega)
          obtain ⟨gw, rfl⟩ := hgw
          have hrow : W.cell? ⟨gw, pre.length, none⟩ = some (.int .i64 ((lenK mn me mx X pre.length : Nat) : Int)) := by
            have h := (owns_below_at HO6.out hGW.bel).at pre.length (by rw [← HN.out]; exact hj)
            have e := HC3.out pre.length hj
            rw [List.getElem?_eq_getElem (by rw [← HN.out]; exact hj)] at e
            rw [h, Option.some.inj e]
          have HRow : Hid (∀ W', Below w6.heap.size w6 W' → W'.cell? ⟨gw, pre.length, none⟩ = some (.int .i64 ((lenK mn me mx X pre.length : Nat) : Int))) := hide (fun W' hb => by
            have h := (owns_below_at HO6.out hb).at pre.length (by rw [← HN.out]; exact hj)
            have e := HC3.out pre.length hj
            rw [List.getElem?_eq_getElem (by rw [← HN.out]; exact hj)] at e
            rw [h, Option.some.inj e])
          have hc5 : W.cell? ⟨w1.heap.size, 0, none⟩ = some (.slice (some ⟨gw, 0, none⟩) N wc) := (HL6.out.below hGW.bel HL6.out.lt).cell 0
          have hc3 : W.cell? ⟨w.heap.size, 3, none⟩ = some (.slice da X.length dc) := (HA6.out.below hGW.bel HA6.out.lt).cell 3
          have hca : W.cell? ⟨qa2, 0, none⟩ = some (.int .i64 ((posK mn me mx X pre.length : Nat) : Int)) := hkaW.cell 0
          have hcn : W.cell? ⟨qa2 + 1, 0, none⟩ = some (.int .i64 ((pre.length : Nat) : Int)) := hknW.cell 0
          have HRX := hide (HD6.out.below hGW.bel)
          have hdc : X.length ≤ dc := (HD6.out.cap).2.1
          have HP0 : Hid (posK mn me mx X (pre.length + 1) = posK mn me mx X pre.length + lenK mn me mx X pre.length) := hide rfl
          have HPC : Hid (pcK mn me mx X pre.length = (X.drop (posK mn me mx X pre.length)).take (lenK mn me mx X pre.length)) := hide rfl
          have HF4 := hide f4
          have HGW := hide hGW
          have HKaW := hide hkaW
          have HKnW := hide hknW
          have HKrW := hide hkrW
          have HAW := hide hAW
          have HMp := hide hMp
          have HV4 := hide (Nat.le_trans hW4 hbW.size)
          obtain ⟨y, hy⟩ : ∃ y, y = pcK mn me mx X pre.length := ⟨_, rfl⟩
          obtain ⟨j, hjj⟩ : ∃ j, j = pre.length := ⟨_, rfl⟩
          obtain ⟨m, hm⟩ : ∃ m, m = lenK mn me mx X pre.length := ⟨_, rfl⟩
          obtain ⟨q, hq⟩ : ∃ q, q = posK mn me mx X pre.length := ⟨_, rfl⟩
          have HJJ := hide hjj
          have HQ := hide hq
          have HY := hide hy
          rw [← hm] at hpl hlp hrow HRow HP0 HPC
          rw [← hq] at hlp hca HP0 HPC HKaW
          rw [← hy] at hpl HPC HF4 ⊢
          rw [hpl] at HF4 ⊢
          have HPL := hide hpl
          rw [← hjj] at hrow HRow hcn HKnW HGW HMp HP0
          obtain ⟨t, ht⟩ : ∃ t, t = q + m := ⟨_, rfl⟩
          have htl : t ≤ X.length := by omega
          have hwA : IntKind.i64.wrap ((q : Int) + (m : Int)) = (q : Int) + (m : Int) := by simp [IntKind.wrap, IntKind.bits, IntKind.signed]; omega
          have HTT := hide ht
          have hjN : ¬ ((N : Nat) : Int) ≤ (j : Int) := by omega
          have hjb : j < N := by omega
          have hjn : ¬ N ≤ j := by omega
          have hjd : decide (N ≤ j) = false := decide_eq_false hjn
          have HS2 := hide (fun W => slice_lh da X.length dc q t (by omega) (by omega) (q : Int) ((q : Int) + (m : Int)) rfl (by omega) W)
          have hRs := HRX.out.sliced q t (by omega) htl
          rw [show t - q = m from by omega, ← HPC.out] at hRs
          obtain ⟨su, hsu⟩ : ∃ su, su = sliced da q t dc 1 := ⟨_, rfl⟩
          rw [← hsu] at HS2 hRs
          have HSame := hide (fun d os => sameBytes_any (grow (redrawn W d) os) (.slice vx1 m cx1) su y (HF4.out.below (below_regrown W d os)).rd (hRs.below (below_regrown W d os)))
          clear f1 f4 hka hkn hkr hGp hAp hW4 hbW hGW hkaW hknW hkrW hAW hMp hy hm hjj hq hj hsu hRs ht hpl
          refine ⟨?aa2y, ?asg2y, ?bd2y⟩
          case asg2y =>
            intro W0 K hK
            refine asg2 (x1 := .tmp 37) (x2 := .tmp 38) rfl rfl rfl rfl _ W0 K ?_
            exact hK
          case bd2y =>
            unfold recV
            simp only [List.zip_toArray, List.zip_cons_cons, List.zip_nil_right, List.foldl_toArray, List.foldl_cons, List.foldl_nil, List.setIfInBounds_toArray, List.set_cons_succ, List.set_cons_zero, Act.put, Act.eval]
            rw [← HQ.out]
            gi_wp2
            have x1 := fun d os => cell_regrown hcn d os
            have x2 := fun d os => cell_regrown hc5 d os
            have x3 := fun d os => cell_regrown hca d os
            have x4 := fun d os => cell_regrown hc3 d os
            have x5 := fun d os => cell_regrown hrow d os
            refine wpIn_round_quiet (by kernel_rfl) (by kernel_rfl) (by kernel_rfl) ?_
            iterate 20 quiet_step (fail)
            refine wpQuiet_val su rfl (fun w hw => ?_) ?_
            · exact run_sliceLH rfl rfl rfl rfl (HS2.out w)
            quiet_step (exact Calls.regrown_of (HSame.out _ _))
            quiet_step (fail)
            quiet_step (fail)
            refine wpQuiet_nil ?_
            intro w10 hw'
            obtain ⟨⟨dq, osq⟩, hw''⟩ := hw'
            have hb10 := below_regrown W dq osq
            rw [← show w10 = grow (redrawn W dq) osq from hw''] at hb10
            obtain ⟨cc, hcc⟩ : ∃ cc, cc = n1 + j := ⟨_, rfl⟩
            rw [← hcc] at HGW HMp
            have HCC := hide hcc
            have hccb : cc ≤ 100000000 := by omega
            have hG10 := HGW.out.below hb10
            have f10 := HF4.out.below hb10
            have ka10 := HKaW.out.below hb10 HKaW.out.lt
            have kn10 := HKnW.out.below hb10 HKnW.out.lt
            have kr10 := HKrW.out.below hb10 HKrW.out.lt
            obtain ⟨al, cl, rfl⟩ := row_form hG10.lists
            have hc13 : w10.cell? ⟨w6.heap.size, 0, none⟩ = some (.slice al cc cl) := hG10.lbox.cell 0
            have HK10 : Hid (KeepsOthers W w10) := hide (keeps_below hb10)
            have HG10 := hide hG10
            have HF10 := hide f10
            have HKa10 := hide ka10
            have HKn10 := hide kn10
            have HKr10 := hide kr10
            clear hw'' x1 x2 x3 x4 x5 hG10 f10 ka10 kn10 kr10 hb10 HSame hrow hc5 hc3 hca hcn hcc HKaW HKnW HKrW HF4 HS2
            gi_wp2_with (gi_at_builtin; refine wpListIn_append_list rfl _ _ rfl w6.heap.size _ cc ((List.range cc).map lvs) rfl ?c12y w10.heap.size 1 rfl (.slice vx1 m cx1) rfl ?c22y ?c32y ?c42y ?_)
            case c12y => exact owns_below HG10.out.lists ((Below.refl _ _).alloc (Nat.le_refl _) _)
            case c22y => exact (Blk.made _ _ _).cell 0
            case c32y => omega
            case c42y => have := HG10.out.bel.size; simp; omega
            intro v' w12 HO' HG' HBk
            obtain ⟨al2, cl2, rfl⟩ := row_form HO'.out
            have hal : Below w10.heap.size w10 (w10.alloc (.cells #[.slice vx1 m cx1] 24)) := (Below.refl _ _).alloc (Nat.le_refl _) _
            have h1' := HG10.out.below hal
            have hG13 := HG10.out.add HF10.out HMp.out h7p (by rw [HPL.out]; omega) (Nat.le_refl _) HO'.out HG'.out
            have lb2 := h1'.lbox.grown HG'.out (fun e => blk_own_ne h1'.lbox h1'.lists (by decide) w6.heap.size e.symm rfl)
            have ka2 := (HKa10.out.alloc (.cells #[.slice vx1 m cx1] 24)).grown HG'.out (fun e => blk_own_ne (HKa10.out.alloc (.cells #[.slice vx1 m cx1] 24)) h1'.lists (by decide) qa2 e.symm rfl)
            have kn2 := (HKn10.out.alloc (.cells #[.slice vx1 m cx1] 24)).grown HG'.out (fun e => blk_own_ne (HKn10.out.alloc (.cells #[.slice vx1 m cx1] 24)) h1'.lists (by decide) (qa2 + 1) e.symm rfl)
            have kr2 := (HKr10.out.alloc (.cells #[.slice vx1 m cx1] 24)).grown HG'.out (fun e => blk_own_ne (HKr10.out.alloc (.cells #[.slice vx1 m cx1] 24)) h1'.lists (by decide) qr1 e.symm rfl)
            have y0 : w12.cell? ⟨w6.heap.size, 0, none⟩ = some (.slice al cc cl) := lb2.cell 0
            have y1 := lb2.frozen 0
            obtain ⟨W13, hW13⟩ : ∃ W13, W13 = w12.setCell ⟨w6.heap.size, 0, none⟩ (.slice al2 (cc + 1) cl2) := ⟨_, rfl⟩
            have ka13 : Blk W13 qa2 #[.int .i64 (q : Int)] 3 := by rw [hW13]; exact ka2.setOther _ _ (by show qa2 ≠ w6.heap.size; omega)
            have kn13 : Blk W13 (qa2 + 1) #[.int .i64 (j : Int)] 3 := by rw [hW13]; exact kn2.setOther _ _ (by show qa2 + 1 ≠ w6.heap.size; omega)
            have kr13 : Blk W13 qr1 #[.int .i64 2] 3 := by rw [hW13]; exact kr2.setOther _ _ (by show qr1 ≠ w6.heap.size; omega)
            have hKo13 : KeepsOthers W W13 := ((HK10.out.trans (keeps_below hal)).trans (keeps_own h1'.lists HG'.out)).trans (by rw [hW13]; exact KeepsOthers.setCell _ _ _)
            rw [← hW13] at hG13
            have HG13 := hide hG13
            have HKa13 := hide ka13
            have HKn13 := hide kn13
            have HKr13 := hide kr13
            have HKo13 := hide hKo13
            clear h1' hal lb2 ka2 kn2 kr2 ka13 kn13 kr13 hG13 hKo13 HO' HG' HBk HG10 HF10 HKa10 HKn10 HKr10 hc13 HK10
            gi_wp2
            rw [← hW13]
            clear y0 y1 hW13
            have u1 : W13.cell? ⟨qa2, 0, none⟩ = some (.int .i64 (q : Int)) := HKa13.out.cell 0
            have u2 : W13.cell? ⟨w1.heap.size, 0, none⟩ = some (.slice (some ⟨gw, 0, none⟩) N wc) := (HL6.out.below HG13.out.bel HL6.out.lt).cell 0
            have u3 : W13.cell? ⟨qa2 + 1, 0, none⟩ = some (.int .i64 (j : Int)) := HKn13.out.cell 0
            have u4 : W13.cell? ⟨gw, j, none⟩ = some (.int .i64 (m : Int)) := HRow.out _ HG13.out.bel
            have u5 := HKa13.out.frozen 0
            apply cutP
            · intro hP
              gi_region
              all_goals exact hP
            obtain ⟨W13s, hW13s⟩ : ∃ W13s, W13s = W13.setCell ⟨qa2, 0, none⟩ (.int .i64 ((q : Int) + (m : Int))) := ⟨_, rfl⟩
            obtain ⟨W14, hW14⟩ : ∃ W14, W14 = (W13.setCell ⟨qa2, 0, none⟩ (.int .i64 ((q : Int) + (m : Int)))).drew := ⟨_, rfl⟩
            have hdr : Below W13s.heap.size W13s W14 := by rw [hW14, hW13s]; exact below_drew _
            rw [← hW14]
            clear hW14
            have hgd : W13.grownBy W13s (some qa2) := by rw [hW13s]; exact grownBy_set _ _ _ _
            have ka13s : Blk W13s qa2 #[.int .i64 ((q : Int) + (m : Int))] 3 := by rw [hW13s]; exact HKa13.out.set 0 _
            have ka14 := ka13s.below hdr ka13s.lt
            have kn13s := HKn13.out.grown hgd (fun e => by have := Option.some.inj e; omega)
            have kn14 := kn13s.below hdr kn13s.lt
            have kr13s := HKr13.out.grown hgd (fun e => by have := Option.some.inj e; omega)
            have kr14 := kr13s.below hdr kr13s.lt
            have hG14 := (HG13.out.other hgd HKa13.out (by omega) (by omega) (by decide) (by decide)).below hdr
            have hKo14 := (HKo13.out.trans (show KeepsOthers W13 W13s by rw [hW13s]; exact KeepsOthers.setCell _ _ _)).trans (keeps_below hdr)
            obtain ⟨W15, hW15⟩ : ∃ W15, W15 = W14.setCell ⟨qa2 + 1, 0, none⟩ (.int .i64 ((j : Int) + 1)) := ⟨_, rfl⟩
            have hge : W14.grownBy W15 (some (qa2 + 1)) := by rw [hW15]; exact grownBy_set _ _ _ _
            have HKa15 := hide (ka14.grown hge (fun e => by have := Option.some.inj e; omega))
            have HKn15 : Hid (Blk W15 (qa2 + 1) #[.int .i64 ((j : Int) + 1)] 3) := hide (by rw [hW15]; exact kn14.set 0 _)
            have HKr15 := hide (kr14.grown hge (fun e => by have := Option.some.inj e; omega))
            have HG15 := hide (hG14.other hge kn14 (by omega) (by omega) (by decide) (by decide))
            have HKo : Hid (KeepsOthers W W15) := hide (hKo14.trans (by rw [hW15]; exact KeepsOthers.setCell _ _ _))
            have z1 : W14.cell? ⟨qa2 + 1, 0, none⟩ = some (.int .i64 (j : Int)) := kn14.cell 0
            have z2 := kn14.frozen 0
            have z3 : W15.cell? ⟨qr1, 0, none⟩ = some (.int .i64 2) := HKr15.out.cell 0
            have z4 : W15.cell? ⟨qa2 + 1, 0, none⟩ = some (.int .i64 ((j : Int) + 1)) := HKn15.out.cell 0
            have z5 : W15.cell? ⟨w.heap.size + 1, 0, none⟩ = some (.int .i64 stop) := (HS6.out.below HG15.out.bel HS6.out.lt).cell 0
            have hN1 : pre.length + 1 = j + 1 := by rw [HJJ.out]
            have HI : Hid (∀ x : Rec, Blk W15 qa2 #[.int .i64 ((posK mn me mx X (pre ++ [x]).length : Nat) : Int)] 3 ∧ Blk W15 (qa2 + 1) #[.int .i64 (((pre ++ [x]).length : Nat) : Int)] 3 ∧ Blk W15 qr1 #[.int .i64 2] 3 ∧ (∃ vl lvs ys, KSt w6 W15 w6.heap.size vl (n1 + (pre ++ [x]).length) lvs ys) ∧ AllD [D1, D0] W15 ∧ V2.heap.size ≤ W15.heap.size) := hide (fun x => by
              rw [snoc_len, hN1]
              refine ⟨?_, ?_, HKr15.out, ⟨_, _, _, by rw [show n1 + (j + 1) = cc + 1 from by rw [HCC.out]; omega]; exact HG15.out⟩, HAW.out.keep HKo.out, Nat.le_trans HV4.out HKo.out.size⟩
              · rw [HP0.out]; push_cast; exact HKa15.out
              · push_cast; exact HKn15.out)
            rw [hW15] at z3 z4 z5
            clear hdr hgd hge ka13s kn13s kr13s hW13s ka14 kn14 kr14 hG14 hKo14 u1 u2 u3 u4 u5 HG13 HKa13 HKn13 HKr13 HKo13 HRow
            gi_wp2
            rw [← hW15]
            exact ⟨HKo.out, keepR_of HGW.out.bel HG15.out.bel HKo.out.size, HI.out _⟩
        case fin2y =>
          rintro D2 xs W hD2 hSp ⟨hka, hkn, hkr, ⟨vl2, lvs2, ys2, hGW⟩, hAW, hVW⟩ hK
          have hcnt : xs.length = N := by
            rcases hSp with ⟨h1, h2⟩ | h
            · exact (first_one HC1.out HC2.out h1 h2).symm
            · exact h.elim
          obtain ⟨k, hk⟩ : ∃ k, k = xs.length := ⟨_, rfl⟩
          rw [← hk] at hkn hGW hcnt
          obtain ⟨n2, hn2⟩ : ∃ n, n = n1 + k := ⟨_, rfl⟩
          rw [← hn2] at hGW
          have hkN : k ≤ N := by omega
          have hnb2 : n2 ≤ (2 + 1) * 1048576 := by omega
          have hc12 : W.cell? ⟨qa2 + 1, 0, none⟩ = some (.int .i64 ((k : Nat) : Int)) := hkn.cell 0
          have hc10 : W.cell? ⟨qr1, 0, none⟩ = some (.int .i64 2) := hkr.cell 0
          have hc5 : W.cell? ⟨w1.heap.size, 0, none⟩ = some (.slice wa N wc) := (HL6.out.below hGW.bel HL6.out.lt).cell 0
          have hcs : W.cell? ⟨w.heap.size + 1, 0, none⟩ = some (.int .i64 stop) := (HS6.out.below hGW.bel HS6.out.lt).cell 0
          obtain ⟨qr2, hqr'⟩ : ∃ q, q = W.heap.size := ⟨_, rfl⟩
          obtain ⟨Y2, hY2⟩ : ∃ Y, Y = W.alloc (.cells #[.int .i64 3] 3) := ⟨_, rfl⟩
          have hbY : Below W.heap.size W Y2 := by rw [hY2]; exact (Below.refl _ _).alloc (Nat.le_refl _) _
          have HGY2 := hide (hGW.below hbY)
          have HAY2 : Hid (AllD [D2, D1, D0] Y2) := hide (AllD.below (fun D hD => by
            rcases List.mem_cons.1 hD with e | e
            · rw [e]; exact hK
            · exact hAW D e) hbY)
          have HTY2 : Hid (Blk Y2 qr2 #[.int .i64 3] 3) := hide (by rw [hY2, hqr']; exact Blk.made _ _ _)
          have hqg2 : w6.heap.size < qr2 := by have := hkr.lt; omega
          have HDn2 : Hid (∀ D ∈ [D1, D0], D ≠ D2) := hide (fun D hD => by have := HDl2.out D hD; omega)
          have HDw2 : Hid (w.heap.size ≤ D2) := hide (by have := HV6L2.out; omega)
          clear hSp hka hkn hkr hGW hAW hVW hK hbY hn2 hk
          have hce := hcnt.symm
          clear hcnt
          subst hce
          have hbb : ((N : Int) == (N : Int)) = true := beq_self_eq_true _
          go_wp2
          rw [← hY2, ← hqr']
          clear hY2 hqr' hc12 hc10 hc5 hcs hkN
          rw [rounds_succ]
          obtain ⟨al, cl, rfl⟩ := row_form HGY2.out.lists
          obtain ⟨R, hR⟩ := HGY2.out.lrow
          have hct : Y2.cell? ⟨qr2, 0, none⟩ = some (.int .i64 3) := HTY2.out.cell 0
          have hck : Y2.cell? ⟨w6.heap.size, 0, none⟩ = some (.slice al n2 cl) := HGY2.out.lbox.cell 0
          have HAp := hide (apart_keeps Y2 w6.heap.size R n2 al cl lvs2 ys2 (fun i => (ys2 i).length) (fun _ _ => rfl) HGY2.out.ls hR HGY2.out.bel.size (by omega) HGY2.out.len)
          clear hR
          go_wp2_with fail
          refine HAp.out.mono ?_
          rintro e wA ⟨rfl, hbA, hkA⟩
          have HBA : Hid (Below w6.heap.size w6 wA) := hide (HGY2.out.bel.trans hbA)
          have HKA := hide hkA
          have HLf := hide (left_any wA _ g cap _ X (owns_below HOl6.out HBA.out) (by omega) hcap (HD6.out.below HBA.out))
          have hca : wA.cell? ⟨w.heap.size, 3, none⟩ = some (.slice da X.length dc) := (HA6.out.below HBA.out HA6.out.lt).cell 3
          clear hbA hkA HAp hct hck
          go_wp2_with fail
          refine HLf.out.mono ?_
          rintro e wB ⟨rfl, hbB⟩
          have HBB := hide (Below.step HBA.out hbB)
          have HKB := hide (HKA.out.trans (keeps_below hbB))
          have HLv := hide (lives_any wB (HT6.out.below HBB.out HT6.out.size))
          clear hbB HLf hca
          go_wp2_with fail
          refine HLv.out.mono ?_
          rintro e wC ⟨rfl, hbC⟩
          have HBC := hide (Below.step HBB.out hbC)
          have HKC := hide (HKB.out.trans (keeps_below hbC))
          have HRC := hide (HR6.out.below HBC.out HR6.out.lt)
          have hcr : wC.cell? ⟨w.heap.size + 1 + 1, 0, none⟩ = some (.bool false) := HRC.out.cell 0
          have hfr := HRC.out.frozen 0
          have HBZ : Hid (Below w.heap.size w (wC.setCell ⟨w.heap.size + 1 + 1, 0, none⟩ (.bool true))) := hide ((Below.step HBw6.out HBC.out).setCell (p := ⟨w.heap.size + 1 + 1, 0, none⟩) (by show w.heap.size ≤ w.heap.size + 1 + 1; omega) _)
          have HAZ : Hid (AllD [D2, D1, D0] (wC.setCell ⟨w.heap.size + 1 + 1, 0, none⟩ (.bool true))) := hide ((HAY2.out.keep HKC.out).keep (KeepsOthers.setCell _ _ _))
          have HRZ : Hid (Blk (wC.setCell ⟨w.heap.size + 1 + 1, 0, none⟩ (.bool true)) (w.heap.size + 1 + 1) #[.bool true] 4) := hide (HRC.out.set 0 (.bool true))
          clear hbC HLv
          go_wp2
          exact leave3c (t := 4) rfl HAZ.out (HDn1.out D0 (by simp)) (HDn2.out D0 (by simp)) (HDn2.out D1 (by simp)) rfl HRZ.out HBZ.out HDw0.out HDw1.out HDw2.out
      · skip
        go_wp2
        rw [← hY1, ← hqr']
        clear hY1 hqr' hc12 hc10 hc5 hcs hcnt hkN
        rw [rounds_succ]
        obtain ⟨qa2, hqa2⟩ : ∃ q, q = Y1.heap.size := ⟨_, rfl⟩
        obtain ⟨V2, hV2⟩ : ∃ V, V = (Y1.alloc (.cells #[.int .i64 0] 3)).alloc (.cells #[.int .i64 0] 3) := ⟨_, rfl⟩
        have hbV2 : Below Y1.heap.size Y1 V2 := by rw [hV2]; exact ((Below.refl _ _).alloc (Nat.le_refl _) _).alloc (by simp) _
        have HGV2 := hide (HGY1.out.below hbV2)
        have HAV2 : Hid (AllD [D1, D0] V2) := hide (HAY1.out.below hbV2)
        have HTV2 := hide (HTY1.out.below hbV2 HTY1.out.lt)
        have HKa2 : Hid (Blk V2 qa2 #[.int .i64 0] 3) := hide (by rw [hV2, hqa2]; exact (Blk.made _ _ _).alloc _)
        have HKn2 : Hid (Blk V2 (qa2 + 1) #[.int .i64 0] 3) := hide (by
          have h := Blk.made (Y1.alloc (.cells #[.int .i64 0] 3)) #[.int .i64 0] 3
          rw [World.size_alloc] at h
          rw [hV2, hqa2]; exact h)
        have hqr2 : w6.heap.size < qr1 := by omega
        have hqq2 : qr1 < qa2 := by rw [hqa2]; exact HTY1.out.lt
        have HDl2 : Hid (∀ D ∈ [D1, D0], D < V2.heap.size) := hide (fun D hD => (Array.getElem?_eq_some_iff.1 (HAV2.out D hD)).1)
        have HV6L2 : Hid (w6.heap.size ≤ V2.heap.size) := hide HGV2.out.bel.size
        have hct2 : Y1.cell? ⟨qr1, 0, none⟩ = some (.int .i64 2) := HTY1.out.cell 0
        clear hbV2
        go_wp2
        rw [← hV2, ← hqa2]
        clear hV2 hqa2 hct2
        refine (wpIn_wide (n := 5)).1 ?_
        refine wpIn_rangeBrk 2 rfl (by omega) (gf := gf) (lb := lb) rfl trivial HEn.out (HSeq.out (5 - 1)) HGV2.out.bel HV6L2.out (fun _ => rfl) (pcFit_put mn me mx X)
          (fun _ => False) (fun _ _ h => inBlock_exit _ h)
          (fun pre W => Blk W qa2 #[.int .i64 ((posK mn me mx X pre.length : Nat) : Int)] 3 ∧ Blk W (qa2 + 1) #[.int .i64 ((pre.length : Nat) : Int)] 3 ∧ Blk W qr1 #[.int .i64 2] 3 ∧ (∃ vl lvs ys, KSt w6 W w6.heap.size vl (n1 + pre.length) lvs ys) ∧ AllD [D1, D0] W ∧ V2.heap.size ≤ W.heap.size)
          (OwnFrom.and (blk_ownFrom _ _ _ (fun pre : List Rec => #[.int .i64 ((posK mn me mx X pre.length : Nat) : Int)])) (OwnFrom.and (blk_ownFrom _ _ _ (fun pre : List Rec => #[.int .i64 ((pre.length : Nat) : Int)])) (OwnFrom.and (blk_ownFrom _ _ _ (fun _ : List Rec => #[.int .i64 2])) (OwnFrom.and (KSt.ownFrom (c := fun pre : List Rec => n1 + pre.length) HV6L2.out) (OwnFrom.and (AllD.ownFrom HDl2.out) (fun s A C row hs hg hr => Nat.le_trans hs hg.size))))))
          ⟨HKa2.out, HKn2.out, HTV2.out, ⟨_, _, _, HGV2.out⟩, HAV2.out, Nat.le_refl _⟩ ?round2z ?fin2z
        case round2z =>
          rintro l pre ⟨pq, bd, vx⟩ Wp W ⟨hka, hkn, hkr, ⟨vl, lvs, ys, hGp⟩, hAp, hW4⟩ hbW ⟨f1, f2, f3, f4⟩
          dsimp only at f2 f3 f4
          have hj : pre.length < N := Nat.lt_of_not_le fun h => HC2.out (f1 N h)
          subst f2 f3
          have hpl := pcK_len (HC1.out pre.length hj)
          have hlp := lenK_pos (HC1.out pre.length hj)
          obtain ⟨vx1, cx1, rfl, -, -⟩ := f4.slice
          have hGW := hGp.below hbW
          have hkaW := hka.below hbW hka.lt
          have hknW := hkn.below hbW hkn.lt
          have hkrW := hkr.below hbW hkr.lt
          have hAW := hAp.below hbW
          have hMp : ∀ i, i < n1 + pre.length → ∀ g, (lvs i).ownBlock = some g → g < Wp.heap.size := fun i hi g hg => (OwnsB.blk_ge (hGp.ls.own i hi) g hg).2
          have h7p : w6.heap.size ≤ Wp.heap.size := hGp.bel.size
          have hgw : ∃ gw, wa = some ⟨gw, 0, none⟩ := by
            obtain ⟨a', c', e, h⟩ := HO6.out.form
            obtain ⟨rfl, -, -⟩ := (Value.slice.injEq ..).mp e
            exact h (by rw [← HN.out]; omega)
          obtain ⟨gw, rfl⟩ := hgw
          have hrow : W.cell? ⟨gw, pre.length, none⟩ = some (.int .i64 ((lenK mn me mx X pre.length : Nat) : Int)) := by
            have h := (owns_below_at HO6.out hGW.bel).at pre.length (by rw [← HN.out]; exact hj)
            have e := HC3.out pre.length hj
            rw [List.getElem?_eq_getElem (by rw [← HN.out]; exact hj)] at e
            rw [h, Option.some.inj e]
          have HRow : Hid (∀ W', Below w6.heap.size w6 W' → W'.cell? ⟨gw, pre.length, none⟩ = some (.int .i64 ((lenK mn me mx X pre.length : Nat) : Int))) := hide (fun W' hb => by
            have h := (owns_below_at HO6.out hb).at pre.length (by rw [← HN.out]; exact hj)
            have e := HC3.out pre.length hj
            rw [List.getElem?_eq_getElem (by rw [← HN.out]; exact hj)] at e
            rw [h, Option.some.inj e])
          have hc5 : W.cell? ⟨w1.heap.size, 0, none⟩ = some (.slice (some ⟨gw, 0, none⟩) N wc) := (HL6.out.below hGW.bel HL6.out.lt).cell 0
          have hc3 : W.cell? ⟨w.heap.size, 3, none⟩ = some (.slice da X.length dc) := (HA6.out.below hGW.bel HA6.out.lt).cell 3
          have hca : W.cell? ⟨qa2, 0, none⟩ = some (.int .i64 ((posK mn me mx X pre.length : Nat) : Int)) := hkaW.cell 0
          have hcn : W.cell? ⟨qa2 + 1, 0, none⟩ = some (.int .i64 ((pre.length : Nat) : Int)) := hknW.cell 0
          have HRX := hide (HD6.out.below hGW.bel)
          have hdc : X.length ≤ dc := (HD6.out.cap).2.1
          have HP0 : Hid (posK mn me mx X (pre.length + 1) = posK mn me mx X pre.length + lenK mn me mx X pre.length) := hide rfl
          have HPC : Hid (pcK mn me mx X pre.length = (X.drop (posK mn me mx X pre.length)).take (lenK mn me mx X pre.length)) := hide rfl
          have HF4 := hide f4
          have HGW := hide hGW
          have HKaW := hide hkaW
          have HKnW := hide hknW
          have HKrW := hide hkrW
          have HAW := hide hAW
          have HMp := hide hMp
          have HV4 := hide (Nat.le_trans hW4 hbW.size)
          obtain ⟨y, hy⟩ : ∃ y, y = pcK mn me mx X pre.length := ⟨_, rfl⟩
          obtain ⟨j, hjj⟩ : ∃ j, j = pre.length := ⟨_, rfl⟩
          obtain ⟨m, hm⟩ : ∃ m, m = lenK mn me mx X pre.length := ⟨_, rfl⟩
          obtain ⟨q, hq⟩ : ∃ q, q = posK mn me mx X pre.length := ⟨_, rfl⟩
          have HJJ := hide hjj
          have HQ := hide hq
          have HY := hide hy
          rw [← hm] at hpl hlp hrow HRow HP0 HPC
          rw [← hq] at hlp hca HP0 HPC HKaW
          rw [← hy] at hpl HPC HF4 ⊢
          rw [hpl] at HF4 ⊢
          have HPL := hide hpl
          rw [← hjj] at hrow HRow hcn HKnW HGW HMp HP0
          obtain ⟨t, ht⟩ : ∃ t, t = q + m := ⟨_, rfl⟩
          have htl : t ≤ X.length := by omega
          have hwA : IntKind.i64.wrap ((q : Int) + (m : Int)) = (q : Int) + (m : Int) := by simp [IntKind.wrap, IntKind.bits, IntKind.signed]; omega
          have HTT := hide ht
          have hjN : ¬ ((N : Nat) : Int) ≤ (j : Int) := by omega
          have hjb : j < N := by omega
          have hjn : ¬ N ≤ j := by omega
          have hjd : decide (N ≤ j) = false := decide_eq_false hjn
          have HS2 := hide (fun W => slice_lh da X.length dc q t (by omega) (by omega) (q : Int) ((q : Int) + (m : Int)) rfl (by omega) W)
          have hRs := HRX.out.sliced q t (by omega) htl
          rw [show t - q = m from by omega, ← HPC.out] at hRs
          obtain ⟨su, hsu⟩ : ∃ su, su = sliced da q t dc 1 := ⟨_, rfl⟩
          rw [← hsu] at HS2 hRs
          have HSame := hide (fun d os => sameBytes_any (grow (redrawn W d) os) (.slice vx1 m cx1) su y (HF4.out.below (below_regrown W d os)).rd (hRs.below (below_regrown W d os)))
          clear f1 f4 hka hkn hkr hGp hAp hW4 hbW hGW hkaW hknW hkrW hAW hMp hy hm hjj hq hj hsu hRs ht hpl
          refine ⟨?aa2z, ?asg2z, ?bd2z⟩
          case asg2z =>
            intro W0 K hK
            refine asg2 (x1 := .tmp 37) (x2 := .tmp 38) rfl rfl rfl rfl _ W0 K ?_
            exact hK
          case bd2z =>
            unfold recV
            simp only [List.zip_toArray, List.zip_cons_cons, List.zip_nil_right, List.foldl_toArray, List.foldl_cons, List.foldl_nil, List.setIfInBounds_toArray, List.set_cons_succ, List.set_cons_zero, Act.put, Act.eval]
            rw [← HQ.out]
            gi_wp2
            have x1 := fun d os => cell_regrown hcn d os
            have x2 := fun d os => cell_regrown hc5 d os
            have x3 := fun d os => cell_regrown hca d os
            have x4 := fun d os => cell_regrown hc3 d os
            have x5 := fun d os => cell_regrown hrow d os
            refine wpIn_round_quiet (by kernel_rfl) (by kernel_rfl) (by kernel_rfl) ?_
            iterate 20 quiet_step (fail)
            refine wpQuiet_val su rfl (fun w hw => ?_) ?_
            · exact run_sliceLH rfl rfl rfl rfl (HS2.out w)
            quiet_step (exact Calls.regrown_of (HSame.out _ _))
            quiet_step (fail)
            quiet_step (fail)
            refine wpQuiet_nil ?_
            intro w10 hw'
            obtain ⟨⟨dq, osq⟩, hw''⟩ := hw'
            have hb10 := below_regrown W dq osq
            rw [← show w10 = grow (redrawn W dq) osq from hw''] at hb10
            obtain ⟨cc, hcc⟩ : ∃ cc, cc = n1 + j := ⟨_, rfl⟩
            rw [← hcc] at HGW HMp
            have HCC := hide hcc
            have hccb : cc ≤ 100000000 := by omega
            have hG10 := HGW.out.below hb10
            have f10 := HF4.out.below hb10
            have ka10 := HKaW.out.below hb10 HKaW.out.lt
            have kn10 := HKnW.out.below hb10 HKnW.out.lt
            have kr10 := HKrW.out.below hb10 HKrW.out.lt
            obtain ⟨al, cl, rfl⟩ := row_form hG10.lists
            have hc13 : w10.cell? ⟨w6.heap.size, 0, none⟩ = some (.slice al cc cl) := hG10.lbox.cell 0
            have HK10 : Hid (KeepsOthers W w10) := hide (keeps_below hb10)
            have HG10 := hide hG10
            have HF10 := hide f10
            have HKa10 := hide ka10
            have HKn10 := hide kn10
            have HKr10 := hide kr10
            clear hw'' x1 x2 x3 x4 x5 hG10 f10 ka10 kn10 kr10 hb10 HSame hrow hc5 hc3 hca hcn hcc HKaW HKnW HKrW HF4 HS2
            gi_wp2_with (gi_at_builtin; refine wpListIn_append_list rfl _ _ rfl w6.heap.size _ cc ((List.range cc).map lvs) rfl ?c12z w10.heap.size 1 rfl (.slice vx1 m cx1) rfl ?c22z ?c32z ?c42z ?_)
            case c12z => exact owns_below HG10.out.lists ((Below.refl _ _).alloc (Nat.le_refl _) _)
            case c22z => exact (Blk.made _ _ _).cell 0
            case c32z => omega
            case c42z => have := HG10.out.bel.size; simp; omega
            intro v' w12 HO' HG' HBk
            obtain ⟨al2, cl2, rfl⟩ := row_form HO'.out
            have hal : Below w10.heap.size w10 (w10.alloc (.cells #[.slice vx1 m cx1] 24)) := (Below.refl _ _).alloc (Nat.le_refl _) _
            have h1' := HG10.out.below hal
            have hG13 := HG10.out.add HF10.out HMp.out h7p (by rw [HPL.out]; omega) (Nat.le_refl _) HO'.out HG'.out
            have lb2 := h1'.lbox.grown HG'.out (fun e => blk_own_ne h1'.lbox h1'.lists (by decide) w6.heap.size e.symm rfl)
            have ka2 := (HKa10.out.alloc (.cells #[.slice vx1 m cx1] 24)).grown HG'.out (fun e => blk_own_ne (HKa10.out.alloc (.cells #[.slice vx1 m cx1] 24)) h1'.lists (by decide) qa2 e.symm rfl)
            have kn2 := (HKn10.out.alloc (.cells #[.slice vx1 m cx1] 24)).grown HG'.out (fun e => blk_own_ne (HKn10.out.alloc (.cells #[.slice vx1 m cx1] 24)) h1'.lists (by decide) (qa2 + 1) e.symm rfl)
            have kr2 := (HKr10.out.alloc (.cells #[.slice vx1 m cx1] 24)).grown HG'.out (fun e => blk_own_ne (HKr10.out.alloc (.cells #[.slice vx1 m cx1] 24)) h1'.lists (by decide) qr1 e.symm rfl)
            have y0 : w12.cell? ⟨w6.heap.size, 0, none⟩ = some (.slice al cc cl) := lb2.cell 0
            have y1 := lb2.frozen 0
            obtain ⟨W13, hW13⟩ : ∃ W13, W13 = w12.setCell ⟨w6.heap.size, 0, none⟩ (.slice al2 (cc + 1) cl2) := ⟨_, rfl⟩
            have ka13 : Blk W13 qa2 #[.int .i64 (q : Int)] 3 := by rw [hW13]; exact ka2.setOther _ _ (by show qa2 ≠ w6.heap.size; omega)
            have kn13 : Blk W13 (qa2 + 1) #[.int .i64 (j : Int)] 3 := by rw [hW13]; exact kn2.setOther _ _ (by show qa2 + 1 ≠ w6.heap.size; omega)
            have kr13 : Blk W13 qr1 #[.int .i64 2] 3 := by rw [hW13]; exact kr2.setOther _ _ (by show qr1 ≠ w6.heap.size; omega)
            have hKo13 : KeepsOthers W W13 := ((HK10.out.trans (keeps_below hal)).trans (keeps_own h1'.lists HG'.out)).trans (by rw [hW13]; exact KeepsOthers.setCell _ _ _)
            rw [← hW13] at hG13
            have HG13 := hide hG13
            have HKa13 := hide ka13
            have HKn13 := hide kn13
            have HKr13 := hide kr13
            have HKo13 := hide hKo13
            clear h1' hal lb2 ka2 kn2 kr2 ka13 kn13 kr13 hG13 hKo13 HO' HG' HBk HG10 HF10 HKa10 HKn10 HKr10 hc13 HK10
            gi_wp2
            rw [← hW13]
            clear y0 y1 hW13
            have u1 : W13.cell? ⟨qa2, 0, none⟩ = some (.int .i64 (q : Int)) := HKa13.out.cell 0
            have u2 : W13.cell? ⟨w1.heap.size, 0, none⟩ = some (.slice (some ⟨gw, 0, none⟩) N wc) := (HL6.out.below HG13.out.bel HL6.out.lt).cell 0
            have u3 : W13.cell? ⟨qa2 + 1, 0, none⟩ = some (.int .i64 (j : Int)) := HKn13.out.cell 0
            have u4 : W13.cell? ⟨gw, j, none⟩ = some (.int .i64 (m : Int)) := HRow.out _ HG13.out.bel
            have u5 := HKa13.out.frozen 0
            apply cutP
            · intro hP
              gi_region
              all_goals exact hP
            obtain ⟨W13s, hW13s⟩ : ∃ W13s, W13s = W13.setCell ⟨qa2, 0, none⟩ (.int .i64 ((q : Int) + (m : Int))) := ⟨_, rfl⟩
            obtain ⟨W14, hW14⟩ : ∃ W14, W14 = (W13.setCell ⟨qa2, 0, none⟩ (.int .i64 ((q : Int) + (m : Int)))).drew := ⟨_, rfl⟩
            have hdr : Below W13s.heap.size W13s W14 := by rw [hW14, hW13s]; exact below_drew _
            rw [← hW14]
            clear hW14
            have hgd : W13.grownBy W13s (some qa2) := by rw [hW13s]; exact grownBy_set _ _ _ _
            have ka13s : Blk W13s qa2 #[.int .i64 ((q : Int) + (m : Int))] 3 := by rw [hW13s]; exact HKa13.out.set 0 _
            have ka14 := ka13s.below hdr ka13s.lt
            have kn13s := HKn13.out.grown hgd (fun e => by have := Option.some.inj e; omega)
            have kn14 := kn13s.below hdr kn13s.lt
            have kr13s := HKr13.out.grown hgd (fun e => by have := Option.some.inj e; omega)
            have kr14 := kr13s.below hdr kr13s.lt
            have hG14 := (HG13.out.other hgd HKa13.out (by omega) (by omega) (by decide) (by decide)).below hdr
            have hKo14 := (HKo13.out.trans (show KeepsOthers W13 W13s by rw [hW13s]; exact KeepsOthers.setCell _ _ _)).trans (keeps_below hdr)
            obtain ⟨W15, hW15⟩ : ∃ W15, W15 = W14.setCell ⟨qa2 + 1, 0, none⟩ (.int .i64 ((j : Int) + 1)) := ⟨_, rfl⟩
            have hge : W14.grownBy W15 (some (qa2 + 1)) := by rw [hW15]; exact grownBy_set _ _ _ _
            have HKa15 := hide (ka14.grown hge (fun e => by have := Option.some.inj e; omega))
            have HKn15 : Hid (Blk W15 (qa2 + 1) #[.int .i64 ((j : Int) + 1)] 3) := hide (by rw [hW15]; exact kn14.set 0 _)
            have HKr15 := hide (kr14.grown hge (fun e => by have := Option.some.inj e; omega))
            have HG15 := hide (hG14.other hge kn14 (by omega) (by omega) (by decide) (by decide))
            have HKo : Hid (KeepsOthers W W15) := hide (hKo14.trans (by rw [hW15]; exact KeepsOthers.setCell _ _ _))
            have z1 : W14.cell? ⟨qa2 + 1, 0, none⟩ = some (.int .i64 (j : Int)) := kn14.cell 0
            have z2 := kn14.frozen 0
            have z3 : W15.cell? ⟨qr1, 0, none⟩ = some (.int .i64 2) := HKr15.out.cell 0
            have z4 : W15.cell? ⟨qa2 + 1, 0, none⟩ = some (.int .i64 ((j : Int) + 1)) := HKn15.out.cell 0
            have z5 : W15.cell? ⟨w.heap.size + 1, 0, none⟩ = some (.int .i64 stop) := (HS6.out.below HG15.out.bel HS6.out.lt).cell 0
            have hN1 : pre.length + 1 = j + 1 := by rw [HJJ.out]
            have HI : Hid (∀ x : Rec, Blk W15 qa2 #[.int .i64 ((posK mn me mx X (pre ++ [x]).length : Nat) : Int)] 3 ∧ Blk W15 (qa2 + 1) #[.int .i64 (((pre ++ [x]).length : Nat) : Int)] 3 ∧ Blk W15 qr1 #[.int .i64 2] 3 ∧ (∃ vl lvs ys, KSt w6 W15 w6.heap.size vl (n1 + (pre ++ [x]).length) lvs ys) ∧ AllD [D1, D0] W15 ∧ V2.heap.size ≤ W15.heap.size) := hide (fun x => by
              rw [snoc_len, hN1]
              refine ⟨?_, ?_, HKr15.out, ⟨_, _, _, by rw [show n1 + (j + 1) = cc + 1 from by rw [HCC.out]; omega]; exact HG15.out⟩, HAW.out.keep HKo.out, Nat.le_trans HV4.out HKo.out.size⟩
              · rw [HP0.out]; push_cast; exact HKa15.out
              · push_cast; exact HKn15.out)
            rw [hW15] at z3 z4 z5
            clear hdr hgd hge ka13s kn13s kr13s hW13s ka14 kn14 kr14 hG14 hKo14 u1 u2 u3 u4 u5 HG13 HKa13 HKn13 HKr13 HKo13 HRow
            gi_wp2
            rw [← hW15]
            exact ⟨HKo.out, keepR_of HGW.out.bel HG15.out.bel HKo.out.size, HI.out _⟩
        case fin2z =>
          rintro D2 xs W hD2 hSp ⟨hka, hkn, hkr, ⟨vl2, lvs2, ys2, hGW⟩, hAW, hVW⟩ hK
          have hcnt : xs.length = N := by
            rcases hSp with ⟨h1, h2⟩ | h
            · exact (first_one HC1.out HC2.out h1 h2).symm
            · exact h.elim
          obtain ⟨k, hk⟩ : ∃ k, k = xs.length := ⟨_, rfl⟩
          rw [← hk] at hkn hGW hcnt
          obtain ⟨n2, hn2⟩ : ∃ n, n = n1 + k := ⟨_, rfl⟩
          rw [← hn2] at hGW
          have hkN : k ≤ N := by omega
          have hnb2 : n2 ≤ (2 + 1) * 1048576 := by omega
          have hc12 : W.cell? ⟨qa2 + 1, 0, none⟩ = some (.int .i64 ((k : Nat) : Int)) := hkn.cell 0
          have hc10 : W.cell? ⟨qr1, 0, none⟩ = some (.int .i64 2) := hkr.cell 0
          have hc5 : W.cell? ⟨w1.heap.size, 0, none⟩ = some (.slice wa N wc) := (HL6.out.below hGW.bel HL6.out.lt).cell 0
          have hcs : W.cell? ⟨w.heap.size + 1, 0, none⟩ = some (.int .i64 stop) := (HS6.out.below hGW.bel HS6.out.lt).cell 0
          obtain ⟨qr2, hqr'⟩ : ∃ q, q = W.heap.size := ⟨_, rfl⟩
          obtain ⟨Y2, hY2⟩ : ∃ Y, Y = W.alloc (.cells #[.int .i64 3] 3) := ⟨_, rfl⟩
          have hbY : Below W.heap.size W Y2 := by rw [hY2]; exact (Below.refl _ _).alloc (Nat.le_refl _) _
          have HGY2 := hide (hGW.below hbY)
          have HAY2 : Hid (AllD [D2, D1, D0] Y2) := hide (AllD.below (fun D hD => by
            rcases List.mem_cons.1 hD with e | e
            · rw [e]; exact hK
            · exact hAW D e) hbY)
          have HTY2 : Hid (Blk Y2 qr2 #[.int .i64 3] 3) := hide (by rw [hY2, hqr']; exact Blk.made _ _ _)
          have hqg2 : w6.heap.size < qr2 := by have := hkr.lt; omega
          have HDn2 : Hid (∀ D ∈ [D1, D0], D ≠ D2) := hide (fun D hD => by have := HDl2.out D hD; omega)
          have HDw2 : Hid (w.heap.size ≤ D2) := hide (by have := HV6L2.out; omega)
          clear hSp hka hkn hkr hGW hAW hVW hK hbY hn2 hk
          have hce := hcnt.symm
          clear hcnt
          subst hce
          have hbb : ((N : Int) == (N : Int)) = true := beq_self_eq_true _
          go_wp2
          rw [← hY2, ← hqr']
          clear hY2 hqr' hc12 hc10 hc5 hcs hkN
          rw [rounds_succ]
          obtain ⟨al, cl, rfl⟩ := row_form HGY2.out.lists
          obtain ⟨R, hR⟩ := HGY2.out.lrow
          have hct : Y2.cell? ⟨qr2, 0, none⟩ = some (.int .i64 3) := HTY2.out.cell 0
          have hck : Y2.cell? ⟨w6.heap.size, 0, none⟩ = some (.slice al n2 cl) := HGY2.out.lbox.cell 0
          have HAp := hide (apart_keeps Y2 w6.heap.size R n2 al cl lvs2 ys2 (fun i => (ys2 i).length) (fun _ _ => rfl) HGY2.out.ls hR HGY2.out.bel.size (by omega) HGY2.out.len)
          clear hR
          go_wp2_with fail
          refine HAp.out.mono ?_
          rintro e wA ⟨rfl, hbA, hkA⟩
          have HBA : Hid (Below w6.heap.size w6 wA) := hide (HGY2.out.bel.trans hbA)
          have HKA := hide hkA
          have HLf := hide (left_any wA _ g cap _ X (owns_below HOl6.out HBA.out) (by omega) hcap (HD6.out.below HBA.out))
          have hca : wA.cell? ⟨w.heap.size, 3, none⟩ = some (.slice da X.length dc) := (HA6.out.below HBA.out HA6.out.lt).cell 3
          clear hbA hkA HAp hct hck
          go_wp2_with fail
          refine HLf.out.mono ?_
          rintro e wB ⟨rfl, hbB⟩
          have HBB := hide (Below.step HBA.out hbB)
          have HKB := hide (HKA.out.trans (keeps_below hbB))
          have HLv := hide (lives_any wB (HT6.out.below HBB.out HT6.out.size))
          clear hbB HLf hca
          go_wp2_with fail
          refine HLv.out.mono ?_
          rintro e wC ⟨rfl, hbC⟩
          have HBC := hide (Below.step HBB.out hbC)
          have HKC := hide (HKB.out.trans (keeps_below hbC))
          have HRC := hide (HR6.out.below HBC.out HR6.out.lt)
          have hcr : wC.cell? ⟨w.heap.size + 1 + 1, 0, none⟩ = some (.bool false) := HRC.out.cell 0
          have hfr := HRC.out.frozen 0
          have HBZ : Hid (Below w.heap.size w (wC.setCell ⟨w.heap.size + 1 + 1, 0, none⟩ (.bool true))) := hide ((Below.step HBw6.out HBC.out).setCell (p := ⟨w.heap.size + 1 + 1, 0, none⟩) (by show w.heap.size ≤ w.heap.size + 1 + 1; omega) _)
          have HAZ : Hid (AllD [D2, D1, D0] (wC.setCell ⟨w.heap.size + 1 + 1, 0, none⟩ (.bool true))) := hide ((HAY2.out.keep HKC.out).keep (KeepsOthers.setCell _ _ _))
          have HRZ : Hid (Blk (wC.setCell ⟨w.heap.size + 1 + 1, 0, none⟩ (.bool true)) (w.heap.size + 1 + 1) #[.bool true] 4) := hide (HRC.out.set 0 (.bool true))
          clear hbC HLv
          go_wp2
          exact leave3c (t := 4) rfl HAZ.out (HDn1.out D0 (by simp)) (HDn2.out D0 (by simp)) (HDn2.out D1 (by simp)) rfl HRZ.out HBZ.out HDw0.out HDw1.out HDw2.out
end Go.Proofs.YtamajnaeladehaaDoor
