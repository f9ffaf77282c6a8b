/- TablePlays, walked: two tables in turns, for every script. -/
import Derived.Test.YtnknjcnbbljagaaTRJ
namespace Go.Proofs.Ytnknjcnbbljagaa
set_option linter.unusedVariables false
set_option linter.unusedSimpArgs false
namespace RR
set_option maxRecDepth 100000
open Go.RowKit

/-- What stands in the two rows of pointers, and what an index tells. -/
theorem ptr_cell {W : World} {b i : Nat} {cs : Array Value} {t : TypeId} {v : Value} (h : Blk W b cs t) (hv : cs[i]? = some v) : W.cell? ⟨b, i, none⟩ = some v := (h.cell i).trans hv
set_option maxHeartbeats 16000000 in
theorem plays_any (w : World) (t0 t1 m0 m1 : Int) (ap : Option Addr) (n c : Nat) (hS : StepsAt w ap n) (hn : n ≤ 4398046510976) : Calls Try.prog 3 #[.agg #[.int .i64 t0, .int .i64 t1, .int .i64 m0, .int .i64 m1, .slice ap n c]] w (TrueC w) := by
  obtain ⟨W3, hW3⟩ : ∃ W, W = ((w.alloc (.cells #[.int .i64 t0, .int .i64 t1, .int .i64 m0, .int .i64 m1, .slice ap n c] 25)).alloc (.cells #[.pointer none, .pointer none] tyP)).alloc (.cells #[.pointer none, .pointer none] tyR) := ⟨_, rfl⟩
  have hs3 : W3.heap.size = w.heap.size + 3 := by rw [hW3]; simp
  have HM0 : Hid (Mk w w.heap.size t0 t1 m0 m1 ap n c 0 W3) := hide (by
    have h1 := Blk.made (w.alloc (.cells #[.int .i64 t0, .int .i64 t1, .int .i64 m0, .int .i64 m1, .slice ap n c] 25)) #[.pointer none, .pointer none] tyP
    rw [World.size_alloc] at h1
    have h2 := Blk.made ((w.alloc (.cells #[.int .i64 t0, .int .i64 t1, .int .i64 m0, .int .i64 m1, .slice ap n c] 25)).alloc (.cells #[.pointer none, .pointer none] tyP)) #[.pointer none, .pointer none] tyR
    rw [World.size_alloc, World.size_alloc] at h2
    refine ⟨by rw [hW3]; exact ((below_alloc w _).alloc (by simp) _).alloc (by simp; omega) _, by omega, by rw [hW3]; exact ((Blk.made w _ _).alloc _).alloc _, .inl ⟨rfl, ?_, ?_⟩⟩
    · rw [hW3]; exact h1.alloc _
    · rw [hW3]; exact h2)
  have HS := hide hS
  have hW3' := hW3.symm
  clear hS hW3 hs3
  go_enter Try.func3, Try.ntmps3
  go_upto_region 4 with fail
  clear hW3'
  obtain ⟨N, hN⟩ : ∃ N, N = w.heap.size := ⟨_, rfl⟩
  have HN := hide hN
  rw [← hN] at HM0 ⊢
  clear hN
  go_loopw [5] (fun t wr => ∃ j : Nat, t = .int .i64 j ∧ j ≤ 2 ∧ Mk w N t0 t1 m0 m1 ap n c j wr) (fun t _ => 2 - (intOf t).toNat)
  case atStart => exact ⟨0, rfl, by omega, HM0.out⟩
  case round =>
    clear HM0
    obtain ⟨j, rfl, hj, hM⟩ := hrel
    have HM := hide hM
    have hsz := hM.sz
    rcases hM.st with ⟨rfl, bp, br⟩ | ⟨rfl, a, T, h1, bp, br⟩ | ⟨rfl, a, b, hp, bp, br⟩
    · have c0 : wr.cell? ⟨N, 0, none⟩ = some (.int .i64 t0) := (hM.pl.cell 0).trans rfl
      have c2 : wr.cell? ⟨N, 2, none⟩ = some (.int .i64 m0) := (hM.pl.cell 2).trans rfl
      have hnl : N < wr.heap.size := by omega
      have HBP := hide bp
      have HBR := hide br
      clear hM bp br
      obtain ⟨Wa, hWa⟩ : ∃ W, W = (wr.alloc (.cells #[.int .i64 t0] 3)).alloc (.cells #[.int .i64 m0] 3) := ⟨_, rfl⟩
      have hwa : Wa.heap.size = wr.heap.size + 2 := by rw [hWa]; simp
      have HWA := hide hWa
      have HSA := hide hwa
      have HA1 : Hid (Blk Wa wr.heap.size #[.int .i64 t0] 3) := hide (by rw [hWa]; exact (Blk.made wr _ _).alloc _)
      have HA2 : Hid (Blk Wa (wr.heap.size + 1) #[.int .i64 m0] 3) := hide (by
        rw [hWa]
        have h := Blk.made (wr.alloc (.cells #[.int .i64 t0] 3)) #[.int .i64 m0] 3
        rw [World.size_alloc] at h
        exact h)
      have HPA : Hid (Blk Wa (N + 1) #[.pointer none, .pointer none] tyP) := hide (by rw [hWa]; exact (HBP.out.alloc _).alloc _)
      have HRA : Hid (Blk Wa (N + 1 + 1) #[.pointer none, .pointer none] tyR) := hide (by rw [hWa]; exact (HBR.out.alloc _).alloc _)
      have HNew := hide (Go.Proofs.Ytnknjcnbbljagaa.new_any Wa FP wr.heap.size (wr.heap.size + 1))
      unfold hvF at HNew
      have hWa' := hWa.symm
      clear hWa hwa
      go_upto_region 8 with fail
      clear hWa' c0 c2
      have HQ4 : Hid (∀ w4, Below Wa.heap.size Wa w4 → w4.cell? ⟨N + 1, 0, none⟩ = some (.pointer none) ∧ w4.frozen? ⟨N + 1, 0, none⟩ = false ∧ w4.cell? ⟨wr.heap.size, 0, none⟩ = some (.int .i64 t0) ∧ w4.cell? ⟨wr.heap.size + 1, 0, none⟩ = some (.int .i64 m0) ∧ N + 1 < w4.heap.size ∧ wr.heap.size + 1 < w4.heap.size) := hide (fun w4 hb => by
        have q := HPA.out.below hb HPA.out.lt
        have q1 := HA1.out.below hb HA1.out.lt
        have q2 := HA2.out.below hb HA2.out.lt
        exact ⟨(q.cell 0).trans rfl, q.frozen 0, (q1.cell 0).trans rfl, (q2.cell 0).trans rfl, q.lt, q2.lt⟩)
      go_upto_region 9 with (go_at_call 8; (with_reducible refine HNew.out.mono ?_); rintro e w4 ⟨z, g, rfl, ht, hz, hg, hb⟩; obtain ⟨q1, q2, q3, q4, q5, q6⟩ := HQ4.out w4 hb; have HT4 := hide ht; have HB4 := hide hb; have HZ := hide hz; have HG := hide hg; clear ht hb hz hg)
      have HRN := hide (new_any (w4.setCell ⟨N + 1, 0, none⟩ (.pointer (some ⟨z, 0, none⟩))) t0 m0)
      have HQ5 : Hid (∀ w5, Below (w4.setCell ⟨N + 1, 0, none⟩ (.pointer (some ⟨z, 0, none⟩))).heap.size (w4.setCell ⟨N + 1, 0, none⟩ (.pointer (some ⟨z, 0, none⟩))) w5 → w5.cell? ⟨N + 1, 0, none⟩ = some (.pointer (some ⟨z, 0, none⟩)) ∧ w5.cell? ⟨N + 1 + 1, 0, none⟩ = some (.pointer none) ∧ w5.frozen? ⟨N + 1 + 1, 0, none⟩ = false ∧ N + 1 < w5.heap.size ∧ N + 1 + 1 < w5.heap.size) := hide (fun w5 hb => by
        have q := HPA.out.below HB4.out HPA.out.lt
        have r4 := HRA.out.below HB4.out HRA.out.lt
        have qs := q.set 0 (.pointer (some ⟨z, 0, none⟩))
        have rs := r4.setOther ⟨N + 1, 0, none⟩ (.pointer (some ⟨z, 0, none⟩)) (by simp)
        have q' := qs.below hb qs.lt
        have r' := rs.below hb rs.lt
        exact ⟨(q'.cell 0).trans rfl, (r'.cell 0).trans rfl, r'.frozen 0, q'.lt, r'.lt⟩)
      clear HNew HQ4
      go_wp2_with (go_at_call 11; (with_reducible refine HRN.out.mono ?_); rintro e w5 ⟨r, h, rfl, hr, hr1, hr2, hb5⟩; obtain ⟨s1, s2, s3, s4, s5⟩ := HQ5.out w5 hb5; have HR5 := hide hr; have HR1 := hide hr1; have HR2 := hide hr2; have HB5 := hide hb5; clear hr hr1 hr2 hb5)
      go_roundw
      case rel =>
        have e4 : (w4.setCell ⟨N + 1, 0, none⟩ (.pointer (some ⟨z, 0, none⟩))).heap.size = w4.heap.size := by simp
        have g1 := HR1.out
        have g2 := HR2.out
        have g5 := HB5.out
        rw [e4] at g1 g2 g5
        refine ⟨0 + 1, by go_num, by omega, ?_⟩
        have hmd := made HM.out.sz HBP.out HBR.out HT4.out (by have := HZ.out; have := HSA.out; omega) (by have := HG.out; have := HSA.out; omega) (by rw [← HWA.out, ← HSA.out]; exact HB4.out) HR5.out g1 g2 g5
        exact HM.out.first hmd
      case measure => simp [intOf]
    · have c0 : wr.cell? ⟨N, 1, none⟩ = some (.int .i64 t1) := (hM.pl.cell 1).trans rfl
      have c2 : wr.cell? ⟨N, 3, none⟩ = some (.int .i64 m1) := (hM.pl.cell 3).trans rfl
      have hnl : N < wr.heap.size := by omega
      have HBP := hide bp
      have HBR := hide br
      have H1 := hide h1
      clear h1
      clear hM bp br
      obtain ⟨Wa, hWa⟩ : ∃ W, W = (wr.alloc (.cells #[.int .i64 t1] 3)).alloc (.cells #[.int .i64 m1] 3) := ⟨_, rfl⟩
      have hwa : Wa.heap.size = wr.heap.size + 2 := by rw [hWa]; simp
      have HWA := hide hWa
      have HSA := hide hwa
      have HA1 : Hid (Blk Wa wr.heap.size #[.int .i64 t1] 3) := hide (by rw [hWa]; exact (Blk.made wr _ _).alloc _)
      have HA2 : Hid (Blk Wa (wr.heap.size + 1) #[.int .i64 m1] 3) := hide (by
        rw [hWa]
        have h := Blk.made (wr.alloc (.cells #[.int .i64 t1] 3)) #[.int .i64 m1] 3
        rw [World.size_alloc] at h
        exact h)
      have HPA : Hid (Blk Wa (N + 1) #[ptr a.z, .pointer none] tyP) := hide (by rw [hWa]; exact (HBP.out.alloc _).alloc _)
      have HRA : Hid (Blk Wa (N + 1 + 1) #[ptr a.r, .pointer none] tyR) := hide (by rw [hWa]; exact (HBR.out.alloc _).alloc _)
      have HNew := hide (Go.Proofs.Ytnknjcnbbljagaa.new_any Wa FP wr.heap.size (wr.heap.size + 1))
      unfold hvF at HNew
      have hWa' := hWa.symm
      clear hWa hwa
      go_upto_region 8 with fail
      clear hWa' c0 c2
      have HQ4 : Hid (∀ w4, Below Wa.heap.size Wa w4 → w4.cell? ⟨N + 1, 1, none⟩ = some (.pointer none) ∧ w4.frozen? ⟨N + 1, 1, none⟩ = false ∧ w4.cell? ⟨wr.heap.size, 0, none⟩ = some (.int .i64 t1) ∧ w4.cell? ⟨wr.heap.size + 1, 0, none⟩ = some (.int .i64 m1) ∧ N + 1 < w4.heap.size ∧ wr.heap.size + 1 < w4.heap.size) := hide (fun w4 hb => by
        have q := HPA.out.below hb HPA.out.lt
        have q1 := HA1.out.below hb HA1.out.lt
        have q2 := HA2.out.below hb HA2.out.lt
        exact ⟨(q.cell 1).trans rfl, q.frozen 1, (q1.cell 0).trans rfl, (q2.cell 0).trans rfl, q.lt, q2.lt⟩)
      go_upto_region 9 with (go_at_call 8; (with_reducible refine HNew.out.mono ?_); rintro e w4 ⟨z, g, rfl, ht, hz, hg, hb⟩; obtain ⟨q1, q2, q3, q4, q5, q6⟩ := HQ4.out w4 hb; have HT4 := hide ht; have HB4 := hide hb; have HZ := hide hz; have HG := hide hg; clear ht hb hz hg)
      have HRN := hide (new_any (w4.setCell ⟨N + 1, 1, none⟩ (.pointer (some ⟨z, 0, none⟩))) t1 m1)
      have HQ5 : Hid (∀ w5, Below (w4.setCell ⟨N + 1, 1, none⟩ (.pointer (some ⟨z, 0, none⟩))).heap.size (w4.setCell ⟨N + 1, 1, none⟩ (.pointer (some ⟨z, 0, none⟩))) w5 → w5.cell? ⟨N + 1, 1, none⟩ = some (.pointer (some ⟨z, 0, none⟩)) ∧ w5.cell? ⟨N + 1 + 1, 1, none⟩ = some (.pointer none) ∧ w5.frozen? ⟨N + 1 + 1, 1, none⟩ = false ∧ N + 1 < w5.heap.size ∧ N + 1 + 1 < w5.heap.size) := hide (fun w5 hb => by
        have q := HPA.out.below HB4.out HPA.out.lt
        have r4 := HRA.out.below HB4.out HRA.out.lt
        have qs := q.set 1 (.pointer (some ⟨z, 0, none⟩))
        have rs := r4.setOther ⟨N + 1, 1, none⟩ (.pointer (some ⟨z, 0, none⟩)) (by simp)
        have q' := qs.below hb qs.lt
        have r' := rs.below hb rs.lt
        exact ⟨(q'.cell 1).trans rfl, (r'.cell 1).trans rfl, r'.frozen 1, q'.lt, r'.lt⟩)
      clear HNew HQ4
      go_wp2_with (go_at_call 11; (with_reducible refine HRN.out.mono ?_); rintro e w5 ⟨r, h, rfl, hr, hr1, hr2, hb5⟩; obtain ⟨s1, s2, s3, s4, s5⟩ := HQ5.out w5 hb5; have HR5 := hide hr; have HR1 := hide hr1; have HR2 := hide hr2; have HB5 := hide hb5; clear hr hr1 hr2 hb5)
      go_roundw
      case rel =>
        have e4 : (w4.setCell ⟨N + 1, 1, none⟩ (.pointer (some ⟨z, 0, none⟩))).heap.size = w4.heap.size := by simp
        have g1 := HR1.out
        have g2 := HR2.out
        have g5 := HB5.out
        rw [e4] at g1 g2 g5
        refine ⟨1 + 1, by go_num, by omega, ?_⟩
        have hmd := made HM.out.sz HBP.out HBR.out HT4.out (by have := HZ.out; have := HSA.out; omega) (by have := HG.out; have := HSA.out; omega) (by rw [← HWA.out, ← HSA.out]; exact HB4.out) HR5.out g1 g2 g5
        exact HM.out.second H1.out HBP.out HBR.out hmd
      case measure => simp [intOf]
    · have hj2 : (2 : Int) < 2 ↔ False := by simp
      have HMP := hide hM.pl
      have HBP := hide bp
      have HBR := hide br
      have HMB := hide hM.bel
      have HL0 : Hid (LpP wr (N + 3) a.z a.r b.z b.r t0 m0 t1 m1 0 wr) := hide ⟨⟨a, b, rfl, rfl, rfl, rfl, hp⟩, Below.refl _ _⟩
      unfold ptr at HBP HBR
      generalize a.z = z0 at *
      generalize a.r = r0 at *
      generalize b.z = z1 at *
      generalize b.r = r1 at *
      clear hM hp bp br hj2 HM
      go_upto_region 13 with fail
      obtain ⟨wp, rfl⟩ : ∃ w0, w0 = wr := ⟨_, rfl⟩
      have HFct : Hid (∀ W, Below (N + 3) wp W → W.cell? ⟨N, 4, none⟩ = some (.slice ap n c) ∧ N + 1 + 1 < W.heap.size ∧ (W.cell? ⟨N + 1, 0, none⟩ = some (.pointer (some ⟨z0, 0, none⟩)) ∧ W.cell? ⟨N + 1 + 1, 0, none⟩ = some (.pointer (some ⟨r0, 0, none⟩))) ∧ (W.cell? ⟨N + 1, 1, none⟩ = some (.pointer (some ⟨z1, 0, none⟩)) ∧ W.cell? ⟨N + 1 + 1, 1, none⟩ = some (.pointer (some ⟨r1, 0, none⟩)))) := hide (fun W hb => by
        have e1 := (hb.block N (by omega)).trans HMP.out
        have e2 := (hb.block (N + 1) (by omega)).trans HBP.out
        have e3 := (hb.block (N + 1 + 1) (by omega)).trans HBR.out
        have f1 : Blk W N _ _ := e1
        have f2 : Blk W (N + 1) _ _ := e2
        have f3 : Blk W (N + 1 + 1) _ _ := e3
        exact ⟨(f1.cell 4).trans rfl, f3.lt, ⟨(f2.cell 0).trans rfl, (f3.cell 0).trans rfl⟩, ⟨(f2.cell 1).trans rfl, (f3.cell 1).trans rfl⟩⟩)
      have HSt : Hid (∀ W, Below (N + 3) wp W → ∀ i, i < n → ∃ b o, ap = some ⟨b, o, none⟩ ∧ b < W.heap.size ∧ ∃ (d : Int) (oo : Bool) (k v : Int), W.cell? ⟨b, o + i * 4, none⟩ = some (.int .i64 d) ∧ W.cell? ⟨b, o + i * 4 + 1, none⟩ = some (.bool oo) ∧ W.cell? ⟨b, o + i * 4 + 2, none⟩ = some (.int .i64 k) ∧ W.cell? ⟨b, o + i * 4 + 3, none⟩ = some (.int .i64 v)) := hide (fun W hb i hi => by
        obtain ⟨b, o, e, hbl, d, oo, k, v, e0, e1, e2, e3⟩ := HS.out i hi
        have hbw : Below w.heap.size w W := by rw [← HN.out]; exact HMB.out.trans (hb.mono (by omega))
        exact ⟨b, o, e, Nat.lt_of_lt_of_le hbl hbw.size, d, oo, k, v, (hbw.cell (p := ⟨b, o + i * 4, none⟩) hbl).trans e0, (hbw.cell (p := ⟨b, o + i * 4 + 1, none⟩) hbl).trans e1, (hbw.cell (p := ⟨b, o + i * 4 + 2, none⟩) hbl).trans e2, (hbw.cell (p := ⟨b, o + i * 4 + 3, none⟩) hbl).trans e3⟩)
      have HF0 : Hid (∀ W, Below (N + 3) wp W → W.cell? ⟨N + 1, 0, none⟩ = some (.pointer (some ⟨z0, 0, none⟩)) ∧ W.cell? ⟨N + 1 + 1, 0, none⟩ = some (.pointer (some ⟨r0, 0, none⟩))) := hide (fun W hb => (HFct.out W hb).2.2.1)
      have HF1 : Hid (∀ W, Below (N + 3) wp W → W.cell? ⟨N + 1, 1, none⟩ = some (.pointer (some ⟨z1, 0, none⟩)) ∧ W.cell? ⟨N + 1 + 1, 1, none⟩ = some (.pointer (some ⟨r1, 0, none⟩))) := hide (fun W hb => (HFct.out W hb).2.2.2)
      clear HS HMP HBP HBR hj hsz
      go_loopw [8] (fun t wr => ∃ j : Nat, t = .int .i64 j ∧ j ≤ n ∧ LpP wp (N + 3) z0 r0 z1 r1 t0 m0 t1 m1 j wr) (fun t _ => n - (intOf t).toNat)
      case atStart => exact ⟨0, rfl, Nat.zero_le _, HL0.out⟩
      case round =>
        clear HL0
        obtain ⟨j, rfl, hj, hL⟩ := hrel
        have HL := hide hL
        obtain ⟨x4, hnl, ⟨p0, q0⟩, ⟨p1, q1⟩⟩ := HFct.out wr hL.bel
        have hnl1 : N < wr.heap.size := by omega
        have hnl2 : N + 1 < wr.heap.size := by omega
        by_cases hlt : j < n
        · have hji : (j : Int) < (n : Int) := by omega
          have hjb : j ≤ 4398046511104 := by omega
          obtain ⟨sb, so, rfl, hbl, d, oo, k, v, e0, e1, e2, e3⟩ := HSt.out wr hL.bel j hlt
          clear hL
          cases oo with
          | false =>
            have HD := hide (LpP.step0 (W := wr.drew) (HL.out.drewN 1) (by omega) d false k v)
            clear p1 q1
            go_upto_region 18 with fail
            refine wp_region_still_tail 11 (by kernel_rfl) (by kernel_rfl) ?_
            simp only [List.take_succ_cons, List.take_zero, List.drop_succ_cons, List.drop_zero]
            iterate 11 still_step
            refine wpStill_nil ?_
            go_wp2_with (go_at_call 12; (with_reducible refine HD.out.mono ?_); rintro e w6 ⟨rfl, h6⟩; have H6 := hide h6; clear h6)
            go_roundw
            case rel => exact ⟨_, .int .i64 ((j : Int) + 1), _, _, _, _, _, _, _, _, _, _, _, _, _, _, _, _, _, _, _, _, _, _, _, _, _, _, _, ⟨j + 1, by go_num, by omega, H6.out⟩, rfl⟩
            case measure => simp [intOf]; omega
          | true =>
            have HD := hide (LpP.step1 (W := wr.drew) (HL.out.drewN 1) (by omega) d true k v)
            clear p0 q0
            go_upto_region 18 with fail
            refine wp_region_still_tail 11 (by kernel_rfl) (by kernel_rfl) ?_
            simp only [List.take_succ_cons, List.take_zero, List.drop_succ_cons, List.drop_zero]
            iterate 11 still_step
            refine wpStill_nil ?_
            go_wp2_with (go_at_call 12; (with_reducible refine HD.out.mono ?_); rintro e w6 ⟨rfl, h6⟩; have H6 := hide h6; clear h6)
            go_roundw
            case rel => exact ⟨_, .int .i64 ((j : Int) + 1), _, _, _, _, _, _, _, _, _, _, _, _, _, _, _, _, _, _, _, _, _, _, _, _, _, _, _, ⟨j + 1, by go_num, by omega, H6.out⟩, rfl⟩
            case measure => simp [intOf]; omega
        · have hji : ¬ (j : Int) < (n : Int) := by omega
          obtain rfl : j = n := by omega
          have HLn := hide hL
          clear hL p0 q0 p1 q1 hnl hnl2 HSt hji
          go_upto_region 21 with fail
          clear x4 hnl1
          clear HL
          go_loopw [10] (fun t wr => ∃ i : Nat, t = .int .i64 i ∧ i ≤ 2 ∧ LpP wp (N + 3) z0 r0 z1 r1 t0 m0 t1 m1 (j + 7 * i) wr) (fun t _ => 2 - (intOf t).toNat)
          case atStart => exact ⟨0, rfl, by omega, HLn.out⟩
          case round =>
            clear HLn
            obtain ⟨i, rfl, hi, hL⟩ := hrel
            have HL := hide hL
            clear hL
            obtain rfl | rfl | rfl : i = 0 ∨ i = 1 ∨ i = 2 := by omega
            · go_upto_region 24 with fail
              go_loopw [11] (fun t wr => ∃ d : Nat, t = .int .i64 d ∧ 4 ≤ d ∧ d ≤ 9 ∧ LpP wp (N + 3) z0 r0 z1 r1 t0 m0 t1 m1 (j + 7 * 0 + (d - 4)) wr) (fun t _ => 9 - (intOf t).toNat)
              case atStart => exact ⟨4, rfl, by omega, by omega, HL.out⟩
              case round =>
                clear HL
                obtain ⟨d, rfl, hd4, hd9, hL⟩ := hrel
                have HL := hide hL
                obtain ⟨x4, hnl, ⟨p0, q0⟩, ⟨p1, q1⟩⟩ := HFct.out wr hL.bel
                have hnl2 : N + 1 < wr.heap.size := by omega
                clear hL p1 q1 x4
                by_cases hd : d ≤ 8
                · have hdi : (d : Int) ≤ 8 := by omega
                  have HD := hide (LpP.step0 (W := wr.drew) (HL.out.drewN 1) (by omega) (d : Int) false 0 0)
                  go_upto_region 26 with fail
                  refine wp_region_still_tail 8 (by kernel_rfl) (by kernel_rfl) ?_
                  simp only [List.take_succ_cons, List.take_zero, List.drop_succ_cons, List.drop_zero]
                  iterate 8 still_step
                  refine wpStill_nil ?_
                  go_wp2_with (go_at_call 12; (with_reducible refine HD.out.mono ?_); rintro e w6 ⟨rfl, h6⟩; have H6 := hide h6; clear h6)
                  go_roundw
                  case rel => exact ⟨_, .int .i64 ((d : Int) + 1), _, _, _, _, _, _, _, _, _, _, _, _, _, _, ⟨d + 1, by go_num, by omega, by omega, by rw [show j + 7 * 0 + (d + 1 - 4) = j + 7 * 0 + (d - 4) + 1 by omega]; exact H6.out⟩, rfl⟩
                  case measure => simp [intOf]; omega
                · have hdi : ¬ (d : Int) ≤ 8 := by omega
                  obtain rfl : d = 9 := by omega
                  have HD := hide (LpP.step0 (W := wr.drew) (HL.out.drewN 1) (by omega) 0 false 5 6)
                  have HD2 : Hid (∀ w6, LpP wp (N + 3) z0 r0 z1 r1 t0 m0 t1 m1 (j + 7 * 0 + (9 - 4) + 1) w6 → Calls Try.prog 12 #[.pointer (some ⟨z0, 0, none⟩), .pointer (some ⟨r0, 0, none⟩), .agg #[.int .i64 2, .bool false, .int .i64 5, .int .i64 0]] w6 fun e w' => e = .returned (.bool true) ∧ LpP wp (N + 3) z0 r0 z1 r1 t0 m0 t1 m1 (j + 7 * 0 + (9 - 4) + 1 + 1) w') := hide (fun w6 h6 => LpP.step0 h6 (by omega) 2 false 5 0)
                  go_upto_region 28 with fail
                  refine tl_walk _ (fun _ _ _ _ _ h => h) wr N z0 r0 0 (fun W => LpP wp (N + 3) z0 r0 z1 r1 t0 m0 t1 m1 (j + 7 * 0 + (9 - 4) + 1) W) (fun W => LpP wp (N + 3) z0 r0 z1 r1 t0 m0 t1 m1 (j + 7 * 0 + (9 - 4) + 1 + 1) W) (by omega) ⟨p0, q0⟩ (fun w h => HF0.out w h.bel) (fun w h => HF0.out w h.bel) HD.out HD2.out _ (Nat.lt_of_sub_pos (by exact Nat.succ_pos _)) rfl rfl rfl ?_
                  intro w7 h7
                  have H7 := hide h7
                  clear h7 HD HD2
                  simp only [Act.put, List.setIfInBounds_toArray, List.set_cons_zero, List.set_cons_succ]
                  go_wp2
                  go_roundw
                  case rel => exact ⟨0 + 1, by go_num, by omega, by rw [show j + 7 * (0 + 1) = j + 7 * 0 + (9 - 4) + 1 + 1 by omega]; exact H7.out⟩
                  case measure => simp [intOf]
            · go_upto_region 24 with fail
              go_loopw [11] (fun t wr => ∃ d : Nat, t = .int .i64 d ∧ 4 ≤ d ∧ d ≤ 9 ∧ LpP wp (N + 3) z0 r0 z1 r1 t0 m0 t1 m1 (j + 7 * 1 + (d - 4)) wr) (fun t _ => 9 - (intOf t).toNat)
              case atStart => exact ⟨4, rfl, by omega, by omega, HL.out⟩
              case round =>
                clear HL
                obtain ⟨d, rfl, hd4, hd9, hL⟩ := hrel
                have HL := hide hL
                obtain ⟨x4, hnl, ⟨p0, q0⟩, ⟨p1, q1⟩⟩ := HFct.out wr hL.bel
                have hnl2 : N + 1 < wr.heap.size := by omega
                clear hL p0 q0 x4
                by_cases hd : d ≤ 8
                · have hdi : (d : Int) ≤ 8 := by omega
                  have HD := hide (LpP.step1 (W := wr.drew) (HL.out.drewN 1) (by omega) (d : Int) false 0 0)
                  go_upto_region 26 with fail
                  refine wp_region_still_tail 8 (by kernel_rfl) (by kernel_rfl) ?_
                  simp only [List.take_succ_cons, List.take_zero, List.drop_succ_cons, List.drop_zero]
                  iterate 8 still_step
                  refine wpStill_nil ?_
                  go_wp2_with (go_at_call 12; (with_reducible refine HD.out.mono ?_); rintro e w6 ⟨rfl, h6⟩; have H6 := hide h6; clear h6)
                  go_roundw
                  case rel => exact ⟨_, .int .i64 ((d : Int) + 1), _, _, _, _, _, _, _, _, _, _, _, _, _, _, ⟨d + 1, by go_num, by omega, by omega, by rw [show j + 7 * 1 + (d + 1 - 4) = j + 7 * 1 + (d - 4) + 1 by omega]; exact H6.out⟩, rfl⟩
                  case measure => simp [intOf]; omega
                · have hdi : ¬ (d : Int) ≤ 8 := by omega
                  obtain rfl : d = 9 := by omega
                  have HD := hide (LpP.step1 (W := wr.drew) (HL.out.drewN 1) (by omega) 0 false 5 6)
                  have HD2 : Hid (∀ w6, LpP wp (N + 3) z0 r0 z1 r1 t0 m0 t1 m1 (j + 7 * 1 + (9 - 4) + 1) w6 → Calls Try.prog 12 #[.pointer (some ⟨z1, 0, none⟩), .pointer (some ⟨r1, 0, none⟩), .agg #[.int .i64 2, .bool false, .int .i64 5, .int .i64 0]] w6 fun e w' => e = .returned (.bool true) ∧ LpP wp (N + 3) z0 r0 z1 r1 t0 m0 t1 m1 (j + 7 * 1 + (9 - 4) + 1 + 1) w') := hide (fun w6 h6 => LpP.step1 h6 (by omega) 2 false 5 0)
                  go_upto_region 28 with fail
                  refine tl_walk _ (fun _ _ _ _ _ h => h) wr N z1 r1 1 (fun W => LpP wp (N + 3) z0 r0 z1 r1 t0 m0 t1 m1 (j + 7 * 1 + (9 - 4) + 1) W) (fun W => LpP wp (N + 3) z0 r0 z1 r1 t0 m0 t1 m1 (j + 7 * 1 + (9 - 4) + 1 + 1) W) (by omega) ⟨p1, q1⟩ (fun w h => HF1.out w h.bel) (fun w h => HF1.out w h.bel) HD.out HD2.out _ (Nat.lt_of_sub_pos (by exact Nat.succ_pos _)) rfl rfl rfl ?_
                  intro w7 h7
                  have H7 := hide h7
                  clear h7 HD HD2
                  simp only [Act.put, List.setIfInBounds_toArray, List.set_cons_zero, List.set_cons_succ]
                  go_wp2
                  go_roundw
                  case rel => exact ⟨1 + 1, by go_num, by omega, by rw [show j + 7 * (1 + 1) = j + 7 * 1 + (9 - 4) + 1 + 1 by omega]; exact H7.out⟩
                  case measure => simp [intOf]
            · have HB := hide (HMB.out.trans (HL.out.bel.mono (by omega)))
              rw [HN.out] at HB
              go_wp2
              go_ret
              exact ⟨rfl, HB.out⟩
end RR
end Go.Proofs.Ytnknjcnbbljagaa
