/- A step on table and list alike: taking out, asking. -/
import Derived.Test.YtnknjcnbbljagaaTN3
namespace Go.Proofs.Ytnknjcnbbljagaa
set_option linter.unusedVariables false
set_option linter.unusedSimpArgs false
set_option maxRecDepth 100000
open Go.RowKit

section
variable {B z gy ge mb F bt bm : Nat} {ti ma : Int} {kv vv : Value} {T : TB} {M : List (Int × Int)} {P : Nat}
theorem MdAt.val {W : World} (h : MdAt W B mb kv vv M) {q : Nat} (hq : q < M.length) : ∃ g cap, vv = .slice (some ⟨g, 0, none⟩) M.length cap ∧ W.cell? ⟨g, q, none⟩ = some (.int .i64 (M.getD q (0, 0)).2) ∧ W.cell? ⟨mb, 1, none⟩ = some (.slice (some ⟨g, 0, none⟩) M.length cap) := by
  obtain ⟨ao, cap, hf, hg⟩ := h.vs.form
  rw [List.length_map] at hf hg
  obtain ⟨g, rfl⟩ := hg (by omega)
  have hv := h.vs
  rw [hf] at hv
  have d := hv.at q (by simpa using hq)
  refine ⟨g, cap, hf, ?_, by rw [h.blk.cell, hf]; rfl⟩
  rw [d]
  simp [List.getD_eq_getElem?_getD, List.getElem?_eq_getElem hq]
theorem stp_ok {w W : World} {gy' ge' : Nat} {kv' vv' : Value} {T' : TB} {M' : List (Int × Int)} (h : St W B z gy' ge' mb F bt bm ti ma kv' vv' T' M') (R : Rel ti ma T' M' (P + 1)) (hl : 8 < T.left → T'.left ≤ T.left) (hb : Below B w W) : StpC w B z mb F bt bm ti ma T P (.returned (.bool true)) W := ⟨rfl, ⟨gy', ge', kv', vv', T', M', h, R, hl⟩, hb⟩
theorem step_get (w : World) (H : St w B z gy ge mb F bt bm ti ma kv vv T M) (R : Rel ti ma T M P) (hP : P + 1 ≤ 4398046511104) (d : Int) (o : Bool) (k v : Int) (h0 : d ≠ 0) (h1 : d ≠ 1) : Calls Try.prog 14 #[.pointer (some ⟨mb, 0, none⟩), .pointer (some ⟨z, 0, none⟩), .agg (xL d o k v)] w (StpC w B z mb F bt bm ti ma T P) := by
  obtain ⟨W1, hW1⟩ : ∃ W, W = w.alloc (.cells #[.int .i64 d, .bool o, .int .i64 k, .int .i64 v] 36) := ⟨_, rfl⟩
  have hb1 : Below w.heap.size w W1 := by rw [hW1]; exact below_alloc w _
  have hB1 : Blk W1 w.heap.size (xL d o k v) 36 := by rw [hW1]; exact Blk.made w _ _
  have hS1 := H.below hb1
  have x0 : W1.cell? ⟨w.heap.size, 0, none⟩ = some (.int .i64 d) := by rw [hB1.cell]; rfl
  have x2 : W1.cell? ⟨w.heap.size, 2, none⟩ = some (.int .i64 k) := by rw [hB1.cell]; rfl
  have x3 : W1.cell? ⟨w.heap.size, 3, none⟩ = some (.int .i64 v) := by rw [hB1.cell]; rfl
  have HAt := hide (at_any W1 hS1.md k (by have := R.lenP; omega))
  have HSS := hide hS1
  have HBB := hide (hb1.mono H.lo.2.2.2.2.2.2)
  have HR := hide R
  have HGet := hide (get_any W1 hS1.tb hS1.hs k)
  have hd0 : (d == 0) = false := by simpa using h0
  have hd1 : (d == 1) = false := by simpa using h1
  have hW1' := hW1.symm
  rcases rel_get R k with ⟨r1, r2⟩ | ⟨q, r1, r2, r3, r4, r5⟩
  · rw [r1] at HAt
    rw [r2] at HGet
    have hval : valT 0 T none = 0 := rfl
    rw [hval] at HGet
    clear r1 r2 hval
    clear H R hB1 hS1 hb1 h0 h1 hW1
    unfold xL
    go_enter Try.func14, Try.ntmps14
    go_upto_region 1 with fail
    clear hW1'
    go_upto_region 19 with (first | (go_at_call 20; refine HAt.out.mono ?_; rintro e w' ⟨rfl, hw⟩; rw [hw]; clear hw) | (go_at_call 52; refine HGet.out.mono ?_; rintro e w' ⟨rfl, qq, hw⟩; rw [hw]; clear hw))
    refine name_world (fun W => St W B z gy ge mb F bt bm ti ma kv vv T M ∧ Below B w W) ⟨HSS.out.drewN _, below_dN HBB.out _⟩ ?_
    rintro W ⟨hS, hB⟩
    have HLen := hide (fun q => len_any (W.drewN q) (hS.tb.drewN q))
    rw [HR.out.len] at HLen
    have HS := hide hS
    have HB := hide hB
    have hmb := hS.md.blk.lt
    obtain ⟨ao, kcap, hkf, _⟩ := hS.md.ks.form
    rw [List.length_map] at hkf
    have m0 : W.cell? ⟨mb, 0, none⟩ = some (.slice ao M.length kcap) := by rw [hS.md.blk.cell, ← hkf]; rfl
    generalize M.length = n at *
    clear hS hB hkf HGet HAt x0 x2 x3 HSS HBB
    go_quiet ((go_at_call 16; exact Calls.quiet_of (HLen.out _)))
    go_wp2
    go_ret
    exact stp_ok (HS.out.drewN _) (HR.out.mono (Nat.le_succ _)) (fun _ => Nat.le_refl _) (below_dN HB.out _)
  · rw [r2] at HAt
    rw [r4, r5] at HGet
    obtain ⟨g, cap, hvf, hc, hm1⟩ := hS1.md.val r1
    have hgl := World.block_lt_of_cell? W1 _ hc
    have hmb1 := hS1.md.blk.lt
    generalize hy : (M.getD q (0, 0)).2 = y at *
    have hlb := R.lenP
    have hqi : (q : Int) < (M.length : Int) := by omega
    have hq0 : (0 : Int) ≤ (q : Int) := by omega
    have hqb : q ≤ 4398046511104 := by omega
    clear r1 r2 r3 r4 r5 hy hvf
    clear H R hB1 hS1 hb1 h0 h1 hW1
    unfold xL
    go_enter Try.func14, Try.ntmps14
    go_upto_region 1 with fail
    clear hW1'
    go_upto_region 19 with (first | (go_at_call 20; refine HAt.out.mono ?_; rintro e w' ⟨rfl, hw⟩; rw [hw]; clear hw) | (go_at_call 52; refine HGet.out.mono ?_; rintro e w' ⟨rfl, qq, hw⟩; rw [hw]; clear hw))
    refine name_world (fun W => St W B z gy ge mb F bt bm ti ma kv vv T M ∧ Below B w W) ⟨HSS.out.drewN _, below_dN HBB.out _⟩ ?_
    rintro W ⟨hS, hB⟩
    have HLen := hide (fun q => len_any (W.drewN q) (hS.tb.drewN q))
    rw [HR.out.len] at HLen
    have HS := hide hS
    have HB := hide hB
    have hmb := hS.md.blk.lt
    obtain ⟨ao, kcap, hkf, _⟩ := hS.md.ks.form
    rw [List.length_map] at hkf
    have m0 : W.cell? ⟨mb, 0, none⟩ = some (.slice ao M.length kcap) := by rw [hS.md.blk.cell, ← hkf]; rfl
    generalize M.length = n at *
    clear hS hB hkf HGet HAt x0 x2 x3 HSS HBB
    go_quiet ((go_at_call 16; exact Calls.quiet_of (HLen.out _)))
    go_wp2
    go_ret
    exact stp_ok (HS.out.drewN _) (HR.out.mono (Nat.le_succ _)) (fun _ => Nat.le_refl _) (below_dN HB.out _)

theorem step_del (w : World) (H : St w B z gy ge mb F bt bm ti ma kv vv T M) (R : Rel ti ma T M P) (hP : P + 1 ≤ 4398046511104) (o : Bool) (k v : Int) : Calls Try.prog 14 #[.pointer (some ⟨mb, 0, none⟩), .pointer (some ⟨z, 0, none⟩), .agg (xL 1 o k v)] w (StpC w B z mb F bt bm ti ma T P) := by
  obtain ⟨W1, hW1⟩ : ∃ W, W = w.alloc (.cells #[.int .i64 1, .bool o, .int .i64 k, .int .i64 v] 36) := ⟨_, rfl⟩
  have hb1 : Below w.heap.size w W1 := by rw [hW1]; exact below_alloc w _
  have hB1 : Blk W1 w.heap.size (xL 1 o k v) 36 := by rw [hW1]; exact Blk.made w _ _
  have hS1 := H.below hb1
  have x0 : W1.cell? ⟨w.heap.size, 0, none⟩ = some (.int .i64 1) := by rw [hB1.cell]; rfl
  have x2 : W1.cell? ⟨w.heap.size, 2, none⟩ = some (.int .i64 k) := by rw [hB1.cell]; rfl
  have x3 : W1.cell? ⟨w.heap.size, 3, none⟩ = some (.int .i64 v) := by rw [hB1.cell]; rfl
  have HAt := hide (at_any W1 hS1.md k (by have := R.lenP; omega))
  have HSS := hide hS1
  have HBB := hide (hb1.mono H.lo.2.2.2.2.2.2)
  have HR := hide R
  have HDel := hide (del_any W1 hS1.tb hS1.hs R.inv.ok k)
  unfold DelC ansV at HDel
  have hW1' := hW1.symm
  rcases rel_del R k with ⟨r1, r2, r3⟩ | ⟨q, r1, r2, r3, r4, r5, r6⟩
  · rw [r1] at HAt
    rw [r2] at HDel
    have hval : valT 0 (stepT (hsh ti ma) T) none = 0 := rfl
    rw [hval] at HDel
    have HR2 := hide r3
    clear r1 r2 r3 hval H R hB1 hS1 hb1 hW1
    unfold xL
    go_enter Try.func14, Try.ntmps14
    go_upto_region 1 with fail
    clear hW1'
    go_wp2_with (first | (go_at_call 20; refine HAt.out.mono ?_; rintro e w' ⟨rfl, hw⟩; rw [hw]; clear hw) | (go_at_call 51; refine HDel.out.mono ?_; rintro e w2 ⟨rfl, hk⟩; have HK := hide hk; clear hk))
    go_ret
    obtain ⟨⟨gy', ge', hs'⟩, hb'⟩ := HSS.out.table HK.out
    exact stp_ok hs' (HR2.out.mono (Nat.le_succ _)) (left_del HR.out.inv k) (HBB.out.trans hb')
  · rw [r2] at HAt
    rw [r4, r5] at HDel
    obtain ⟨g, cap, hvf, hc, hm1⟩ := hS1.md.val r1
    have hgl := World.block_lt_of_cell? W1 _ hc
    have hmb1 := hS1.md.blk.lt
    generalize hy : (M.getD q (0, 0)).2 = y at *
    have hlb := R.lenP
    have hqi : (q : Int) < (M.length : Int) := by omega
    have hq0 : (0 : Int) ≤ (q : Int) := by omega
    have hqb : q ≤ 4398046511104 := by omega
    have HR2 := hide r6
    have HQ := hide r1
    have HLB := hide hlb
    clear r1 r2 r3 r4 r5 r6 hy hvf hlb H R hB1 hS1 hb1 hW1
    unfold xL
    go_enter Try.func14, Try.ntmps14
    go_upto_region 1 with fail
    clear hW1'
    go_upto_region 15 with (first | (go_at_call 20; refine HAt.out.mono ?_; rintro e w' ⟨rfl, hw⟩; rw [hw]; clear hw) | (go_at_call 51; refine HDel.out.mono ?_; rintro e w2 ⟨rfl, hk⟩; have HK := hide hk; clear hk))
    obtain ⟨⟨gy', ge', hs'⟩, hb'⟩ := HSS.out.table HK.out
    have HS2 := hide hs'
    have HB2 := hide (HBB.out.trans hb')
    have HOut := hide (out_any w2 hs'.md q HQ.out hs'.lo.2.2.2.2.2.2 (by have := HLB.out; omega))
    clear hs' hb' HK HSS HBB HAt HDel hc hm1 hgl x0 x2 x3
    go_wp2_with (go_at_call 21; refine HOut.out.mono ?_; rintro e w3 ⟨rfl, ⟨kv', vv', hm⟩, hf⟩; have HM := hide hm; have HF := hide hf; clear hm hf)
    go_ret
    have hlo := HS2.out.lo
    have hb3 : Below B w2 w3 := ⟨HF.out.os, HF.out.tape, HF.out.output, HF.out.size, fun i hi => HF.out.block i (by omega) (by omega)⟩
    exact stp_ok (HS2.out.list HM.out ⟨HF.out.size, fun i cs t fz h1 h2 => HF.out.block i (Array.getElem?_eq_some_iff.1 h1).1 (fun e => by
      have hmb := HS2.out.md.blk
      unfold Blk at hmb
      rw [e, hmb] at h1
      cases h1
      revert h2
      decide)⟩ hb3) (HR2.out.mono (Nat.le_succ _)) (left_del HR.out.inv k) (HB2.out.trans hb3)
end
end Go.Proofs.Ytnknjcnbbljagaa
