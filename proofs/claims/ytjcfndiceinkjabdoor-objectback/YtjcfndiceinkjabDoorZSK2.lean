/- spread: a block's words. -/
import Derived.Test.YtjcfndiceinkjabDoorZam
import Derived.Deep.RegionHeld3
import Derived.Laws.Cover3
namespace Go.Proofs.YtjcfndiceinkjabDoor
set_option linter.unusedVariables false
set_option linter.unusedSimpArgs false
open Go.RowKit

/-- The words so far, and zeros. -/
def wk (b : List UInt8) (k : Nat) : List Value := (wds b k ++ List.replicate (64 - k) 0).map u32c
theorem wk_len (b : List UInt8) (k : Nat) (h : k ≤ 64) : (wk b k).length = 64 := by simp [wk, wds_length]; omega
theorem wk_set (b : List UInt8) (k : Nat) (h : k < 64) : (wk b k).set k (u32c (if k < 16 then wordAt b k else wnext (wds b k))) = wk b (k + 1) := by
  unfold wk
  rw [← List.map_set, List.set_append_right _ _ (by rw [wds_length]; omega), wds_length, Nat.sub_self, show 64 - k = (64 - (k + 1)) + 1 by omega, List.replicate_succ, List.set_cons_zero, wds, List.append_assoc]
  rfl
theorem wk_at (b : List UInt8) (k i : Nat) (h : i < k) : (wk b k)[i]? = some (u32c ((wds b k)[i]?.getD 0)) := by
  have hl : i < (wds b k).length := by rw [wds_length]; exact h
  rw [wk, List.getElem?_map, List.getElem?_append_left hl, List.getElem?_eq_getElem hl]; rfl
theorem wk_next (b : List UInt8) (k : Nat) (h : k < 64) : (wk b k)[k]? = some (u32c 0) := by
  rw [wk, List.getElem?_map, List.getElem?_append_right (by rw [wds_length]; omega), wds_length, Nat.sub_self, List.getElem?_replicate, if_pos (by omega)]; rfl
theorem blk_at {w : World} {z : Nat} {l : List Value} {t : TypeId} (h : Blk w z l.toArray t) {i : Nat} {v : Value} (hi : l[i]? = some v) : w.cell? ⟨z, i, none⟩ = some v := by
  rw [h.cell, List.getElem?_toArray, hi]
theorem cell_off {w : World} {z i j : Nat} (v : Value) (h : ¬ j = i) : (w.setCell ⟨z, i, none⟩ v).cell? ⟨z, j, none⟩ = w.cell? ⟨z, j, none⟩ := World.cell?_setCell_other _ _ _ _ (by intro e; cases e; exact h rfl)
theorem blk_set {w : World} {z : Nat} {l : List Value} {t : TypeId} (h : Blk w z l.toArray t) (i : Nat) (v : Value) : Blk (w.setCell ⟨z, i, none⟩ v) z (l.set i v).toArray t := by
  have := h.set i v
  rwa [List.setIfInBounds_toArray] at this
/-- What spread holds in memory. -/
def SprM (w wr : World) (b : List UInt8) (k : Nat) : Prop :=
  Blk wr w.heap.size (b.map u8c).toArray 105 ∧ Blk wr (w.heap.size + 1) (List.replicate 64 (u32c 0)).toArray 147 ∧ Blk wr (w.heap.size + 2) (wk b k).toArray 147 ∧ Below w.heap.size w wr ∧ w.heap.size + 3 ≤ wr.heap.size

theorem word_or (q0 q1 q2 q3 : Nat) (h0 : q0 < 256) (h1 : q1 < 256) (h2 : q2 < 256) (h3 : q3 < 256) : ((q0 * 2 ^ 24 ||| q1 * 2 ^ 16) ||| q2 * 2 ^ 8) ||| q3 = (q0 * 256 + q1) * 65536 + q2 * 256 + q3 := by
  have e1 := Nat.two_pow_add_eq_or_of_lt (i := 24) (b := q1 * 2 ^ 16) (by omega) q0
  have e2 := Nat.two_pow_add_eq_or_of_lt (i := 16) (b := q2 * 2 ^ 8) (by omega) (q0 * 2 ^ 8 + q1)
  have e3 := Nat.two_pow_add_eq_or_of_lt (i := 8) (b := q3) (by omega) ((q0 * 2 ^ 8 + q1) * 2 ^ 8 + q2)
  rw [Nat.mul_comm q0, ← e1, show 2 ^ 24 * q0 + q1 * 2 ^ 16 = 2 ^ 16 * (q0 * 2 ^ 8 + q1) by omega, ← e2, show 2 ^ 16 * (q0 * 2 ^ 8 + q1) + q2 * 2 ^ 8 = 2 ^ 8 * ((q0 * 2 ^ 8 + q1) * 2 ^ 8 + q2) by omega, ← e3]
  omega
theorem slice64 (z o r : Nat) (hr : r < 64) (i : Int) (hi : i = r) (W : World) : (Instr.sliceAt 105 (.pointer (some ⟨z, o, none⟩)) (some (.int .i64 i)) none none).run Tryd.prog W = .ok (.slice (some ⟨z, o + r, none⟩) (64 - r) (64 - r)) W := by
  subst hi
  have ha : Tryd.prog.arrayLen 105 = 64 := by kernel_rfl
  have hs : (sizeOf (Tryd.prog.elem 105)).run Tryd.prog W = .ok 1 W := by kernel_rfl
  rw [run_sliceAt_array_l W 105 ⟨z, o, none⟩ (by kernel_rfl) .i64 r (by omega) (by rw [ha]; omega), hs, ha]
  simp only [Result.andThen, slicedAt, Int.toNat_natCast, Nat.mul_one]
  rw [if_neg (by omega), Addr.add_mid]
theorem SprM.put {w wr : World} {b : List UInt8} {k : Nat} (h : SprM w wr b k) (hk : k < 64) (v : Int) (hv : v = ((if k < 16 then wordAt b k else wnext (wds b k) : Nat) : Int)) : SprM w (wr.setCell ⟨w.heap.size + 1 + 1, k, none⟩ (.int .u32 v)) b (k + 1) := by
  obtain ⟨h1, h2, h3, h4, h5⟩ := h
  refine ⟨h1.setOther _ _ (by show w.heap.size ≠ w.heap.size + 1 + 1; omega), h2.setOther _ _ (by show w.heap.size + 1 ≠ w.heap.size + 1 + 1; omega), ?_, h4.setCell (by show w.heap.size ≤ w.heap.size + 1 + 1; omega) _, by simpa using h5⟩
  have := blk_set h3 k (.int .u32 v)
  rw [hv, show Value.int .u32 ((if k < 16 then wordAt b k else wnext (wds b k) : Nat) : Int) = u32c (if k < 16 then wordAt b k else wnext (wds b k)) from rfl, wk_set b k hk] at this
  rw [hv]; exact this
theorem SprM.below {w wr wr' : World} {b : List UInt8} {k : Nat} (h : SprM w wr b k) (hb : Below wr.heap.size wr wr') : SprM w wr' b k := by
  obtain ⟨h1, h2, h3, h4, h5⟩ := h
  exact ⟨h1.below hb h1.lt, h2.below hb h2.lt, h3.below hb h3.lt, h4.trans (hb.mono (by omega)), Nat.le_trans h5 hb.size⟩
theorem word_bits (q0 q1 q2 q3 : Nat) (h0 : q0 < 256) (h1 : q1 < 256) (h2 : q2 < 256) (h3 : q3 < 256) :
    bits .or .u32 (bits .or .u32 (bits .or .u32 ((q0 : Int) * 16777216) ((q1 : Int) * 65536)) ((q2 : Int) * 256)) (q3 : Int) = (((q0 * 256 + q1) * 65536 + q2 * 256 + q3 : Nat) : Int) := by
  have e0 : (q0 : Int) * 16777216 = ((q0 * 2 ^ 24 : Nat) : Int) := by rw [Int.natCast_mul]; rfl
  have e1 : (q1 : Int) * 65536 = ((q1 * 2 ^ 16 : Nat) : Int) := by rw [Int.natCast_mul]; rfl
  have e2 : (q2 : Int) * 256 = ((q2 * 2 ^ 8 : Nat) : Int) := by rw [Int.natCast_mul]; rfl
  have l0 : q0 * 2 ^ 24 < 4294967296 := Nat.lt_of_le_of_lt (Nat.mul_le_mul_right _ (Nat.le_of_lt_succ h0)) (by decide)
  have l1 : q1 * 2 ^ 16 < 4294967296 := Nat.lt_of_le_of_lt (Nat.mul_le_mul_right _ (Nat.le_of_lt_succ h1)) (by decide)
  have l2 : q2 * 2 ^ 8 < 4294967296 := Nat.lt_of_le_of_lt (Nat.mul_le_mul_right _ (Nat.le_of_lt_succ h2)) (by decide)
  rw [e0, e1, e2, u32_or_nat _ _ l0 l1, u32_or_nat _ _ (or_lt l0 l1) l2, u32_or_nat _ _ (or_lt (or_lt l0 l1) l2) (by omega), word_or q0 q1 q2 q3 h0 h1 h2 h3]
set_option maxRecDepth 40000 in
set_option maxHeartbeats 4000000 in
theorem spread_any (w : World) (b : List UInt8) (hb : b.length = 64) : Calls Tryd.prog 106 #[.agg (b.map u8c).toArray] w fun e w' => e = .returned (.agg ((wds b 64).map u32c).toArray) ∧ Below w.heap.size w w' := by
  go_enter Tryd.func106, Tryd.ntmps106
  go_wp2
  go_loopw [9] (fun i wr => ∃ k : Nat, i = .int .i64 k ∧ k ≤ 16 ∧ SprM w wr b k) (fun i _ => 16 - (intOf i).toNat)
  case atStart =>
    refine ⟨0, rfl, by omega, ((Blk.made _ _ _).alloc _).alloc _, ?_, ?_, (((Below.refl _ _).alloc (Nat.le_refl _) _).alloc (by simp) _).alloc (by simp; omega) _, by simp⟩
    · have h := (Blk.made (w.alloc (.cells (b.map u8c).toArray 105)) (List.replicate 64 (u32c 0)).toArray 147).alloc (.cells (List.replicate 64 (u32c 0)).toArray 147)
      rw [World.size_alloc] at h
      exact h
    · have h := Blk.made ((w.alloc (.cells (b.map u8c).toArray 105)).alloc (.cells (List.replicate 64 (u32c 0)).toArray 147)) (List.replicate 64 (u32c 0)).toArray 147
      rw [World.size_alloc, World.size_alloc] at h
      exact h
  case round =>
    obtain ⟨k, rfl, hk, hM⟩ := hrel
    by_cases hlt : k < 16
    · have hq (j : Nat) (hj : j < 4) : wr.cell? ⟨w.heap.size, 4 * k + j, none⟩ = some (.int .u8 ((b[4 * k + j]?.getD 0).toNat : Int)) := by
        refine blk_at hM.1 ?_
        have hl : 4 * k + j < b.length := by omega
        rw [List.getElem?_map, List.getElem?_eq_getElem hl]; rfl
      have hwd : wordAt b k = (((b[4 * k]?.getD 0).toNat * 256 + (b[4 * k + 1]?.getD 0).toNat) * 65536 + (b[4 * k + 2]?.getD 0).toNat * 256 + (b[4 * k + 3]?.getD 0).toNat) := rfl
      have q0 := hq 0 (by omega)
      have q1 := hq 1 (by omega)
      have q2 := hq 2 (by omega)
      have q3 := hq 3 (by omega)
      have l0 := (b[4 * k]?.getD 0).toNat_lt
      have l1 := (b[4 * k + 1]?.getD 0).toNat_lt
      have l2 := (b[4 * k + 2]?.getD 0).toNat_lt
      have l3 := (b[4 * k + 3]?.getD 0).toNat_lt
      rw [Nat.add_zero] at q0
      generalize (b[4 * k]?.getD 0).toNat = x0 at q0 l0 hwd
      generalize (b[4 * k + 1]?.getD 0).toNat = x1 at q1 l1 hwd
      generalize (b[4 * k + 2]?.getD 0).toNat = x2 at q2 l2 hwd
      generalize (b[4 * k + 3]?.getD 0).toNat = x3 at q3 l3 hwd
      have hy := blk_at hM.2.2.1 (wk_next b k (by omega))
      unfold u32c at hy
      have hf := Blk.frozen hM.2.2.1 k
      have hsz : w.heap.size + 1 + 1 < wr.heap.size := by have := hM.2.2.2.2; omega
      have HM := hide hM
      have HW := hide hwd
      clear hM hq hwd
      have hsl := slice64 w.heap.size 0 (4 * k) (by omega) (4 * (k : Int)) (by omega)
      rw [Nat.zero_add] at hsl
      have har := run_arrayAt (P := Tryd.prog) wr 150 5 4 (some ⟨w.heap.size, 4 * k, none⟩) (64 - 4 * k) (64 - 4 * k) Tryd.underlying150 (by omega)
      go_wp2
      refine ⟨⟨k + 1, by go_num, by omega, ?_⟩, by simp [intOf]; omega⟩
      refine (HM.out.put (by omega) _ ?_).below ((Below.refl _ _).alloc (Nat.le_refl _) _)
      rw [if_pos hlt, HW.out]
      exact word_bits x0 x1 x2 x3 l0 l1 l2 l3
    · have HM := hide (show SprM w wr b 16 by rw [show 16 = k by omega]; exact hM)
      clear hM
      go_wp2
      go_loopw [6] (fun i wr => ∃ k : Nat, i = .int .i64 k ∧ 16 ≤ k ∧ k ≤ 64 ∧ SprM w wr b k) (fun i _ => 64 - (intOf i).toNat)
      case atStart => exact ⟨16, rfl, by omega, by omega, HM.out⟩
      case round =>
        clear HM
        obtain ⟨k, rfl, hk1, hk2, hM⟩ := hrel
        by_cases hlt : k < 64
        · have hc (j : Nat) (hj : j < k) : wr.cell? ⟨w.heap.size + 1 + 1, j, none⟩ = some (.int .u32 (((wds b k)[j]?.getD 0 : Nat) : Int)) := blk_at hM.2.2.1 (wk_at b k j hj)
          have hL (j : Nat) (hj : j < k) : (wds b k)[j]?.getD 0 < 4294967296 := by
            have hl : j < (wds b k).length := by rw [wds_length]; exact hj
            rw [List.getElem?_eq_getElem hl]
            exact wds_lt b k _ (List.getElem_mem hl)
          have hnx : wnext (wds b k) = (s1 ((wds b k)[k - 2]?.getD 0) + (wds b k)[k - 7]?.getD 0 + s0 ((wds b k)[k - 15]?.getD 0) + (wds b k)[k - 16]?.getD 0) % 4294967296 := by rw [wnext, wds_length]
          obtain ⟨j2, e2⟩ : ∃ j, j = k - 2 := ⟨_, rfl⟩
          obtain ⟨j7, e7⟩ : ∃ j, j = k - 7 := ⟨_, rfl⟩
          obtain ⟨j15, e15⟩ : ∃ j, j = k - 15 := ⟨_, rfl⟩
          obtain ⟨j16, e16⟩ : ∃ j, j = k - 16 := ⟨_, rfl⟩
          rw [← e2, ← e7, ← e15, ← e16] at hnx
          have q2 := hc j2 (by omega)
          have q7 := hc j7 (by omega)
          have q15 := hc j15 (by omega)
          have q16 := hc j16 (by omega)
          have l2 := hL j2 (by omega)
          have l7 := hL j7 (by omega)
          have l15 := hL j15 (by omega)
          have l16 := hL j16 (by omega)
          generalize (wds b k)[j2]?.getD 0 = x2 at q2 l2 hnx
          generalize (wds b k)[j7]?.getD 0 = x7 at q7 l7 hnx
          generalize (wds b k)[j15]?.getD 0 = x15 at q15 l15 hnx
          generalize (wds b k)[j16]?.getD 0 = x16 at q16 l16 hnx
          have n2 : (k : Int) - 2 = j2 := by omega
          have n7 : (k : Int) - 7 = j7 := by omega
          have n15 : (k : Int) - 15 = j15 := by omega
          have n16 : (k : Int) - 16 = j16 := by omega
          have nj7 : ¬ j7 = k := by omega
          have nj16 : ¬ j16 = k := by omega
          have m2 := wrapi64_nat j2 (by omega)
          have m7 := wrapi64_nat j7 (by omega)
          have m15 := wrapi64_nat j15 (by omega)
          have m16 := wrapi64_nat j16 (by omega)
          have b2 : (j2 : Int) < 64 := by omega
          have b7 : (j7 : Int) < 64 := by omega
          have b15 : (j15 : Int) < 64 := by omega
          have b16 : (j16 : Int) < 64 := by omega
          have hy : wr.cell? ⟨w.heap.size + 1 + 1, k, none⟩ = some (.int .u32 0) := blk_at hM.2.2.1 (wk_next b k (by omega))
          have hf : wr.frozen? ⟨w.heap.size + 1 + 1, k, none⟩ = false := Blk.frozen hM.2.2.1 k
          have HR7 := hide (fun w => right_any w x15 7 l15 (by decide) (by decide))
          have HR18 := hide (fun w => right_any w x15 18 l15 (by decide) (by decide))
          have HR17 := hide (fun w => right_any w x2 17 l2 (by decide) (by decide))
          have HR19 := hide (fun w => right_any w x2 19 l2 (by decide) (by decide))
          have z1 : bits .xor .u32 ((rr 7 x15 : Nat) : Int) ((rr 18 x15 : Nat) : Int) = ((rr 7 x15 ^^^ rr 18 x15 : Nat) : Int) := u32_xor_nat _ _ (rr_lt 7 x15 (by decide) l15) (rr_lt 18 x15 (by decide) l15)
          have z2 : bits .xor .u32 ((rr 7 x15 ^^^ rr 18 x15 : Nat) : Int) ((x15 : Int) / 8) = ((s0 x15 : Nat) : Int) := u32_xor_nat _ (x15 / 8) (xor_lt (rr_lt 7 x15 (by decide) l15) (rr_lt 18 x15 (by decide) l15)) (by omega)
          have z3 : bits .xor .u32 ((rr 17 x2 : Nat) : Int) ((rr 19 x2 : Nat) : Int) = ((rr 17 x2 ^^^ rr 19 x2 : Nat) : Int) := u32_xor_nat _ _ (rr_lt 17 x2 (by decide) l2) (rr_lt 19 x2 (by decide) l2)
          have z4 : bits .xor .u32 ((rr 17 x2 ^^^ rr 19 x2 : Nat) : Int) ((x2 : Int) / 1024) = ((s1 x2 : Nat) : Int) := u32_xor_nat _ (x2 / 1024) (xor_lt (rr_lt 17 x2 (by decide) l2) (rr_lt 19 x2 (by decide) l2)) (by omega)
          have ls0 := s0_lt l15
          have ls1 := s1_lt l2
          generalize rr 7 x15 ^^^ rr 18 x15 = y1 at z1 z2
          generalize rr 17 x2 ^^^ rr 19 x2 = y2 at z3 z4
          generalize rr 7 x15 = r7 at z1 HR7
          generalize rr 18 x15 = r18 at z1 HR18
          generalize rr 17 x2 = r17 at z3 HR17
          generalize rr 19 x2 = r19 at z3 HR19
          generalize s0 x15 = t0 at z2 hnx ls0
          generalize s1 x2 = t1 at z4 hnx ls1
          have z5 : IntKind.u32.wrap (IntKind.u32.wrap (IntKind.u32.wrap ((t1 : Int) + x7) + t0) + x16) = ((wnext (wds b k) : Nat) : Int) := by rw [IntKind.wrap_u32', IntKind.wrap_u32', IntKind.wrap_u32', hnx]; omega
          have HM := hide hM
          have HX := hide hnx
          clear hM hc hL hnx e2 e7 e15 e16
          go_wp2
          refine wp_region_quiet_lit (by kernel_rfl) (by kernel_rfl) ?_
          quiet_step (fail)
          quiet_step (fail)
          quiet_step (fail)
          quiet_step (fail)
          quiet_step (exact Calls.quiet_of_same (HR7.out _))
          quiet_step (fail)
          quiet_step (fail)
          quiet_step (fail)
          quiet_step (fail)
          quiet_step (exact Calls.quiet_of_same (HR18.out _))
          quiet_step (fail)
          quiet_step (fail)
          quiet_step (fail)
          quiet_step (fail)
          quiet_step (fail)
          quiet_step (fail)
          quiet_step (fail)
          quiet_step (fail)
          refine wpQuiet_nil ?_
          intro _ hw'
          obtain ⟨nq, hw''⟩ := hw'
          subst hw''
          obtain ⟨wm, hwm⟩ : ∃ wm, wm = wr.drewN nq := ⟨_, rfl⟩
          have hbm : Below wr.heap.size wr wm := by rw [hwm]; exact ⟨rfl, rfl, rfl, Nat.le_refl _, fun _ _ => rfl⟩
          rw [← hwm]
          have o2 : wm.cell? ⟨w.heap.size + 1 + 1, j2, none⟩ = some (.int .u32 x2) := by rw [hwm]; exact q2
          have o7 : wm.cell? ⟨w.heap.size + 1 + 1, j7, none⟩ = some (.int .u32 x7) := by rw [hwm]; exact q7
          have o16 : wm.cell? ⟨w.heap.size + 1 + 1, j16, none⟩ = some (.int .u32 x16) := by rw [hwm]; exact q16
          have oy : wm.cell? ⟨w.heap.size + 1 + 1, k, none⟩ = some (.int .u32 0) := by rw [hwm]; exact hy
          have of' : wm.frozen? ⟨w.heap.size + 1 + 1, k, none⟩ = false := by rw [hwm]; exact hf
          have HMm := hide (HM.out.below hbm)
          clear hwm hbm q2 q7 q15 q16 hy hf HR7 HR18 HM
          go_wp2
          refine wp_region_quiet_lit (by kernel_rfl) (by kernel_rfl) ?_
          quiet_step (fail)
          quiet_step (fail)
          quiet_step (fail)
          quiet_step (fail)
          quiet_step (exact Calls.quiet_of_same (HR17.out _))
          quiet_step (fail)
          quiet_step (fail)
          quiet_step (fail)
          quiet_step (fail)
          quiet_step (exact Calls.quiet_of_same (HR19.out _))
          quiet_step (fail)
          quiet_step (fail)
          quiet_step (fail)
          quiet_step (fail)
          quiet_step (fail)
          quiet_step (fail)
          quiet_step (fail)
          quiet_step (fail)
          refine wpQuiet_nil ?_
          intro _ hw'
          obtain ⟨nq2, hw''⟩ := hw'
          subst hw''
          obtain ⟨wn, hwn⟩ : ∃ wn, wn = wm.drewN nq2 := ⟨_, rfl⟩
          have hbn : Below wm.heap.size wm wn := by rw [hwn]; exact ⟨rfl, rfl, rfl, Nat.le_refl _, fun _ _ => rfl⟩
          rw [← hwn]
          have p7 : wn.cell? ⟨w.heap.size + 1 + 1, j7, none⟩ = some (.int .u32 x7) := by rw [hwn]; exact o7
          have p16 : wn.cell? ⟨w.heap.size + 1 + 1, j16, none⟩ = some (.int .u32 x16) := by rw [hwn]; exact o16
          have py : wn.cell? ⟨w.heap.size + 1 + 1, k, none⟩ = some (.int .u32 0) := by rw [hwn]; exact oy
          have pf : wn.frozen? ⟨w.heap.size + 1 + 1, k, none⟩ = false := by rw [hwn]; exact of'
          have HMn := hide (HMm.out.below hbn)
          clear hwn hbn o2 o7 o16 oy of' HR17 HR19 HMm
          go_wp2
          go_region_held3 (fun w' => w'.cell? ⟨w.heap.size + 1 + 1, j7, none⟩ = some (.int .u32 x7) ∧ w'.cell? ⟨w.heap.size + 1 + 1, j16, none⟩ = some (.int .u32 x16)) (first | exact ⟨(cell_off _ nj7).trans p7, (cell_off _ nj16).trans p16⟩ | go_keep) (fail)
          go_wp2
          go_roundw
          case rel =>
            refine ⟨k + 1, by go_num, by omega, by omega, ?_⟩
            refine (HMn.out.put hlt _ ?_).below ⟨rfl, rfl, rfl, Nat.le_refl _, fun _ _ => rfl⟩
            rw [if_neg (by omega)]
          case measure => simp [intOf]; omega
        · obtain rfl : k = 64 := by omega
          have e64 : wk b 64 = (wds b 64).map u32c := by simp [wk]
          obtain ⟨_, hZ, hW, hB, _⟩ := hM
          rw [e64] at hW
          have HZ := hide hZ
          have HW := hide hW
          have HL := hide (show ((wds b 64).map u32c).toArray.size = 64 by simp [wds_length])
          have HZL := hide (show (List.replicate 64 (u32c 0)).toArray.size = 64 by simp)
          have HO := hide (all_oneCell_toArray (u32c_one (wds b 64)))
          obtain ⟨cs, hcs⟩ : ∃ cs, cs = ((wds b 64).map u32c).toArray := ⟨_, rfl⟩
          rw [← hcs] at HW HL HO
          have HCS := hide hcs
          clear hZ hW hcs e64
          go_wp2_with (first | ((with_reducible refine wpList_load_blk ?_ 147 _ Tryd.underlying147 ?_ 64 infoW64 (.tmp 3) ?_ (w.heap.size + 2) ?_ cs _ HW.out HL.out ?_); rfl; rfl; rfl; rfl) | ((with_reducible refine wpList_store_blk ?_ 147 (.tmp 2) (.tmp 91) ?_ (w.heap.size + 1) 64 _ cs 147 HL.out HZL.out ?_ ?_ HZ.out infoW64 HO.out ?_); rfl; rfl; rfl; rfl; intro w2 hk2 hg2))
          refine bodyPost_ret (results_cell rfl _ _ _ rfl _ (loadBlkT hk2 147 _ Tryd.underlying147 rfl 64 infoW64 HL.out)) rfl ?_
          exact ⟨by rw [HCS.out], hB.trans ⟨hg2.os, hg2.tape, hg2.output, hg2.size, fun i hi => hg2.block i (Nat.lt_of_lt_of_le hi hB.size) (fun e => by have := Option.some.inj e; omega)⟩⟩
end Go.Proofs.YtjcfndiceinkjabDoor
