/- A record is read: the walk. -/
import Derived.Test.YtbnedlcldfpfdaaFR11
import Derived.OwnWalk
namespace Go.Proofs.Ytbnedlcldfpfdaa
set_option linter.unusedVariables false
set_option linter.unusedSimpArgs false
open Go.RowKit Go.Sort

/-- Some bytes in the midst of a block, loaded as an array of four. -/
theorem loadAt_four {w : World} {b o : Nat} {zs : List UInt8} (h : ∀ j (hj : j < zs.length), w.cell? ⟨b, o + j, none⟩ = some (u8c zs[j])) (hl : zs.length = 4) : (Instr.loadAt 47 (.pointer (some ⟨b, o, none⟩))).run Try.prog w = .ok (arrV zs) w := by
  simp only [Instr.loadAt, Instr.sureAddr, Sem.run_bind, Sem.run_pure, Result.andThen_ok]
  exact run_loadVar_mid (P := Try.prog) w b o 47 (zs.map u8c) _ (rangeRd h) Try.underlying47 rfl (by rw [List.length_map, hl]; exact info4)
theorem arr_load6 {w : World} {z : Nat} {xs : List UInt8} {t : TypeId} (h : Blk w z (xs.map u8c).toArray t) (hl : xs.length = 6) : (Instr.loadAt 58 (.pointer (some ⟨z, 0, none⟩))).run Try.prog w = .ok (arrV xs) w :=
  loadAt_blk h 58 _ Try.underlying58 rfl 6 info6 (by simp [hl])
theorem Blk.regrown {w : World} {z : Nat} {cs : Array Value} {t : TypeId} (h : Blk w z cs t) (d : Nat) (os : Array Obj) : Blk (grow (redrawn w d) os) z cs t := h.below (below_regrown w d os) h.lt
set_option maxRecDepth 40000 in
set_option maxHeartbeats 4000000 in
theorem unpack_any (w : World) (v : Value) (xs : List UInt8) (hv : RdA w v xs) (i : Int) (hi : -9223372036854775808 ≤ i ∧ i ≤ 9223372036854775807) : Calls Try.prog 20 #[v, .int .i64 i] w (UnpackC w (unpk xs i)) := by
  have HV := hide hv
  obtain ⟨ao, c, rfl, hz⟩ := hv.slice
  obtain ⟨-, hcap, hcm⟩ := hv.cap
  clear hv
  by_cases hneg : i < 0
  · have HR : Hid (unpk xs i = ([], 0, 61)) := hide (by unfold unpk; rw [if_pos (.inl hneg)])
    go_enter Try.func20, Try.ntmps20
    go_wp2
    go_ret3
    exact ⟨_, by rw [HR.out]; rfl, by rw [HR.out]; exact World.ownsRow_nil _ _ _ _, Below.refl _ _⟩
  by_cases hbig : (xs.length : Int) < i
  · have HR : Hid (unpk xs i = ([], 0, 61)) := hide (by unfold unpk; rw [if_pos (.inr hbig)])
    go_enter Try.func20, Try.ntmps20
    go_wp2
    go_ret3
    exact ⟨_, by rw [HR.out]; rfl, by rw [HR.out]; exact World.ownsRow_nil _ _ _ _, Below.refl _ _⟩
  obtain ⟨k, rfl⟩ := Int.eq_ofNat_of_zero_le (show 0 ≤ i by omega)
  have hk : k ≤ xs.length := by omega
  obtain ⟨ys, hys⟩ : ∃ ys, ys = xs.drop k := ⟨_, rfl⟩
  have HU : Hid (unpk xs (k : Int) = upk ys) := hide (by unfold unpk; rw [if_neg (by omega), Int.toNat_natCast, hys])
  have hrd := HV.out.sliced k xs.length hk (Nat.le_refl _)
  rw [show (xs.drop k).take (xs.length - k) = ys from by rw [hys]; exact List.take_of_length_le (by simp)] at hrd
  obtain ⟨ao2, c2, hf2, hz2⟩ := hrd.slice
  have hs1 := slice_lo ao xs.length c k hk k rfl
  rw [hf2] at hs1 hrd
  have HY := hide hrd
  clear hys hrd hf2 HV
  by_cases hshort : ys.length < 10
  · have hsi : (ys.length : Int) < 10 := by omega
    have HR : Hid (upk ys = ([], 0, 62)) := hide (by unfold upk; rw [if_pos hshort])
    go_enter Try.func20, Try.ntmps20
    go_wp2
    go_ret3
    exact ⟨_, by rw [HU.out, HR.out]; rfl, by rw [HU.out, HR.out]; exact World.ownsRow_nil _ _ _ _, Below.refl _ _⟩
  have hsi : ¬ (ys.length : Int) < 10 := by omega
  obtain ⟨b, o, cc, he, -⟩ := HY.out.at 0 (by omega)
  have hcel : ∀ j (hj : j < ys.length), w.cell? ⟨b, o + j, none⟩ = some (.int .u8 (ys[j].toNat : Int)) := by
    intro j hj
    obtain ⟨b', o', cc', he', hc'⟩ := HY.out.at j hj
    rw [he] at he'
    obtain ⟨e1, -, -⟩ := (Value.slice.injEq ..).mp he'
    cases e1
    exact hc'
  obtain ⟨rfl, -, rfl⟩ := (Value.slice.injEq ..).mp he
  obtain ⟨b0, b1, b2, b3, b4, b5, r, hyr⟩ := take6 ys (by omega)
  have k0 := hcel 0 (by omega)
  have k1 := hcel 1 (by omega)
  have k2 := hcel 2 (by omega)
  have k3 := hcel 3 (by omega)
  have k4 := hcel 4 (by omega)
  have k5 := hcel 5 (by omega)
  have hg : ∀ (j : Nat) (hj : j < ys.length) (x : UInt8), ys[j]? = some x → ys[j] = x := by
    intro j hj x hx
    rw [List.getElem?_eq_getElem hj] at hx
    exact Option.some.inj hx
  rw [hg 0 _ b0 (by rw [hyr]; rfl), Nat.add_zero] at k0
  rw [hg 1 _ b1 (by rw [hyr]; rfl)] at k1
  rw [hg 2 _ b2 (by rw [hyr]; rfl)] at k2
  rw [hg 3 _ b3 (by rw [hyr]; rfl)] at k3
  rw [hg 4 _ b4 (by rw [hyr]; rfl)] at k4
  rw [hg 5 _ b5 (by rw [hyr]; rfl)] at k5
  have HT6 : Hid (ys.take 6 = [b0, b1, b2, b3, b4, b5]) := hide (by rw [hyr]; rfl)
  have HN : Hid (lenN ys = b1.toNat + 256 * b2.toNat) := hide (by rw [hyr]; rfl)
  have hor := or256 b1.toNat b2.toNat b1.toNat_lt b2.toNat_lt
  obtain ⟨n, hn⟩ : ∃ n, n = lenN ys := ⟨_, rfl⟩
  rw [← HN.out, ← hn] at hor
  have hn16 : n ≤ 65535 := by rw [hn]; exact lenN_lt ys
  have HNN := hide hn
  have har := run_arrayAt (P := Try.prog) w 58 5 6 (some ⟨b, o, none⟩) ys.length c2 Try.underlying58 (by omega)
  have HC := hide hcel
  have hc2 : 10 ≤ c2 := by have := HY.out.cap.2.1; omega
  have hcy := HY.out.cap.2.1
  clear hcel hg hyr hn he
  obtain ⟨w1, hw1⟩ : ∃ w1, w1 = w.alloc (.cells (([b0, b1, b2, b3, b4, b5] : List UInt8).map u8c).toArray 58) := ⟨_, rfl⟩
  have HK1 : Hid (Blk w1 w.heap.size (([b0, b1, b2, b3, b4, b5] : List UInt8).map u8c).toArray 58) := hide (by rw [hw1]; exact Blk.made w _ _)
  have HB1 : Hid (Below w.heap.size w w1) := hide (by rw [hw1]; exact (Below.refl _ _).alloc (Nat.le_refl _) _)
  have hw1' : w.alloc (.cells #[Value.int .u8 (b0.toNat : Int), .int .u8 (b1.toNat : Int), .int .u8 (b2.toNat : Int), .int .u8 (b3.toNat : Int), .int .u8 (b4.toNat : Int), .int .u8 (b5.toNat : Int)] 58) = w1 := by rw [hw1]; rfl
  have m1 : w1.cell? ⟨w.heap.size, 1, none⟩ = some (.int .u8 (b1.toNat : Int)) := HK1.out.cell 1
  have m2 : w1.cell? ⟨w.heap.size, 2, none⟩ = some (.int .u8 (b2.toNat : Int)) := HK1.out.cell 2
  clear hw1
  have HU2 : Hid (upk ys = if 65526 < n ∨ [b0, b1, b2, b3, b4, b5] ≠ openL n then ([], 0, 63) else if ys.length < 10 + n then ([], 0, 62) else if (ys.drop 6).take 4 ≠ sealL [b0, b1, b2, b3, b4, b5] ((ys.drop 10).take n) then ([], 0, 64) else ((ys.drop 10).take n, 10 + n, 0)) := hide (by
    rw [← HT6.out, HNN.out]; unfold upk; rw [if_neg hshort])
  obtain ⟨o6, ho6⟩ : ∃ o6 : List UInt8, o6 = [b0, b1, b2, b3, b4, b5] := ⟨_, rfl⟩
  rw [← ho6] at HK1 HU2 HT6
  have HO6 : Hid (o6.length = 6) := hide (by rw [ho6]; rfl)
  have l1 : b1.toNat < 256 := b1.toNat_lt
  have l2 : b2.toNat < 256 := b2.toNat_lt
  obtain ⟨x1, hx1⟩ : ∃ x1, x1 = b1.toNat := ⟨_, rfl⟩
  obtain ⟨x2, hx2⟩ : ∃ x2, x2 = b2.toNat := ⟨_, rfl⟩
  rw [← hx1] at l1 hor m1 k1 hw1'
  rw [← hx2] at l2 hor m2 k2 hw1'
  clear hx1 hx2
  have gd6 := arrGuard6
  have gd4 := arrGuard4
  go_enter Try.func20, Try.ntmps20
  go_wp2
  clear k0 k1 k2 k3 k4 k5 har hor m1 m2 hw1' HT6 HN ho6 hs1
  by_cases hbigN : 65526 < n
  · have hbn : (65526 : Int) < (n : Int) := by omega
    have HR : Hid (upk ys = ([], 0, 63)) := hide (by rw [HU2.out, if_pos (.inl hbigN)])
    refine wp_region_quiet_below (by kernel_rfl) (by kernel_rfl) ?_
    quiet_step (fail)
    quiet_step (fail)
    quiet_step (fail)
    repeat quiet_step (fail)
    refine wpQuiet_nil ?_
    intro _ hw'
    obtain ⟨⟨dq, osq⟩, hw''⟩ := hw'
    subst hw''
    have HB2 := hide (Below.step HB1.out (below_regrown w1 dq osq))
    go_wp2
    go_ret3
    exact ⟨_, by rw [HU.out, HR.out]; rfl, by rw [HU.out, HR.out]; exact World.ownsRow_nil _ _ _ _, HB2.out⟩
  have hbn : ¬ (65526 : Int) < (n : Int) := by omega
  have hne6 := arrNeq6 o6 (openL n) HO6.out (openL_len n)
  refine wp_region_quiet_below (by kernel_rfl) (by kernel_rfl) ?_
  quiet_step (fail)
  quiet_step (fail)
  quiet_step (fail)
  refine wpQuiet_val (arrV o6) rfl (fun w hw => ?_) ?_
  · obtain ⟨p, rfl⟩ := hw
    exact run_load rfl rfl (arr_load6 (HK1.out.regrown _ _) HO6.out)
  quiet_step (fail)
  quiet_step (exact Calls.regrown_of (opening_any _ n hn16))
  quiet_step (fail)
  quiet_step (fail)
  refine wpQuiet_nil ?_
  intro w2 hw'
  obtain ⟨⟨dq, osq⟩, hw''⟩ := hw'
  have hb12 := below_regrown w1 dq osq
  have hk12 := HK1.out.regrown dq osq
  rw [← show w2 = grow (redrawn w1 dq) osq from hw''] at hb12 hk12
  have HB2 := hide (Below.step HB1.out hb12)
  have HK2 := hide hk12
  have HY2 := hide (HY.out.below HB2.out)
  clear hw'' hb12 hk12 HB1 HK1 hne6
  by_cases heq : o6 = openL n
  case neg =>
    have hbe : (o6 == openL n) = false := beq_false_of_ne heq
    have HR : Hid (upk ys = ([], 0, 63)) := hide (by rw [HU2.out, if_pos (.inr heq)])
    rw [hbe]
    go_wp2
    go_ret3
    exact ⟨_, by rw [HU.out, HR.out]; rfl, by rw [HU.out, HR.out]; exact World.ownsRow_nil _ _ _ _, HB2.out⟩
  have hbe : (o6 == openL n) = true := by rw [heq]; exact beq_self_eq_true _
  rw [hbe]
  have HU3 : Hid (upk ys = if ys.length < 10 + n then ([], 0, 62) else if (ys.drop 6).take 4 ≠ sealL o6 ((ys.drop 10).take n) then ([], 0, 64) else ((ys.drop 10).take n, 10 + n, 0)) := hide (by
    rw [HU2.out, if_neg (fun h => by rcases h with h | h; exact hbigN h; exact h heq)])
  clear HU2 heq hbe
  by_cases hlong : ys.length < 10 + n
  · have hli : (ys.length : Int) < 10 + (n : Int) := by omega
    have HR : Hid (upk ys = ([], 0, 62)) := hide (by rw [HU3.out, if_pos hlong])
    go_wp2
    go_ret3
    exact ⟨_, by rw [HU.out, HR.out]; rfl, by rw [HU.out, HR.out]; exact World.ownsRow_nil _ _ _ _, HB2.out⟩
  have hli : ¬ (ys.length : Int) < 10 + (n : Int) := by omega
  have hs2 := slice_lh (some ⟨b, o, none⟩) ys.length c2 10 (10 + n) (by omega) (by omega) 10 (10 + (n : Int)) rfl (by omega)
  have hrd := HY2.out.sliced 10 (10 + n) (by omega) (by omega)
  rw [show 10 + n - 10 = n from by omega] at hrd
  obtain ⟨zs, hzs⟩ : ∃ zs, zs = (ys.drop 10).take n := ⟨_, rfl⟩
  have hzl : zs.length = n := by rw [hzs, List.length_take, List.length_drop]; omega
  rw [← hzs] at hrd HU3
  obtain ⟨ao3, c3, hf3, -⟩ := hrd.slice
  rw [hf3] at hs2 hrd
  have HZ := hide hrd
  have hs3 := slice_lo (some ⟨b, o, none⟩) ys.length c2 6 (by omega) 6 rfl
  rw [show sliced (some ⟨b, o, none⟩) 6 ys.length c2 1 = .slice (some ⟨b, o + 6, none⟩) (ys.length - 6) (c2 - 6) from by unfold sliced; rw [if_neg (by omega)]; rfl] at hs3
  have har := fun (W : World) => run_arrayAt (P := Try.prog) W 47 5 4 (some ⟨b, o + 6, none⟩) (ys.length - 6) (c2 - 6) Try.underlying47 (by omega)
  obtain ⟨q4, hq4⟩ : ∃ q4, q4 = (ys.drop 6).take 4 := ⟨_, rfl⟩
  rw [← hq4] at HU3
  have hq4l : q4.length = 4 := by rw [hq4, List.length_take, List.length_drop]; omega
  have HQ4 : Hid (∀ j (hj : j < q4.length), w.cell? ⟨b, o + 6 + j, none⟩ = some (u8c q4[j])) := hide (by
    intro j hj
    have h := HC.out (6 + j) (by omega)
    rw [Nat.add_assoc, h]
    unfold u8c
    congr 3
    simp [hq4])
  have hne4 := arrNeq4 q4 (sealL o6 zs) hq4l (sealL_len _ _)
  have HQL := hide hq4l
  have HZL := hide hzl
  rw [hzl] at HZ hs2
  obtain ⟨l6, hl6⟩ : ∃ l6, l6 = ys.length - 6 := ⟨_, rfl⟩
  obtain ⟨c6, hc6⟩ : ∃ c6, c6 = c2 - 6 := ⟨_, rfl⟩
  rw [← hl6, ← hc6] at hs3 har
  clear hq4 hzs hrd hf3 HY hl6 hc6 hzl hq4l
  go_wp2
  refine wp_region_quiet_below (by kernel_rfl) (by kernel_rfl) ?_
  quiet_step (fail)
  quiet_step (fail)
  quiet_step (fail)
  refine wpQuiet_val (arrV q4) rfl (fun w' hw' => ?_) ?_
  · obtain ⟨p, rfl⟩ := hw'
    refine run_load rfl rfl (loadAt_four (fun j hj => ?_) HQL.out)
    have h := HQ4.out j hj
    have h2 := HB2.out.cell (block_lt_of_cell' h)
    have h3 := h2.trans h
    exact cell_regrown h3 _ _
  refine wpQuiet_val (arrV o6) rfl (fun w' hw' => ?_) ?_
  · obtain ⟨p, rfl⟩ := hw'
    exact run_load rfl rfl (arr_load6 (HK2.out.regrown _ _) HO6.out)
  quiet_step (fail)
  quiet_step (exact Calls.regrown_of (seal_any _ o6 HO6.out _ zs (HZ.out.below (below_regrown _ _ _))))
  quiet_step (fail)
  refine wpQuiet_nil ?_
  intro w3 hw'
  obtain ⟨⟨dq, osq⟩, hw''⟩ := hw'
  have hb23 := below_regrown w2 dq osq
  rw [← show w3 = grow (redrawn w2 dq) osq from hw''] at hb23
  have HB3 := hide (Below.step HB2.out hb23)
  have HZ3 := hide (HZ.out.below hb23)
  clear hw'' hb23 hne4 hs2 hs3 har HZ HK2 HY2
  by_cases heq : q4 = sealL o6 zs
  case neg =>
    have hbe : (q4 == sealL o6 zs) = false := beq_false_of_ne heq
    have HR : Hid (upk ys = ([], 0, 64)) := hide (by rw [HU3.out, if_neg hlong, if_pos heq])
    rw [hbe]
    go_wp2
    go_ret3
    exact ⟨_, by rw [HU.out, HR.out]; rfl, by rw [HU.out, HR.out]; exact World.ownsRow_nil _ _ _ _, HB3.out⟩
  have hbe : (q4 == sealL o6 zs) = true := by rw [heq]; exact beq_self_eq_true _
  have HR : Hid (upk ys = (zs, 10 + n, 0)) := hide (by rw [HU3.out, if_neg hlong, if_neg (fun h => h heq)])
  rw [hbe]
  clear heq hbe HU3
  go_wp2_with fail
  refine (clone_any w3 _ zs HZ3.out (by rw [HZL.out]; omega)).mono ?_
  rintro e w4 ⟨v4, rfl, hO4, hb4⟩
  have HO4 := hide (own_base hO4 HB3.out.size)
  have HB4 := hide (Below.step HB3.out hb4)
  clear hO4 hb4
  go_wp2
  go_ret3
  refine ⟨v4, ?_, by rw [HU.out, HR.out]; exact HO4.out, HB4.out⟩
  rw [HU.out, HR.out]
  simp
end Go.Proofs.Ytbnedlcldfpfdaa
