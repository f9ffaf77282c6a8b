/- The document reads a record. -/
import Derived.Test.YtbnedlcldfpfdaaEX3
namespace Go.Proofs.Ytbnedlcldfpfdaa
set_option linter.unusedVariables false
set_option linter.unusedSimpArgs false
open Go.RowKit Go.Sort

theorem u8_eq_iff (a b : UInt8) : a = b ↔ a.toNat = b.toNat := ⟨fun h => by rw [h], fun h => UInt8.toNat_inj.mp h⟩
theorem head_iff (b0 b1 b2 b3 b4 b5 : UInt8) (n : Nat) (hn : n = b1.toNat + 256 * b2.toNat) : [b0, b1, b2, b3, b4, b5] = openL n ↔ b0.toNat = 199 ∧ b3.toNat + 256 * b4.toNat = 65535 - n ∧ b5.toNat = 1 := by
  have l1 : b1.toNat < 256 := b1.toNat_lt
  have l2 : b2.toNat < 256 := b2.toNat_lt
  have l3 : b3.toNat < 256 := b3.toNat_lt
  have l4 : b4.toNat < 256 := b4.toNat_lt
  unfold openL
  simp only [List.cons.injEq, and_true, u8_eq_iff, UInt8.toNat_ofNat']
  rw [show (199 : UInt8).toNat = 199 from rfl, show (1 : UInt8).toNat = 1 from rfl]
  constructor
  · rintro ⟨h0, h1, h2, h3, h4, h5⟩; exact ⟨h0, by omega, h5⟩
  · rintro ⟨h0, h3, h5⟩; exact ⟨h0, by omega, by omega, by omega, by omega, h5⟩
theorem sum_iff (c0 c1 c2 c3 : UInt8) (s : Nat) (hs : s < 4294967296) : [c0, c1, c2, c3] = le4 s ↔ s = c0.toNat + 256 * c1.toNat + 65536 * c2.toNat + 16777216 * c3.toNat := by
  have l0 : c0.toNat < 256 := c0.toNat_lt
  have l1 : c1.toNat < 256 := c1.toNat_lt
  have l2 : c2.toNat < 256 := c2.toNat_lt
  have l3 : c3.toNat < 256 := c3.toNat_lt
  unfold le4
  simp only [List.cons.injEq, and_true, u8_eq_iff, UInt8.toNat_ofNat']
  constructor
  · rintro ⟨h0, h1, h2, h3⟩; omega
  · intro h; exact ⟨by omega, by omega, by omega, by omega⟩
theorem take10 (b : List UInt8) (h : 10 ≤ b.length) : ∃ b0 b1 b2 b3 b4 b5 c0 c1 c2 c3 r, b = b0 :: b1 :: b2 :: b3 :: b4 :: b5 :: c0 :: c1 :: c2 :: c3 :: r := by
  match b, h with
  | b0 :: b1 :: b2 :: b3 :: b4 :: b5 :: c0 :: c1 :: c2 :: c3 :: r, _ => exact ⟨b0, b1, b2, b3, b4, b5, c0, c1, c2, c3, r, rfl⟩
set_option maxRecDepth 40000 in
set_option maxHeartbeats 4000000 in
theorem runpack_any (w : World) (v : Value) (xs : List UInt8) (hv : RdA w v xs) (i : Int) (hi : -9223372036854775808 ≤ i ∧ i ≤ 9223372036854775807) : Calls Try.prog 27 #[v, .int .i64 i] w (UnpackC w (unpk xs i)) := by
  have HV := hide hv
  obtain ⟨ao, c, rfl, hz⟩ := hv.slice
  clear hv
  by_cases hneg : i < 0
  · have HR : Hid (unpk xs i = ([], 0, 61)) := hide (by unfold unpk; rw [if_pos (.inl hneg)])
    go_enter Try.func27, Try.ntmps27
    go_wp2
    go_ret3
    exact ⟨_, by rw [HR.out]; rfl, by rw [HR.out]; exact World.ownsRow_nil _ _ _ _, Below.refl _ _⟩
  by_cases hbig : (xs.length : Int) < i
  · have HR : Hid (unpk xs i = ([], 0, 61)) := hide (by unfold unpk; rw [if_pos (.inr hbig)])
    go_enter Try.func27, Try.ntmps27
    go_wp2
    go_ret3
    exact ⟨_, by rw [HR.out]; rfl, by rw [HR.out]; exact World.ownsRow_nil _ _ _ _, Below.refl _ _⟩
  obtain ⟨k, rfl⟩ := Int.eq_ofNat_of_zero_le (show 0 ≤ i by omega)
  have hk : k ≤ xs.length := by omega
  have hneg' : ¬ (k : Int) < 0 := by omega
  obtain ⟨ys, hys⟩ : ∃ ys, ys = xs.drop k := ⟨_, rfl⟩
  have HU : Hid (unpk xs (k : Int) = upk ys) := hide (by unfold unpk; rw [if_neg (by omega), Int.toNat_natCast, hys])
  have hyl : ys.length = xs.length - k := by rw [hys, List.length_drop]
  have hsub : (xs.length : Int) - (k : Int) = (ys.length : Int) := by omega
  have HG : Hid (∀ j (hj : k + j < xs.length) (x : UInt8), ys[j]? = some x → xs[k + j] = x) := hide (by
    intro j hj x hx
    rw [hys, List.getElem?_drop, List.getElem?_eq_getElem hj] at hx
    exact Option.some.inj hx)
  have HYL := hide hyl
  clear hys hyl hneg
  by_cases hshort : ys.length < 10
  · have hsi : (ys.length : Int) < 10 := by omega
    have HR : Hid (upk ys = ([], 0, 62)) := hide (by unfold upk; rw [if_pos hshort])
    go_enter Try.func27, Try.ntmps27
    go_wp2
    go_ret3
    exact ⟨_, by rw [HU.out, HR.out]; rfl, by rw [HU.out, HR.out]; exact World.ownsRow_nil _ _ _ _, Below.refl _ _⟩
  have hsi : ¬ (ys.length : Int) < 10 := by omega
  have hkl : k + 10 ≤ xs.length := by rw [HYL.out] at hshort; omega
  obtain ⟨b0, b1, b2, b3, b4, b5, c0, c1, c2, c3, r, hyr⟩ := take10 ys (by omega)
  have x0 : xs[k] = b0 := HG.out 0 (by omega) b0 (by rw [hyr]; rfl)
  have x1 : xs[k + 1] = b1 := HG.out 1 (by omega) b1 (by rw [hyr]; rfl)
  have x2 : xs[k + 2] = b2 := HG.out 2 (by omega) b2 (by rw [hyr]; rfl)
  have x3 : xs[k + 3] = b3 := HG.out 3 (by omega) b3 (by rw [hyr]; rfl)
  have x4 : xs[k + 4] = b4 := HG.out 4 (by omega) b4 (by rw [hyr]; rfl)
  have x5 : xs[k + 5] = b5 := HG.out 5 (by omega) b5 (by rw [hyr]; rfl)
  have x6 : xs[k + 6] = c0 := HG.out 6 (by omega) c0 (by rw [hyr]; rfl)
  have x7 : xs[k + 7] = c1 := HG.out 7 (by omega) c1 (by rw [hyr]; rfl)
  have x8 : xs[k + 8] = c2 := HG.out 8 (by omega) c2 (by rw [hyr]; rfl)
  have x9 : xs[k + 9] = c3 := HG.out 9 (by omega) c3 (by rw [hyr]; rfl)
  obtain ⟨n, hn⟩ : ∃ n, n = b1.toNat + 256 * b2.toNat := ⟨_, rfl⟩
  have HN : Hid (lenN ys = n) := hide (by rw [hn, hyr]; rfl)
  have HIF := hide (head_iff b0 b1 b2 b3 b4 b5 n hn)
  have hn16 : n ≤ 65535 := by rw [← HN.out]; exact lenN_lt ys
  have HT6 : Hid (ys.take 6 = [b0, b1, b2, b3, b4, b5]) := hide (by rw [hyr]; rfl)
  have HT4 : Hid ((ys.drop 6).take 4 = [c0, c1, c2, c3]) := hide (by rw [hyr]; rfl)
  have HU2 : Hid (upk ys = if 65526 < n ∨ [b0, b1, b2, b3, b4, b5] ≠ openL n then ([], 0, 63) else if ys.length < 10 + n then ([], 0, 62) else if [c0, c1, c2, c3] ≠ sealL [b0, b1, b2, b3, b4, b5] ((ys.drop 10).take n) then ([], 0, 64) else ((ys.drop 10).take n, 10 + n, 0)) := hide (by
    rw [← HT6.out, ← HT4.out, ← HN.out]; unfold upk; rw [if_neg hshort])
  have T1 : Hid (∀ W, RdA W (.slice ao xs.length c) xs → ∀ q : Int, q = (k : Int) + 1 → Calls Try.prog 39 #[.slice ao xs.length c, .int .i64 q] W (I64C W n)) := hide (by
    intro W hW q hq
    have h := rtwo_any W _ xs hW (k + 1) (by omega) q (by omega)
    rw [x1, show xs[k + 1 + 1] = b2 from x2, ← hn] at h
    exact h)
  obtain ⟨m, hm⟩ : ∃ m, m = b3.toNat + 256 * b4.toNat := ⟨_, rfl⟩
  have T3 : Hid (∀ W, RdA W (.slice ao xs.length c) xs → ∀ q : Int, q = (k : Int) + 3 → Calls Try.prog 39 #[.slice ao xs.length c, .int .i64 q] W (I64C W m)) := hide (by
    intro W hW q hq
    have h := rtwo_any W _ xs hW (k + 3) (by omega) q (by omega)
    rw [x3, show xs[k + 3 + 1] = b4 from x4, ← hm] at h
    exact h)
  obtain ⟨t, ht⟩ : ∃ t, t = c0.toNat + 256 * c1.toNat + 65536 * c2.toNat + 16777216 * c3.toNat := ⟨_, rfl⟩
  have T6 : Hid (∀ W, RdA W (.slice ao xs.length c) xs → ∀ q : Int, q = (k : Int) + 6 → Calls Try.prog 40 #[.slice ao xs.length c, .int .i64 q] W (SumC W t)) := hide (by
    intro W hW q hq
    have h := rfour_any W _ xs hW (k + 6) (by omega) q (by omega)
    rw [x6, show xs[k + 6 + 1] = c1 from x7, show xs[k + 6 + 2] = c2 from x8, show xs[k + 6 + 3] = c3 from x9, ← ht] at h
    exact h)
  have HSI : Hid (∀ s, s < 4294967296 → ([c0, c1, c2, c3] = le4 s ↔ s = t)) := hide (by intro s hs; rw [ht]; exact sum_iff c0 c1 c2 c3 s hs)
  rw [← hm] at HIF
  obtain ⟨B, O, cc, he, -⟩ := HV.out.at k (by omega)
  have HC : Hid (∀ j (hj : j < xs.length), w.cell? ⟨B, O + j, none⟩ = some (.int .u8 (xs[j].toNat : Int))) := hide (by
    intro j hj
    obtain ⟨b', o', cc', he', hc'⟩ := HV.out.at j hj
    rw [he] at he'
    obtain ⟨e1, -, -⟩ := (Value.slice.injEq ..).mp he'
    cases e1
    exact hc')
  obtain ⟨rfl, -, rfl⟩ := (Value.slice.injEq ..).mp he
  have k0 := HC.out k (by omega)
  have k5 := HC.out (k + 5) (by omega)
  rw [x0] at k0
  rw [x5] at k5
  obtain ⟨o6, ho6⟩ : ∃ o6 : List UInt8, o6 = [b0, b1, b2, b3, b4, b5] := ⟨_, rfl⟩
  obtain ⟨q4, hq4⟩ : ∃ q4 : List UInt8, q4 = [c0, c1, c2, c3] := ⟨_, rfl⟩
  rw [← ho6] at HIF HU2
  rw [← hq4] at HSI HU2
  have l0 : b0.toNat < 256 := b0.toNat_lt
  have l5 : b5.toNat < 256 := b5.toNat_lt
  obtain ⟨a0, ha0⟩ : ∃ a0, a0 = b0.toNat := ⟨_, rfl⟩
  obtain ⟨a5, ha5⟩ : ∃ a5, a5 = b5.toNat := ⟨_, rfl⟩
  rw [← ha0] at k0 HIF l0
  rw [← ha5] at k5 HIF l5
  obtain ⟨p, hp⟩ : ∃ p, p = 65535 - n := ⟨_, rfl⟩
  have hpi : (65535 : Int) - (n : Int) = (p : Int) := by omega
  rw [← hp] at HIF
  have hk1 : (k : Int) < xs.length := by omega
  have hk5 : (k : Int) + 5 < xs.length := by omega
  clear he ho6 hq4 ha0 ha5 x0 x1 x2 x3 x4 x5 x6 x7 x8 x9 hn hm ht hyr HT6 HT4 hp
  have HB5 : Hid (∀ W, Below w.heap.size w W → W.cell? ⟨B, O + (k + 5), none⟩ = some (.int .u8 (a5 : Int)) ∧ W.cell? ⟨B, O + k, none⟩ = some (.int .u8 (a0 : Int))) := hide (fun W hW => ⟨(hW.cell (block_lt_of_cell' k5)).trans k5, (hW.cell (block_lt_of_cell' k0)).trans k0⟩)
  clear k0 k5
  go_enter Try.func27, Try.ntmps27
  go_wp2_with fail
  refine (T1.out w HV.out _ (by omega)).mono ?_
  rintro e w1 ⟨rfl, hb1⟩
  have HB1 := hide hb1
  obtain ⟨k5, k0⟩ := HB5.out w1 hb1
  clear hb1
  by_cases h0 : a0 = 199
  case neg =>
    have h0i : ¬ (a0 : Int) = 199 := by omega
    have HR : Hid (upk ys = ([], 0, 63)) := hide (by rw [HU2.out, if_pos (.inr (fun h => h0 (HIF.out.mp h).1))])
    go_wp2
    go_ret3
    exact ⟨_, by rw [HU.out, HR.out]; rfl, by rw [HU.out, HR.out]; exact World.ownsRow_nil _ _ _ _, HB1.out⟩
  subst h0
  rw [show ((199 : Nat) : Int) = 199 from rfl] at k0
  go_wp2_with fail
  refine (T3.out w1 (HV.out.below HB1.out) _ (by omega)).mono ?_
  rintro e w2 ⟨rfl, hb2⟩
  have HB2 := hide (Below.step HB1.out hb2)
  obtain ⟨k5', -⟩ := HB5.out w2 HB2.out
  clear hb2 HB1 k5 k0
  by_cases hmp : m = p
  case neg =>
    have hmi : ¬ (m : Int) = (p : Int) := by omega
    have HR : Hid (upk ys = ([], 0, 63)) := hide (by rw [HU2.out, if_pos (.inr (fun h => hmp (HIF.out.mp h).2.1))])
    go_wp2
    go_ret3
    exact ⟨_, by rw [HU.out, HR.out]; rfl, by rw [HU.out, HR.out]; exact World.ownsRow_nil _ _ _ _, HB2.out⟩
  subst hmp
  by_cases hbigN : 65526 < n
  · have hbn : (65526 : Int) < (n : Int) := by omega
    have HR : Hid (upk ys = ([], 0, 63)) := hide (by rw [HU2.out, if_pos (.inl hbigN)])
    go_wp2
    go_ret3
    exact ⟨_, by rw [HU.out, HR.out]; rfl, by rw [HU.out, HR.out]; exact World.ownsRow_nil _ _ _ _, HB2.out⟩
  have hbn : ¬ (65526 : Int) < (n : Int) := by omega
  obtain ⟨g, hg⟩ : ∃ g, g = k + 5 := ⟨_, rfl⟩
  rw [← hg] at k5'
  have hgi : (k : Int) + 5 = (g : Int) := by omega
  have hgl : (g : Int) < xs.length := by omega
  have hdec : decide ((65526 : Int) < (n : Int)) = false := decide_eq_false hbn
  clear hk5 hg
  by_cases h5 : a5 = 1
  case neg =>
    have h5i : ¬ (a5 : Int) = 1 := by omega
    have HR : Hid (upk ys = ([], 0, 63)) := hide (by rw [HU2.out, if_pos (.inr (fun h => h5 (HIF.out.mp h).2.2))])
    go_wp2
    go_ret3
    exact ⟨_, by rw [HU.out, HR.out]; rfl, by rw [HU.out, HR.out]; exact World.ownsRow_nil _ _ _ _, HB2.out⟩
  subst h5
  rw [show ((1 : Nat) : Int) = 1 from rfl] at k5'
  have ho6 : o6 = openL n := HIF.out.mpr ⟨by first | rfl | trivial, by first | rfl | trivial, by first | rfl | trivial⟩
  have HU3 : Hid (upk ys = if ys.length < 10 + n then ([], 0, 62) else if q4 ≠ sealL (openL n) ((ys.drop 10).take n) then ([], 0, 64) else ((ys.drop 10).take n, 10 + n, 0)) := hide (by
    rw [HU2.out, if_neg (fun h => by rcases h with h | h; exact hbigN h; exact h ho6), ho6])
  clear HU2 HIF ho6
  by_cases hlong : ys.length < 10 + n
  · have hli : (ys.length : Int) - 10 < (n : Int) := by omega
    have HR : Hid (upk ys = ([], 0, 62)) := hide (by rw [HU3.out, if_pos hlong])
    go_wp2
    go_ret3
    exact ⟨_, by rw [HU.out, HR.out]; rfl, by rw [HU.out, HR.out]; exact World.ownsRow_nil _ _ _ _, HB2.out⟩
  have hli : ¬ (ys.length : Int) - 10 < (n : Int) := by omega
  have hkn : k + 10 + n ≤ xs.length := by have := HYL.out; omega
  obtain ⟨zs, hzs⟩ : ∃ zs, zs = (ys.drop 10).take n := ⟨_, rfl⟩
  rw [← hzs] at HU3
  have HZL : Hid (zs.length = n) := hide (by rw [hzs, List.length_take, List.length_drop]; omega)
  have HZ : Hid (∀ j (hj : j < n), ∃ x, zs.take (j + 1) = zs.take j ++ [x] ∧ ∀ W, Below w.heap.size w W → W.cell? ⟨B, O + (k + 10 + j), none⟩ = some (.int .u8 (x.toNat : Int))) := hide (by
    intro j hj
    have hjl : j < zs.length := by rw [HZL.out]; exact hj
    refine ⟨zs[j], List.take_succ_eq_append_getElem hjl, fun W hW => ?_⟩
    have h := HC.out (k + 10 + j) (by omega)
    have e : xs[k + 10 + j]'(by omega) = zs[j] := by
      have h2 : ys[10 + j]? = some zs[j] := by
        rw [← List.getElem?_eq_getElem hjl, hzs, List.getElem?_take_of_lt hj, List.getElem?_drop]
      have h3 := HG.out (10 + j) (by omega) _ h2
      rw [← h3]; congr 1; omega
    rw [e] at h
    exact (hW.cell (block_lt_of_cell' h)).trans h)
  clear hzs HB5 HC HG
  go_wp2
  clear k5'
  go_loopw [8, 9] (fun v i wr => ∃ (vo : Value) (j : Nat), vo = v ∧ i = .int .i64 j ∧ j ≤ n ∧ OwnsB wr w.heap.size vo (zs.take j) ∧ Below w.heap.size w wr) (fun _ i _ => n - (intOf i).toNat)
  case atStart => exact ⟨_, 0, rfl, rfl, by omega, World.ownsRow_nil _ _ _ _, HB2.out⟩
  case round =>
    obtain ⟨vo, j, rfl, rfl, hj, hown, hbel⟩ := hrel
    clear HB2
    have HO := hide hown
    have hsz : w.heap.size ≤ wr.heap.size := hbel.size
    by_cases hlt : j < n
    · have hji : (j : Int) < n := by omega
      obtain ⟨x, hT, hcl⟩ := HZ.out j hlt
      have HT := hide hT
      have hcell := hcl wr hbel
      have hadd : (k : Int) + 10 + (j : Int) = ((k + 10 + j : Nat) : Int) := by omega
      have hin : ((k + 10 + j : Nat) : Int) < xs.length := by omega
      obtain ⟨u, hu⟩ : ∃ u, u = k + 10 + j := ⟨_, rfl⟩
      rw [← hu] at hadd hin hcell
      obtain ⟨ao2, cap, rfl, -, -⟩ := hown.slice
      have htl : (zs.take j).length = j := by rw [List.length_take, HZL.out]; omega
      rw [htl] at HO ⊢
      have HTL := hide htl
      have hul : u ≤ 9223372036854775807 := by omega
      clear hown hcl hT htl hu
      go_wp2_with (at_builtin; refine wpList_append_byteW rfl _ _ rfl w.heap.size _ (zs.take j) rfl ?c1 wr.heap.size 1 rfl x x.toNat rfl ?c2 ?c3 ?c4 ?_)
      case c1 => exact owns_below HO.out ((Below.refl _ _).alloc (Nat.le_refl _) _)
      case c2 => exact (Blk.made wr _ _).cell 0
      case c3 => rw [HTL.out]; omega
      case c4 => simp; omega
      intro v' w1 HO' HG
      go_wp2
      refine ⟨⟨_, j + 1, rfl, by go_num, by omega, ?_, own_below (hbel.alloc hsz _) (owns_below HO.out ((Below.refl _ _).alloc (Nat.le_refl _) _)) (by simp; omega) HG.out⟩, by simp [intOf]; omega⟩
      rw [HT.out]; exact HO'.out
    · obtain rfl : j = n := by omega
      have hji : ¬ (j : Int) < j := by omega
      rw [show zs.take j = zs from List.take_of_length_le (by rw [HZL.out]; omega)] at HO
      clear hown
      have HBE := hide hbel
      clear hbel
      obtain ⟨ao2, cap, rfl, -, -⟩ := HO.out.slice
      obtain ⟨wa, hwa⟩ : ∃ wa, wa = wr := ⟨_, rfl⟩
      rw [← hwa] at HO HBE ⊢
      clear hwa
      go_wp2_with fail
      refine (rhead_any wa j (by omega)).mono ?_
      rintro e w3 ⟨v3, rfl, hO3, hb3⟩
      have HR3 := hide hO3.rd
      have HB3 := hide (Below.step HBE.out hb3)
      have HO3 := hide (owns_below HO.out hb3)
      obtain ⟨ao3, c3', rfl, -, -⟩ := hO3.slice
      clear hO3 hb3
      go_wp2_with fail
      refine (rcrc_any w3 _ _ HR3.out).mono ?_
      rintro e w' ⟨rfl, rfl⟩
      go_wp2_with fail
      refine (rmore_any _ _ (moreN_lt 0 _) _ zs (OwnsB.rd HO3.out)).mono ?_
      rintro e w'' ⟨rfl, rfl⟩
      rw [moreN_append]
      have hsl := moreN_lt 0 (openL j ++ zs)
      obtain ⟨s, hs⟩ : ∃ s, s = moreN 0 (openL j ++ zs) := ⟨_, rfl⟩
      rw [← hs] at hsl ⊢
      have HS : Hid (sealL (openL j) zs = le4 s) := hide (by rw [hs]; rfl)
      clear hs HR3
      go_wp2_with fail
      refine (T6.out _ (HV.out.below HB3.out) _ (by omega)).mono ?_
      rintro e w4 ⟨rfl, hb4⟩
      have HB4 := hide (Below.step HB3.out hb4)
      have HO4 := hide (owns_below HO3.out hb4)
      clear hb4
      by_cases hst : s = t
      case neg =>
        have hsti : ¬ (s : Int) = (t : Int) := by omega
        have HR : Hid (upk ys = ([], 0, 64)) := hide (by rw [HU3.out, if_neg hlong, if_pos (by rw [HS.out]; exact fun h => hst ((HSI.out s hsl).mp h))])
        go_wp2
        go_ret3
        exact ⟨_, by rw [HU.out, HR.out]; rfl, by rw [HU.out, HR.out]; exact World.ownsRow_nil _ _ _ _, HB4.out⟩
      have HR : Hid (upk ys = (zs, 10 + j, 0)) := hide (by rw [HU3.out, if_neg hlong, if_neg (by rw [HS.out]; exact fun h => h ((HSI.out s hsl).mpr hst))])
      subst hst
      go_wp2
      go_ret3
      exact ⟨_, by rw [HU.out, HR.out]; rfl, by rw [HU.out, HR.out]; exact HO4.out, HB4.out⟩
end Go.Proofs.Ytbnedlcldfpfdaa
