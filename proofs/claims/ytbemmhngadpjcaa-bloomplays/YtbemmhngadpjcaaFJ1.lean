/- Has of a filter. -/
import Derived.Test.YtbemmhngadpjcaaFI9
namespace Go.Proofs.Ytbemmhngadpjcaa
set_option linter.unusedVariables false
set_option linter.unusedSimpArgs false
open Go.RowKit

/-- Are the first k places of a key set? -/
def hasK (ws : List Nat) (a b : Nat) : Nat → Bool
  | 0 => true
  | k + 1 => hasK ws a b k && hsB ws (plK a b ws.length k)
theorem has_mono (ws : List Nat) (a b k : Nat) : ∀ m, k ≤ m → hasK ws a b k = false → hasK ws a b m = false
  | 0, h, e => by
    obtain rfl : k = 0 := by omega
    exact e
  | m + 1, h, e => by
    rcases Nat.lt_or_ge m k with q | q
    · obtain rfl : k = m + 1 := by omega
      exact e
    · rw [hasK, has_mono ws a b k m q e]
      rfl
def HasC (w : World) (z g h : Nat) (ws : List Nat) (kb : List UInt8) (e : Ending) (w' : World) : Prop := e = .returned (.bool (hasK ws (keyA kb) (keyB kb) h)) ∧ Below w.heap.size w w'
set_option maxRecDepth 20000 in
set_option maxHeartbeats 8000000 in
theorem has_any (w : World) (z g h : Nat) (ws : List Nat) (f : FilAt w z g h ws) (kb : List UInt8) (hkb : kb.length = 32) : Calls Try.prog 26 #[.pointer (some ⟨z, 0, none⟩), .agg (kb.map u8c).toArray] w (HasC w z g h ws kb) := by
  obtain ⟨K, hK⟩ : ∃ K, K = (kb.map u8c).toArray := ⟨_, rfl⟩
  have hKs : K.size = 32 := by rw [hK]; simp [hkb]
  have HKs := hide hKs
  obtain ⟨W1, hW1⟩ : ∃ W1, W1 = w.alloc (.cells K 36) := ⟨_, rfl⟩
  have hb1 : Below w.heap.size w W1 := by rw [hW1]; exact (Below.refl _ _).alloc (Nat.le_refl _) _
  have HF1 := hide (f.below hb1)
  have CN := hide (none_some W1 z g h ws HF1.out)
  have HNm := hide (fun W => numbers_any W kb hkb)
  rw [← hK] at HNm
  have HK1 : Hid (Blk W1 w.heap.size K 36) := hide (by rw [hW1]; exact Blk.made w K _)
  have HB1 := hide hb1
  have HGL := hide f.gb.lt
  obtain ⟨hh1, hh2⟩ := f.hh
  obtain ⟨hn1, hn2⟩ := f.hn
  obtain ⟨L, hL⟩ : ∃ L, L = ws.length := ⟨_, rfl⟩
  rw [← hL] at hn1 hn2
  have HLe := hide hL
  rw [← hK]
  have hA := keyA_lt kb
  have hBk := keyB_lt kb
  unfold HasC
  obtain ⟨a, ha⟩ : ∃ a, a = keyA kb := ⟨_, rfl⟩
  obtain ⟨b, hb⟩ : ∃ b, b = keyB kb := ⟨_, rfl⟩
  unfold NumsC at HNm
  rw [← ha, ← hb] at HNm
  rw [← ha] at hA ⊢
  rw [← hb] at hBk ⊢
  clear f hb1 hK hKs hL ha hb
  go_enter Try.func26, Try.ntmps26
  have hks := HKs.out
  go_wp2_with fail
  rw [← hW1]
  refine CN.out.mono ?_
  rintro e w0 ⟨rfl, hw0⟩
  subst hw0
  clear hW1 CN
  go_wp2_with (first | fail | ((with_reducible refine wpList_load_blk ?_ 36 _ Try.underlying36 ?_ 32 infoKey (.tmp 3) ?_ w.heap.size ?_ K _ HK1.out HKs.out ?_); rfl; rfl; rfl; rfl))
  refine (HNm.out _).mono ?_
  rintro e w2 ⟨rfl, hb2⟩
  have HB2 := hide (HB1.out.trans (hb2.mono HB1.out.size))
  have HF2 := hide (HF1.out.below hb2)
  have c0 : w2.cell? ⟨z, 0, none⟩ = some (.int .i64 h) := HF2.out.zb.cell 0
  clear hb2 HNm HB1 HF1 HK1 HKs hks
  go_wp2
  go_loopw [5, 20] (fun s5 s20 wr => ∃ (k n : Nat), s20 = .int .i64 k ∧ k ≤ h ∧ s5 = .int .u64 n ∧ n < 18446744073709551616 ∧ Hid (n = numK a b k ∧ hasK ws a b k = true) ∧ FilAt wr z g h ws ∧ Below w.heap.size w wr) (fun _ s20 _ => h - (intOf s20).toNat)
  case atStart => exact ⟨0, a, rfl, by omega, rfl, hA, hide ⟨by unfold numK; rw [Nat.zero_mul, Nat.add_zero, Nat.mod_eq_of_lt hA], rfl⟩, HF2.out, HB2.out⟩
  case round =>
    obtain ⟨k, n, rfl, hk, rfl, hnb, HN, hF, hG⟩ := hrel
    have HF := hide hF
    have HG := hide hG
    clear hF hG
    by_cases hlt : k < h
    · have hki : (k : Int) < h := by omega
      have HS := hide (fun W hW => spot_any W z g h ws hW n hnb)
      have hpl : plc n ws.length = plK a b ws.length k := by
        unfold plK
        rw [HN.out.1]
      rw [hpl] at HS
      obtain ⟨p, hp⟩ : ∃ p, p = plK a b ws.length k := ⟨_, rfl⟩
      rw [← hp] at HS
      have hpb : p < 64 * L := by
        rw [hp, HLe.out]
        exact Nat.mod_lt _ (by have := HLe.out; omega)
      have HAk : Hid (hasK ws a b (k + 1) = hsB ws p) := hide (by rw [hasK, ← hp, HN.out.2]; rfl)
      have HNk : Hid ((n + b) % 18446744073709551616 = numK a b (k + 1)) := hide (by rw [HN.out.1]; exact numK_succ a b k)
      clear hpl hp
      obtain ⟨d, hd⟩ : ∃ d, d = p / 64 := ⟨_, rfl⟩
      obtain ⟨y, hy⟩ : ∃ y, y = 2 ^ (p % 64) := ⟨_, rfl⟩
      have hyb : y < 18446744073709551616 := by rw [hy]; exact pow_u64 _ (by omega)
      rw [← hd, ← hy] at HS
      have hdL : d < L := by omega
      have hdi : (d : Int) < L := by omega
      have hdu : d < ws.length := by have := HLe.out; omega
      obtain ⟨x, hx⟩ : ∃ x, x = ws[d] := ⟨_, rfl⟩
      have hxb : x < 18446744073709551616 := by rw [hx]; exact HF.out.ok _ (List.getElem_mem hdu)
      have HHs : Hid (hsB ws p = !((x &&& y) == 0)) := hide (by unfold hsB; rw [← hd, ← hy, List.getElem?_eq_getElem hdu, ← hx]; rfl)
      have cz : wr.cell? ⟨z, 1, none⟩ = some (.slice (some ⟨g, 0, none⟩) L L) := by rw [HLe.out]; exact HF.out.zb.cell 1
      have cx : wr.cell? ⟨g, d, none⟩ = some (.int .u64 x) := by rw [hx]; exact HF.out.cellW d hdu
      have hand : bits .and .u64 (x : Int) (y : Int) = ((x &&& y : Nat) : Int) := u64_and_nat x y hxb hyb
      obtain ⟨r, hr⟩ : ∃ r, r = x &&& y := ⟨_, rfl⟩
      rw [← hr] at hand HHs
      have hw : IntKind.u64.wrap ((n : Int) + (b : Int)) = (((n + b) % 18446744073709551616 : Nat) : Int) := by
        simp [IntKind.wrap, IntKind.bits, IntKind.signed]
      obtain ⟨n2, hn2'⟩ : ∃ n2, n2 = (n + b) % 18446744073709551616 := ⟨_, rfl⟩
      rw [← hn2'] at hw HNk
      have hn2b : n2 < 18446744073709551616 := by omega
      clear hd hy hx hr hn2'
      by_cases hr0 : r = 0
      · have hri : ((r : Int) == 0) = true := by rw [beq_iff_eq]; omega
        have HHs2 : Hid (hasK ws a b (k + 1) = false) := hide (by rw [HAk.out, HHs.out, hr0]; rfl)
        have HHf : Hid (hasK ws a b h = false) := hide (has_mono ws a b (k + 1) h (by omega) HHs2.out)
        have hri2 : (r : Int) = 0 := by omega
        clear hr0
        go_wp2_with fail
        refine (HS.out _ HF.out).mono ?_
        rintro e w3 ⟨rfl, rfl⟩
        go_wp2
        go_ret
        exact ⟨by rw [HHf.out]; rfl, HG.out⟩
      · have hri : ((r : Int) == 0) = false := by rw [beq_eq_false_iff_ne]; omega
        have hri2 : ¬ (r : Int) = 0 := by omega
        have HHs2 : Hid (hasK ws a b (k + 1) = true) := hide (by rw [HAk.out, HHs.out]; simp [hr0])
        clear hr0
        go_wp2_with fail
        refine (HS.out _ HF.out).mono ?_
        rintro e w3 ⟨rfl, rfl⟩
        go_wp2
        exact ⟨⟨k + 1, n2, by go_num, by omega, rfl, hn2b, hide ⟨HNk.out, HHs2.out⟩, HF.out, HG.out⟩, by simp [intOf]; omega⟩
    · have hki : ¬ (k : Int) < h := by omega
      have hkh : k = h := by omega
      have HN2 := hide HN.out
      rw [hkh] at HN2
      clear hkh HN
      go_wp2
      go_ret
      exact ⟨by rw [HN2.out.2]; rfl, HG.out⟩
end Go.Proofs.Ytbemmhngadpjcaa
