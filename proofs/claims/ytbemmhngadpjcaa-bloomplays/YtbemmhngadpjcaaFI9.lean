/- Add to a filter. -/
import Derived.Test.YtbemmhngadpjcaaFI3
namespace Go.Proofs.Ytbemmhngadpjcaa
set_option linter.unusedVariables false
set_option linter.unusedSimpArgs false
open Go.RowKit

/-- A bit set; is it? -/
def stB (ws : List Nat) (p : Nat) : List Nat := ws.set (p / 64) ((ws[p / 64]?.getD 0) ||| 2 ^ (p % 64))
def hsB (ws : List Nat) (p : Nat) : Bool := !(((ws[p / 64]?.getD 0) &&& 2 ^ (p % 64)) == 0)
/-- The k-th number of a key, and its place. -/
def numK (a b k : Nat) : Nat := (a + k * b) % 18446744073709551616
def plK (a b L k : Nat) : Nat := plc (numK a b k) L
/-- The first k places set, and whether one was not. -/
def addK (ws : List Nat) (a b : Nat) : Nat → List Nat × Bool
  | 0 => (ws, false)
  | k + 1 => (stB (addK ws a b k).1 (plK a b ws.length k), (addK ws a b k).2 || !hsB (addK ws a b k).1 (plK a b ws.length k))
theorem stB_len (ws : List Nat) (p : Nat) : (stB ws p).length = ws.length := by simp [stB]
theorem addK_len (ws : List Nat) (a b : Nat) : ∀ k, (addK ws a b k).1.length = ws.length
  | 0 => rfl
  | k + 1 => by rw [addK, stB_len, addK_len ws a b k]
theorem numK_succ (a b k : Nat) : (numK a b k + b) % 18446744073709551616 = numK a b (k + 1) := by
  unfold numK
  rw [Nat.succ_mul, ← Nat.add_assoc]
  omega
def AddC (w : World) (z g h : Nat) (ws : List Nat) (kb : List UInt8) (e : Ending) (w' : World) : Prop := e = .returned (.bool (addK ws (keyA kb) (keyB kb) h).2) ∧ FilAt w' z g h (addK ws (keyA kb) (keyB kb) h).1 ∧ w.grownBy w' (some g)
theorem FilAt.setG {w : World} {z g h : Nat} {ws : List Nat} (f : FilAt w z g h ws) (k x : Nat) (hx : x < 18446744073709551616) : FilAt (w.setCell ⟨g, k, none⟩ (.int .u64 (x : Int))) z g h (ws.set k x) := by
  refine ⟨?_, ?_, f.hh, by rw [List.length_set]; exact f.hn, fun y hy => ?_⟩
  · rw [List.length_set]
    exact f.zb.setOther _ _ f.ne
  · have := f.gb.set k (.int .u64 (x : Int))
    rw [List.map_set]
    simpa [u64c] using this
  · rcases List.mem_or_eq_of_mem_set hy with h | h
    · exact f.ok y h
    · rw [h]; exact hx
set_option maxRecDepth 20000 in
set_option maxHeartbeats 8000000 in
theorem add_any (w : World) (z g h : Nat) (ws : List Nat) (f : FilAt w z g h ws) (kb : List UInt8) (hkb : kb.length = 32) : Calls Try.prog 23 #[.pointer (some ⟨z, 0, none⟩), .agg (kb.map u8c).toArray] w (AddC w z g h ws kb) := by
  obtain ⟨K, hK⟩ : ∃ K, K = (kb.map u8c).toArray := ⟨_, rfl⟩
  have hKs : K.size = 32 := by rw [hK]; simp [hkb]
  have HKs := hide hKs
  obtain ⟨W1, hW1⟩ : ∃ W1, W1 = w.alloc (.cells K 36) := ⟨_, rfl⟩
  have hb1 : Below w.heap.size w W1 := by rw [hW1]; exact (Below.refl _ _).alloc (Nat.le_refl _) _
  have HF1 := hide (f.below hb1)
  have CN := hide (none_some W1 z g h ws HF1.out)
  have HNm := hide (fun W => numbers_any W kb hkb)
  rw [← hK] at HNm
  have HK1 : Hid (Blk W1 w.heap.size K 36) := hide (by rw [hW1]; exact Blk.made w K _)
  have HB1 := hide hb1
  have HGL := hide f.gb.lt
  obtain ⟨hh1, hh2⟩ := f.hh
  obtain ⟨hn1, hn2⟩ := f.hn
  obtain ⟨L, hL⟩ : ∃ L, L = ws.length := ⟨_, rfl⟩
  rw [← hL] at hn1 hn2
  have HLe := hide hL
  rw [← hK]
  have hA := keyA_lt kb
  have hBk := keyB_lt kb
  unfold AddC
  obtain ⟨a, ha⟩ : ∃ a, a = keyA kb := ⟨_, rfl⟩
  obtain ⟨b, hb⟩ : ∃ b, b = keyB kb := ⟨_, rfl⟩
  unfold NumsC at HNm
  rw [← ha, ← hb] at HNm
  rw [← ha] at hA ⊢
  rw [← hb] at hBk ⊢
  clear f hb1 hK hKs hL ha hb
  go_enter Try.func23, Try.ntmps23
  have hks := HKs.out
  go_wp2_with fail
  rw [← hW1]
  refine CN.out.mono ?_
  rintro e w0 ⟨rfl, hw0⟩
  subst hw0
  clear hW1 CN
  go_wp2_with (first | fail | ((with_reducible refine wpList_load_blk ?_ 36 _ Try.underlying36 ?_ 32 infoKey (.tmp 3) ?_ w.heap.size ?_ K _ HK1.out HKs.out ?_); rfl; rfl; rfl; rfl))
  refine (HNm.out _).mono ?_
  rintro e w2 ⟨rfl, hb2⟩
  have HB2 := hide (HB1.out.trans (hb2.mono HB1.out.size))
  have HF2 := hide (HF1.out.below hb2)
  have c0 : w2.cell? ⟨z, 0, none⟩ = some (.int .i64 h) := HF2.out.zb.cell 0
  clear hb2 HNm HB1 HF1 HK1 HKs hks
  go_wp2
  go_loopw [5, 6, 21] (fun s5 s6 s21 wr => ∃ (k n : Nat) (fr : Bool), s21 = .int .i64 k ∧ k ≤ h ∧ s6 = .int .u64 n ∧ s5 = .bool fr ∧ n < 18446744073709551616 ∧ Hid (n = numK a b k ∧ fr = (addK ws a b k).2) ∧ FilAt wr z g h (addK ws a b k).1 ∧ w.grownBy wr (some g)) (fun _ _ s21 _ => h - (intOf s21).toNat)
  case atStart => exact ⟨0, a, false, rfl, by omega, rfl, rfl, hA, hide ⟨by unfold numK; rw [Nat.zero_mul, Nat.add_zero, Nat.mod_eq_of_lt hA], rfl⟩, HF2.out, grownBy_below HB2.out⟩
  case round =>
    obtain ⟨k, n, fr, rfl, hk, rfl, rfl, hnb, HN, hF, hG⟩ := hrel
    have HF := hide hF
    have HG := hide hG
    clear hF hG
    by_cases hlt : k < h
    · have hki : (k : Int) < h := by omega
      have HS := hide (fun W hW => spot_any W z g h (addK ws a b k).1 hW n hnb)
      have hpl : plc n (addK ws a b k).1.length = plK a b ws.length k := by
        unfold plK
        rw [HN.out.1, addK_len]
      rw [hpl] at HS
      obtain ⟨p, hp⟩ : ∃ p, p = plK a b ws.length k := ⟨_, rfl⟩
      rw [← hp] at HS
      have hpb : p < 64 * L := by
        rw [hp, HLe.out]
        exact Nat.mod_lt _ (by have := HLe.out; omega)
      have HAk : Hid (addK ws a b (k + 1) = (stB (addK ws a b k).1 p, fr || !hsB (addK ws a b k).1 p)) := hide (by rw [addK, ← hp, ← HN.out.2])
      have HNk : Hid ((n + b) % 18446744073709551616 = numK a b (k + 1)) := hide (by rw [HN.out.1]; exact numK_succ a b k)
      have HUl : Hid ((addK ws a b k).1.length = L) := hide (by rw [addK_len]; exact HLe.out.symm)
      clear hpl hp
      obtain ⟨u, hu⟩ : ∃ u, u = (addK ws a b k).1 := ⟨_, rfl⟩
      rw [← hu] at HS HF HAk HUl
      clear hu
      obtain ⟨d, hd⟩ : ∃ d, d = p / 64 := ⟨_, rfl⟩
      obtain ⟨y, hy⟩ : ∃ y, y = 2 ^ (p % 64) := ⟨_, rfl⟩
      have hyb : y < 18446744073709551616 := by rw [hy]; exact pow_u64 _ (by omega)
      rw [← hd, ← hy] at HS
      have hdL : d < L := by omega
      have hdi : (d : Int) < L := by omega
      have hdu : d < u.length := by have := HUl.out; omega
      obtain ⟨x, hx⟩ : ∃ x, x = u[d] := ⟨_, rfl⟩
      have hxb : x < 18446744073709551616 := by rw [hx]; exact HF.out.ok _ (List.getElem_mem hdu)
      have HSt : Hid (stB u p = u.set d (x ||| y)) := hide (by unfold stB; rw [← hd, ← hy, List.getElem?_eq_getElem hdu, ← hx]; rfl)
      have HHs : Hid (hsB u p = !((x &&& y) == 0)) := hide (by unfold hsB; rw [← hd, ← hy, List.getElem?_eq_getElem hdu, ← hx]; rfl)
      have cz : wr.cell? ⟨z, 1, none⟩ = some (.slice (some ⟨g, 0, none⟩) L L) := by rw [← HUl.out]; exact HF.out.zb.cell 1
      have cx : wr.cell? ⟨g, d, none⟩ = some (.int .u64 x) := by rw [hx]; exact HF.out.cellW d hdu
      have fx : wr.frozen? ⟨g, d, none⟩ = false := HF.out.gb.frozen d
      have hand : bits .and .u64 (x : Int) (y : Int) = ((x &&& y : Nat) : Int) := u64_and_nat x y hxb hyb
      have hor : bits .or .u64 (x : Int) (y : Int) = ((x ||| y : Nat) : Int) := u64_or_nat x y hxb hyb
      have horb : x ||| y < 18446744073709551616 := Nat.or_lt_two_pow (n := 64) hxb hyb
      obtain ⟨r, hr⟩ : ∃ r, r = x &&& y := ⟨_, rfl⟩
      obtain ⟨o, ho⟩ : ∃ o, o = x ||| y := ⟨_, rfl⟩
      rw [← hr] at hand HHs
      rw [← ho] at hor horb HSt
      have hw : IntKind.u64.wrap ((n : Int) + (b : Int)) = (((n + b) % 18446744073709551616 : Nat) : Int) := by
        simp [IntKind.wrap, IntKind.bits, IntKind.signed]
      obtain ⟨n2, hn2'⟩ : ∃ n2, n2 = (n + b) % 18446744073709551616 := ⟨_, rfl⟩
      rw [← hn2'] at hw HNk
      have hn2b : n2 < 18446744073709551616 := by omega
      have HF7 := hide (HF.out.setG d o horb)
      rw [← HSt.out] at HF7
      have HG7 := hide (grownBy_trans HG.out (grownBy_set wr g d (.int .u64 (o : Int))))
      have hzg : ¬ z = g := HF.out.ne
      have HFz := hide HF.out
      clear hd hy hx hr ho hn2'
      cases fr with
      | true =>
        go_wp2_with fail
        refine (HS.out _ HFz.out).mono ?_
        rintro e w3 ⟨rfl, rfl⟩
        go_wp2
        exact ⟨⟨k + 1, n2, true, by go_num, by omega, rfl, rfl, hn2b, hide ⟨HNk.out, by rw [HAk.out]; rfl⟩, by rw [HAk.out]; exact HF7.out, HG7.out⟩, by simp [intOf]; omega⟩
      | false =>
        by_cases hr0 : r = 0
        · have hri : ((r : Int) == 0) = true := by rw [beq_iff_eq]; omega
          have HHs2 : Hid (hsB u p = false) := hide (by rw [HHs.out, hr0]; rfl)
          clear hr0
          go_wp2_with fail
          refine (HS.out _ HFz.out).mono ?_
          rintro e w3 ⟨rfl, rfl⟩
          go_wp2
          exact ⟨⟨k + 1, n2, true, by go_num, by omega, rfl, rfl, hn2b, hide ⟨HNk.out, by rw [HAk.out, HHs2.out]; rfl⟩, by rw [HAk.out]; exact HF7.out, HG7.out⟩, by simp [intOf]; omega⟩
        · have hri : ((r : Int) == 0) = false := by rw [beq_eq_false_iff_ne]; omega
          have hri2 : ¬ (r : Int) = 0 := by omega
          have HHs2 : Hid (hsB u p = true) := hide (by rw [HHs.out]; simp [hr0])
          clear hr0
          go_wp2_with fail
          refine (HS.out _ HFz.out).mono ?_
          rintro e w3 ⟨rfl, rfl⟩
          go_wp2
          exact ⟨⟨k + 1, n2, false, by go_num, by omega, rfl, rfl, hn2b, hide ⟨HNk.out, by rw [HAk.out, HHs2.out]; rfl⟩, by rw [HAk.out]; exact HF7.out, HG7.out⟩, by simp [intOf]; omega⟩
    · have hki : ¬ (k : Int) < h := by omega
      have hkh : k = h := by omega
      have HN2 := hide HN.out
      rw [hkh] at HN2 HF
      clear hkh HN
      go_wp2
      go_ret
      exact ⟨by rw [← HN2.out.2]; rfl, HF.out, HG.out⟩
end Go.Proofs.Ytbemmhngadpjcaa
