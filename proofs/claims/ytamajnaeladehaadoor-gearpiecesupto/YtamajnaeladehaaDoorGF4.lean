/- Where the first piece ends: the program's way. -/
import Derived.Test.YtamajnaeladehaaDoorGF3
namespace Go.Proofs.YtamajnaeladehaaDoor
set_option linter.unusedVariables false
set_option linter.unusedSimpArgs false
open Go.RowKit

/-- The piece that begins here: how long it is, and whether its end is found. -/
def firstG (mn me mx : Int) : Nat → Nat → List UInt8 → Nat × Bool
  | _, n, [] => (n, false)
  | h, n, b :: r => if endB mn me mx (roll h b) (n + 1) then (n + 1, true) else firstG mn me mx (roll h b) (n + 1) r
def firstP (mn me mx : Int) (xs : List UInt8) : Nat × Bool := if mayB mn me mx then firstG mn me mx 0 0 xs else (0, false)
/-- The number behind some bytes. -/
def rollL (xs : List UInt8) : Nat := xs.foldl roll 0
theorem rollL_snoc (xs : List UInt8) (b : UInt8) : rollL (xs ++ [b]) = roll (rollL xs) b := by
  rw [rollL, rollL, List.foldl_append, List.foldl_cons, List.foldl_nil]
theorem rollL_lt (xs : List UInt8) : rollL xs < 18446744073709551616 := by
  rcases List.eq_nil_or_concat xs with rfl | ⟨ys, y, rfl⟩
  · rw [show rollL [] = 0 from rfl]; omega
  · rw [List.concat_eq_append, rollL_snoc]; exact roll_lt _ _
theorem rollL_take (xs : List UInt8) (k : Nat) (h : k < xs.length) : rollL (xs.take (k + 1)) = roll (rollL (xs.take k)) xs[k] := by
  rw [List.take_succ_eq_append_getElem h, rollL_snoc]
theorem may_mx {mn me mx : Int} (h : mayB mn me mx = true) : 1 ≤ mn ∧ mn ≤ me ∧ me ≤ mx ∧ mx ≤ 8000 ∧ pw me ≠ 0 := by
  simp only [mayB, Bool.and_eq_true, decide_eq_true_eq] at h
  omega
theorem endB_false {mn me mx : Int} {h n : Nat} (e : endB mn me mx h n = false) : (n : Int) < mx := by
  unfold endB at e
  by_cases h1 : mx ≤ (n : Int)
  · rw [if_pos h1] at e; cases e
  · omega
def pairV (p : Nat × Bool) : Value := .tuple #[.int .i64 (p.1 : Int), .bool p.2]
set_option maxRecDepth 20000 in
set_option maxHeartbeats 1000000 in
theorem first_any (w : World) (hT : Tabs w) (mn me mx : Int) (v : Value) (xs : List UInt8) (hv : RdA w v xs) : Calls Tryd.prog 11 #[cutV mn me mx, v] w fun e w' => e = .returned (pairV (firstP mn me mx xs)) ∧ Below w.heap.size w w' := by
  have HCh := hide (fun w => check_any mn me mx w)
  have HB0 := hide ((Below.refl w.heap.size w).alloc (Nat.le_refl _) (.cells #[.int .i64 mn, .int .i64 me, .int .i64 mx] 23))
  have HL0 := hide (Blk.made w #[.int .i64 mn, .int .i64 me, .int .i64 mx] 23)
  have HR := hide hv
  have HT := hide hT
  unfold cutV
  cases hm : mayB mn me mx with
  | false =>
    have hc : chk mn me mx = 50 := by simp [chk, hm]
    have HF : Hid (firstP mn me mx xs = (0, false)) := hide (by simp [firstP, hm])
    rw [hc] at HCh
    clear hc hm hv hT
    go_enter Tryd.func11, Tryd.ntmps11
    go_wp2_with fail
    refine (HCh.out _).mono ?_
    rintro e w1 ⟨rfl, hb1⟩
    have HB1 := hide (HB0.out.trans (hb1.mono HB0.out.size))
    clear hb1
    go_wp2
    go_ret2
    exact ⟨by rw [HF.out]; rfl, HB1.out⟩
  | true =>
    have hc : chk mn me mx = 0 := by simp [chk, hm]
    have HF : Hid (firstP mn me mx xs = firstG mn me mx 0 0 xs) := hide (by simp [firstP, hm])
    rw [hc] at HCh
    have HM := hide hm
    obtain ⟨ao, c, rfl, hxl⟩ := hv.slice
    clear hc hm hv hT
    go_enter Tryd.func11, Tryd.ntmps11
    go_wp2_with fail
    refine (HCh.out _).mono ?_
    rintro e w1 ⟨rfl, hb1⟩
    have HB1 := hide (HB0.out.trans (hb1.mono HB0.out.size))
    have HL1 := hide (HL0.out.below hb1 HL0.out.lt)
    clear hb1 HB0 HL0
    have c0 : w1.cell? ⟨w.heap.size, 0, none⟩ = some (.int .i64 mn) := HL1.out.cell 0
    have c1 : w1.cell? ⟨w.heap.size, 1, none⟩ = some (.int .i64 me) := HL1.out.cell 1
    have c2 : w1.cell? ⟨w.heap.size, 2, none⟩ = some (.int .i64 mx) := HL1.out.cell 2
    have HE := hide (ender_any mn me mx w1 (HT.out.below HB1.out HT.out.size) HM.out)
    unfold cutV at HE
    go_wp2_with fail
    refine HE.out.mono ?_
    rintro e w2 ⟨bh, bn, br, b4, b5, rfl, hE, hb2⟩
    have HB2 := hide (HB1.out.trans (hb2.mono HB1.out.size))
    have HE2 := hide hE
    have HZ : Hid (w.heap.size ≤ w1.heap.size) := hide HB1.out.size
    clear hb2 hE c0 c1 c2 HE HL1 HB1 HCh
    unfold endV
    go_wp2
    go_loopw [16] (fun i wr => ∃ k : Nat, i = .int .i64 k ∧ k ≤ xs.length ∧ (k : Int) < mx ∧ EndSt wr w1.heap.size bh bn br b4 b5 mn me mx (rollL (xs.take k)) k ∧ firstG mn me mx 0 0 xs = firstG mn me mx (rollL (xs.take k)) k (xs.drop k) ∧ Below w.heap.size w wr) (fun i _ => xs.length - (intOf i).toNat)
    case atStart =>
      have := may_mx HM.out
      exact ⟨0, rfl, by omega, by omega, by simpa [rollL] using HE2.out, by simp [rollL], HB2.out⟩
    case round =>
      clear HE2 HB2
      obtain ⟨k, rfl, hk, hkx, hE, hg, hB⟩ := hrel
      have HE := hide hE
      have HB := hide hB
      have HG := hide hg
      clear hE hB hg
      by_cases hlt : k < xs.length
      · have hki : (k : Int) < xs.length := by omega
        obtain ⟨bz, bo, cc, he, hcell⟩ := (HR.out.below HB.out).at k hlt
        cases he
        obtain ⟨x, hx⟩ : ∃ x, x = xs[k] := ⟨_, rfl⟩
        have HS := hide (rollL_take xs k hlt)
        have HD : Hid (xs.drop k = x :: xs.drop (k + 1)) := hide (by rw [hx]; exact List.drop_eq_getElem_cons hlt)
        rw [← hx] at hcell HS
        have HX := hide (ends_any wr w1.heap.size bh bn br b4 b5 mn me mx _ k HE.out (rollL_lt _) hkx (may_mx HM.out).2.2.2.1 x)
        rw [← HS.out] at HX
        unfold ptr at HX
        obtain ⟨t, ht⟩ : ∃ t, t = endB mn me mx (rollL (xs.take (k + 1))) (k + 1) := ⟨_, rfl⟩
        rw [← ht] at HX
        have HTt := hide ht
        have HTw := hide (fun w' (t : Turn2 wr w' bh bn) => HB.out.trans (t.below (B := w.heap.size) (Nat.le_trans HZ.out HE.out.low.1) (Nat.le_trans HZ.out HE.out.low.2.1)))
        clear hx ht
        cases t with
        | true =>
          go_wp2_with fail
          refine HX.out.mono ?_
          rintro e w3 ⟨rfl, hE3, ht3⟩
          have HB3 := hide (HTw.out _ ht3)
          have HF3 : Hid (firstP mn me mx xs = (k + 1, true)) := hide (by rw [HF.out, HG.out, HD.out]; simp only [firstG]; rw [← HS.out, ← HTt.out, if_pos rfl])
          clear hE3 ht3
          go_wp2
          go_ret2
          exact ⟨by rw [HF3.out]; simp [pairV], HB3.out⟩
        | false =>
          go_wp2_with fail
          refine HX.out.mono ?_
          rintro e w3 ⟨rfl, hE3, ht3⟩
          have HB3 := hide (HTw.out _ ht3)
          have HE3 := hide hE3
          clear hE3 ht3
          go_wp2
          refine ⟨⟨k + 1, by go_num, by omega, endB_false HTt.out.symm, HE3.out, ?_, HB3.out⟩, by simp [intOf]; omega⟩
          rw [HG.out, HD.out]
          simp only [firstG]
          rw [← HS.out, ← HTt.out, if_neg (by simp)]
      · have hki : ¬ (k : Int) < xs.length := by omega
        obtain rfl : k = xs.length := by omega
        have HF3 : Hid (firstP mn me mx xs = (xs.length, false)) := hide (by rw [HF.out, HG.out, List.drop_of_length_le (Nat.le_refl _)]; rfl)
        go_wp2
        go_ret2
        exact ⟨by rw [HF3.out]; rfl, HB.out⟩
end Go.Proofs.YtamajnaeladehaaDoor
