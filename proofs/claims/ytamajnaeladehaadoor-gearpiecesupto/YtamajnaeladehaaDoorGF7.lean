/- Parts of a slice of bytes; the document's first piece. -/
import Derived.Test.YtamajnaeladehaaDoorGF6
namespace Go.Proofs.YtamajnaeladehaaDoor
set_option linter.unusedVariables false
set_option linter.unusedSimpArgs false
open Go.RowKit

theorem elemU8 : Tryd.prog.underlying 24 = some (.slice (Tryd.prog.elem 24)) := by kernel_rfl
theorem sizeU8 (W : World) : (sizeOf (Tryd.prog.elem 24)).run Tryd.prog W = .ok 1 W := by kernel_rfl
theorem RdA.sliced {w : World} {ao : Option Addr} {n c : Nat} {xs : List UInt8} (h : RdA w (.slice ao n c) xs) (i j : Nat) (h1 : i ≤ j) (h2 : j ≤ n) : RdA w (sliced ao i j c 1) ((xs.drop i).take (j - i)) := by
  rcases h with ⟨ao', c', e, hc, hm, hcel⟩ | ⟨a, e, rfl⟩
  · cases e
    have hlen : ((xs.drop i).take (j - i)).length = j - i := by rw [List.length_take, List.length_drop]; omega
    unfold Go.sliced
    rcases hcel with ⟨rfl, rfl⟩ | ⟨b, o, rfl, hcell⟩
    · obtain rfl : i = 0 := by omega
      obtain rfl : j = 0 := by omega
      exact .inl (Rd_none w)
    · by_cases hci : c = i
      · subst hci
        have : j - c = 0 := by omega
        rw [if_pos rfl, this, List.take_zero, Nat.sub_self]
        exact .inr ⟨_, rfl, rfl⟩
      · rw [if_neg hci, Nat.mul_one]
        simp only [Option.map_some]
        rw [Addr.add_mid]
        refine .inl ⟨some ⟨b, o + i, none⟩, c - i, by rw [hlen], by rw [hlen]; omega, by omega, .inr ⟨b, o + i, rfl, fun k hk => ?_⟩⟩
        rw [hlen] at hk
        rw [Nat.add_assoc, hcell (i + k) (by omega)]
        simp
  · cases e
    obtain rfl : i = 0 := by omega
    obtain rfl : j = 0 := by omega
    exact .inr ⟨a, rfl, rfl⟩
theorem slice_lo (ao : Option Addr) (n c i : Nat) (h : i ≤ n) (q : Int) (hq : q = i) (W : World) : (Instr.sliceAt 24 (.slice ao n c) (some (.int .i64 q)) none none).run Tryd.prog W = .ok (sliced ao i n c 1) W := by
  subst hq
  rw [run_sliceAt_slice _ _ _ _ _ _ elemU8, run_slice_l W 24 ao n c elemU8 .i64 i (by omega) (by omega), sizeU8]
  simp [Result.andThen]
theorem slice_hi (ao : Option Addr) (n c j : Nat) (h : j ≤ c) (q : Int) (hq : q = j) (W : World) : (Instr.sliceAt 24 (.slice ao n c) none (some (.int .i64 q)) none).run Tryd.prog W = .ok (sliced ao 0 j c 1) W := by
  subst hq
  rw [run_sliceAt_slice _ _ _ _ _ _ elemU8, run_slice_h W 24 ao n c elemU8 .i64 j (by omega) (by omega), sizeU8]
  simp [Result.andThen]
theorem slice_lh (ao : Option Addr) (n c i j : Nat) (h1 : i ≤ j) (h : j ≤ c) (p q : Int) (hp : p = i) (hq : q = j) (W : World) : (Instr.sliceAt 24 (.slice ao n c) (some (.int .i64 p)) (some (.int .i64 q)) none).run Tryd.prog W = .ok (sliced ao i j c 1) W := by
  subst hp hq
  rw [run_sliceAt_slice _ _ _ _ _ _ elemU8, run_slice_lh W 24 ao n c elemU8 .i64 .i64 i j (by omega) (by omega) (by omega), sizeU8]
  simp [Result.andThen]
theorem RdA.cap {w : World} {ao : Option Addr} {n c : Nat} {xs : List UInt8} (h : RdA w (.slice ao n c) xs) : n = xs.length ∧ n ≤ c ∧ c ≤ maxLen := by
  rcases h with ⟨ao', c', e, hc, hm, _⟩ | ⟨a, e, rfl⟩
  · cases e; exact ⟨rfl, hc, hm⟩
  · cases e; exact ⟨rfl, Nat.le_refl _, Nat.zero_le _⟩
theorem run_sliceHi {op : Oper} {ev : Operand → Value} {t : TypeId} {x y : Operand} {p u v : Value} {w : World} (ho : op.op = .slice t x none (some y) none) (hx : ev x = p) (hy : ev y = u) (hl : (Instr.sliceAt t p none (some u) none).run Tryd.prog w = .ok v w) : (execOp ev op).run Tryd.prog w = .ok (.value v) w := by
  simp only [execOp, ho, hx, Option.map_none, Option.map_some, hy, Sem.run_bind, hl, Result.andThen_ok, Sem.run_pure]
theorem run_sliceLo {op : Oper} {ev : Operand → Value} {t : TypeId} {x y : Operand} {p u v : Value} {w : World} (ho : op.op = .slice t x (some y) none none) (hx : ev x = p) (hy : ev y = u) (hl : (Instr.sliceAt t p (some u) none none).run Tryd.prog w = .ok v w) : (execOp ev op).run Tryd.prog w = .ok (.value v) w := by
  simp only [execOp, ho, hx, Option.map_none, Option.map_some, hy, Sem.run_bind, hl, Result.andThen_ok, Sem.run_pure]
theorem infoCut : (Tryd.prog.info? 23).map (·.size) = some 3 := by kernel_rfl
def CutAt (w : World) (z : Nat) (mn me mx : Int) : Prop := Blk w z #[.int .i64 mn, .int .i64 me, .int .i64 mx] 23
theorem loadAt_cut {w : World} {z : Nat} {mn me mx : Int} (h : CutAt w z mn me mx) : (Instr.loadAt 23 (.pointer (some ⟨z, 0, none⟩))).run Tryd.prog w = .ok (cutV mn me mx) w :=
  loadAt_blk h 23 _ Tryd.underlying23 rfl 3 infoCut rfl
theorem CutAt.below {w w' : World} {z : Nat} {mn me mx : Int} (h : CutAt w z mn me mx) (hb : Below w.heap.size w w') : CutAt w' z mn me mx := Blk.below h hb h.lt
set_option maxRecDepth 20000 in
set_option maxHeartbeats 1000000 in
theorem rfirst_any (w : World) (mn me mx : Int) (v : Value) (xs : List UInt8) (hv : RdA w v xs) (hx2 : xs.length ≤ 4611686018427387904) : Calls Tryd.prog 8 #[cutV mn me mx, v] w fun e w' => e = .returned (pairV (firstP mn me mx xs)) ∧ Below w.heap.size w w' := by
  have HCh := hide (fun w => rcheck_any mn me mx w)
  have HB0 := hide ((Below.refl w.heap.size w).alloc (Nat.le_refl _) (.cells #[.int .i64 mn, .int .i64 me, .int .i64 mx] 23))
  have HL0 : Hid (CutAt (w.alloc (.cells #[.int .i64 mn, .int .i64 me, .int .i64 mx] 23)) w.heap.size mn me mx) := hide (Blk.made w #[.int .i64 mn, .int .i64 me, .int .i64 mx] 23)
  have HR := hide hv
  unfold cutV
  cases hm : mayB mn me mx with
  | false =>
    have hc : chk mn me mx = 50 := by simp [chk, hm]
    have HF : Hid (firstP mn me mx xs = (0, false)) := hide (by simp [firstP, hm])
    rw [hc] at HCh
    clear hc hm hv
    go_enter Tryd.func8, Tryd.ntmps8
    go_wp2_with fail
    refine (HCh.out _).mono ?_
    rintro e w1 ⟨rfl, hb1⟩
    have HB1 := hide (HB0.out.trans (hb1.mono HB0.out.size))
    clear hb1
    go_wp2
    go_ret2
    exact ⟨by rw [HF.out]; rfl, HB1.out⟩
  | true =>
    have hc : chk mn me mx = 0 := by simp [chk, hm]
    have HF : Hid (firstP mn me mx xs = firstG mn me mx 0 0 xs) := hide (by simp [firstP, hm])
    rw [hc] at HCh
    have HM := hide hm
    obtain ⟨ao, c, rfl, hxl⟩ := hv.slice
    obtain ⟨-, hnc, hcm⟩ := hv.cap
    clear hc hm hv hcm
    go_enter Tryd.func8, Tryd.ntmps8
    go_wp2_with fail
    refine (HCh.out _).mono ?_
    rintro e w1 ⟨rfl, hb1⟩
    have HB1 := hide (HB0.out.trans (hb1.mono HB0.out.size))
    have HL1 := hide (HL0.out.below hb1)
    clear hb1 HB0 HL0
    go_wp2
    go_loopw [6] (fun i wr => ∃ k : Nat, i = .int .i64 ((k : Int) + 1) ∧ k ≤ xs.length ∧ CutAt wr w.heap.size mn me mx ∧ firstG mn me mx 0 0 xs = firstG mn me mx (rollL (xs.take k)) k (xs.drop k) ∧ Below w.heap.size w wr) (fun i _ => xs.length + 1 - (intOf i).toNat)
    case atStart => exact ⟨0, rfl, by omega, HL1.out, by rw [List.take_zero, List.drop_zero, rollL, List.foldl_nil], HB1.out⟩
    case round =>
      clear HL1 HB1
      obtain ⟨k, rfl, hk, hL, hg, hB⟩ := hrel
      have HL := hide hL
      have HB := hide hB
      have HG := hide hg
      clear hL hB hg
      by_cases hlt : k < xs.length
      · have hki : (k : Int) + 1 ≤ xs.length := by omega
        obtain ⟨x, hx⟩ : ∃ x, x = xs[k] := ⟨_, rfl⟩
        have HS := hide (rollL_take xs k hlt)
        have HD : Hid (xs.drop k = x :: xs.drop (k + 1)) := hide (by rw [hx]; exact List.drop_eq_getElem_cons hlt)
        rw [← hx] at HS
        have hww := below_regrown wr
        have HLd := hide (fun d os => loadAt_cut (HL.out.below (hww d os)))
        have HRr := hide (HR.out.below HB.out)
        have HEn := hide (fun d os => ended_any (Sort.grow (redrawn wr d) os) mn me mx HM.out (sliced ao 0 (k + 1) c 1) _ ((HRr.out.below (hww d os)).sliced 0 (k + 1) (by omega) (by omega)))
        have hlen : ((xs.drop 0).take (k + 1 - 0)).length = k + 1 := by simp; omega
        have htk : (xs.drop 0).take (k + 1 - 0) = xs.take (k + 1) := by simp
        unfold EndC at HEn
        rw [hlen, htk] at HEn
        have HSl := hide (fun W => slice_hi ao xs.length c (k + 1) (by omega) ((k : Int) + 1) (by omega) W)
        obtain ⟨t, ht⟩ : ∃ t, t = endB mn me mx (rollL (xs.take (k + 1))) (k + 1) := ⟨_, rfl⟩
        rw [← ht] at HEn
        have HTt := hide ht
        clear hx ht hlen htk hww
        obtain ⟨sv, hsv⟩ : ∃ sv, sv = sliced ao 0 (k + 1) c 1 := ⟨_, rfl⟩
        rw [← hsv] at HEn HSl
        clear hsv
        go_wp2
        refine wp_region_quiet_below (by kernel_rfl) (by kernel_rfl) ?_
        refine wpQuiet_val (cutV mn me mx) rfl (fun w hw => ?_) ?_
        · obtain ⟨p, rfl⟩ := hw
          exact run_load rfl rfl (HLd.out _ _)
        quiet_step (fail)
        quiet_step (fail)
        refine wpQuiet_val sv rfl (fun w hw => ?_) ?_
        · exact run_sliceHi rfl rfl rfl (HSl.out w)
        quiet_step (exact Calls.regrown_of (HEn.out _ _))
        refine wpQuiet_nil ?_
        intro _ hw'
        obtain ⟨⟨dq, osq⟩, hw''⟩ := hw'
        have hbq := below_regrown wr dq osq
        rw [← hw''] at hbq
        clear hw''
        have HBQ := hide hbq
        clear hbq
        have HL2 := hide (HL.out.below HBQ.out)
        have HB2 := hide (HB.out.trans (HBQ.out.mono HB.out.size))
        cases t with
        | true =>
          have HF3 : Hid (firstP mn me mx xs = (k + 1, true)) := hide (by rw [HF.out, HG.out, HD.out]; simp only [firstG]; rw [← HS.out, ← HTt.out, if_pos rfl])
          go_wp2
          go_ret2
          exact ⟨by rw [HF3.out]; simp [pairV], HB2.out⟩
        | false =>
          go_wp2
          refine ⟨⟨k + 1, by go_num, by omega, HL2.out, ?_, HB2.out⟩, by simp [intOf]; omega⟩
          rw [HG.out, HD.out]
          simp only [firstG]
          rw [← HS.out, ← HTt.out, if_neg (by simp)]
      · have hki : ¬ (k : Int) + 1 ≤ xs.length := by omega
        obtain rfl : k = xs.length := by omega
        have HF3 : Hid (firstP mn me mx xs = (xs.length, false)) := hide (by rw [HF.out, HG.out, List.drop_of_length_le (Nat.le_refl _)]; rfl)
        go_wp2
        go_ret2
        exact ⟨by rw [HF3.out]; rfl, HB.out⟩
end Go.Proofs.YtamajnaeladehaaDoor
