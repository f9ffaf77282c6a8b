/- WireNil: the walk, the nil part. -/
import Derived.Test.YtinjcefekbpababN2
import Derived.Test.YtinjcefekbpababN3
import Derived.Test.YtinjcefekbpababB1
namespace Go.Proofs.Ytinjcefekbpabab
set_option linter.unusedVariables false
set_option linter.unusedSimpArgs false
open Go.RowKit

/-- A slice of adds, as its cells lie. -/
def AddsAt (w : World) (aa : Option Addr) (n : Nat) : Prop :=
  n ≤ maxLen ∧ (n = 0 ∨ ∃ ab ao, aa = some ⟨ab, ao, none⟩ ∧ ab < w.heap.size ∧ ∀ i, i < n → ∃ cs kind N s sa len cap, AddCells cs kind N s sa len cap ∧ w.rangeAt ab (ao + i * 36) cs.toList)
theorem infoAdd : (Try.prog.info? 54).map (·.size) = some 36 := by kernel_rfl
theorem wpList_load_add {ops : Array Oper} {rest : List Oper} {op : Oper} {a : Act} {w : World} {Q : Exit → Act → World → Prop} (hgd : op.guard = none) (x : Operand) (ho : op.op = .load 54 x)
    (b o : Nat) (hx : a.eval x = .pointer (some ⟨b, o, none⟩)) (cs : Array Value) (hc : w.rangeAt b o cs.toList) (hn : cs.size = 36)
    (h : wpList Try.prog ops Q rest (a.put op.dst (.agg cs)) w) : wpList Try.prog ops Q (op :: rest) a w := by
  refine wpList_load_mid hgd 54 x ho b o hx cs.toList _ hc Try.underlying54 rfl (by rw [Array.length_toList, hn]; exact infoAdd) ?_
  simpa using h
theorem rangeAt_below {w w' : World} {b o B : Nat} {cs : List Value} (h : w.rangeAt b o cs) (hb : Below B w w') (hlt : b < B) : w'.rangeAt b o cs :=
  fun j v hj => (hb.cell (p := ⟨b, o + j, none⟩) hlt).trans (h j v hj)

def TakesAt (w : World) (ta : Option Addr) (n : Nat) : Prop :=
  n ≤ maxLen ∧ (n = 0 ∨ ∃ tb to, ta = some ⟨tb, to, none⟩ ∧ tb < w.heap.size ∧ ∀ i, i < n → ∃ (kd : Int) (mo : Nat) (nn : Int), -9223372036854775808 ≤ kd ∧ kd ≤ 9223372036854775807 ∧ mo ≤ 18446744073709551615 ∧ -9223372036854775808 ≤ nn ∧ nn ≤ 9223372036854775807 ∧
    w.cell? ⟨tb, to + i * 3, none⟩ = some (.int .i64 kd) ∧ w.cell? ⟨tb, to + i * 3 + 1, none⟩ = some (.int .u64 mo) ∧ w.cell? ⟨tb, to + i * 3 + 2, none⟩ = some (.int .i64 nn))

theorem make32 (w : World) : (Instr.makeSlice 22 (.int .i64 32) (.int .i64 32)).run Try.prog w = .ok (.slice (some ⟨w.heap.size, 0, none⟩) 32 32) (w.alloc (.cells ((List.replicate 32 (0 : UInt8)).map u8c).toArray 5)) := by kernel_rfl
theorem clo_notnil (a : Addr) (w : World) : (binOp BinOp.eql 37 (.func (.func 19) #[] #[.pointer (some a)]) .nilFunc).run Try.prog w = .ok (.bool false) w := by kernel_rfl
theorem each_int_nil (w : World) (n : Int) (a : Addr) (h1 : -9223372036854775808 ≤ n) (h2 : n ≤ 9223372036854775807) : Calls Try.prog 13 #[.pointer none, .int .i64 n, .func (.func 19) #[] #[.pointer (some a)]] w fun e w' => e = .returned (.slice none 0 0) ∧ w' = w := by
  have hnn := clo_notnil
  go_enter Try.func13, Try.ntmps13
  go_wp2_with (first | (go_at_call 25; refine (bound_any _ _ h1 h2).mono ?_; rintro e w' ⟨rfl, rfl⟩) | (go_at_call 24; refine (var_nil _ _).mono ?_; rintro e w' ⟨rfl, rfl⟩))
  go_rounds 1
  go_wp2_with (go_at_call 26; refine (over_nil _).mono ?_; rintro e w' ⟨rfl, rfl⟩)
  go_ret
  exact ⟨rfl, rfl⟩

set_option maxRecDepth 20000 in
set_option maxHeartbeats 3200000 in
theorem wireNil_any (w : World) (aa : Option Addr) (na ca : Nat) (hA : AddsAt w aa na) (ta : Option Addr) (n tc : Nat) (hT : TakesAt w ta n) :
    Calls Try.prog 4 #[.slice aa na ca, .slice ta n tc] w fun e w' => e = .returned (.bool true) ∧ Below w.heap.size w w' := by
  have HA := hide hA.2
  have HT := hide hT.2
  have hna : na ≤ 9223372036854775807 := hA.1
  have hn : n ≤ 9223372036854775807 := hT.1
  clear hA hT
  go_enter Try.func4, Try.ntmps4
  go_wp2_with fail
  go_loopw [6] (fun i wr => ∃ k : Nat, i = .int .i64 k ∧ k ≤ na ∧ Below w.heap.size w wr) (fun i _ => na - (intOf i).toNat)
  case atStart => exact ⟨0, rfl, Nat.zero_le _, Below.refl _ _⟩
  case round =>
    obtain ⟨k, rfl, hk, hbw⟩ := hrel
    have HB := hide hbw
    clear hbw
    by_cases hlt : k < na
    · obtain ⟨ab, ao, rfl, hab, hcel⟩ : ∃ ab ao, aa = some ⟨ab, ao, none⟩ ∧ ab < w.heap.size ∧ ∀ i, i < na → ∃ cs kind N s sa len cap, AddCells cs kind N s sa len cap ∧ w.rangeAt ab (ao + i * 36) cs.toList := by
        rcases HA.out with h | h
        · omega
        · exact h
      obtain ⟨cs, kind, N, s, sa, len, cap, hac, hr⟩ := hcel k hlt
      have HR := hide (rangeAt_below hr HB.out hab)
      have HAC := hide hac
      have HSZ := hide hac.size
      clear hcel hr hac
      go_wp2_with ((with_reducible refine wpList_load_add ?_ (.tmp 29) ?_ ab (ao + k * 36) ?_ cs HR.out HSZ.out ?_); rfl; rfl; rfl)
      refine (put_nil cs kind N s sa len cap _ HAC.out).mono ?_
      rintro e w1 ⟨rfl, hb1⟩
      have HB1 := hide (HB.out.trans (hb1.mono HB.out.size))
      clear hb1
      go_wp2
      go_roundw
      case rel => exact ⟨k + 1, by go_num, by omega, HB1.out⟩
      case measure => simp [intOf]; omega
    · go_wp2_with (first | (go_at_call 16; refine (elen_nil _).mono ?_; rintro e w' ⟨rfl, rfl⟩) | (go_at_call 17; refine (ebytes_nil _).mono ?_; rintro e w' ⟨rfl, rfl⟩))
      go_loopw [8] (fun i wr => ∃ k : Nat, i = .int .i64 k ∧ k ≤ n ∧ Below w.heap.size w wr) (fun i _ => n - (intOf i).toNat)
      case atStart => exact ⟨0, rfl, Nat.zero_le _, HB.out⟩
      case round =>
        obtain ⟨k2, rfl, hk2, hbw2⟩ := hrel
        have HB2 := hide hbw2
        clear hbw2 HB
        by_cases hlt2 : k2 < n
        · obtain ⟨tb, to, rfl, htb, hcel⟩ : ∃ tb to, ta = some ⟨tb, to, none⟩ ∧ tb < w.heap.size ∧ ∀ i, i < n → ∃ (kd : Int) (mo : Nat) (nn : Int), -9223372036854775808 ≤ kd ∧ kd ≤ 9223372036854775807 ∧ mo ≤ 18446744073709551615 ∧ -9223372036854775808 ≤ nn ∧ nn ≤ 9223372036854775807 ∧ w.cell? ⟨tb, to + i * 3, none⟩ = some (.int .i64 kd) ∧ w.cell? ⟨tb, to + i * 3 + 1, none⟩ = some (.int .u64 mo) ∧ w.cell? ⟨tb, to + i * 3 + 2, none⟩ = some (.int .i64 nn) := by
            rcases HT.out with h | h
            · omega
            · exact h
          obtain ⟨kd, mo, nn, _, _, _, hn1, hn2, e0, e1, e2⟩ := hcel k2 hlt2
          have d0 := (HB2.out.cell (p := ⟨tb, to + k2 * 3, none⟩) htb).trans e0
          have d1 := (HB2.out.cell (p := ⟨tb, to + k2 * 3 + 1, none⟩) htb).trans e1
          have d2 := (HB2.out.cell (p := ⟨tb, to + k2 * 3 + 2, none⟩) htb).trans e2
          have E0 := hide e0
          have htw : tb < wr.heap.size := Nat.lt_of_lt_of_le htb HB2.out.size
          clear hcel e0 e1 e2
          have HTN := hide (take_nil wr kd mo nn hn1 hn2)
          by_cases h4 : kd = 4
          · subst h4
            rw [if_pos rfl] at HTN
            obtain ⟨zz, hzz⟩ : ∃ zz : List UInt8, zz = List.replicate 32 0 := ⟨_, rfl⟩
            rw [← hzz] at HTN
            have HZ := hide hzz
            clear hzz
            go_wp2_with fail
            refine (HTN.out).mono ?_
            rintro e w1 ⟨rfl, hb1⟩
            have HB1 := hide (HB2.out.trans (hb1.mono HB2.out.size))
            have d0' := (HB1.out.cell (p := ⟨tb, to + k2 * 3, none⟩) htb).trans E0.out
            have htw1 : tb < w1.heap.size := Nat.lt_of_lt_of_le htb HB1.out.size
            clear hb1 d0 d1 d2
            have hmk : ∀ W : World, (Instr.makeSlice 22 (.int .i64 32) (.int .i64 32)).run Try.prog W = .ok (.slice (some ⟨W.heap.size, 0, none⟩) 32 32) (W.alloc (.cells (zz.map u8c).toArray 5)) := fun W => by rw [HZ.out]; exact make32 W
            have hcv := conv_rd (((w1.alloc (.cells #[.int .u64 0, .string ⟨zz.toArray⟩] 58)).alloc (.cells #[.int .u64 0, .string ⟨#[]⟩] 58)).alloc (.cells (zz.map u8c).toArray 5)) (.slice (some ⟨((w1.alloc (.cells #[.int .u64 0, .string ⟨zz.toArray⟩] 58)).alloc (.cells #[.int .u64 0, .string ⟨#[]⟩] 58)).heap.size, 0, none⟩) 32 32) zz (Rd_blk (Blk.made _ _ _) (by rw [HZ.out]; decide) 32 (by rw [HZ.out]; rfl))
            simp only [World.size_alloc] at hcv
            go_wp2
            go_roundw
            case rel => exact ⟨k2 + 1, by go_num, by omega, ((HB1.out.alloc HB1.out.size _).alloc (by simp; exact Nat.le_succ_of_le HB1.out.size) _).alloc (by simp; exact Nat.le_succ_of_le (Nat.le_succ_of_le HB1.out.size)) _⟩
            case measure => simp [intOf]; omega
          · have h4b : (kd == 4) = false := beq_eq_false_iff_ne.2 h4
            rw [if_neg h4] at HTN
            go_wp2_with fail
            refine (HTN.out).mono ?_
            rintro e w1 ⟨rfl, hb1⟩
            have HB1 := hide (HB2.out.trans (hb1.mono HB2.out.size))
            have d0' := (HB1.out.cell (p := ⟨tb, to + k2 * 3, none⟩) htb).trans E0.out
            have htw1 : tb < w1.heap.size := Nat.lt_of_lt_of_le htb HB1.out.size
            clear hb1 d0 d1 d2 h4
            go_wp2
            go_roundw
            case rel => exact ⟨k2 + 1, by go_num, by omega, (HB1.out.alloc HB1.out.size _).alloc (by simp; exact Nat.le_succ_of_le HB1.out.size) _⟩
            case measure => simp [intOf]; omega
        · have hta := isFault
          go_wp2_with (first | (go_at_call 13; refine (each_int_nil _ _ _ (by decide) (by decide)).mono ?_; rintro e w' ⟨rfl, rfl⟩) | (go_at_call 14; refine (end_nil _).mono ?_; rintro e w' ⟨rfl, rfl⟩) | (go_at_call 20; refine (at_nil _).mono ?_; rintro e w' ⟨rfl, rfl⟩) | (go_at_call 21; refine (left_nil _).mono ?_; rintro e w' ⟨rfl, rfl⟩))
          have HW : Hid (∃ W3, W3 = (((wr.alloc (Obj.cells #[Value.int IntKind.i64 0] 3)).alloc (Obj.cells #[Value.int IntKind.i64 0, Value.int IntKind.i64 1] 41)).alloc (Obj.cells #[Value.slice none 0 0, Value.int IntKind.i64 0, Value.int IntKind.i64 0, Value.int IntKind.i64 0] 63))) := ⟨_, rfl⟩
          refine (ropen_none _).mono ?_
          rintro e w3 ⟨rv, rfl, hr3, hb3, hrv⟩
          simp only [World.size_alloc] at hr3 hb3 hrv ⊢
          have hzb : Blk (((wr.alloc (Obj.cells #[Value.int IntKind.i64 0] 3)).alloc (Obj.cells #[Value.int IntKind.i64 0, Value.int IntKind.i64 1] 41)).alloc (Obj.cells #[Value.slice none 0 0, Value.int IntKind.i64 0, Value.int IntKind.i64 0, Value.int IntKind.i64 0] 63)) (wr.heap.size + 1 + 1) #[.slice none 0 0, .int .i64 0, .int .i64 0, .int .i64 0] 63 := by
            have := Blk.made ((wr.alloc (Obj.cells #[Value.int IntKind.i64 0] 3)).alloc (Obj.cells #[Value.int IntKind.i64 0, Value.int IntKind.i64 1] 41)) #[.slice none 0 0, .int .i64 0, .int .i64 0, .int .i64 0] 63
            simp only [World.size_alloc] at this
            exact this
          have HTWO : Hid (Two w3 (wr.heap.size + 1 + 1) (.slice none 0 0) (wr.heap.size + 1 + 1 + 1) rv [] s0 s0) :=
            ⟨⟨⟨Nat.zero_le _, .inl ⟨rfl, rfl⟩⟩, Nat.zero_le _, hzb.below hb3 (by omega)⟩, hr3, by omega, fun b e => (by cases e), fun b cap e => by have := hrv b cap e; omega⟩
          have HBW : Hid (Below w.heap.size w w3) := (((HB2.out.alloc HB2.out.size _).alloc (by have := HB2.out.size; simp; omega) _).alloc (by have := HB2.out.size; simp; omega) _).trans (hb3.mono (by have := HB2.out.size; omega))
          have HZL : Hid (w.heap.size ≤ wr.heap.size) := HB2.out.size
          clear hr3 hb3 hrv hzb HW HB2
          generalize hz : wr.heap.size + 1 + 1 = z at HTWO ⊢
          have HZ := hide hz
          clear hz
          generalize hy : z + 1 = y at HTWO ⊢
          have HY := hide hy
          clear hy
          go_wp2_with fail
          have HTK := hide (fun W s kd (mo : Nat) nn h1 h2 h => take_st W z (.slice none 0 0) [] s kd mo nn h1 h2 (by simp) h)
          have HTR := hide (fun W s kd (mo : Nat) nn h1 h2 h => took_st W y rv [] s kd mo nn h1 h2 (by simp) h)
          have HST := hide (fun W s r hD hR h => stands_st W z (.slice none 0 0) y rv [] s r hD hR h)
          obtain ⟨bs, hbs⟩ : ∃ bs : List UInt8, bs = [] := ⟨_, rfl⟩
          rw [← hbs] at HTWO HTK HTR HST
          obtain ⟨sv, hsv⟩ : ∃ sv, sv = Value.slice none 0 0 := ⟨_, rfl⟩
          rw [← hsv] at HTWO HTK HST
          clear hbs hsv
          go_loopw [17] (fun i wr => ∃ (k : Nat) (s r : S), i = .int .i64 k ∧ k ≤ n ∧ Two wr z sv y rv bs s r ∧ Eqv s r ∧ Below w.heap.size w wr) (fun i _ => n - (intOf i).toNat)
          case atStart => exact ⟨0, s0, s0, rfl, Nat.zero_le _, HTWO.out, Eqv.refl _, HBW.out⟩
          case round =>
            obtain ⟨k3, s, r, rfl, hk3, htwo, heqv, hbw⟩ := hrel
            have HT2 := hide htwo
            have HEQ := hide heqv
            have HB2 := hide hbw
            clear htwo heqv hbw HTWO HBW
            by_cases hlt3 : k3 < n
            · obtain ⟨tb, to, rfl, htb, hcel⟩ : ∃ tb to, ta = some ⟨tb, to, none⟩ ∧ tb < w.heap.size ∧ ∀ i, i < n → ∃ (kd : Int) (mo : Nat) (nn : Int), -9223372036854775808 ≤ kd ∧ kd ≤ 9223372036854775807 ∧ mo ≤ 18446744073709551615 ∧ -9223372036854775808 ≤ nn ∧ nn ≤ 9223372036854775807 ∧ w.cell? ⟨tb, to + i * 3, none⟩ = some (.int .i64 kd) ∧ w.cell? ⟨tb, to + i * 3 + 1, none⟩ = some (.int .u64 mo) ∧ w.cell? ⟨tb, to + i * 3 + 2, none⟩ = some (.int .i64 nn) := by
                rcases HT.out with h | h
                · omega
                · exact h
              obtain ⟨kd, mo, nn, _, _, _, hn1, hn2, e0, e1, e2⟩ := hcel k3 hlt3
              have d0 := (HB2.out.cell (p := ⟨tb, to + k3 * 3, none⟩) htb).trans e0
              have d1 := (HB2.out.cell (p := ⟨tb, to + k3 * 3 + 1, none⟩) htb).trans e1
              have d2 := (HB2.out.cell (p := ⟨tb, to + k3 * 3 + 2, none⟩) htb).trans e2
              have E0 := hide e0
              have E1 := hide e1
              have E2 := hide e2
              clear hcel e0 e1 e2
              have HALK := hide (take_alike bs s r kd mo nn HEQ.out)
              have HT1 := hide (HTK.out _ s kd mo nn hn1 hn2 HT2.out.d)
              have HT3 := hide (fun W h => HTR.out W r kd mo nn hn1 hn2 h)
              generalize mTake bs s kd mo nn = a at HALK HT1
              generalize rTake bs r kd mo nn = b at HALK HT3
              obtain ⟨a1, a2, a3⟩ := a
              obtain ⟨b1, b2, b3⟩ := b
              obtain ⟨h1, h2, h3⟩ := HALK.out
              simp only [] at h1 h2 h3
              subst h1; subst h2
              clear HALK
              go_wp2_with fail
              refine (HT1.out).mono ?_
              rintro e w6 ⟨rfl, hd6, hg6⟩
              simp only [] at hd6
              have HT6 := hide (HT2.out.stepD hd6 hg6)
              have HB6 := hide (HB2.out.trans (below_grownBy hg6 (by have := HZ.out; have := HZL.out; omega) HB2.out.size))
              have d0 := (HB6.out.cell (p := ⟨tb, to + k3 * 3, none⟩) htb).trans E0.out
              have d1 := (HB6.out.cell (p := ⟨tb, to + k3 * 3 + 1, none⟩) htb).trans E1.out
              have d2 := (HB6.out.cell (p := ⟨tb, to + k3 * 3 + 2, none⟩) htb).trans E2.out
              have hs6 : w.heap.size ≤ w6.heap.size := HB6.out.size
              have htb6 : tb < w6.heap.size := by omega
              clear hd6 hg6
              have H3E := hide h3
              clear h3
              go_wp2_with fail
              have HT7 := hide (HT6.out.below ((Below.refl _ _).alloc (Nat.le_refl _) (.cells #[.int .u64 a1, .string ⟨a2.toArray⟩] 58)))
              refine (HT3.out _ HT7.out.r).mono ?_
              rintro e w8 ⟨rfl, hd8, hg8⟩
              simp only [] at hd8
              have HT8 := hide (HT7.out.stepR hd8 hg8)
              have HB8 := hide ((HB6.out.alloc hs6 _).trans (below_grownBy hg8 (by have := HZ.out; have := HY.out; have := HZL.out; omega) (by simp; omega)))
              have hyl : y < w6.heap.size := HT6.out.r.lt
              have hL : Blk w8 w6.heap.size #[.int .u64 a1, .string ⟨a2.toArray⟩] 58 := (Blk.made w6 _ _).grown hg8 (fun e => by have := Option.some.inj e; omega)
              have hs68 : w6.heap.size < w8.heap.size := hL.lt
              have c0 := hL.cell 0
              have c1 := hL.cell 1
              clear hd8 hg8 hL
              go_wp2_with fail
              have HT9 := hide (HT8.out.below ((Below.refl _ _).alloc (Nat.le_refl _) (.cells #[.int .u64 a1, .string ⟨a2.toArray⟩] 58)))
              refine (HST.out _ _ _ HT9.out.d HT9.out.r H3E.out).mono ?_
              rintro e wA ⟨rfl, hbA⟩
              have HTA := hide (HT9.out.below hbA)
              have HBA := hide ((HB8.out.alloc (by omega) _).trans (hbA.mono (by simp; omega)))
              clear hbA
              go_wp2
              go_roundw
              case rel => exact ⟨k3 + 1, _, _, by go_num, by omega, HTA.out, H3E.out, HBA.out⟩
              case measure => simp [intOf]; omega
            · go_wp2
              go_ret
              exact ⟨rfl, HB2.out⟩
end Go.Proofs.Ytinjcefekbpabab
