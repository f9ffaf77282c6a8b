/- WireBack: the walk. -/
import Derived.Test.YtinjcefekbpabaaH2r
namespace Go.Proofs.Ytinjcefekbpabaa
set_option linter.unusedVariables false
set_option linter.unusedSimpArgs false
open Go.RowKit

/-- A slice of adds, as its cells lie. -/
def AddsR (w : World) (aa : Option Addr) (rs : List AddR) : Prop :=
  rs.length ≤ maxLen ∧ (rs = [] ∨ ∃ ab ao, aa = some ⟨ab, ao, none⟩ ∧ ab < w.heap.size ∧ ∀ i (h : i < rs.length), ∃ cs bv, AddIs w cs bv rs[i] ∧ w.rangeAt ab (ao + i * 36) cs.toList ∧ ∀ b o l c, bv = .slice (some ⟨b, o, none⟩) l c → 0 < c → b < w.heap.size)
theorem infoAdd : (Try.prog.info? 37).map (·.size) = some 36 := by kernel_rfl
theorem wpList_load_add {ops : Array Oper} {rest : List Oper} {op : Oper} {a : Act} {w : World} {Q : Exit → Act → World → Prop} (hgd : op.guard = none) (x : Operand) (ho : op.op = .load 37 x)
    (b o : Nat) (hx : a.eval x = .pointer (some ⟨b, o, none⟩)) (cs : Array Value) (hc : w.rangeAt b o cs.toList) (hn : cs.size = 36)
    (h : wpList Try.prog ops Q rest (a.put op.dst (.agg cs)) w) : wpList Try.prog ops Q (op :: rest) a w := by
  refine wpList_load_mid hgd 37 x ho b o hx cs.toList _ hc Try.underlying37 rfl (by rw [Array.length_toList, hn]; exact infoAdd) ?_
  simpa using h
theorem rangeAt_below {w w' : World} {b o B : Nat} {cs : List Value} (h : w.rangeAt b o cs) (hb : Below B w w') (hlt : b < B) : w'.rangeAt b o cs :=
  fun j v hj => (hb.cell (p := ⟨b, o + j, none⟩) hlt).trans (h j v hj)

def catB (rs : List AddR) : List UInt8 := rs.flatMap addB
def totR (rs : List AddR) : Nat := (rs.map fun a => a.S.length + a.B.length + 42).sum
theorem addB_le (a : AddR) (hk : a.K.length = 32) : (addB a).length ≤ a.S.length + a.B.length + 42 := by
  have h1 := varB_len a.N
  have h2 := varB_len a.S.length
  have h3 := varB_len a.B.length
  unfold addB
  repeat' split
  all_goals simp [fixB_len]
  all_goals omega
theorem totR_at : ∀ (rs : List AddR) (k : Nat) (h : k < rs.length), totR (rs.take k) + (rs[k].S.length + rs[k].B.length + 42) ≤ totR rs
  | [], k, h => by simp at h
  | a :: rs, 0, _ => by simp [totR]
  | a :: rs, k + 1, h => by
    have := totR_at rs k (by simpa using h)
    simp only [totR, List.take_succ_cons, List.map_cons, List.sum_cons, List.getElem_cons_succ] at this ⊢
    omega
theorem catB_le : ∀ (rs : List AddR), (∀ a ∈ rs, a.K.length = 32) → (catB rs).length ≤ totR rs
  | [], _ => by simp [catB]
  | a :: rs, h => by
    have h1 := addB_le a (h a (by simp))
    have h2 := catB_le rs (fun b hb => h b (by simp [hb]))
    simp only [catB, totR, List.flatMap_cons, List.length_append, List.map_cons, List.sum_cons] at h2 ⊢
    omega
theorem catB_next (rs : List AddR) (k : Nat) (h : k < rs.length) : catB (rs.take (k + 1)) = catB (rs.take k) ++ addB rs[k] := by
  unfold catB
  rw [List.take_succ_eq_append_getElem h, List.flatMap_append]
  simp only [List.flatMap_cons, List.flatMap_nil, List.append_nil]
theorem catB_split (rs : List AddR) (k : Nat) (h : k < rs.length) : catB rs = catB (rs.take k) ++ (addB rs[k] ++ catB (rs.drop (k + 1))) := by
  unfold catB
  conv => lhs; rw [← List.take_append_drop k rs, List.drop_eq_getElem_cons h, List.flatMap_append, List.flatMap_cons]

theorem zeroEnc : Try.zeroCells27 = (encCells none (List.replicate 256 0) 0).toArray := by kernel_rfl
theorem zeroEnc_st (w : World) : EncSt (w.alloc (.cells Try.zeroCells27 27)) (fun b => b = w.heap.size) w.heap.size [] :=
  ⟨rfl, fun b hb => by rw [hb, World.size_alloc]; exact Nat.lt_succ_self _, none, [], [], List.replicate 256 0, .nil, rfl, by decide, List.length_replicate, rfl, by rw [zeroEnc]; exact Blk.made w _ _⟩

theorem Below.drewN' (w : World) (m : Nat) : Below w.heap.size w (w.drewN m) := ⟨rfl, rfl, rfl, Nat.le_refl _, fun _ _ => rfl⟩
set_option maxRecDepth 20000 in
set_option maxHeartbeats 3200000 in
theorem wireBack_any (w : World) (aa : Option Addr) (ca : Nat) (rs : List AddR) (hA : AddsR w aa rs) (hb : totR rs ≤ 1099511627776) :
    Calls Try.prog 5 #[.slice aa rs.length ca] w fun e w' => e = .returned (.bool true) ∧ Below w.heap.size w w' := by
  have HA := hide hA.2
  have hn : rs.length ≤ 9223372036854775807 := hA.1
  have HZ := hide (zeroEnc_st w)
  clear hA
  obtain ⟨n, hnn⟩ : ∃ n, rs.length = n := ⟨_, rfl⟩
  rw [hnn] at hn ⊢
  go_enter Try.func5, Try.ntmps5
  go_wp2_with fail
  have hrd : Rd ((w.alloc (.cells Try.zeroCells27 27)).alloc (.cells #[.int .u8 7] 5)) (.slice (some ⟨w.heap.size + 1, 0, none⟩) 1 1) [7] := by
    have := Rd_take (xs := [7]) (Blk.made (w.alloc (.cells Try.zeroCells27 27)) #[.int .u8 7] 5) 1 rfl (by decide) [7] 1 rfl rfl
    rw [World.size_alloc] at this
    exact this
  refine (raw_enc _ (fun b => b = w.heap.size) w.heap.size [] [7] _ (HZ.out.alloc _) hrd (fun b o l c e => by cases e; omega) (by decide)).mono ?_
  rintro e w1 ⟨rfl, h1, h2⟩
  have HE1 := hide h1
  have HB1 : Hid (Below w.heap.size w w1) := hide ((below2 w _ _).trans (below_grownBy h2 (Nat.le_refl _) (below2 w _ _).size))
  clear h1 h2 hrd HZ
  obtain ⟨z, hz⟩ : ∃ z, w.heap.size = z := ⟨_, rfl⟩
  obtain ⟨X, hX⟩ : ∃ X : Nat → Prop, X = (fun b => b = w.heap.size) := ⟨_, rfl⟩
  rw [← hX] at HE1
  rw [hz] at HE1
  have HX := hide hX
  clear hX
  have HZW := hide hz
  clear hz
  have HAK : Hid (∀ k (h : k < rs.length), ∃ ab ao cs bv, aa = some ⟨ab, ao, none⟩ ∧ ab < w.heap.size ∧ AddIs w cs bv rs[k] ∧ w.rangeAt ab (ao + k * 36) cs.toList ∧ ∀ b o l c, bv = .slice (some ⟨b, o, none⟩) l c → 0 < c → b < w.heap.size) := hide (by
    intro k hk
    rcases HA.out with h | ⟨ab, ao, e, hab, hcel⟩
    · rw [h] at hk; simp at hk
    · obtain ⟨cs, bv, h1, h2, h3⟩ := hcel k hk
      exact ⟨ab, ao, cs, bv, e, hab, h1, h2, h3⟩)
  clear HA
  rw [HZW.out]
  go_wp2_with fail
  go_loopw [4] (fun i wr => ∃ k : Nat, i = .int .i64 k ∧ k ≤ n ∧ EncSt wr X z ([7] ++ catB (rs.take k)) ∧ Below w.heap.size w wr) (fun i _ => n - (intOf i).toNat)
  case atStart => exact ⟨0, rfl, Nat.zero_le _, by simpa [catB] using HE1.out, HB1.out⟩
  case round =>
    obtain ⟨k, rfl, hk, henc, hbw⟩ := hrel
    have HE := hide henc
    have HBw := hide hbw
    clear henc hbw
    by_cases hlt : k < n
    · obtain ⟨ab, ao, cs, bv, rfl, hab, hai, hr, hbv⟩ := HAK.out k (by omega)
      have HR := hide (rangeAt_below hr HBw.out hab)
      have HSZ := hide hai.size
      have htot := totR_at rs k (by omega)
      have hcl := catB_le (rs.take k) (fun a ha => by
        obtain ⟨j, hj, e⟩ := List.mem_iff_getElem.1 ha
        have hj' : j < rs.length := by simp at hj; omega
        obtain ⟨_, _, _, _, _, _, h1, _⟩ := HAK.out j hj'
        rw [← e, List.getElem_take]
        exact h1.kl)
      have HP := hide (put_enc wr X z ([7] ++ catB (rs.take k)) cs bv rs[k] (hai.below HBw.out) HE.out (fun b o l c e hc => by have := hbv b o l c e hc; have := HZW.out; omega) (by simp; omega))
      have HN := hide (catB_next rs k (by omega))
      clear hai hr hbv htot hcl
      go_wp2_with ((with_reducible refine wpList_load_add ?_ (.tmp 19) ?_ ab (ao + k * 36) ?_ cs HR.out HSZ.out ?_); rfl; rfl; rfl)
      refine (HP.out).mono ?_
      rintro e w2 ⟨rfl, h1, h2⟩
      have HE2 := hide h1
      have HB2 : Hid (Below w.heap.size w w2) := hide (HBw.out.trans (below_grownBy h2 (by have := HZW.out; omega) HBw.out.size))
      clear h1 h2 HP
      go_wp2
      go_roundw
      case rel => exact ⟨k + 1, by go_num, by omega, by rw [HN.out, ← List.append_assoc]; exact HE2.out, HB2.out⟩
      case measure => simp [intOf]; omega
    · obtain rfl : k = n := by omega
      have hcl := catB_le rs (fun a ha => by
        obtain ⟨j, hj, e⟩ := List.mem_iff_getElem.1 ha
        obtain ⟨_, _, _, _, _, _, h1, _⟩ := HAK.out j hj
        rw [← e]
        exact h1.kl)
      obtain ⟨bs, hbs⟩ : ∃ bs, bs = [7] ++ catB rs := ⟨_, rfl⟩
      have hbl : bs.length ≤ 1099511627777 := by rw [hbs]; simp; omega
      have HEB : Hid (EncSt wr X z bs) := hide (by rw [hbs]; have := HE.out; rwa [← hnn, List.take_length] at this)
      have HBS := hide hbs
      clear HE hbs hcl
      have HBY := hide (ebytes_enc wr X z bs HEB.out (by omega))
      go_wp2_with fail
      refine (HBY.out).mono ?_
      rintro e w2 ⟨v, rfl, hown, hb2⟩
      have HO := hide (open_any w2 v bs (Rd_owned hown) (by omega))
      have HB2 := hide hb2
      clear hb2 hown HBY
      go_wp2_with fail
      refine (HO.out).mono ?_
      rintro e w3 ⟨rfl, hd, hb3, hs3⟩
      have HD := hide hd
      have HB3 : Hid (Below wr.heap.size wr w3) := hide (HB2.out.trans (hb3.mono HB2.out.size))
      have hsz := HB2.out.size
      clear hd hb3 HO
      have hn7 : mNext bs s0 (mPlace s0) 1 = (some [7], stN 1) := by
        rw [HBS.out]
        exact mNext_at [] [7] (catB rs) _ 1 rfl
      have HR1 := hide (raw_st w3 (w2.heap.size + 1) _ bs s0 1 (by decide) (by decide) HD.out (by omega))
      rw [show ((1 : Int).toNat) = 1 from rfl, hn7] at HR1
      clear hn7
      have hs32 := hs3
      generalize hzd : w2.heap.size + 1 = zd at HD HR1 hs32 ⊢
      have HZD : Hid (wr.heap.size ≤ zd) := hide (by omega)
      generalize hsv : Value.slice (some ⟨w2.heap.size, 0, none⟩) bs.length bs.length = sv at HD HR1
      clear hzd hsv hs3 hs32 hsz
      go_wp2_with fail
      refine (HR1.out).mono ?_
      rintro e w4 ⟨⟨v1, rfl, hown1⟩, hd4, hg4⟩
      have HD4 := hide hd4
      have HB4 : Hid (Below wr.heap.size wr w4) := hide (HB3.out.trans (below_grownBy hg4 HZD.out HB3.out.size))
      simp only [Option.getD_some, List.length_singleton, List.map_cons, List.map_nil] at hown1
      obtain ⟨_, ⟨_, h10⟩ | ⟨g, cap, cur, rfl, hgb, hgh, hgc, hcm, hcs, hct⟩⟩ := hown1
      · cases h10
      have c7 : w4.cell? ⟨g, 0, none⟩ = some (.int .u8 7) := by
        have hB : Blk w4 g cur 5 := hgh
        rw [hB.cell, ← Array.getElem?_toList]
        have : (cur.toList.take (1 * 1))[0]? = some (.int .u8 7) := by rw [hct]; rfl
        rwa [List.getElem?_take_of_lt (by omega)] at this
      clear hd4 hg4 HR1 HD HB3 HB2 hgh hct hcs hgb HE1 HB1
      simp only [] at HD4
      go_wp2_with fail
      clear c7
      go_loopw [7] (fun i wq => ∃ j : Nat, i = .int .i64 j ∧ j ≤ k ∧ DecSt wq zd sv bs (stN (1 + (catB (rs.take j)).length)) ∧ Below wr.heap.size wr wq) (fun i _ => k - (intOf i).toNat)
      case atStart => exact ⟨0, rfl, Nat.zero_le _, by simpa [catB] using HD4.out, HB4.out⟩
      case round =>
        obtain ⟨j, rfl, hj, hdec, hbq⟩ := hrel
        have HDq := hide hdec
        have HBq := hide hbq
        clear hdec hbq HD4 HB4
        by_cases hlt2 : j < k
        · obtain ⟨ab, ao, cs, bv, rfl, hab, hai, hr, hbv⟩ := HAK.out j (by omega)
          have HBW : Hid (Below w.heap.size w wr) := hide (HBw.out.trans (HBq.out.mono HBw.out.size))
          have HR := hide (rangeAt_below hr HBW.out hab)
          have HR0 := hide hr
          have HSZ := hide hai.size
          have htot := totR_at rs j (by omega)
          have HBK := hide (back_st wr cs bv rs[j] (hai.below HBW.out) (by omega))
          have HAI := hide hai
          have hsplit : bs = ([7] ++ catB (rs.take j)) ++ (addB rs[j] ++ catB (rs.drop (j + 1))) := by
            rw [HBS.out, catB_split rs j (by omega), List.append_assoc]
          have hl7 : ([7] ++ catB (rs.take j)).length = 1 + (catB (rs.take j)).length := by simp; omega
          have htb := take_back ([7] ++ catB (rs.take j)) (catB (rs.drop (j + 1))) rs[j] hai.hN (by omega) (by omega) hai.kl
          rw [← hsplit, hl7] at htb
          have HTK := hide (fun W h => take_st W zd sv bs (stN (1 + (catB (rs.take j)).length)) rs[j].kind (backM rs[j]) (backN rs[j]) (by omega) (by unfold backN; split <;> (try split) <;> omega) (by omega) h)
          rw [htb] at HTK
          have HNX : Hid (1 + (catB (rs.take j)).length + (addB rs[j]).length = 1 + (catB (rs.take (j + 1))).length) := hide (by rw [catB_next rs j (by omega), List.length_append]; omega)
          have HSM := hide (fun W hb => same_st W cs bv rs[j] (hai.below hb))
          clear hai hr hbv hsplit hl7 htb
          generalize sameN rs[j] = gN at HTK HSM
          generalize sameB rs[j] = gB at HTK HSM
          generalize backM rs[j] = bM at HTK HBK
          generalize backN rs[j] = bN at HTK HBK
          go_wp2_with ((with_reducible refine wpList_load_add ?_ (.tmp 44) ?_ ab (ao + j * 36) ?_ cs HR.out HSZ.out ?_); rfl; rfl; rfl)
          refine (HBK.out).mono ?_
          rintro e w5 ⟨rfl, hb5⟩
          have HD5 := hide (HDq.out.below hb5)
          have HB5 : Hid (Below _ _ w5) := hide (HBq.out.trans (hb5.mono HBq.out.size))
          clear hb5 HBK
          go_wp2_with fail
          refine (HTK.out _ HD5.out).mono ?_
          rintro e w6 ⟨rfl, hd6, hg6⟩
          simp only [] at hd6
          have HD6 := hide hd6
          have HB6 : Hid (Below _ _ w6) := hide (HB5.out.trans (below_grownBy hg6 HZD.out HB5.out.size))
          clear hd6 hg6 HTK HD5
          obtain ⟨gs, hgs⟩ : ∃ gs : ByteArray, gs = ⟨gB.toArray⟩ := ⟨_, rfl⟩
          simp only [← hgs]
          rw [← hgs] at HSM
          clear hgs
          have HB7 : Hid (Below _ _ (w6.alloc (.cells #[.int .u64 gN, .string gs] 50))) := hide (HB6.out.alloc HB6.out.size _)
          have HBW7 := hide (HBw.out.trans (HB7.out.mono HBw.out.size))
          have HR7 := hide (rangeAt_below HR0.out HBW7.out hab)
          have HSM7 := hide (HSM.out _ HBW7.out)
          have HD7 := hide (HD6.out.below ((Below.refl _ _).alloc (Nat.le_refl _) (.cells #[.int .u64 gN, .string gs] 50)))
          have c0 := (Blk.made w6 #[.int .u64 gN, .string gs] 50).cell 0
          have c1 := (Blk.made w6 #[.int .u64 gN, .string gs] 50).cell 1
          simp only [List.getElem?_toArray, List.getElem?_cons_zero, List.getElem?_cons_succ] at c0 c1
          go_wp2_with fail
          obtain ⟨n6, hn6⟩ : ∃ n6, w6.heap.size = n6 := ⟨_, rfl⟩
          have hn7 : n6 < (w6.alloc (.cells #[.int .u64 gN, .string gs] 50)).heap.size := by rw [World.size_alloc]; omega
          have hab7 : ab < (w6.alloc (.cells #[.int .u64 gN, .string gs] 50)).heap.size := Nat.lt_of_lt_of_le hab HBW7.out.size
          rw [hn6] at c0 c1 ⊢
          have HSM8 := hide (HSM.out (World.drew (w6.alloc (.cells #[.int .u64 gN, .string gs] 50))) ⟨HBW7.out.os, HBW7.out.tape, HBW7.out.output, HBW7.out.size, HBW7.out.block⟩)
          generalize w6.alloc (.cells #[.int .u64 gN, .string gs] 50) = W7 at HB7 HBW7 HR7 HSM7 HD7 c0 c1 hn7 hab7 HSM8 ⊢
          obtain ⟨csl, hcsl⟩ : ∃ csl, csl = cs.toList := ⟨_, rfl⟩
          have hcl36 : csl.length = 36 := by rw [hcsl, Array.length_toList]; exact HSZ.out
          have hcs2 : cs = csl.toArray := by rw [hcsl]
          rw [← hcsl] at HR7
          rw [hcs2] at HSM8
          refine region15 _ (fun _ _ _ _ _ h => h) W7 ab ao j k ca n6 csl (.int .u64 gN) (.string gs) hlt2 HR7.out hcl36 c0 c1 _ (Nat.lt_of_sub_pos (by exact Nat.succ_pos _)) rfl rfl rfl (fun w' => Below W7.heap.size W7 w') (HSM8.out.mono (fun e w' h => ⟨h.1, ⟨h.2.os, h.2.tape, h.2.output, h.2.size, h.2.block⟩⟩)) (fun w8 hb8 => ?_)
          simp only [Act.put, List.setIfInBounds_toArray, List.set_cons_zero, List.set_cons_succ]
          have HD8 := hide (HD7.out.below hb8)
          have HB8 : Hid (Below _ _ w8) := hide (HB7.out.trans (hb8.mono HB7.out.size))
          clear hb8 HSM HSM7 HSM8 hcs2 hcsl c0 c1
          go_wp2
          go_roundw
          case rel => exact ⟨j + 1, by go_num, by omega, by rw [← HNX.out]; exact HD8.out, HB8.out⟩
          case measure => simp [intOf]; omega
        · obtain rfl : j = k := by omega
          have hjr : rs.take j = rs := by rw [← hnn]; exact List.take_length
          have hsj : 1 + (catB rs).length = bs.length := by rw [HBS.out]; simp; omega
          rw [hjr, hsj] at HDq
          have HEQ := hide (HEB.out.below HBq.out)
          have hend : endV bs (stN bs.length) = .nilIface := by unfold endV; rw [if_neg (by simp [stN]), if_neg (by simp [stN])]
          have hleft : mLeft bs (stN bs.length) = 0 := by simp [mLeft, stN]
          have HEN := hide (end_st _ zd sv bs _ HDq.out)
          rw [hend] at HEN
          have HLF := hide (fun m => left_st _ zd sv bs _ (HDq.out.drewN m))
          have HAT := hide (fun m => at_st _ zd sv bs _ (HDq.out.drewN m))
          have HLE := hide (fun m => elen_enc _ X z bs (HEQ.out.below (Below.drewN' _ m)))
          rw [hleft] at HLF
          rw [mPlace_at] at HAT
          go_wp2_with fail
          refine (HEN.out).mono ?_
          rintro e w9 ⟨rfl, m9, rfl⟩
          go_wp2_with fail
          refine (HLF.out m9).mono ?_
          rintro e w10 ⟨rfl, m10, rfl⟩
          go_wp2_with fail
          refine (HAT.out (m9 + m10)).mono ?_
          rintro e w11 ⟨rfl, rfl⟩
          go_wp2_with fail
          refine (HLE.out (m9 + m10)).mono ?_
          rintro e w12 ⟨rfl, rfl⟩
          go_wp2
          go_ret
          exact ⟨rfl, HBw.out.trans ((HBq.out.trans ((Below.drewN' _ _).mono HBq.out.size)).mono HBw.out.size)⟩
end Go.Proofs.Ytinjcefekbpabaa
