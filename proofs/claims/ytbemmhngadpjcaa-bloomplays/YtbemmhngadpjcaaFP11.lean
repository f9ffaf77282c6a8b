/- The document's Bytes. -/
import Derived.Test.YtbemmhngadpjcaaFP10
namespace Go.Proofs.Ytbemmhngadpjcaa
set_option linter.unusedVariables false
set_option linter.unusedSimpArgs false
open Go.RowKit

theorem wpList_append_byte {ops : Array Oper} {rest : List Oper} {o : Oper} {a : Act} {w : World} {Q : Exit → Act → World → Prop} (hgd : o.guard = none) (s x : Operand) (ho : o.op = .call { callee := .builtin .append, args := #[s, x], argTypes := #[49, 49] })
    (base : Nat) (v : Value) (xs : List UInt8) (hs : a.eval s = v) (hown : OwnsB w base v xs) (z c : Nat) (hx : a.eval x = .slice (some ⟨z, 0, none⟩) 1 c) (y : UInt8) (q : Int) (hq : q = y.toNat) (hc : w.cell? ⟨z, 0, none⟩ = some (.int .u8 q)) (hlen : xs.length ≤ 140737488354000) (hbase : base ≤ w.heap.size)
    (h : ∀ v' w', Hid (OwnsB w' base v' (xs ++ [y])) → Hid (Below base w w') → wpList Try.prog ops Q rest (a.put o.dst v') w') : wpList Try.prog ops Q (o :: rest) a w := by
  subst hq
  obtain ⟨i0, hi, hz0, hz1, hz2⟩ := info_parts infoU8
  refine wpList_append_own_at w hgd s x 49 ho base 5 i0 (.int .u8 0) 1 1 Try.underlying49 hi hz0 hz1 hz2 rfl (by decide) v xs.length (xs.map u8c) hs hown ⟨z, 0, none⟩ 1 c [u8c y] hx rfl ?_ (u8c_one [y]) (by unfold maxLen; omega) (by omega) hbase ?_
  · intro j u hj
    cases j with
    | zero => cases hj; exact hc
    | succ j => simp at hj
  · intro v' w' h1 h2 _ h4
    exact h v' w' (hide (by unfold OwnsB; rw [List.length_append, List.map_append]; exact h1)) (hide (owns_grown_below hown h2 hbase))
theorem head3 (h : Nat) (ws : List Nat) : (bytesF h ws).take (3 + 0) = [UInt8.ofNat h, UInt8.ofNat ws.length, UInt8.ofNat (ws.length / 256)] := by
  rw [take_bytes, List.take_zero]
  rfl
theorem owns3 (w : World) (a b c : UInt8) (x y z : Int) (hx : x = a.toNat) (hy : y = b.toNat) (hz : z = c.toNat) : OwnsB (w.alloc (.cells #[.int .u8 x, .int .u8 y, .int .u8 z] 5)) w.heap.size (.slice (some ⟨w.heap.size, 0, none⟩) 3 3) [a, b, c] := by
  subst hx hy hz
  exact ⟨rfl, .inr ⟨w.heap.size, 3, _, rfl, Nat.le_refl _, heap_alloc_new w _, Nat.le_refl _, by unfold maxLen; omega, rfl, rfl⟩⟩
theorem wrapu8_nat (n : Nat) (h : n < 256) : IntKind.u8.wrap (n : Int) = (n : Int) := by simp [IntKind.wrap, IntKind.bits, IntKind.signed]; omega
theorem pow_le (j : Nat) (h : j < 8) : 2 ^ j ≤ 128 := Nat.pow_le_pow_right (n := 2) (by omega) (show j ≤ 7 by omega)
set_option maxRecDepth 20000 in
set_option maxHeartbeats 8000000 in
theorem rbytes_any (w : World) (z g c h : Nat) (ws : List Nat) (f : RB w z g c h (bitsL ws)) : Calls Try.prog 33 #[.pointer (some ⟨z, 0, none⟩)] w (BytesC w (bytesF h ws)) := by
  have HF := hide f
  have hh := f.hh
  have hn := f.hn
  obtain ⟨T, hT⟩ : ∃ T, T = (bitsL ws).length := ⟨_, rfl⟩
  rw [← hT] at hn
  have c0 : w.cell? ⟨z, 0, none⟩ = some (.slice (some ⟨g, 0, none⟩) T c) := by rw [hT]; exact f.zb.cell 0
  have c1 : w.cell? ⟨z, 1, none⟩ = some (.int .i64 h) := f.zb.cell 1
  have hzl := f.zb.lt
  have hTL : T = 64 * ws.length := by rw [hT, bitsL_len]
  have HT := hide hT
  obtain ⟨L, hL⟩ : ∃ L, L = ws.length := ⟨_, rfl⟩
  rw [← hL] at hTL
  have hLb : L ≤ 16384 := by omega
  have HTL := hide hTL
  have HLe := hide hL
  have q1 : Int.tdiv (T : Int) 64 = (L : Int) := by
    have := Int.ofNat_tdiv T 64
    rw [show T / 64 = L by omega] at this
    exact this.symm
  obtain ⟨r1, hr1⟩ : ∃ r, r = L % 256 := ⟨_, rfl⟩
  obtain ⟨r2, hr2⟩ : ∃ r, r = L / 256 := ⟨_, rfl⟩
  have q2 : Int.tmod (L : Int) 256 = (r1 : Int) := by rw [hr1]; exact (Int.ofNat_tmod L 256).symm
  have q3 : Int.tdiv (L : Int) 256 = (r2 : Int) := by rw [hr2]; exact (Int.ofNat_tdiv L 256).symm
  have q4 : IntKind.u8.wrap (r1 : Int) = (r1 : Int) := wrapu8_nat r1 (by omega)
  have q5 : IntKind.u8.wrap (r2 : Int) = (r2 : Int) := wrapu8_nat r2 (by omega)
  have q6 : IntKind.u8.wrap (h : Int) = (h : Int) := wrapu8_nat h (by omega)
  have HO0 : Hid (OwnsB (w.alloc (.cells #[.int .u8 (h : Int), .int .u8 (r1 : Int), .int .u8 (r2 : Int)] 5)) w.heap.size (.slice (some ⟨w.heap.size, 0, none⟩) 3 3) ((bytesF h ws).take (3 + 0))) := hide (by
    rw [head3]
    refine owns3 w _ _ _ _ _ _ ?_ ?_ ?_
    · rw [UInt8.toNat_ofNat']; omega
    · rw [UInt8.toNat_ofNat', ← hL]; omega
    · rw [UInt8.toNat_ofNat', ← hL]; omega)
  have HC := hide (And.intro c0 c1)
  have hr1b : r1 < 256 := by omega
  have hr2b : r2 < 256 := by omega
  clear f hT hTL hL hr1 hr2
  go_enter Try.func33, Try.ntmps33
  go_wp2
  clear c0 c1 q1 q2 q3 q4 q5 q6
  go_loopw [4, 5, 6, 7, 8] (fun s4 s5 _ _ _ wr => ∃ (k t : Nat) (vo : Value), vo = s4 ∧ s5 = .int .i64 t ∧ t ≤ T ∧ Hid (t = 8 * k) ∧ OwnsB wr w.heap.size vo ((bytesF h ws).take (3 + k)) ∧ Below w.heap.size w wr) (fun _ s5 _ _ _ _ => T - (intOf s5).toNat)
  case atStart => exact ⟨0, 0, _, rfl, rfl, by omega, hide (by omega), HO0.out, (Below.refl _ _).alloc (Nat.le_refl _) _⟩
  case round =>
    obtain ⟨k, t, vo, rfl, rfl, ht, HK, hO, hB⟩ := hrel
    have HO := hide hO
    have HB := hide hB
    have c0 : wr.cell? ⟨z, 0, none⟩ = some (.slice (some ⟨g, 0, none⟩) T c) := (hB.cell hzl).trans HC.out.1
    by_cases hlt : t < T
    · have hti : (t : Int) < T := by omega
      have hT8 : t + 8 ≤ T := by have := HK.out; have := HTL.out; omega
      have HFr := hide (HF.out.rf.below hB)
      clear hO hB
      go_wp2
      obtain ⟨wo, hwo⟩ : ∃ wo, wo = wr := ⟨_, rfl⟩
      rw [← hwo] at HO HB HFr c0
      go_loopw [6, 7, 8] (fun s6 s7 s8 wr => ∃ (j v pv : Nat), s8 = .int .i64 j ∧ j ≤ 8 ∧ s6 = .int .u8 v ∧ s7 = .int .u8 pv ∧ v < 256 ∧ Hid (v = yK ws k % 2 ^ j) ∧ Hid (pv = 2 ^ j % 256) ∧ wr = wo) (fun _ _ s8 _ => 8 - (intOf s8).toNat)
      case atStart => exact ⟨0, 0, 1, rfl, by omega, rfl, rfl, by omega, hide (by rw [Nat.pow_zero, Nat.mod_one]), hide rfl, hwo.symm⟩
      case round =>
        clear hwo
        obtain ⟨j, v, pv, rfl, hj, rfl, rfl, hvb, HV, HPv, hw⟩ := hrel
        subst hw
        by_cases hj8 : j < 8
        · have hji : (j : Int) < 8 := by omega
          obtain ⟨q, hq⟩ : ∃ q, q = t + j := ⟨_, rfl⟩
          have hqi : (t : Int) + (j : Int) = (q : Int) := by omega
          have hqT : (q : Int) < T := by omega
          have hqu : q < (bitsL ws).length := by have := HT.out; omega
          obtain ⟨x, hx⟩ : ∃ x, x = (yK ws k).testBit j := ⟨_, rfl⟩
          have cx : wr.cell? ⟨g, q, none⟩ = some (.bool x) := by
            have := HFr.out.at' q hqu
            rw [bitsL_get] at this
            rw [this, hx, yK_bit ws k j hj8, hq, HK.out]
          have hp := pow_le j hj8
          have hpv : pv = 2 ^ j := by rw [HPv.out]; exact Nat.mod_eq_of_lt (by omega)
          have hvl : v < 2 ^ j := by rw [HV.out]; exact Nat.mod_lt _ (Nat.two_pow_pos j)
          obtain ⟨p2, hp2⟩ : ∃ p2, p2 = 2 ^ (j + 1) % 256 := ⟨_, rfl⟩
          have hm2 : IntKind.u8.wrap ((pv : Int) * 2) = (p2 : Int) := by
            rw [hp2, hpv, Nat.pow_succ]
            simp [IntKind.wrap, IntKind.bits, IntKind.signed]
          have HP2 := hide hp2
          have HVn : Hid (yK ws k % 2 ^ (j + 1) = v + x.toNat * 2 ^ j) := hide (by rw [pow8_succ, ← HV.out, hx])
          have hpvb : pv ≤ 128 := by rw [hpv]; exact hp
          have hvpb : v + pv < 256 := by rw [hpv]; omega
          obtain ⟨v2, hv2⟩ : ∃ v2, v2 = v + pv := ⟨_, rfl⟩
          have ha2 : IntKind.u8.wrap ((v : Int) + (pv : Int)) = (v2 : Int) := by
            rw [hv2, show (v : Int) + (pv : Int) = ((v + pv : Nat) : Int) by omega]
            exact wrapu8_nat _ hvpb
          have HV2 : Hid (v2 = v + 2 ^ j) := hide (by rw [hv2, hpv])
          have hv2b : v2 < 256 := by omega
          clear hq hx hp hpv hvl hp2 hv2 hvpb
          cases x with
          | true =>
            have HX : Hid (v2 = yK ws k % 2 ^ (j + 1)) := hide (by rw [HVn.out, HV2.out]; simp)
            go_wp2
            exact ⟨⟨j + 1, v2, p2, by go_num, by omega, rfl, rfl, hv2b, HX, HP2, trivial⟩, by simp [intOf]; omega⟩
          | false =>
            have HX : Hid (v = yK ws k % 2 ^ (j + 1)) := hide (by rw [HVn.out]; simp)
            go_wp2
            exact ⟨⟨j + 1, v, p2, by go_num, by omega, rfl, rfl, hvb, HX, HP2, trivial⟩, by simp [intOf]; omega⟩
        · have hji : ¬ (j : Int) < 8 := by omega
          have hj' : j = 8 := by omega
          have HVe : Hid (v = yK ws k % 256) := hide (by rw [HV.out, hj'])
          have hkl : k < 8 * ws.length := by have := HK.out; have := HTL.out; have := HLe.out; omega
          have HTk := hide (bytes_take h k ws hkl)
          have HLn : Hid (((bytesF h ws).take (3 + k)).length ≤ 3 + k) := hide (by rw [List.length_take]; omega)
          have hkb : k ≤ 200000 := by have := HLe.out; omega
          clear hj' HV HPv
          go_wp2_with (at_builtin; refine wpList_append_byte rfl _ _ rfl w.heap.size _ ((bytesF h ws).take (3 + k)) rfl ?e1 wr.heap.size 1 rfl (UInt8.ofNat (yK ws k % 256)) v ?e2 ?e3 ?e4 ?e5 ?_)
          case e1 => exact owns_below HO.out ((Below.refl _ _).alloc (Nat.le_refl _) _)
          case e2 => have := HVe.out; omega
          case e4 => have := HLn.out; omega
          case e5 => have := HB.out.size; simp; omega
          intro v' w3 HO' HB'
          have HO3 : Hid (OwnsB w3 w.heap.size v' ((bytesF h ws).take (3 + (k + 1)))) := hide (by rw [HTk.out]; exact HO'.out)
          have HB3 := hide (HB.out.trans (((Below.refl w.heap.size wr).alloc HB.out.size (.cells #[.int .u8 (v : Int)] 5)).trans HB'.out))
          clear HO' HB'
          go_wp2
          go_roundw
          case rel => exact ⟨k + 1, t + 8, v', rfl, by go_num, by omega, hide (by have := HK.out; omega), HO3.out, HB3.out⟩
          case measure => simp [intOf] <;> omega
    · have hti : ¬ (t : Int) < T := by omega
      have hfin : (bytesF h ws).take (3 + k) = bytesF h ws := List.take_of_length_le (by rw [bytesF_len]; have := HK.out; have := HTL.out; have := HLe.out; omega)
      rw [hfin] at HO
      clear hO hB hfin
      go_wp2
      go_ret
      exact ⟨_, rfl, HO.out, HB.out⟩
end Go.Proofs.Ytbemmhngadpjcaa
