/- Bytes of a filter. -/
import Derived.Test.YtbemmhngadpjcaaFI2
namespace Go.Proofs.Ytbemmhngadpjcaa
set_option linter.unusedVariables false
set_option linter.unusedSimpArgs false
open Go.RowKit

theorem zeroEnc : Try.zeroCells88 = (encCells none (List.replicate 256 0) 0).toArray := by kernel_rfl
theorem zeroEnc_st (w : World) : EncSt (w.alloc (.cells Try.zeroCells88 88)) (fun b => b = w.heap.size) w.heap.size [] :=
  ⟨rfl, fun b hb => by rw [hb, World.size_alloc]; exact Nat.lt_succ_self _, none, [], [], List.replicate 256 0, .nil, rfl, by decide, List.length_replicate, rfl, by rw [zeroEnc]; exact Blk.made w _ _⟩
/-- A filter's bytes. -/
def bytesF (h : Nat) (ws : List Nat) : List UInt8 := fixB 1 h ++ (fixB 2 ws.length ++ ws.flatMap (fixB 8))
theorem flat8_len : ∀ ws : List Nat, (ws.flatMap (fixB 8)).length = 8 * ws.length
  | [] => rfl
  | x :: r => by rw [List.flatMap_cons, List.length_append, fixB_len, flat8_len r, List.length_cons]; omega
theorem bytesF_len (h : Nat) (ws : List Nat) : (bytesF h ws).length = 3 + 8 * ws.length := by
  unfold bytesF
  rw [List.length_append, List.length_append, fixB_len, fixB_len, flat8_len]
  omega
theorem owns_lower {w : World} {a b : Nat} {e : TypeId} {sz : Nat} {v : Value} {n : Nat} {ys : List Value} (h : w.ownsRow b e sz v n ys) (hab : a ≤ b) : w.ownsRow a e sz v n ys := by
  obtain ⟨h0, h1 | ⟨g, cap, cur, rfl, hb, hr⟩⟩ := h
  · exact ⟨h0, .inl h1⟩
  · exact ⟨h0, .inr ⟨g, cap, cur, rfl, by omega, hr⟩⟩
theorem fbytes_nil (w : World) : Calls Try.prog 19 #[.pointer none] w fun e w' => e = .returned (.slice none 0 0) ∧ w' = w := by
  have C := hide (none_nil w)
  go_enter Try.func19, Try.ntmps19
  go_wp2_with fail
  refine C.out.mono ?_
  rintro e w1 ⟨rfl, rfl⟩
  go_wp2
  go_ret
  exact ⟨rfl, rfl⟩
theorem FilAt.cellW {w : World} {z g h : Nat} {ws : List Nat} (f : FilAt w z g h ws) (k : Nat) (hk : k < ws.length) : w.cell? ⟨g, k, none⟩ = some (.int .u64 (ws[k] : Nat)) := by
  rw [f.gb.cell]
  simp [List.getElem?_eq_getElem hk, u64c]
set_option maxRecDepth 20000 in
set_option maxHeartbeats 4000000 in
theorem fbytes_any (w : World) (z g h : Nat) (ws : List Nat) (f : FilAt w z g h ws) : Calls Try.prog 19 #[.pointer (some ⟨z, 0, none⟩)] w (BytesC w (bytesF h ws)) := by
  have CN := hide (none_some w z g h ws f)
  have HF := hide f
  obtain ⟨hh1, hh2⟩ := f.hh
  obtain ⟨n, hn⟩ : ∃ n, n = ws.length := ⟨_, rfl⟩
  have HNn := hide hn
  have hn2 : n ≤ 16384 := by rw [hn]; exact f.hn.2
  have hzl := f.zb.lt
  have ha := (Below.refl w.heap.size w).alloc (Nat.le_refl _) (.cells Try.zeroCells88 88)
  have fa := f.below ha
  obtain ⟨W1, hW1⟩ : ∃ W1, W1 = w.alloc (.cells Try.zeroCells88 88) := ⟨_, rfl⟩
  have c0 : W1.cell? ⟨z, 0, none⟩ = some (.int .i64 h) := by rw [hW1]; exact fa.zb.cell 0
  have HZ := hide (zeroEnc_st w)
  have HB1 := hide ha
  have HF1 := hide fa
  have HS1 : Hid (W1.heap.size = w.heap.size + 1) := hide (by rw [hW1, World.size_alloc])
  rw [← hW1] at HZ HB1 HF1
  have hZn : ¬ z = w.heap.size := by omega
  clear f ha fa hn
  go_enter Try.func19, Try.ntmps19
  go_wp2_with fail
  refine CN.out.mono ?_
  rintro e w0 ⟨rfl, hw0⟩
  subst hw0
  rw [hW1] at c0
  go_wp2_with fail
  rw [← hW1]
  have HP := hide (put_uint8 W1 _ _ [] h (by omega) HZ.out (by simp))
  refine HP.out.mono ?_
  rintro e w2 ⟨rfl, h2, g2⟩
  have hlt2 : w0.heap.size ≤ W1.heap.size := HB1.out.size
  have HB2 := hide (HB1.out.trans (below_grownBy (B := w0.heap.size) g2 (Nat.le_refl _) hlt2))
  have HE2 := hide h2
  have HF2 := hide (HF.out.below HB2.out)
  have c1 : w2.cell? ⟨z, 1, none⟩ = some (.slice (some ⟨g, 0, none⟩) n n) := by rw [HNn.out]; exact HF2.out.zb.cell 1
  clear h2 g2 c0 HP HZ hlt2 hW1
  go_wp2_with fail
  have HP := hide (put_uint16 w2 _ _ _ n (by omega) HE2.out (by rw [List.nil_append, fixB_len]; omega))
  refine HP.out.mono ?_
  rintro e w3 ⟨rfl, h3, g3⟩
  have HB3 := hide (HB2.out.trans (below_grownBy (B := w0.heap.size) g3 (Nat.le_refl _) HB2.out.size))
  have HE3 := hide h3
  have HF3 := hide (HF.out.below HB3.out)
  have c3 : w3.cell? ⟨z, 1, none⟩ = some (.slice (some ⟨g, 0, none⟩) n n) := by rw [HNn.out]; exact HF3.out.zb.cell 1
  clear h3 g3 c1 HP HE2 HF2 HB2
  go_wp2
  go_loopw [25] (fun s25 wr => ∃ k : Nat, s25 = .int .i64 k ∧ k ≤ n ∧ EncSt wr (fun b => b = w0.heap.size) w0.heap.size (fixB 1 h ++ (fixB 2 n ++ (ws.take k).flatMap (fixB 8))) ∧ Below w0.heap.size w0 wr) (fun s25 _ => n - (intOf s25).toNat)
  case atStart =>
    refine ⟨0, rfl, by omega, ?_, HB3.out⟩
    have := HE3.out
    simpa using this
  case round =>
    obtain ⟨k, rfl, hk, hE, hB⟩ := hrel
    have HE := hide hE
    have HB := hide hB
    have HFr := hide (HF.out.below hB)
    have HL : Hid ((fixB 1 h ++ (fixB 2 n ++ (ws.take k).flatMap (fixB 8))).length = 3 + 8 * k) := hide (by
      rw [List.length_append, List.length_append, fixB_len, fixB_len, flat8_len, List.length_take]
      have := HNn.out
      omega)
    have hsz : w0.heap.size ≤ wr.heap.size := hB.size
    clear hE hB
    by_cases hlt : k < n
    · have hki : (k : Int) < n := by omega
      have hkw : k < ws.length := by have := HNn.out; omega
      have ck := HFr.out.cellW k hkw
      have cz : wr.cell? ⟨z, 1, none⟩ = some (.slice (some ⟨g, 0, none⟩) n n) := by rw [HNn.out]; exact HFr.out.zb.cell 1
      obtain ⟨x, hx⟩ : ∃ x, x = ws[k] := ⟨_, rfl⟩
      rw [← hx] at ck
      have hxb : x < 18446744073709551616 := by rw [hx]; exact HF.out.ok _ (List.getElem_mem hkw)
      have HT : Hid (ws.take (k + 1) = ws.take k ++ [x]) := hide (by rw [List.take_succ_eq_append_getElem hkw, hx])
      clear hx
      go_wp2_with fail
      have HP := hide (put_uint64 wr _ _ _ x (by omega) HE.out (by rw [HL.out]; omega))
      refine HP.out.mono ?_
      rintro e w4 ⟨rfl, h4, g4⟩
      have HE4 := hide h4
      have HB4 := hide (HB.out.trans (below_grownBy (B := w0.heap.size) g4 (Nat.le_refl _) hsz))
      clear h4 g4 HP
      go_wp2
      refine ⟨⟨k + 1, by go_num, by omega, ?_, HB4.out⟩, by simp [intOf]; omega⟩
      have := HE4.out
      rw [HT.out, List.flatMap_append]
      simpa using this
    · have hki : ¬ (k : Int) < n := by omega
      have hkn : k = n := by omega
      have HX : Hid (fixB 1 h ++ (fixB 2 n ++ (ws.take k).flatMap (fixB 8)) = bytesF h ws) := hide (by
        have := HNn.out
        unfold bytesF
        rw [List.take_of_length_le (by omega), this])
      have HE5 := hide HE.out
      rw [HX.out] at HE5
      clear hkn
      go_wp2_with fail
      have HP := hide (ebytes_enc wr _ _ _ HE5.out (by rw [bytesF_len]; have := HNn.out; omega))
      refine HP.out.mono ?_
      rintro e w5 ⟨v, rfl, ho, hb5⟩
      have HO := hide (owns_lower ho hsz)
      have HB5 := hide (HB.out.trans (hb5.mono hsz))
      clear ho hb5 HP
      go_wp2
      go_ret
      exact ⟨v, rfl, HO.out, HB5.out⟩
end Go.Proofs.Ytbemmhngadpjcaa
