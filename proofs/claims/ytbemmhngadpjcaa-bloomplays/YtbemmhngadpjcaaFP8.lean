/- The document's places of a key, walked; Add and Has. -/
import Derived.Test.YtbemmhngadpjcaaFP7
import Derived.StillTailTactics
namespace Go.Proofs.Ytbemmhngadpjcaa
set_option linter.unusedVariables false
set_option linter.unusedSimpArgs false
open Go.RowKit

set_option maxRecDepth 20000 in
set_option maxHeartbeats 8000000 in
theorem places_any (w : World) (z g c h : Nat) (ws : List Nat) (f : RB w z g c h (bitsL ws)) (kb : List UInt8) (hkb : kb.length = 32) : Calls Try.prog 57 #[.pointer (some ⟨z, 0, none⟩), .agg (kb.map u8c).toArray] w (PlsC w (plsK (keyA kb) (keyB kb) ws.length h)) := by
  obtain ⟨K, hK⟩ : ∃ K, K = (kb.map u8c).toArray := ⟨_, rfl⟩
  obtain ⟨W1, hW1⟩ : ∃ W1, W1 = w.alloc (.cells K 36) := ⟨_, rfl⟩
  have hb1 : Below w.heap.size w W1 := by rw [hW1]; exact (Below.refl _ _).alloc (Nat.le_refl _) _
  have hB : Blk W1 w.heap.size (kb.map u8c).toArray 36 := by rw [hW1, hK]; exact Blk.made w _ _
  have C1 := hide (rword_any W1 w.heap.size 0 32 (kb.take 8) (by simp [hkb]) (fun i hi => by
    rw [Nat.zero_add, hB.cell]
    have : i < kb.length := by simp at hi; omega
    simp [List.getElem?_eq_getElem this]))
  have C2 := hide (rword_any W1 w.heap.size 8 24 ((kb.drop 8).take 8) (by simp [hkb]) (fun i hi => by
    rw [hB.cell]
    have : 8 + i < kb.length := by simp at hi; omega
    simp [List.getElem?_eq_getElem this]))
  have f1 := f.below hb1
  have hlen := bitsL_len ws
  have hn := f.hn
  rw [hlen] at hn
  obtain ⟨L, hL⟩ : ∃ L, L = ws.length := ⟨_, rfl⟩
  rw [← hL] at hn hlen ⊢
  have hh := f.hh
  obtain ⟨T, hT⟩ : ∃ T, T = 64 * L := ⟨_, rfl⟩
  have c0 : W1.cell? ⟨z, 0, none⟩ = some (.slice (some ⟨g, 0, none⟩) T c) := by
    have := f1.zb.cell 0
    rw [hlen, ← hT] at this
    exact this
  have c1 : W1.cell? ⟨z, 1, none⟩ = some (.int .i64 h) := f1.zb.cell 1
  have hzl : z < W1.heap.size := f1.zb.lt
  have HB1 := hide hb1
  have HTL := hide hT
  have hTb : 64 ≤ T ∧ T ≤ 1048576 := by omega
  have hA := keyA_lt kb
  have hBk := keyB_lt kb
  have eA : leNat (kb.take 8) = keyA kb := rfl
  have eB : leNat ((kb.drop 8).take 8) = keyB kb := rfl
  rw [eA] at C1
  rw [eB] at C2
  obtain ⟨a, ha⟩ : ∃ a, a = keyA kb := ⟨_, rfl⟩
  obtain ⟨b, hb⟩ : ∃ b, b = keyB kb := ⟨_, rfl⟩
  rw [← ha] at C1 hA ⊢
  rw [← hb] at C2 hBk ⊢
  rw [← hK]
  have hc1 := cut08
  have hc2 := cut816
  have HC0 := hide c0
  have HC1 := hide c1
  clear f f1 hb1 hB hK hT hL ha hb eA eB hlen hn c0 c1
  go_enter Try.func57, Try.ntmps57
  go_wp2_with fail
  rw [← hW1]
  refine C1.out.mono ?_
  rintro e w0 ⟨rfl, hw0⟩
  subst hw0
  clear hW1
  go_wp2_with fail
  refine C2.out.mono ?_
  rintro e w2 ⟨rfl, hw2⟩
  subst hw2
  clear C1 C2 hc1 hc2
  go_wp2
  go_loopw [7, 8] (fun s7 s8 wr => ∃ (k : Nat) (vo : Value), vo = s7 ∧ s8 = .int .i64 k ∧ k ≤ h ∧ OwnsI wr w2.heap.size vo (plsK a b L k) ∧ Below w2.heap.size w2 wr) (fun _ s8 _ => h - (intOf s8).toNat)
  case atStart => exact ⟨0, _, rfl, rfl, by omega, World.ownsRow_nil _ _ _ _, Below.refl _ _⟩
  case round =>
    obtain ⟨k, vo, rfl, rfl, hk, hO, hBe⟩ := hrel
    have c0 : wr.cell? ⟨z, 0, none⟩ = some (.slice (some ⟨g, 0, none⟩) T c) := (hBe.cell hzl).trans HC0.out
    have c1 : wr.cell? ⟨z, 1, none⟩ = some (.int .i64 h) := (hBe.cell hzl).trans HC1.out
    have HO := hide hO
    have HBe := hide hBe
    clear hO hBe
    by_cases hlt : k < h
    · have hki : (k : Int) < h := by omega
      have hkw : IntKind.u64.wrap (k : Int) = (k : Int) := wrapu64_nat k (by omega)
      obtain ⟨m, hm⟩ : ∃ m, m = (k * b) % 18446744073709551616 := ⟨_, rfl⟩
      have hw1 : IntKind.u64.wrap ((k : Int) * (b : Int)) = (m : Int) := by rw [hm]; simp [IntKind.wrap, IntKind.bits, IntKind.signed]
      obtain ⟨n, hn⟩ : ∃ n, n = (a + m) % 18446744073709551616 := ⟨_, rfl⟩
      have hw2 : IntKind.u64.wrap ((a : Int) + (m : Int)) = (n : Int) := by rw [hn]; simp [IntKind.wrap, IntKind.bits, IntKind.signed]
      have hnK : n = numK a b k := by rw [hn, hm]; unfold numK; rw [Nat.add_mod_mod]
      have hTw : IntKind.u64.wrap (T : Int) = (T : Int) := wrapu64_nat T (by omega)
      have hT0 : ((T : Int) == 0) = false := by rw [beq_eq_false_iff_ne]; omega
      obtain ⟨p, hp⟩ : ∃ p, p = n % T := ⟨_, rfl⟩
      have htm : Int.tmod (n : Int) (T : Int) = (p : Int) := by rw [hp]; exact (Int.ofNat_tmod n T).symm
      have hpb : p < 1048576 := by rw [hp]; have := Nat.mod_lt n (show 0 < T by omega); omega
      have HP : Hid (p = plK a b L k) := hide (by rw [hp, hnK, HTL.out]; rfl)
      clear hm hn hnK hp
      go_wp2_with (at_builtin; refine wpList_append_int rfl _ _ rfl w2.heap.size _ (plsK a b L k) rfl ?e1 wr.heap.size 1 rfl p ?e2 ?e3 ?e4 ?_)
      case e1 => exact owns_below HO.out ((Below.refl _ _).alloc (Nat.le_refl _) _)
      case e2 => exact (Blk.made _ _ _).cell 0
      case e3 => rw [plsK_len]; omega
      case e4 => have := HBe.out.size; simp; omega
      intro v' w3 HO' HB'
      have HO3 : Hid (OwnsI w3 w2.heap.size v' (plsK a b L (k + 1))) := hide (by rw [plsK_succ, ← HP.out]; exact HO'.out)
      have HBa := hide ((Below.refl w2.heap.size wr).alloc HBe.out.size (.cells #[.int .i64 (p : Int)] 3))
      have HBe3 := hide (HBe.out.trans (HBa.out.trans HB'.out))
      go_wp2
      exact ⟨⟨k + 1, v', rfl, by go_num, by omega, HO3.out, HBe3.out⟩, by simp [intOf]; omega⟩
    · have hkh : k = h := by omega
      have hki : ¬ (k : Int) < h := by omega
      have HO2 := hide HO.out
      rw [hkh] at HO2
      clear hkh
      go_wp2
      go_ret
      exact ⟨_, rfl, owns_lower HO2.out HB1.out.size, HB1.out.trans (HBe.out.mono HB1.out.size)⟩
end Go.Proofs.Ytbemmhngadpjcaa
