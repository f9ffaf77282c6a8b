/- The document's letters. -/
import Derived.Test.YtjcfndiceinkjabDoorON1
namespace Go.Proofs.YtjcfndiceinkjabDoor
set_option linter.unusedVariables false
set_option linter.unusedSimpArgs false
open Go.RowKit Go.Lib

theorem Blk.hid {p : Prop} (h : p) : p := h
structure HidN (p : Prop) : Prop where
  out : p
theorem hideN {p : Prop} (h : p) : HidN p := ⟨h⟩
theorem wi64 (n : Nat) (h : n ≤ 9223372036854775807) : IntKind.i64.wrap (n : Int) = (n : Int) := by
  simp [IntKind.wrap, IntKind.bits, IntKind.signed]; omega
theorem str_at (l : List UInt8) (p : Nat) (h : p < l.length) : (⟨l.toArray⟩ : ByteArray)[p]'(by simpa [ByteArray.size] using h) = l[p] := rfl
theorem allK_succ (l : List UInt8) (n : Nat) : allK l (n + 1) = (allK l n && kth l (n + 1)) := by
  unfold allK; rw [List.range_succ, List.all_append]; simp
theorem getD_drop (l : List UInt8) (i k : Nat) (h : i + k < l.length) : (l.drop i).getD k 0 = l[i + k] := by
  rw [List.getD_eq_getElem?_getD, List.getElem?_drop, List.getElem?_eq_getElem h]; rfl
theorem allK_bad (l : List UInt8) (n k : Nat) (hk1 : 1 ≤ k) (hk : k ≤ n) (h : kth l k = false) : allK l n = false := by
  unfold allK
  rw [List.all_eq_false]
  exact ⟨k - 1, List.mem_range.2 (by omega), by rw [show k - 1 + 1 = k by omega, h]; simp⟩
set_option maxRecDepth 20000 in
set_option maxHeartbeats 2000000 in
theorem letters_any (l : List UInt8) (hl : l.length ≤ 9223372036854775800) (w : World) : Calls Tryd.prog 38 #[.string ⟨l.toArray⟩] w fun e w' => e = .returned (.bool (validD l)) ∧ w' = w := by
  obtain ⟨L, hL⟩ : ∃ L, L = l.length := ⟨_, rfl⟩
  obtain ⟨ANS, hANS⟩ : ∃ ANS, ANS = validD l := ⟨_, rfl⟩
  have HM := hideN more_any
  have HLo := hideN lowest_any
  have HHi := hideN highest_any
  rw [← hANS]
  have hsz : (⟨l.toArray⟩ : ByteArray).size = L := by rw [hL]; simp [ByteArray.size]
  have HL := hideN hL
  rw [← hL] at hl
  have HA := hideN hANS
  clear hL hANS
  go_enter Tryd.func38, Tryd.ntmps38
  go_wp2
  go_loopw [3] (fun t wr => ∃ i : Nat, t = .int .i64 i ∧ i ≤ L ∧ validD (l.drop i) = ANS ∧ wr = w) (fun t _ => L - (intOf t).toNat)
  case atStart => exact ⟨0, rfl, by omega, by rw [HA.out]; rfl, rfl⟩
  case round =>
    obtain ⟨i, rfl, hi, hv, rfl⟩ := hrel
    have HV := hideN hv
    clear hv
    by_cases hlt : i < L
    · have hii : (i : Int) < (L : Int) := by omega
      have hil : i < l.length := by rw [← HL.out]; exact hlt
      have hne : l.drop i ≠ [] := by intro h; have := congrArg List.length h; rw [List.length_drop] at this; simp at this; omega
      obtain ⟨c, hc⟩ : ∃ c : Nat, c = l[i].toNat := ⟨_, rfl⟩
      have HC0 : HidN (((l.drop i).getD 0 0).toNat = c) := hideN (by rw [getD_drop l i 0 hil, hc]; rfl)
      have hgl : l[i].toNat = c := hc.symm
      have hgi : ((⟨l.toArray⟩ : ByteArray)[i]'(by rw [hsz]; exact hlt)).toNat = c := hc.symm
      have hc256 : c < 256 := by rw [hc]; exact UInt8.toNat_lt _
      clear hc
      by_cases hm : moreN c < 0
      · have HE : HidN (ANS = false) := hideN (by rw [← HV.out]; exact letters_bad _ hne (by rw [HC0.out]; exact hm))
        clear hne
        go_wp2_with fail
        refine (HM.out c _).mono ?_
        rintro e w' ⟨rfl, rfl⟩
        obtain ⟨M, hM⟩ : ∃ M, M = moreN c := ⟨_, rfl⟩
        rw [← hM] at hm ⊢
        clear hM
        go_wp2
        go_ret
        exact ⟨by rw [HE.out]; rfl, rfl⟩
      · obtain ⟨n, hn⟩ : ∃ n : Nat, moreN c = (n : Int) := ⟨(moreN c).toNat, by omega⟩
        have hn3 : n ≤ 3 := by have := more_le c; omega
        have HS := hideN (letters_step (l.drop i) hne n (by rw [HC0.out]; exact hn))
        rw [HV.out] at HS
        clear hne hm
        obtain ⟨q, hq⟩ : ∃ q, q = i + n := ⟨_, rfl⟩
        have hw1 : IntKind.i64.wrap ((i : Int) + (n : Int)) = (q : Int) := by rw [show (i : Int) + (n : Int) = (q : Int) by omega]; exact wi64 q (by omega)
        have hn0 : ¬ ((n : Int) < 0) := by omega
        have hm2 : moreN c = (n : Int) := hn
        have HN := hideN hn
        have HQ := hideN hq
        by_cases hb : L ≤ q
        · have hbi : (L : Int) ≤ (q : Int) := by omega
          have HE : HidN (ANS = false) := hideN (by
            rw [HS.out, decide_eq_false (by rw [List.length_drop, ← HL.out]; omega)]; rfl)
          clear HS hq hn hm2
          go_wp2_with fail
          refine (HM.out c _).mono ?_
          rintro e w' ⟨rfl, rfl⟩
          rw [HN.out]
          go_wp2
          go_ret
          exact ⟨by rw [HE.out]; rfl, rfl⟩
        · have hbi : ¬ (L : Int) ≤ (q : Int) := by omega
          have HS2 : HidN (ANS = (allK (l.drop i) n && validD (l.drop (i + (n + 1))))) := hideN (by
            rw [HS.out, decide_eq_true (by rw [List.length_drop, ← HL.out]; omega), Bool.true_and, List.drop_drop])
          have hq2 : q + 1 ≤ L := by omega
          clear HS hq hn hm2
          go_wp2_with fail
          refine (HM.out c _).mono ?_
          rintro e w' ⟨rfl, rfl⟩
          rw [HN.out]
          go_wp2
          go_loopw [6] (fun t wx => ∃ k : Nat, t = .int .i64 k ∧ 1 ≤ k ∧ k ≤ n + 1 ∧ allK (l.drop i) (k - 1) = true ∧ wx = w') (fun t _ => n + 1 - (intOf t).toNat)
          case atStart => exact ⟨1, rfl, by omega, by omega, rfl, rfl⟩
          case round =>
            obtain ⟨k, rfl, hk1, hkn, hK, rfl⟩ := hrel
            have HK := hideN hK
            clear hK
            by_cases hkl : k ≤ n
            · have hki : (k : Int) ≤ (n : Int) := by omega
              obtain ⟨r, hr⟩ : ∃ r, r = i + k := ⟨_, rfl⟩
              have hw2 : IntKind.i64.wrap ((i : Int) + (k : Int)) = (r : Int) := by rw [show (i : Int) + (k : Int) = (r : Int) by omega]; exact wi64 r (by omega)
              have hrL : r < L := by have := HQ.out; omega
              have hri : (r : Int) < (L : Int) := by omega
              have hrl : r < l.length := by rw [← HL.out]; exact hrL
              obtain ⟨y, hy⟩ : ∃ y : Nat, y = l[r].toNat := ⟨_, rfl⟩
              have hyl : l[r].toNat = y := hy.symm
              have hyi : ((⟨l.toArray⟩ : ByteArray)[r]'(by rw [hsz]; exact hrL)).toNat = y := hy.symm
              have hyg : ((l.drop i).getD k 0).toNat = y := by rw [getD_drop l i k (by omega), hy]; subst hr; rfl
              have HB : HidN (kth (l.drop i) k = (decide ((if k = 1 then lowN c else 128) ≤ y) && decide (y ≤ (if k = 1 then highN c else 191)))) := hideN (by unfold kth; rw [HC0.out, hyg])
              clear hy hyg hr
              by_cases h1 : k = 1
              · have h1i : ((k : Int) == 1) = true := by simp; omega
                obtain ⟨lo, hlo⟩ : ∃ lo, lo = lowN c := ⟨_, rfl⟩
                obtain ⟨hh, hhh⟩ : ∃ hh, hh = highN c := ⟨_, rfl⟩
                have HLo' := hideN (fun W => lowest_any c W)
                have HHi' := hideN (fun W => highest_any c W)
                rw [if_pos h1, if_pos h1, ← hlo, ← hhh] at HB
                rw [← hlo] at HLo'
                rw [← hhh] at HHi'
                have H1 := hideN h1
                clear hlo hhh h1
                by_cases hbad : y < lo ∨ hh < y
                · have HE : HidN (ANS = false) := hideN (by
                    rw [HS2.out, allK_bad (l.drop i) n k hk1 hkl (by rw [HB.out]; rcases hbad with h | h <;> simp <;> omega)]; rfl)
                  rcases hbad with h | h
                  · have ha : (y : Int) < (lo : Int) := by omega
                    go_wp2_with fail
                    refine (HLo'.out _).mono ?_
                    rintro e w2 ⟨rfl, hw2⟩
                    subst hw2
                    go_wp2_with fail
                    refine (HHi'.out _).mono ?_
                    rintro e w3 ⟨rfl, hw3⟩
                    subst hw3
                    go_wp2
                    go_ret
                    exact ⟨by rw [HE.out]; rfl, rfl⟩
                  · have hb0 : ¬ (hh : Int) ≥ (y : Int) := by omega
                    have hb1 : (hh : Int) < (y : Int) := by omega
                    by_cases h' : y < lo
                    · have ha : (y : Int) < (lo : Int) := by omega
                      go_wp2_with fail
                      refine (HLo'.out _).mono ?_
                      rintro e w2 ⟨rfl, hw2⟩
                      subst hw2
                      go_wp2_with fail
                      refine (HHi'.out _).mono ?_
                      rintro e w3 ⟨rfl, hw3⟩
                      subst hw3
                      go_wp2
                      go_ret
                      exact ⟨by rw [HE.out]; rfl, rfl⟩
                    · have ha : ¬ (y : Int) < (lo : Int) := by omega
                      go_wp2_with fail
                      refine (HLo'.out _).mono ?_
                      rintro e w2 ⟨rfl, hw2⟩
                      subst hw2
                      go_wp2_with fail
                      refine (HHi'.out _).mono ?_
                      rintro e w3 ⟨rfl, hw3⟩
                      subst hw3
                      go_wp2
                      go_ret
                      exact ⟨by rw [HE.out]; rfl, rfl⟩
                · have ha : ¬ (y : Int) < (lo : Int) := by omega
                  have hb1 : ¬ (hh : Int) < (y : Int) := by omega
                  have HK2 : HidN (allK (l.drop i) k = true) := hideN (by
                    rw [show k = (k - 1) + 1 by omega, allK_succ, HK.out, Bool.true_and, show k - 1 + 1 = k by omega, HB.out]; simp; omega)
                  go_wp2_with fail
                  refine (HLo'.out _).mono ?_
                  rintro e w2 ⟨rfl, hw2⟩
                  subst hw2
                  go_wp2_with fail
                  refine (HHi'.out _).mono ?_
                  rintro e w3 ⟨rfl, hw3⟩
                  subst hw3
                  go_wp2
                  exact ⟨⟨k + 1, by go_num, by omega, by omega, HK2.out, by trivial⟩, by simp [intOf]; omega⟩
              · have h1i : ¬ (k : Int) = 1 := by omega
                rw [if_neg h1, if_neg h1] at HB
                by_cases hbad : y < 128 ∨ 191 < y
                · have HE : HidN (ANS = false) := hideN (by
                    rw [HS2.out, allK_bad (l.drop i) n k hk1 hkl (by rw [HB.out]; rcases hbad with h | h <;> simp <;> omega)]; rfl)
                  by_cases h' : y < 128
                  · have ha : (y : Int) < 128 := by omega
                    go_wp2
                    go_ret
                    exact ⟨by rw [HE.out]; rfl, rfl⟩
                  · have ha : ¬ (y : Int) < 128 := by omega
                    have hb1 : (191 : Int) < (y : Int) := by omega
                    go_wp2
                    go_ret
                    exact ⟨by rw [HE.out]; rfl, rfl⟩
                · have ha : ¬ (y : Int) < 128 := by omega
                  have hb1 : ¬ (191 : Int) < (y : Int) := by omega
                  have HK2 : HidN (allK (l.drop i) k = true) := hideN (by
                    rw [show k = (k - 1) + 1 by omega, allK_succ, HK.out, Bool.true_and, show k - 1 + 1 = k by omega, HB.out]; simp; omega)
                  go_wp2
                  exact ⟨⟨k + 1, by go_num, by omega, by omega, HK2.out, by trivial⟩, by simp [intOf]; omega⟩
            · have hki : ¬ (k : Int) ≤ (n : Int) := by omega
              have HE : HidN (validD (l.drop (q + 1)) = ANS) := hideN (by
                rw [HS2.out, show n = k - 1 by omega, HK.out, Bool.true_and, HQ.out]
                congr 2; omega)
              go_wp2
              exact ⟨⟨q + 1, by go_num, by omega, HE.out, by trivial⟩, by simp [intOf]; have := HQ.out; omega⟩
    · have hii : ¬ (i : Int) < (L : Int) := by omega
      have HE : HidN (ANS = true) := hideN (by rw [← HV.out, List.drop_eq_nil_of_le (by rw [← HL.out]; omega)]; rfl)
      go_wp2
      go_ret
      exact ⟨by rw [HE.out]; rfl, rfl⟩
end Go.Proofs.YtjcfndiceinkjabDoor
