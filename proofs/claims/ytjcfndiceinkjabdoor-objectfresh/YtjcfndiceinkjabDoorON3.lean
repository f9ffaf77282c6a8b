/- The document's names. -/
import Derived.Test.YtjcfndiceinkjabDoorON2
namespace Go.Proofs.YtjcfndiceinkjabDoor
set_option linter.unusedVariables false
set_option linter.unusedSimpArgs false
open Go.RowKit Go.Lib

theorem any_take_succ (l : List UInt8) (i : Nat) (h : i < l.length) : (l.take (i + 1)).any badB = ((l.take i).any badB || badB l[i]) := by
  rw [List.take_succ_eq_append_getElem h, List.any_append]; simp
theorem any_of_take (l : List UInt8) (i : Nat) (h : (l.take i).any badB = true) : l.any badB = true := by
  rw [List.any_eq_true] at h ⊢
  obtain ⟨x, hx, hb⟩ := h
  exact ⟨x, List.mem_of_mem_take hx, hb⟩
set_option maxRecDepth 20000 in
set_option maxHeartbeats 2000000 in
theorem named_any (l : List UInt8) (hl : l.length ≤ 9223372036854775800) (w : World) : Calls Tryd.prog 69 #[.string ⟨l.toArray⟩] w fun e w' => e = .returned (.bool (nameL l)) ∧ w' = w := by
  have HLt := hideN (letters_any l hl)
  obtain ⟨L, hL⟩ : ∃ L, L = l.length := ⟨_, rfl⟩
  obtain ⟨V, hV⟩ : ∃ V, V = validD l := ⟨_, rfl⟩
  obtain ⟨d1, hd1⟩ : ∃ d, d = (l == [46]) := ⟨_, rfl⟩
  obtain ⟨d2, hd2⟩ : ∃ d, d = (l == [46, 46]) := ⟨_, rfl⟩
  obtain ⟨B, hB⟩ : ∃ d, d = l.any badB := ⟨_, rfl⟩
  have HNm : HidN (nameL l = (decide (1 ≤ L) && decide (L ≤ 64) && !d1 && !d2 && V && !B)) := hideN (by unfold nameL; rw [hL, hV, hd1, hd2, hB])
  rw [HNm.out]
  have hs1 : (l == [46]) = d1 := hd1.symm
  have hs2 : (l == [46, 46]) = d2 := hd2.symm
  rw [← hV] at HLt
  have hsz : (⟨l.toArray⟩ : ByteArray).size = L := by rw [hL]; simp [ByteArray.size]
  have HL := hideN hL
  have HB := hideN hB
  rw [← hL] at hl
  clear hL hV hd1 hd2 HNm hB
  by_cases h1 : L < 1
  · have a1 : (L : Int) < 1 := by omega
    rw [show decide (1 ≤ L) = false from decide_eq_false (by omega)]
    go_enter Tryd.func69, Tryd.ntmps69
    go_wp2
    go_ret
    exact ⟨rfl, rfl⟩
  have a1 : ¬ (L : Int) < 1 := by omega
  rw [show decide (1 ≤ L) = true from decide_eq_true (by omega)]
  by_cases h2 : 64 < L
  · have a2 : (64 : Int) < (L : Int) := by omega
    rw [show decide (L ≤ 64) = false from decide_eq_false (by omega)]
    go_enter Tryd.func69, Tryd.ntmps69
    go_wp2
    go_ret
    exact ⟨rfl, rfl⟩
  have a2 : ¬ (64 : Int) < (L : Int) := by omega
  rw [show decide (L ≤ 64) = true from decide_eq_true (by omega)]
  cases d1 with
  | true =>
    go_enter Tryd.func69, Tryd.ntmps69
    go_wp2
    go_ret
    exact ⟨rfl, rfl⟩
  | false =>
    cases d2 with
    | true =>
      go_enter Tryd.func69, Tryd.ntmps69
      go_wp2
      go_ret
      exact ⟨rfl, rfl⟩
    | false =>
      go_enter Tryd.func69, Tryd.ntmps69
      go_wp2
      go_loopw [3] (fun t wr => ∃ i : Nat, t = .int .i64 i ∧ i ≤ L ∧ (l.take i).any badB = false ∧ wr = w) (fun t _ => L - (intOf t).toNat)
      case atStart => exact ⟨0, rfl, by omega, rfl, rfl⟩
      case round =>
        obtain ⟨i, rfl, hi, hv, hw⟩ := hrel
        subst hw
        have HV := hideN hv
        clear hv
        by_cases hlt : i < L
        · have hii : (i : Int) < (L : Int) := by omega
          have hil : i < l.length := by rw [← HL.out]; exact hlt
          have HT := hideN (any_take_succ l i hil)
          rw [HV.out, Bool.false_or] at HT
          obtain ⟨c, hc⟩ : ∃ c : Nat, c = l[i].toNat := ⟨_, rfl⟩
          have hgl : l[i].toNat = c := hc.symm
          have hgi : ((⟨l.toArray⟩ : ByteArray)[i]'(by rw [hsz]; exact hlt)).toNat = c := hc.symm
          have HBd : HidN (badB l[i] = (decide (c = 47) || decide (c = 0))) := hideN (by
            unfold badB
            rw [hc]
            have e1 : (l[i] == 47) = decide (l[i].toNat = 47) := by
              rw [Bool.eq_iff_iff]; simp [← UInt8.toNat_inj]
            have e2 : (l[i] == 0) = decide (l[i].toNat = 0) := by
              rw [Bool.eq_iff_iff]; simp [← UInt8.toNat_inj]
            rw [e1, e2])
          clear hc
          by_cases h3 : c = 47
          · have b1 : ((c : Int) == 47) = true := by simp; omega
            have HE : HidN (B = true) := hideN (by rw [HB.out]; exact any_of_take l (i + 1) (by rw [HT.out, HBd.out, decide_eq_true h3]; rfl))
            clear h3
            go_wp2
            go_ret
            exact ⟨by rw [HE.out]; cases V <;> rfl, rfl⟩
          · have b1 : ((c : Int) == 47) = false := by simp; omega
            by_cases h4 : c = 0
            · have b2 : ((c : Int) == 0) = true := by simp; omega
              have HE : HidN (B = true) := hideN (by rw [HB.out]; exact any_of_take l (i + 1) (by rw [HT.out, HBd.out, decide_eq_true h4]; simp))
              clear h3 h4
              go_wp2
              go_ret
              exact ⟨by rw [HE.out]; cases V <;> rfl, rfl⟩
            · have b2 : ((c : Int) == 0) = false := by simp; omega
              have HE : HidN ((l.take (i + 1)).any badB = false) := hideN (by rw [HT.out, HBd.out, decide_eq_false h3, decide_eq_false h4]; rfl)
              clear h3 h4
              go_wp2
              exact ⟨⟨i + 1, by go_num, by omega, HE.out, by trivial⟩, by simp [intOf]; omega⟩
        · have hii : ¬ (i : Int) < (L : Int) := by omega
          have HE : HidN (B = false) := hideN (by rw [HB.out, ← HV.out, List.take_of_length_le (by rw [← HL.out]; omega)])
          go_wp2_with fail
          refine (HLt.out _).mono ?_
          rintro e w2 ⟨rfl, hw2⟩
          subst hw2
          go_wp2
          go_ret
          exact ⟨by rw [HE.out]; cases V <;> rfl, rfl⟩
end Go.Proofs.YtjcfndiceinkjabDoor
