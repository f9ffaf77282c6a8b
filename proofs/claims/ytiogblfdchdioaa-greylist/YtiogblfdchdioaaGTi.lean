/- A Deque of ints: Turn. -/
import Derived.Test.YtiogblfdchdioaaGDi
namespace Go.Proofs.Ytiogblfdchdioaa
set_option linter.unusedVariables false
set_option linter.unusedSimpArgs false
namespace RI
open Go.RowKit
set_option maxRecDepth 100000

theorem RgS.step {a b c : World} {z g g' : Nat} {zT : TypeId} {M : Nat} {V : List EL} (hf : Frm a b (fun k => k = z ∨ k = g)) (hg : g' = g ∨ a.heap.size ≤ g') (k : RgS b c z g' zT M V) : RgS a c z g zT M V := by
  obtain ⟨⟨g2, h1, h2⟩, h3⟩ := k
  refine ⟨⟨g2, h1, ?_⟩, hf.trans h3 (fun i hi e => ?_)⟩
  · rcases h2 with e | e
    · rw [e]; exact hg
    · exact .inr (Nat.le_trans hf.size e)
  · rcases e with e | e
    · exact .inl e
    · rcases hg with q | q
      · exact .inr (e.trans q)
      · omega
/-- A Deque that was turned so often. -/
def turned (n : Int) (V : List EL) : List EL := rots (decide (0 < n.tmod V.length)) (n.tmod V.length).natAbs V
theorem rot_split (bot : Bool) (V : List EL) (h : 0 < V.length) : ∃ v V', V = addV bot v V' ∧ rot bot V = addV (!bot) v V' := by
  cases bot
  · have hne : V ≠ [] := fun e => by rw [e] at h; exact absurd h (by decide)
    refine ⟨V.getLast hne, V.dropLast, (List.dropLast_concat_getLast hne).symm, ?_⟩
    have e := rotT_snoc V.dropLast (V.getLast hne)
    rw [List.dropLast_concat_getLast hne] at e
    exact e
  · cases V with
    | nil => exact absurd h (by decide)
    | cons v V' => exact ⟨v, V', rfl, rfl⟩
section
variable {w : World} {z g : Nat} {M : Nat} {V : List EL}
theorem pop_any (bot : Bool) (v : EL) (h : RgAt w z g DT M (addV bot v V)) (hM : M ≤ 140737488355327) : Calls Try.prog 33 #[.pointer (some ⟨z, 0, none⟩), .bool bot] w (PopC w z g DT M v V) := by
  cases bot
  · exact popT_any v h hM
  · exact popB_any v h hM
theorem turn_any (h : RgAt w z g DT M V) (hV : V.length ≤ M) (hB : EB * (2 * M + 1) ≤ 281474976710656) (n : Int) : Calls Try.prog 13 #[.pointer (some ⟨z, 0, none⟩), .int .i64 n] w (PushC w z g DT M (turned n V)) := by
  have HL := hide (len_any h)
  have hM47 : M ≤ 140737488355327 := by simp only [EB] at hB; omega
  obtain ⟨c, hc⟩ : ∃ c, c = V.length := ⟨_, rfl⟩
  rw [← hc] at HL hV
  have HB := hide hB
  have HM := hide hM47
  have hc47 : c ≤ 140737488355327 := by omega
  have HV := hide hV
  have HC := hide hc
  have HH := hide h
  by_cases h0 : c = 0
  · have hV0 : V = [] := List.eq_nil_of_length_eq_zero (by omega)
    subst hV0
    have HT : Hid (turned n ([] : List EL) = []) := hide (List.eq_nil_of_length_eq_zero (by unfold turned; rw [rots_len]; rfl))
    subst h0
    rw [show ((0 : Nat) : Int) = 0 from rfl] at HL
    clear h hB hM47 hV hc hc47
    go_enter Try.func13, Try.ntmps13
    go_wp2_with (go_at_call 14; (with_reducible refine HL.out.mono ?_); rintro e w' ⟨rfl, hw⟩; rw [hw]; clear hw)
    go_returns
    refine ⟨rfl, ?_⟩
    rw [HT.out]
    exact ⟨⟨g, HH.out, .inl rfl⟩, Frm.refl _ _⟩
  · obtain ⟨S, b, hz, _, _, _⟩ := h.ex
    obtain ⟨d0, d1, d2, d3⟩ := cells3 hz
    have hzl := hz.lt
    rw [← hc] at d2
    have hci : (c : Int) ≠ 0 := by omega
    have hcb : ((c : Int) == 0) = false := beq_eq_false_iff_ne.2 hci
    obtain ⟨r, hr⟩ : ∃ r, r = n.tmod (c : Int) := ⟨_, rfl⟩
    have hr1 : r.natAbs < c := by
      rw [hr]
      have := Int.natAbs_tmod n (c : Int)
      rw [this, Int.natAbs_natCast]
      exact Nat.mod_lt _ (by omega)
    have HT : Hid (turned n V = rots (decide (0 < r)) r.natAbs V) := hide (by unfold turned; rw [← hc, ← hr])
    have htm := hr.symm
    clear h hB hM47 hV hc hz h0 hr
    by_cases hpos : 0 < r
    · skip
      obtain ⟨k, rfl⟩ : ∃ k : Nat, r = k := ⟨r.toNat, by omega⟩
      have HT2 : Hid (turned n V = rots true k V) := hide (by rw [HT.out, decide_eq_true hpos, Int.natAbs_natCast])
      have hk : k < c := by omega
      have hpn : 0 < k := by omega
      have hk2 : -(k : Int) ≤ k := by omega
      have hk3 : (k : Int) ≤ 140737488355327 := by omega
      clear hr1 HT
      go_enter Try.func13, Try.ntmps13
      go_upto_region 4 with (go_at_call 14; (with_reducible refine HL.out.mono ?_); rintro e w' ⟨rfl, hw⟩; rw [hw]; clear hw)
      clear d0 d1 d2 d3 HL htm hcb hci
      go_loopw [23] (fun t wr => ∃ j : Nat, t = .int .i64 j ∧ j ≤ k ∧ RgS w wr z g DT M (rots true j V)) (fun t _ => k - (intOf t).toNat)
      case atStart => exact ⟨0, rfl, Nat.zero_le _, ⟨⟨g, HH.out, .inl rfl⟩, Frm.refl _ _⟩⟩
      case round =>
        obtain ⟨j, rfl, hj, hS⟩ := hrel
        by_cases hlt : j < k
        · have hji : (j : Int) < (k : Int) := by omega
          obtain ⟨⟨g1, hR, hg1⟩, hF⟩ := hS
          have hlen : (rots true j V).length = c := by rw [rots_len, HC.out]
          obtain ⟨v, V', e1, e2⟩ := rot_split true (rots true j V) (by omega)
          have hl' : V'.length + 1 = c := by rw [← hlen, e1, addV_len]
          have hlM : V'.length ≤ M := by have := HV.out; omega
          rw [e1] at hR
          have HP := hide (pop_any true v hR HM.out)
          have HQ : Hid (∀ W g2, RgAt W z g2 DT M V' → Calls Try.prog 32 #[.pointer (some ⟨z, 0, none⟩), .bool false, elV v] W (PushC W z g2 DT M (addV false v V'))) := hide (fun W g2 q => push_any q hlM HB.out false v)
          have HE : Hid (rots true (j + 1) V = addV false v V') := hide (by rw [rots_succ', e2]; rfl)
          have HG1 := hide hg1
          have HF := hide hF
          clear hR hlen e1 e2 hl' hlM hg1 hF
          go_wp2_with (first | (go_at_call 33; (with_reducible refine HP.out.mono ?_); rintro e w2 ⟨rfl, ⟨g2, h1, h2⟩, h3⟩; have H1 := hide h1; have H2 := hide h2; have H3 := hide h3; have HQ2 := hide (HQ.out w2 g2 h1); clear h1 h2 h3) | (go_at_call 32; (with_reducible refine HQ2.out.mono ?_); rintro e w3 ⟨rfl, h4⟩; have H4 := hide h4; clear h4))
          go_roundw
          case rel =>
            have s1 := RgS.step H3.out H2.out H4.out
            have s2 := RgS.step HF.out HG1.out s1
            rw [← HE.out] at s2
            exact ⟨j + 1, by go_num, by omega, s2⟩
          case measure => simp [intOf]; omega
        · have hji : ¬ (j : Int) < (k : Int) := by omega
          obtain rfl : j = k := by omega
          have HS := hide hS
          clear hS
          go_wp2
          go_returns
          refine ⟨rfl, ?_⟩
          rw [HT2.out]
          exact HS.out
    · by_cases hneg : r < 0
      · skip
        obtain ⟨k, rfl⟩ : ∃ k : Nat, r = -(k : Int) := ⟨(-r).toNat, by omega⟩
        have HT2 : Hid (turned n V = rots false k V) := hide (by rw [HT.out, decide_eq_false hpos, Int.natAbs_neg, Int.natAbs_natCast])
        have hk : k < c := by omega
        have hk2 : -(k : Int) ≤ k := by omega
        have hk3 : (k : Int) ≤ 140737488355327 := by omega
        have hk4 : -(-(k : Int)) = k := by omega
        have hk5 : ¬ (k : Int) ≤ -(k : Int) := by omega
        have hk6 : decide ((k : Int) < 0) = false := decide_eq_false (by omega)
        clear hr1 HT
        go_enter Try.func13, Try.ntmps13
        go_upto_region 4 with (go_at_call 14; (with_reducible refine HL.out.mono ?_); rintro e w' ⟨rfl, hw⟩; rw [hw]; clear hw)
        clear d0 d1 d2 d3 HL htm hcb hci
        go_loopw [23] (fun t wr => ∃ j : Nat, t = .int .i64 j ∧ j ≤ k ∧ RgS w wr z g DT M (rots false j V)) (fun t _ => k - (intOf t).toNat)
        case atStart => exact ⟨0, rfl, Nat.zero_le _, ⟨⟨g, HH.out, .inl rfl⟩, Frm.refl _ _⟩⟩
        case round =>
          obtain ⟨j, rfl, hj, hS⟩ := hrel
          by_cases hlt : j < k
          · have hji : (j : Int) < (k : Int) := by omega
            obtain ⟨⟨g1, hR, hg1⟩, hF⟩ := hS
            have hlen : (rots false j V).length = c := by rw [rots_len, HC.out]
            obtain ⟨v, V', e1, e2⟩ := rot_split false (rots false j V) (by omega)
            have hl' : V'.length + 1 = c := by rw [← hlen, e1, addV_len]
            have hlM : V'.length ≤ M := by have := HV.out; omega
            rw [e1] at hR
            have HP := hide (pop_any false v hR HM.out)
            have HQ : Hid (∀ W g2, RgAt W z g2 DT M V' → Calls Try.prog 32 #[.pointer (some ⟨z, 0, none⟩), .bool true, elV v] W (PushC W z g2 DT M (addV true v V'))) := hide (fun W g2 q => push_any q hlM HB.out true v)
            have HE : Hid (rots false (j + 1) V = addV true v V') := hide (by rw [rots_succ', e2]; rfl)
            have HG1 := hide hg1
            have HF := hide hF
            clear hR hlen e1 e2 hl' hlM hg1 hF
            go_wp2_with (first | (go_at_call 33; (with_reducible refine HP.out.mono ?_); rintro e w2 ⟨rfl, ⟨g2, h1, h2⟩, h3⟩; have H1 := hide h1; have H2 := hide h2; have H3 := hide h3; have HQ2 := hide (HQ.out w2 g2 h1); clear h1 h2 h3) | (go_at_call 32; (with_reducible refine HQ2.out.mono ?_); rintro e w3 ⟨rfl, h4⟩; have H4 := hide h4; clear h4))
            go_roundw
            case rel =>
              have s1 := RgS.step H3.out H2.out H4.out
              have s2 := RgS.step HF.out HG1.out s1
              rw [← HE.out] at s2
              exact ⟨j + 1, by go_num, by omega, s2⟩
            case measure => simp [intOf]; omega
          · have hji : ¬ (j : Int) < (k : Int) := by omega
            obtain rfl : j = k := by omega
            have HS := hide hS
            clear hS
            go_wp2
            go_returns
            refine ⟨rfl, ?_⟩
            rw [HT2.out]
            exact HS.out
      · skip
        obtain rfl : r = 0 := by omega
        have HT2 : Hid (turned n V = V) := hide (by rw [HT.out]; rfl)
        clear hr1 HT
        go_enter Try.func13, Try.ntmps13
        go_upto_region 4 with (go_at_call 14; (with_reducible refine HL.out.mono ?_); rintro e w' ⟨rfl, hw⟩; rw [hw]; clear hw)
        clear d0 d1 d2 d3 HL htm hcb hci
        go_loopw [23] (fun t wr => ∃ j : Nat, t = .int .i64 j ∧ j ≤ 0 ∧ wr = w) (fun t _ => 0 - (intOf t).toNat)
        case atStart => exact ⟨0, rfl, Nat.le_refl _, rfl⟩
        case round =>
          obtain ⟨j, rfl, hj, rfl⟩ := hrel
          obtain rfl : j = 0 := by omega
          rw [show ((0 : Nat) : Int) = 0 from rfl]
          go_wp2
          go_returns
          refine ⟨rfl, ?_⟩
          rw [HT2.out]
          exact ⟨⟨g, HH.out, .inl rfl⟩, Frm.refl _ _⟩
end
end RI
end Go.Proofs.Ytiogblfdchdioaa
