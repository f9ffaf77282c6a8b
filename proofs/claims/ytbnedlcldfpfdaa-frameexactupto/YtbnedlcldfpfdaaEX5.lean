/- The document's End. -/
import Derived.Test.YtbnedlcldfpfdaaEX4
import Derived.Test.YtbnedlcldfpfdaaRF4
namespace Go.Proofs.Ytbnedlcldfpfdaa
set_option linter.unusedVariables false
set_option linter.unusedSimpArgs false
open Go.RowKit Go.Sort

theorem not_ok_end {bs : List UInt8} {k : Nat} (h : plc bs k = bs.length) : ¬ okR bs k := by
  intro h2
  have := (upk_size h2).2
  rw [List.length_drop] at this
  omega
set_option maxRecDepth 20000 in
set_option maxHeartbeats 1600000 in
theorem rend_any (w : World) (v : Value) (bs : List UInt8) (hv : RdA w v bs) (hl : bs.length ≤ 140737488355000) : Calls Try.prog 29 #[v] w (EndC w bs) := by
  have HV := hide hv
  obtain ⟨ao, c, rfl, -⟩ := hv.slice
  clear hv
  go_enter Try.func29, Try.ntmps29
  go_wp2
  go_loopw [4, 5, 6, 7] (fun at_ _ _ _ wr => ∃ k : Nat, at_ = .int .i64 ((plc bs k : Nat) : Int) ∧ (∀ j, j < k → okR bs j) ∧ Below w.heap.size w wr) (fun at_ _ _ _ _ => bs.length - (intOf at_).toNat)
  case atStart => exact ⟨0, rfl, by intro j h; omega, Below.refl _ _⟩
  case round =>
    obtain ⟨k, rfl, hok, hbel⟩ := hrel
    have hple := plc_le k hok
    have HOK := hide hok
    have HBE := hide hbel
    have HU := hide (runpack_any wr _ bs (HV.out.below hbel) ((plc bs k : Nat) : Int) (by omega))
    rw [unpk_at hple] at HU
    by_cases hend : plc bs k = bs.length
    · have HE : Hid (endE bs k = 0) := hide (by unfold endE; rw [if_pos hend])
      have HN := hide (not_ok_end hend)
      have HP := hide hend
      rw [hend]
      have hki : ¬ (bs.length : Int) < bs.length := by omega
      clear hok hbel hple HU hend
      go_wp2
      go_ret2
      exact ⟨k, HOK.out, HN.out, by rw [HE.out, HP.out]; rfl, HBE.out⟩
    · have HE : Hid (endE bs k = (upk (bs.drop (plc bs k))).2.2) := hide (by unfold endE; rw [if_neg hend])
      have HST : Hid (okR bs k → plc bs (k + 1) = plc bs k + 10 + (bodyR bs k).length ∧ plc bs (k + 1) ≤ bs.length) := hide plc_step
      have HS1 : Hid (plc bs (k + 1) = plc bs k + (upk (bs.drop (plc bs k))).2.1) := hide rfl
      have HOR : Hid (okR bs k ↔ (upk (bs.drop (plc bs k))).2.2 = 0) := hide Iff.rfl
      obtain ⟨q, hq⟩ : ∃ q, q = plc bs k := ⟨_, rfl⟩
      have HQ := hide hq
      rw [← hq] at HU HE HST HS1 HOR hple hend ⊢
      obtain ⟨r, hr⟩ : ∃ r, r = upk (bs.drop q) := ⟨_, rfl⟩
      rw [← hr] at HU HE HS1 HOR
      obtain ⟨rb, rn, re⟩ := r
      dsimp only at HU HE HS1 HOR
      have hki : (q : Int) < bs.length := by omega
      clear hok hbel hq hr hend
      go_wp2_with fail
      refine HU.out.mono ?_
      rintro e w1 ⟨v1, rfl, hO1, hb1⟩
      dsimp only at hO1 ⊢
      obtain ⟨ao1, c1, rfl, -, -⟩ := hO1.slice
      have HB1 := hide (Below.step HBE.out hb1)
      clear hO1 hb1 HU HBE
      by_cases he : re = 0
      · have hst := HST.out (HOR.out.mpr he)
        rw [HS1.out] at hst
        have HN : Hid (okR bs k) := hide (HOR.out.mpr he)
        subst he
        have hqn : (q : Int) + (rn : Int) ≤ 140737488355000 := by omega
        have h0 : ((0 : Nat) : Int) = 0 := rfl
        rw [h0]
        go_wp2
        refine ⟨⟨k + 1, by rw [HS1.out]; simp, fun j hj => ?_, HB1.out⟩, by simp [intOf]; omega⟩
        rcases Nat.lt_succ_iff_lt_or_eq.mp hj with h | h
        · exact HOK.out j h
        · rw [h]; exact HN.out
      · have hei : ¬ (re : Int) = 0 := by omega
        have heb : ((re : Int) != 0) = true := by simpa using he
        have HN : Hid (¬ okR bs k) := hide (fun h => he (HOR.out.mp h))
        go_wp2
        go_ret2
        exact ⟨k, HOK.out, HN.out, by rw [HE.out, ← HQ.out]; rfl, HB1.out⟩
end Go.Proofs.Ytbnedlcldfpfdaa
