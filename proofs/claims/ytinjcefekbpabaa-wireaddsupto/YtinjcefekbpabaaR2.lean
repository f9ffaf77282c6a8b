/- The document's Var. -/
import Derived.Test.YtinjcefekbpabaaR1
namespace Go.Proofs.Ytinjcefekbpabaa
set_option linter.unusedVariables false
set_option linter.unusedSimpArgs false
open Go.RowKit

theorem add_step (x t k q : Nat) (hq : 128 ^ k = q) (hx : x < 128 ^ k) (hk : k ≤ 9) (h9 : k = 9 → t ≤ 1) :
    IntKind.u64.wrap ((x : Int) + IntKind.u64.wrap ((t : Int) % 128 * (q : Int))) = ((x + t % 128 * 128 ^ k : Nat) : Int) := by
  subst hq
  have hb := mul_bound t k hk h9
  have hs : x + t % 128 * 128 ^ k < 18446744073709551616 := by
    by_cases h : k = 9
    · have h1 := h9 h
      subst h
      have h3 : t % 128 ≤ 1 := by omega
      have h4 : t % 128 * 128 ^ 9 ≤ 1 * 128 ^ 9 := Nat.mul_le_mul_right _ h3
      have h5 : (128 : Nat) ^ 9 = 9223372036854775808 := by decide
      omega
    · have h1 := step_lt x t k hx
      have h2 := pow_le9 (k + 1) (by omega)
      omega
  rw [IntKind.wrap_u64, IntKind.wrap_u64]
  have e1 : (t : Int) % 128 * ((128 ^ k : Nat) : Int) = ((t % 128 * 128 ^ k : Nat) : Int) := by rw [Int.natCast_mul]; congr 1
  rw [e1]
  omega
theorem scale_step (k q : Nat) (hq : 128 ^ k = q) (hk : k ≤ 8) : IntKind.u64.wrap ((q : Int) * 128) = ((128 ^ (k + 1) : Nat) : Int) := by
  subst hq
  have h2 := pow_le9 (k + 1) (by omega)
  rw [IntKind.wrap_u64, Nat.pow_succ]
  rw [Nat.pow_succ] at h2
  omega

def RVarC (w : World) (y : Nat) (rv : Value) (bs : List UInt8) (r : Nat × Bool × S) (e : Ending) (w' : World) : Prop :=
  e = .returned (.int .u64 r.1) ∧ RefSt w' y rv bs r.2.2 ∧ w.grownBy w' (some y)

theorem RBts.byte {w : World} {y : Nat} {rv : Value} {bs : List UInt8} (h : RBts w y rv bs) (i : Nat) (hi : i < bs.length) : ∃ b cap, rv = .slice (some ⟨b, 0, none⟩) bs.length cap ∧ w.cell? ⟨b, i, none⟩ = some (u8c bs[i]) := by
  obtain ⟨h0, ⟨_, rfl⟩ | ⟨b, cap, cur, e, _, _, _, hB, ht⟩⟩ := h
  · simp at hi
  · refine ⟨b, cap, e, ?_⟩
    rw [hB.cell, ← Array.getElem?_toList]
    have : (cur.toList.take bs.length)[i]? = some (u8c bs[i]) := by rw [ht]; simp [List.getElem?_eq_getElem hi]
    rwa [List.getElem?_take_of_lt hi] at this

theorem rvar_stopped (w : World) (y : Nat) (rv : Value) (bs : List UInt8) (s : S) (most : Nat) (h : RefSt w y rv bs s) (hc : s.code ≠ 0) :
    Calls Try.prog 58 #[.pointer (some ⟨y, 0, none⟩), .int .u64 most] w (RVarC w y rv bs (mNum bs s most)) := by
  have HM := hide (show mNum bs s most = (0, false, s) by rw [mNum, if_pos hc])
  have c2 := Blk.cell h.2.2 2
  have hd : decide (s.code ≠ 0) = true := by simp [hc]
  rw [hd] at c2
  clear hc
  go_enter Try.func58, Try.ntmps58
  go_wp2
  go_ret
  rw [HM.out]
  exact ⟨rfl, h, World.grownBy.refl _ _⟩

set_option maxRecDepth 20000 in
set_option maxHeartbeats 4000000 in
theorem rvar_go (w : World) (y : Nat) (rv : Value) (bs : List UInt8) (s : S) (most : Nat) (h : RefSt w y rv bs s) (hc : s.code = 0) :
    Calls Try.prog 58 #[.pointer (some ⟨y, 0, none⟩), .int .u64 most] w (RVarC w y rv bs (mNum bs s most)) := by
  have HM := hide (show mNum bs s most = _ by rw [mNum, if_neg (by omega)])
  have HC := hide hc
  have c0 := Blk.cell h.2.2 0
  have c1 := Blk.cell h.2.2 1
  have c2 := Blk.cell h.2.2 2
  have f1 := Blk.frozen h.2.2 1
  have hd : decide (s.code ≠ 0) = false := by simp [hc]
  rw [hd] at c2
  clear hc
  obtain ⟨ao, cap, rfl⟩ := h.1.form
  have hm : bs.length ≤ 9223372036854775807 := h.1.1
  have hp := h.2.1
  generalize mNum bs s most = r at HM ⊢
  go_enter Try.func58, Try.ntmps58
  go_wp2
  go_loopw [5, 6, 7] (fun v q i wr => ∃ k x m : Nat, i = .int .i64 k ∧ k ≤ 9 ∧ v = .int .u64 x ∧ q = .int .u64 (128 ^ k : Nat) ∧ x < 128 ^ k ∧ s.p + k ≤ bs.length ∧ wr = w.drewN m ∧ firstGo 0 0 (bs.drop s.p) = firstGo x k (bs.drop (s.p + k))) (fun _ _ i _ => 10 - (intOf i).toNat)
  case atStart => exact ⟨0, 0, 0, rfl, by omega, rfl, rfl, by decide, hp, rfl, rfl⟩
  case round =>
    obtain ⟨k, x, m, rfl, hk, rfl, rfl, hx, hpk, rfl, hf⟩ := hrel
    have HF := hide hf
    have HX := hide hx
    clear hf hx
    generalize hq : 128 ^ k = q
    have HQ := hide hq
    clear hq
    by_cases hlt : s.p + k < bs.length
    · obtain ⟨b, cap', e, hb⟩ := h.1.byte (s.p + k) hlt
      obtain ⟨rfl, rfl⟩ : ao = some ⟨b, 0, none⟩ ∧ cap = cap' := by cases e; exact ⟨rfl, rfl⟩
      clear e
      obtain ⟨u, hu⟩ : ∃ u, u = bs[s.p + k] := ⟨_, rfl⟩
      rw [← hu] at hb
      have HD : Hid (bs.drop (s.p + k) = u :: bs.drop (s.p + k + 1)) := by rw [hu]; exact List.drop_eq_getElem_cons hlt
      have hub : u.toNat < 256 := u.toNat_lt
      clear hu
      unfold u8c at hb
      obtain ⟨t, ht⟩ : ∃ t, t = u.toNat := ⟨_, rfl⟩
      rw [← ht] at hb hub
      have HT := hide ht
      clear ht
      go_wp2_with fail
      go_quiet (fail)
      go_wp2_with fail
      go_quiet (fail)
      by_cases hk9 : k = 9
      · subst hk9
        by_cases h1 : 1 < t
        · have h1i : (1 : Int) < (t : Int) := by omega
          go_wp2_with fail
          refine (rstop_go _ y _ bs s s.p 11 (by decide) (h.drewN _)).mono ?_
          rintro e w1 ⟨rfl, hd1, hg1⟩
          go_wp2
          go_ret
          have e1 : firstGo 0 0 (bs.drop s.p) = (0, 0, 11) := by rw [HF.out, HD.out]; exact first_form9 x u _ 9 rfl (by rw [← HT.out]; exact h1)
          have e2 : r = (0, false, { s with fat := s.p, code := 11 }) := by rw [HM.out, e1]; rfl
          rw [e2]
          exact ⟨rfl, hd1, grownBy_trans (grownBy_drewN _ _ _) hg1⟩
        · have h1i : (t : Int) ≤ 1 := by omega
          have h9' : 9 = 9 → t ≤ 1 := fun _ => by omega
          have hadd := add_step x t 9 q HQ.out HX.out (by omega) h9'
          by_cases h0 : t = 0
          · have h0i : ((t : Int) == 0) = true := by rw [beq_iff_eq]; omega
            go_wp2_with fail
            refine (rstop_go _ y _ bs s s.p 11 (by decide) (h.drewN _)).mono ?_
            rintro e w1 ⟨rfl, hd1, hg1⟩
            go_wp2
            go_ret
            have e1 : firstGo 0 0 (bs.drop s.p) = (0, 0, 11) := by rw [HF.out, HD.out]; exact first_form0 x u _ 9 (fun _ => by rw [← HT.out]; omega) (by rw [← HT.out]; exact h0) (by omega)
            have e2 : r = (0, false, { s with fat := s.p, code := 11 }) := by rw [HM.out, e1]; rfl
            rw [e2]
            exact ⟨rfl, hd1, grownBy_trans (grownBy_drewN _ _ _) hg1⟩
          · have h0i : ((t : Int) == 0) = false := by rw [beq_eq_false_iff_ne]; omega
            obtain ⟨x', hx'⟩ : ∃ x', x' = x + t % 128 * 128 ^ 9 := ⟨_, rfl⟩
            rw [← hx'] at hadd
            have HX' := hide hx'
            clear hx'
            by_cases hmost : most < x'
            · have hgt : (most : Int) < (x' : Int) := by omega
              go_wp2_with fail
              refine (rstop_go _ y _ bs s s.p 12 (by decide) (h.drewN _)).mono ?_
              rintro e w1 ⟨rfl, hd1, hg1⟩
              go_wp2
              go_ret
              have e1 : firstGo 0 0 (bs.drop s.p) = (x', 9 + 1, 0) := by rw [HF.out, HD.out, HX'.out, HT.out]; exact first_end x u _ 9 (fun _ => by rw [← HT.out]; omega) (by rw [← HT.out]; omega) (by rw [← HT.out]; omega)
              have e2 : r = (0, false, { s with fat := s.p, code := 12 }) := by rw [HM.out, e1]; simp [hmost]
              rw [e2]
              exact ⟨rfl, hd1, grownBy_trans (grownBy_drewN _ _ _) hg1⟩
            · have hgt : (x' : Int) ≤ (most : Int) := by omega
              go_wp2
              go_ret
              have e1 : firstGo 0 0 (bs.drop s.p) = (x', 9 + 1, 0) := by rw [HF.out, HD.out, HX'.out, HT.out]; exact first_end x u _ 9 (fun _ => by rw [← HT.out]; omega) (by rw [← HT.out]; omega) (by rw [← HT.out]; omega)
              have e2 : r = (x', true, { s with p := s.p + (9 + 1) }) := by rw [HM.out, e1]; simp [hmost]
              rw [e2]
              have hg1 := fun m => grownBy_trans (grownBy_drewN w m (some y)) (grownBy_set (w.drewN m) y 1 (.int .i64 ((s.p + (9 + 1) : Nat) : Int)))
              refine ⟨rfl, ⟨(h.1.self (hg1 _)), by simp; omega, Blk.set (Blk.drewN h.2.2 _) 1 (.int .i64 ((s.p + (9 + 1) : Nat) : Int))⟩, hg1 _⟩
      · have h9f : ((k : Int) == 9) = false := by rw [beq_eq_false_iff_ne]; omega
        have h9' : k = 9 → t ≤ 1 := fun e => absurd e hk9
        have hadd := add_step x t k q HQ.out HX.out hk h9'
        by_cases h128 : t < 128
        · have hlt128 : (t : Int) < 128 := by omega
          by_cases h0 : t = 0
          · have h0i : ((t : Int) == 0) = true := by rw [beq_iff_eq]; omega
            by_cases hk0 : 0 < k
            · go_wp2_with fail
              refine (rstop_go _ y _ bs s s.p 11 (by decide) (h.drewN _)).mono ?_
              rintro e w1 ⟨rfl, hd1, hg1⟩
              go_wp2
              go_ret
              have e1 : firstGo 0 0 (bs.drop s.p) = (0, 0, 11) := by rw [HF.out, HD.out]; exact first_form0 x u _ k (fun e => absurd e hk9) (by rw [← HT.out]; exact h0) hk0
              have e2 : r = (0, false, { s with fat := s.p, code := 11 }) := by rw [HM.out, e1]; rfl
              rw [e2]
              exact ⟨rfl, hd1, grownBy_trans (grownBy_drewN _ _ _) hg1⟩
            · obtain rfl : k = 0 := by omega
              obtain rfl : x = 0 := by have := HX.out; simp at this; omega
              clear h0i hadd
              subst h0
              go_wp2
              go_ret
              have e1 : firstGo 0 0 (bs.drop s.p) = (0, 0 + 1, 0) := by rw [HF.out, HD.out, first_end 0 u _ 0 (fun e => absurd e (by decide)) (by rw [← HT.out]; omega) (by rw [← HT.out]; omega), ← HT.out]
              have e2 : r = (0, true, { s with p := s.p + 1 }) := by rw [HM.out, e1]; simp
              rw [e2]
              have hg1 := fun m => grownBy_trans (grownBy_drewN w m (some y)) (grownBy_set (w.drewN m) y 1 (.int .i64 ((s.p + 1 : Nat) : Int)))
              refine ⟨rfl, ⟨(h.1.self (hg1 _)), by simp; omega, Blk.set (Blk.drewN h.2.2 _) 1 (.int .i64 ((s.p + 1 : Nat) : Int))⟩, hg1 _⟩
          · have h0i : ((t : Int) == 0) = false := by rw [beq_eq_false_iff_ne]; omega
            obtain ⟨x', hx'⟩ : ∃ x', x' = x + t % 128 * 128 ^ k := ⟨_, rfl⟩
            rw [← hx'] at hadd
            have HX' := hide hx'
            clear hx'
            by_cases hmost : most < x'
            · have hgt : (most : Int) < (x' : Int) := by omega
              go_wp2_with fail
              refine (rstop_go _ y _ bs s s.p 12 (by decide) (h.drewN _)).mono ?_
              rintro e w1 ⟨rfl, hd1, hg1⟩
              go_wp2
              go_ret
              have e1 : firstGo 0 0 (bs.drop s.p) = (x', k + 1, 0) := by rw [HF.out, HD.out, HX'.out, HT.out]; exact first_end x u _ k (fun e => absurd e hk9) (by rw [← HT.out]; omega) (by rw [← HT.out]; omega)
              have e2 : r = (0, false, { s with fat := s.p, code := 12 }) := by rw [HM.out, e1]; simp [hmost]
              rw [e2]
              exact ⟨rfl, hd1, grownBy_trans (grownBy_drewN _ _ _) hg1⟩
            · have hgt : (x' : Int) ≤ (most : Int) := by omega
              go_wp2
              go_ret
              have e1 : firstGo 0 0 (bs.drop s.p) = (x', k + 1, 0) := by rw [HF.out, HD.out, HX'.out, HT.out]; exact first_end x u _ k (fun e => absurd e hk9) (by rw [← HT.out]; omega) (by rw [← HT.out]; omega)
              have e2 : r = (x', true, { s with p := s.p + (k + 1) }) := by rw [HM.out, e1]; simp [hmost]
              rw [e2]
              have hg1 := fun m => grownBy_trans (grownBy_drewN w m (some y)) (grownBy_set (w.drewN m) y 1 (.int .i64 ((s.p + (k + 1) : Nat) : Int)))
              refine ⟨rfl, ⟨(h.1.self (hg1 _)), by simp; omega, Blk.set (Blk.drewN h.2.2 _) 1 (.int .i64 ((s.p + (k + 1) : Nat) : Int))⟩, hg1 _⟩
        · have hge : (128 : Int) ≤ (t : Int) := by omega
          go_wp2_with fail
          go_roundw
          case rel =>
            refine ⟨k + 1, x + t % 128 * 128 ^ k, m + _ + _, by go_num, by omega, rfl, by rw [scale_step k q HQ.out (by omega)], step_lt x t k HX.out, by omega, rfl, ?_⟩
            rw [HF.out, HD.out, HT.out]
            exact first_more x u _ k (by omega) (by rw [← HT.out]; omega)
          case measure => simp [intOf]; omega
    · go_wp2_with fail
      go_quiet (fail)
      have hge : (bs.length : Int) ≤ (s.p : Int) + (k : Int) := by omega
      go_wp2_with fail
      refine (rstop_go _ y _ bs s s.p 10 (by decide) (h.drewN _)).mono ?_
      rintro e w1 ⟨rfl, hd1, hg1⟩
      go_wp2
      go_ret
      have e1 : firstGo 0 0 (bs.drop s.p) = (0, 0, 10) := by rw [HF.out, List.drop_eq_nil_of_le (by omega)]; rfl
      have e2 : r = (0, false, { s with fat := s.p, code := 10 }) := by rw [HM.out, e1]; rfl
      rw [e2]
      exact ⟨rfl, hd1, grownBy_trans (grownBy_drewN _ _ _) hg1⟩
end Go.Proofs.Ytinjcefekbpabaa
