/- The document's Dec in memory: stop, Place, Left, End. -/
import Derived.Test.YtjcfndiceinkjaaDoorYbm
import Derived.Deep.RegionLawGrows
namespace Go.Proofs.YtjcfndiceinkjaaDoor
set_option linter.unusedVariables false
set_option linter.unusedSimpArgs false
set_option maxRecDepth 100000
open Go.RowKit

/-- The bytes of the document's Dec. -/
def RBts (w : World) (y : Nat) (rv : Value) (bs : List UInt8) : Prop :=
  bs.length ≤ maxLen ∧ ((rv = .slice none 0 0 ∧ bs = []) ∨ ∃ b cap cur, rv = .slice (some ⟨b, 0, none⟩) bs.length cap ∧ bs.length ≤ cap ∧ cap ≤ maxLen ∧ b ≠ y ∧ Blk w b cur 5 ∧ cur.toList.take bs.length = bs.map u8c)
def RefAt (w : World) (y : Nat) (rv : Value) (s : S) : Prop :=
  Blk w y #[rv, .int .i64 s.p, .bool (decide (s.code ≠ 0)), .int .i64 s.fat, .int .i64 s.code] 116
def RefSt (w : World) (y : Nat) (rv : Value) (bs : List UInt8) (s : S) : Prop :=
  RBts w y rv bs ∧ s.p ≤ bs.length ∧ RefAt w y rv s

theorem RBts.grown {w w' : World} {y : Nat} {rv : Value} {bs : List UInt8} (h : RBts w y rv bs) {row : Option Nat} (hg : w.grownBy w' row) (hb : ∀ b cap, rv = .slice (some ⟨b, 0, none⟩) bs.length cap → b ≠ y → some b ≠ row) : RBts w' y rv bs := by
  obtain ⟨h0, h | ⟨b, cap, cur, h1, h2, h3, h4, h5, h6⟩⟩ := h
  · exact ⟨h0, .inl h⟩
  · exact ⟨h0, .inr ⟨b, cap, cur, h1, h2, h3, h4, h5.grown hg (hb b cap h1 h4), h6⟩⟩
theorem RBts.self {w w' : World} {y : Nat} {rv : Value} {bs : List UInt8} (h : RBts w y rv bs) (hg : w.grownBy w' (some y)) : RBts w' y rv bs :=
  h.grown hg (fun _ _ _ hne e => hne (Option.some.inj e))
theorem RefSt.lt {w : World} {y : Nat} {rv : Value} {bs : List UInt8} {s : S} (h : RefSt w y rv bs s) : y < w.heap.size := Blk.lt h.2.2
theorem RBts.blk {w : World} {y : Nat} {rv : Value} {bs : List UInt8} (h : RBts w y rv bs) {b cap : Nat} (e : rv = .slice (some ⟨b, 0, none⟩) bs.length cap) : b < w.heap.size := by
  rcases h.2 with ⟨e1, _⟩ | ⟨b', cap', cur, e1, _, _, _, hB, _⟩
  · rw [e1] at e; cases e
  · rw [e1] at e; cases e; exact hB.lt
theorem RefSt.grown {w w' : World} {y : Nat} {rv : Value} {bs : List UInt8} {s : S} (h : RefSt w y rv bs s) {row : Option Nat} (hg : w.grownBy w' row) (hy : some y ≠ row) (hb : ∀ b cap, rv = .slice (some ⟨b, 0, none⟩) bs.length cap → some b ≠ row) : RefSt w' y rv bs s :=
  ⟨h.1.grown hg (fun b cap e _ => hb b cap e), h.2.1, Blk.grown h.2.2 hg hy⟩
theorem RefSt.below {w w' : World} {y : Nat} {rv : Value} {bs : List UInt8} {s : S} (h : RefSt w y rv bs s) (hg : Below w.heap.size w w') : RefSt w' y rv bs s :=
  h.grown (row := none) (grownBy_below hg) (by simp) (by simp)
theorem RefSt.drewN {w : World} {y : Nat} {rv : Value} {bs : List UInt8} {s : S} (h : RefSt w y rv bs s) (n : Nat) : RefSt (w.drewN n) y rv bs s := h
theorem RBts.form {w : World} {y : Nat} {rv : Value} {bs : List UInt8} (h : RBts w y rv bs) : ∃ ao cap, rv = .slice ao bs.length cap := by
  rcases h.2 with ⟨e1, e2⟩ | ⟨b, cap, _, e1, _⟩
  · exact ⟨none, 0, by rw [e1, e2]; rfl⟩
  · exact ⟨_, cap, e1⟩

theorem rstop_go (w : World) (y : Nat) (rv : Value) (bs : List UInt8) (s : S) (a c : Nat) (hc : c ≠ 0) (h : RefSt w y rv bs s) :
    Calls Tryd.prog 109 #[.pointer (some ⟨y, 0, none⟩), .int .i64 a, .int .i64 c] w fun e w' => e = .returned (.tuple #[]) ∧ RefSt w' y rv bs { s with fat := a, code := c } ∧ w.grownBy w' (some y) := by
  have c2 := Blk.cell h.2.2 2
  have c3 := Blk.cell h.2.2 3
  have c4 := Blk.cell h.2.2 4
  have f2 := Blk.frozen h.2.2 2
  have f3 := Blk.frozen h.2.2 3
  have f4 := Blk.frozen h.2.2 4
  go_enter Tryd.func109, Tryd.ntmps109
  go_wp2
  go_returns
  have hg : w.grownBy (((w.setCell ⟨y, 2, none⟩ (.bool true)).setCell ⟨y, 3, none⟩ (.int .i64 a)).setCell ⟨y, 4, none⟩ (.int .i64 c)) (some y) := grownBy_trans (grownBy_trans (grownBy_set _ y 2 _) (grownBy_set _ y 3 _)) (grownBy_set _ y 4 _)
  refine ⟨rfl, ⟨h.1.self hg, h.2.1, ?_⟩, hg⟩
  have := (((Blk.set h.2.2 2 (.bool true)).set 3 (.int .i64 a)).set 4 (.int .i64 c))
  unfold RefAt
  simp only [hc, ne_eq, not_false_eq_true, decide_true]
  exact this

theorem rleft_st (w : World) (y : Nat) (rv : Value) (bs : List UInt8) (s : S) (h : RefSt w y rv bs s) : Calls Tryd.prog 81 #[.pointer (some ⟨y, 0, none⟩)] w fun e w' => e = .returned (.int .i64 (mLeft bs s)) ∧ ∃ m, w' = w.drewN m := by
  obtain ⟨ao, cap, rfl⟩ := h.1.form
  have hm : bs.length ≤ 9223372036854775807 := h.1.1
  have hp := h.2.1
  have c0 := Blk.cell h.2.2 0
  have c1 := Blk.cell h.2.2 1
  have c2 := Blk.cell h.2.2 2
  by_cases hc : s.code = 0
  · have hd : decide (s.code ≠ 0) = false := by simp [hc]
    have HM := hide (show ((mLeft bs s : Nat) : Int) = (bs.length : Int) - (s.p : Int) by rw [mLeft, if_neg (by omega)]; omega)
    rw [hd] at c2
    clear hc
    go_enter Tryd.func81, Tryd.ntmps81
    go_wp2
    go_quiet (fail)
    go_wp2
    go_ret
    rw [HM.out]
    exact ⟨rfl, _, rfl⟩
  · have hd : decide (s.code ≠ 0) = true := by simp [hc]
    have HM := hide (show mLeft bs s = 0 by rw [mLeft, if_pos hc])
    rw [hd] at c2
    clear hc
    go_enter Tryd.func81, Tryd.ntmps81
    go_wp2
    go_ret
    rw [HM.out]
    exact ⟨rfl, 0, rfl⟩
/-- What the document's End answers. -/
def rEndV (bs : List UInt8) (s : S) : Nat × Nat :=
  if s.code ≠ 0 then (s.fat, s.code) else if s.p < bs.length then (s.p, 13) else (0, 0)
theorem rend_st (w : World) (y : Nat) (rv : Value) (bs : List UInt8) (s : S) (h : RefSt w y rv bs s) : Calls Tryd.prog 40 #[.pointer (some ⟨y, 0, none⟩)] w fun e w' => e = .returned (.tuple #[.int .i64 (rEndV bs s).1, .int .i64 (rEndV bs s).2]) ∧ ∃ m, w' = w.drewN m := by
  obtain ⟨ao, cap, rfl⟩ := h.1.form
  have hm : bs.length ≤ 9223372036854775807 := h.1.1
  have hp := h.2.1
  have c0 := Blk.cell h.2.2 0
  have c1 := Blk.cell h.2.2 1
  have c2 := Blk.cell h.2.2 2
  have c3 := Blk.cell h.2.2 3
  have c4 := Blk.cell h.2.2 4
  obtain ⟨v, hv⟩ : ∃ v, rEndV bs s = v := ⟨_, rfl⟩
  rw [hv]
  unfold rEndV at hv
  have HV := hide hv
  clear hv
  by_cases hc : s.code = 0
  · have hd : decide (s.code ≠ 0) = false := by simp [hc]
    rw [hd] at c2
    have HC := hide hc
    clear hc
    by_cases hlt : s.p < bs.length
    · go_enter Tryd.func40, Tryd.ntmps40
      go_wp2
      go_quiet (fail)
      go_wp2
      go_ret2
      rw [← HV.out, if_neg (by have := HC.out; omega), if_pos hlt]
      exact ⟨rfl, _, rfl⟩
    · go_enter Tryd.func40, Tryd.ntmps40
      go_wp2
      go_quiet (fail)
      go_wp2
      go_ret2
      rw [← HV.out, if_neg (by have := HC.out; omega), if_neg (by omega)]
      exact ⟨rfl, _, rfl⟩
  · have hd : decide (s.code ≠ 0) = true := by simp [hc]
    rw [hd] at c2
    have HC := hide hc
    clear hc
    go_enter Tryd.func40, Tryd.ntmps40
    go_wp2
    go_quiet (fail)
    go_wp2
    go_ret2
    rw [← HV.out, if_pos HC.out]
    exact ⟨rfl, _, rfl⟩
end Go.Proofs.YtjcfndiceinkjaaDoor

/- The document's Var. -/
namespace Go.Proofs.YtjcfndiceinkjaaDoor
set_option linter.unusedVariables false
set_option linter.unusedSimpArgs false
set_option maxRecDepth 100000
open Go.RowKit

theorem add_step (x t k q : Nat) (hq : 128 ^ k = q) (hx : x < 128 ^ k) (hk : k ≤ 9) (h9 : k = 9 → t ≤ 1) :
    IntKind.u64.wrap ((x : Int) + IntKind.u64.wrap ((t : Int) % 128 * (q : Int))) = ((x + t % 128 * 128 ^ k : Nat) : Int) := by
  subst hq
  have hb := mul_bound t k hk h9
  have hs : x + t % 128 * 128 ^ k < 18446744073709551616 := by
    by_cases h : k = 9
    · have h1 := h9 h
      subst h
      have h3 : t % 128 ≤ 1 := by omega
      have h4 : t % 128 * 128 ^ 9 ≤ 1 * 128 ^ 9 := Nat.mul_le_mul_right _ h3
      have h5 : (128 : Nat) ^ 9 = 9223372036854775808 := by decide
      omega
    · have h1 := step_lt x t k hx
      have h2 := pow_le9 (k + 1) (by omega)
      omega
  rw [IntKind.wrap_u64, IntKind.wrap_u64]
  have e1 : (t : Int) % 128 * ((128 ^ k : Nat) : Int) = ((t % 128 * 128 ^ k : Nat) : Int) := by rw [Int.natCast_mul]; congr 1
  rw [e1]
  omega
theorem scale_step (k q : Nat) (hq : 128 ^ k = q) (hk : k ≤ 8) : IntKind.u64.wrap ((q : Int) * 128) = ((128 ^ (k + 1) : Nat) : Int) := by
  subst hq
  have h2 := pow_le9 (k + 1) (by omega)
  rw [IntKind.wrap_u64, Nat.pow_succ]
  rw [Nat.pow_succ] at h2
  omega

def RVarC (w : World) (y : Nat) (rv : Value) (bs : List UInt8) (r : Nat × Bool × S) (e : Ending) (w' : World) : Prop :=
  e = .returned (.int .u64 r.1) ∧ RefSt w' y rv bs r.2.2 ∧ w.grownBy w' (some y)

theorem RBts.byte {w : World} {y : Nat} {rv : Value} {bs : List UInt8} (h : RBts w y rv bs) (i : Nat) (hi : i < bs.length) : ∃ b cap, rv = .slice (some ⟨b, 0, none⟩) bs.length cap ∧ w.cell? ⟨b, i, none⟩ = some (u8c bs[i]) := by
  obtain ⟨h0, ⟨_, rfl⟩ | ⟨b, cap, cur, e, _, _, _, hB, ht⟩⟩ := h
  · simp at hi
  · refine ⟨b, cap, e, ?_⟩
    rw [hB.cell, ← Array.getElem?_toList]
    have : (cur.toList.take bs.length)[i]? = some (u8c bs[i]) := by rw [ht]; simp [List.getElem?_eq_getElem hi]
    rwa [List.getElem?_take_of_lt hi] at this

theorem rvar_stopped (w : World) (y : Nat) (rv : Value) (bs : List UInt8) (s : S) (most : Nat) (h : RefSt w y rv bs s) (hc : s.code ≠ 0) :
    Calls Tryd.prog 82 #[.pointer (some ⟨y, 0, none⟩), .int .u64 most] w (RVarC w y rv bs (mNum bs s most)) := by
  have HM := hide (show mNum bs s most = (0, false, s) by rw [mNum, if_pos hc])
  have c2 := Blk.cell h.2.2 2
  have hd : decide (s.code ≠ 0) = true := by simp [hc]
  rw [hd] at c2
  clear hc
  go_enter Tryd.func82, Tryd.ntmps82
  go_wp2
  go_ret
  rw [HM.out]
  exact ⟨rfl, h, World.grownBy.refl _ _⟩

set_option maxRecDepth 20000 in
set_option maxHeartbeats 4000000 in
theorem rvar_go (w : World) (y : Nat) (rv : Value) (bs : List UInt8) (s : S) (most : Nat) (h : RefSt w y rv bs s) (hc : s.code = 0) :
    Calls Tryd.prog 82 #[.pointer (some ⟨y, 0, none⟩), .int .u64 most] w (RVarC w y rv bs (mNum bs s most)) := by
  have HM := hide (show mNum bs s most = _ by rw [mNum, if_neg (by omega)])
  have HC := hide hc
  have c0 := Blk.cell h.2.2 0
  have c1 := Blk.cell h.2.2 1
  have c2 := Blk.cell h.2.2 2
  have f1 := Blk.frozen h.2.2 1
  have hd : decide (s.code ≠ 0) = false := by simp [hc]
  rw [hd] at c2
  clear hc
  obtain ⟨ao, cap, rfl⟩ := h.1.form
  have hm : bs.length ≤ 9223372036854775807 := h.1.1
  have hp := h.2.1
  generalize mNum bs s most = r at HM ⊢
  go_enter Tryd.func82, Tryd.ntmps82
  go_wp2
  go_loopw [5, 6, 7] (fun v q i wr => ∃ k x m : Nat, i = .int .i64 k ∧ k ≤ 9 ∧ v = .int .u64 x ∧ q = .int .u64 (128 ^ k : Nat) ∧ x < 128 ^ k ∧ s.p + k ≤ bs.length ∧ wr = w.drewN m ∧ firstGo 0 0 (bs.drop s.p) = firstGo x k (bs.drop (s.p + k))) (fun _ _ i _ => 10 - (intOf i).toNat)
  case atStart => exact ⟨0, 0, 0, rfl, by omega, rfl, rfl, by decide, hp, rfl, rfl⟩
  case round =>
    obtain ⟨k, x, m, rfl, hk, rfl, rfl, hx, hpk, rfl, hf⟩ := hrel
    have HF := hide hf
    have HX := hide hx
    clear hf hx
    generalize hq : 128 ^ k = q
    have HQ := hide hq
    clear hq
    by_cases hlt : s.p + k < bs.length
    · obtain ⟨b, cap', e, hb⟩ := h.1.byte (s.p + k) hlt
      obtain ⟨rfl, rfl⟩ : ao = some ⟨b, 0, none⟩ ∧ cap = cap' := by cases e; exact ⟨rfl, rfl⟩
      clear e
      obtain ⟨u, hu⟩ : ∃ u, u = bs[s.p + k] := ⟨_, rfl⟩
      rw [← hu] at hb
      have HD : Hid (bs.drop (s.p + k) = u :: bs.drop (s.p + k + 1)) := by rw [hu]; exact List.drop_eq_getElem_cons hlt
      have hub : u.toNat < 256 := u.toNat_lt
      clear hu
      unfold u8c at hb
      obtain ⟨t, ht⟩ : ∃ t, t = u.toNat := ⟨_, rfl⟩
      rw [← ht] at hb hub
      have HT := hide ht
      clear ht
      go_wp2_with fail
      go_quiet (fail)
      go_wp2_with fail
      go_quiet (fail)
      by_cases hk9 : k = 9
      · subst hk9
        by_cases h1 : 1 < t
        · have h1i : (1 : Int) < (t : Int) := by omega
          go_wp2_with fail
          refine (rstop_go _ y _ bs s s.p 11 (by decide) (h.drewN _)).mono ?_
          rintro e w1 ⟨rfl, hd1, hg1⟩
          go_wp2
          go_ret
          have e1 : firstGo 0 0 (bs.drop s.p) = (0, 0, 11) := by rw [HF.out, HD.out]; exact first_form9 x u _ 9 rfl (by rw [← HT.out]; exact h1)
          have e2 : r = (0, false, { s with fat := s.p, code := 11 }) := by rw [HM.out, e1]; rfl
          rw [e2]
          exact ⟨rfl, hd1, grownBy_trans (grownBy_drewN _ _ _) hg1⟩
        · have h1i : (t : Int) ≤ 1 := by omega
          have h9' : 9 = 9 → t ≤ 1 := fun _ => by omega
          have hadd := add_step x t 9 q HQ.out HX.out (by omega) h9'
          by_cases h0 : t = 0
          · have h0i : ((t : Int) == 0) = true := by rw [beq_iff_eq]; omega
            go_wp2_with fail
            refine (rstop_go _ y _ bs s s.p 11 (by decide) (h.drewN _)).mono ?_
            rintro e w1 ⟨rfl, hd1, hg1⟩
            go_wp2
            go_ret
            have e1 : firstGo 0 0 (bs.drop s.p) = (0, 0, 11) := by rw [HF.out, HD.out]; exact first_form0 x u _ 9 (fun _ => by rw [← HT.out]; omega) (by rw [← HT.out]; exact h0) (by omega)
            have e2 : r = (0, false, { s with fat := s.p, code := 11 }) := by rw [HM.out, e1]; rfl
            rw [e2]
            exact ⟨rfl, hd1, grownBy_trans (grownBy_drewN _ _ _) hg1⟩
          · have h0i : ((t : Int) == 0) = false := by rw [beq_eq_false_iff_ne]; omega
            obtain ⟨x', hx'⟩ : ∃ x', x' = x + t % 128 * 128 ^ 9 := ⟨_, rfl⟩
            rw [← hx'] at hadd
            have HX' := hide hx'
            clear hx'
            by_cases hmost : most < x'
            · have hgt : (most : Int) < (x' : Int) := by omega
              go_wp2_with fail
              refine (rstop_go _ y _ bs s s.p 12 (by decide) (h.drewN _)).mono ?_
              rintro e w1 ⟨rfl, hd1, hg1⟩
              go_wp2
              go_ret
              have e1 : firstGo 0 0 (bs.drop s.p) = (x', 9 + 1, 0) := by rw [HF.out, HD.out, HX'.out, HT.out]; exact first_end x u _ 9 (fun _ => by rw [← HT.out]; omega) (by rw [← HT.out]; omega) (by rw [← HT.out]; omega)
              have e2 : r = (0, false, { s with fat := s.p, code := 12 }) := by rw [HM.out, e1]; simp [hmost]
              rw [e2]
              exact ⟨rfl, hd1, grownBy_trans (grownBy_drewN _ _ _) hg1⟩
            · have hgt : (x' : Int) ≤ (most : Int) := by omega
              go_wp2
              go_ret
              have e1 : firstGo 0 0 (bs.drop s.p) = (x', 9 + 1, 0) := by rw [HF.out, HD.out, HX'.out, HT.out]; exact first_end x u _ 9 (fun _ => by rw [← HT.out]; omega) (by rw [← HT.out]; omega) (by rw [← HT.out]; omega)
              have e2 : r = (x', true, { s with p := s.p + (9 + 1) }) := by rw [HM.out, e1]; simp [hmost]
              rw [e2]
              have hg1 := fun m => grownBy_trans (grownBy_drewN w m (some y)) (grownBy_set (w.drewN m) y 1 (.int .i64 ((s.p + (9 + 1) : Nat) : Int)))
              refine ⟨rfl, ⟨(h.1.self (hg1 _)), by simp; omega, Blk.set (Blk.drewN h.2.2 _) 1 (.int .i64 ((s.p + (9 + 1) : Nat) : Int))⟩, hg1 _⟩
      · have h9f : ((k : Int) == 9) = false := by rw [beq_eq_false_iff_ne]; omega
        have h9' : k = 9 → t ≤ 1 := fun e => absurd e hk9
        have hadd := add_step x t k q HQ.out HX.out hk h9'
        by_cases h128 : t < 128
        · have hlt128 : (t : Int) < 128 := by omega
          by_cases h0 : t = 0
          · have h0i : ((t : Int) == 0) = true := by rw [beq_iff_eq]; omega
            by_cases hk0 : 0 < k
            · go_wp2_with fail
              refine (rstop_go _ y _ bs s s.p 11 (by decide) (h.drewN _)).mono ?_
              rintro e w1 ⟨rfl, hd1, hg1⟩
              go_wp2
              go_ret
              have e1 : firstGo 0 0 (bs.drop s.p) = (0, 0, 11) := by rw [HF.out, HD.out]; exact first_form0 x u _ k (fun e => absurd e hk9) (by rw [← HT.out]; exact h0) hk0
              have e2 : r = (0, false, { s with fat := s.p, code := 11 }) := by rw [HM.out, e1]; rfl
              rw [e2]
              exact ⟨rfl, hd1, grownBy_trans (grownBy_drewN _ _ _) hg1⟩
            · obtain rfl : k = 0 := by omega
              obtain rfl : x = 0 := by have := HX.out; simp at this; omega
              clear h0i hadd
              subst h0
              go_wp2
              go_ret
              have e1 : firstGo 0 0 (bs.drop s.p) = (0, 0 + 1, 0) := by rw [HF.out, HD.out, first_end 0 u _ 0 (fun e => absurd e (by decide)) (by rw [← HT.out]; omega) (by rw [← HT.out]; omega), ← HT.out]
              have e2 : r = (0, true, { s with p := s.p + 1 }) := by rw [HM.out, e1]; simp
              rw [e2]
              have hg1 := fun m => grownBy_trans (grownBy_drewN w m (some y)) (grownBy_set (w.drewN m) y 1 (.int .i64 ((s.p + 1 : Nat) : Int)))
              refine ⟨rfl, ⟨(h.1.self (hg1 _)), by simp; omega, Blk.set (Blk.drewN h.2.2 _) 1 (.int .i64 ((s.p + 1 : Nat) : Int))⟩, hg1 _⟩
          · have h0i : ((t : Int) == 0) = false := by rw [beq_eq_false_iff_ne]; omega
            obtain ⟨x', hx'⟩ : ∃ x', x' = x + t % 128 * 128 ^ k := ⟨_, rfl⟩
            rw [← hx'] at hadd
            have HX' := hide hx'
            clear hx'
            by_cases hmost : most < x'
            · have hgt : (most : Int) < (x' : Int) := by omega
              go_wp2_with fail
              refine (rstop_go _ y _ bs s s.p 12 (by decide) (h.drewN _)).mono ?_
              rintro e w1 ⟨rfl, hd1, hg1⟩
              go_wp2
              go_ret
              have e1 : firstGo 0 0 (bs.drop s.p) = (x', k + 1, 0) := by rw [HF.out, HD.out, HX'.out, HT.out]; exact first_end x u _ k (fun e => absurd e hk9) (by rw [← HT.out]; omega) (by rw [← HT.out]; omega)
              have e2 : r = (0, false, { s with fat := s.p, code := 12 }) := by rw [HM.out, e1]; simp [hmost]
              rw [e2]
              exact ⟨rfl, hd1, grownBy_trans (grownBy_drewN _ _ _) hg1⟩
            · have hgt : (x' : Int) ≤ (most : Int) := by omega
              go_wp2
              go_ret
              have e1 : firstGo 0 0 (bs.drop s.p) = (x', k + 1, 0) := by rw [HF.out, HD.out, HX'.out, HT.out]; exact first_end x u _ k (fun e => absurd e hk9) (by rw [← HT.out]; omega) (by rw [← HT.out]; omega)
              have e2 : r = (x', true, { s with p := s.p + (k + 1) }) := by rw [HM.out, e1]; simp [hmost]
              rw [e2]
              have hg1 := fun m => grownBy_trans (grownBy_drewN w m (some y)) (grownBy_set (w.drewN m) y 1 (.int .i64 ((s.p + (k + 1) : Nat) : Int)))
              refine ⟨rfl, ⟨(h.1.self (hg1 _)), by simp; omega, Blk.set (Blk.drewN h.2.2 _) 1 (.int .i64 ((s.p + (k + 1) : Nat) : Int))⟩, hg1 _⟩
        · have hge : (128 : Int) ≤ (t : Int) := by omega
          go_wp2_with fail
          go_roundw
          case rel =>
            refine ⟨k + 1, x + t % 128 * 128 ^ k, m + _ + _, by go_num, by omega, rfl, by rw [scale_step k q HQ.out (by omega)], step_lt x t k HX.out, by omega, rfl, ?_⟩
            rw [HF.out, HD.out, HT.out]
            exact first_moreV x u _ k (by omega) (by rw [← HT.out]; omega)
          case measure => simp [intOf]; omega
    · go_wp2_with fail
      go_quiet (fail)
      have hge : (bs.length : Int) ≤ (s.p : Int) + (k : Int) := by omega
      go_wp2_with fail
      refine (rstop_go _ y _ bs s s.p 10 (by decide) (h.drewN _)).mono ?_
      rintro e w1 ⟨rfl, hd1, hg1⟩
      go_wp2
      go_ret
      have e1 : firstGo 0 0 (bs.drop s.p) = (0, 0, 10) := by rw [HF.out, List.drop_eq_nil_of_le (by omega)]; rfl
      have e2 : r = (0, false, { s with fat := s.p, code := 10 }) := by rw [HM.out, e1]; rfl
      rw [e2]
      exact ⟨rfl, hd1, grownBy_trans (grownBy_drewN _ _ _) hg1⟩
end Go.Proofs.YtjcfndiceinkjaaDoor

/- The document's Raw. -/
namespace Go.Proofs.YtjcfndiceinkjaaDoor
set_option linter.unusedVariables false
set_option linter.unusedSimpArgs false
set_option maxRecDepth 100000
open Go.RowKit

def RRawC (w : World) (y : Nat) (rv : Value) (bs : List UInt8) (r : Option (List UInt8) × S) (e : Ending) (w' : World) : Prop :=
  (∃ v, e = .returned v ∧ w'.ownsRow w.heap.size 5 1 v (r.1.getD []).length ((r.1.getD []).map u8c)) ∧ RefSt w' y rv bs r.2 ∧ w.grownBy w' (some y)

theorem rraw_stopped (w : World) (y : Nat) (rv : Value) (bs : List UInt8) (s : S) (n : Int) (h : RefSt w y rv bs s) (hc : s.code ≠ 0) :
    Calls Tryd.prog 80 #[.pointer (some ⟨y, 0, none⟩), .int .i64 n] w (RRawC w y rv bs (mNext bs s (mPlace s) n.toNat)) := by
  have HM := hide (show mNext bs s (mPlace s) n.toNat = (none, s) by rw [mNext, if_pos hc])
  have c2 := Blk.cell h.2.2 2
  have hd : decide (s.code ≠ 0) = true := by simp [hc]
  rw [hd] at c2
  clear hc
  go_enter Tryd.func80, Tryd.ntmps80
  go_wp2
  go_ret
  rw [HM.out]
  exact ⟨⟨_, rfl, World.ownsRow_nil _ _ _ _⟩, h, World.grownBy.refl _ _⟩
theorem rraw_none (w : World) (y : Nat) (rv : Value) (bs : List UInt8) (s : S) (n : Int) (h : RefSt w y rv bs s) (hc : s.code = 0) (hn : n ≤ 0) :
    Calls Tryd.prog 80 #[.pointer (some ⟨y, 0, none⟩), .int .i64 n] w (RRawC w y rv bs (mNext bs s (mPlace s) n.toNat)) := by
  have HM := hide (show mNext bs s (mPlace s) n.toNat = (some [], s) by
    rw [mNext, if_neg (by omega), show n.toNat = 0 by omega, if_neg (by have := h.2.1; omega)]; simp)
  have c2 := Blk.cell h.2.2 2
  have hd : decide (s.code ≠ 0) = false := by simp [hc]
  rw [hd] at c2
  clear hc
  go_enter Tryd.func80, Tryd.ntmps80
  go_wp2
  go_ret
  rw [HM.out]
  exact ⟨⟨_, rfl, World.ownsRow_nil _ _ _ _⟩, h, World.grownBy.refl _ _⟩
theorem rraw_ends (w : World) (y : Nat) (rv : Value) (bs : List UInt8) (s : S) (n : Int) (h : RefSt w y rv bs s) (hc : s.code = 0) (hn : 0 < n) (hl : (bs.length : Int) - (s.p : Int) < n) :
    Calls Tryd.prog 80 #[.pointer (some ⟨y, 0, none⟩), .int .i64 n] w (RRawC w y rv bs (mNext bs s (mPlace s) n.toNat)) := by
  have HM := hide (show mNext bs s (mPlace s) n.toNat = (none, { s with fat := s.p, code := 10 }) by
    rw [mNext, if_neg (by omega), if_pos (by omega), mPlace, if_neg (by omega)])
  obtain ⟨ao, cap, rfl⟩ := h.1.form
  have hm : bs.length ≤ 9223372036854775807 := h.1.1
  have hp := h.2.1
  have c0 := Blk.cell h.2.2 0
  have c1 := Blk.cell h.2.2 1
  have c2 := Blk.cell h.2.2 2
  have hd : decide (s.code ≠ 0) = false := by simp [hc]
  rw [hd] at c2
  clear hc
  go_enter Tryd.func80, Tryd.ntmps80
  go_wp2_with fail
  go_quiet (fail)
  go_wp2_with fail
  refine (rstop_go _ y _ bs s s.p 10 (by decide) (h.drewN _)).mono ?_
  rintro e w1 ⟨rfl, hd1, hg1⟩
  go_wp2
  go_ret
  rw [HM.out]
  exact ⟨⟨_, rfl, World.ownsRow_nil _ _ _ _⟩, hd1, grownBy_trans (grownBy_drewN _ _ _) hg1⟩
theorem raw_fin {w w' : World} {y k q m : Nat} {rv v : Value} {bs : List UInt8} {s : S} {news : List Value} (h : RefSt w y rv bs s) (hown : w'.ownsRow (w.drewN m).heap.size 5 1 v (0 + (q - s.p)) ([] ++ news)) (hg : (w.drewN m).grownBy w' none)
    (hA : RefAt w' y rv s) (hc : s.code = 0) (hq : q = s.p + k) (hn : news = ((bs.drop s.p).take k).map u8c) (hl : s.p + k ≤ bs.length) :
    RRawC w y rv bs (some ((bs.drop s.p).take k), { s with p := s.p + k }) (.returned v) (w'.setCell ⟨y, 1, none⟩ (.int .i64 q)) := by
  have hg0 : w.grownBy w' none := grownBy_trans (grownBy_drewN w m none) hg
  have hg1 : w'.grownBy (w'.setCell ⟨y, 1, none⟩ (.int .i64 q)) (some y) := grownBy_set _ _ _ _
  have hR : RefSt w' y rv bs s := h.grown hg0 (by simp) (by simp)
  subst hq
  refine ⟨⟨v, rfl, ?_⟩, ⟨hR.1.self hg1, by simp; omega, Blk.set hA 1 (.int .i64 ((s.p + k : Nat) : Int))⟩, ⟨hg1.os.trans hg0.os, hg1.tape.trans hg0.tape, hg1.output.trans hg0.output, Nat.le_trans hg0.size hg1.size, fun i hi hne => (hg1.block i (Nat.lt_of_lt_of_le hi hg0.size) hne).trans (hg0.block i hi (by simp))⟩⟩
  have hlt : y < w.heap.size := h.lt
  have := ownsRow_setCell_below hown (a := ⟨y, 1, none⟩) hlt (.int .i64 ((s.p + k : Nat) : Int))
  have e : 0 + (s.p + k - s.p) = ((bs.drop s.p).take k).length := by simp; omega
  rw [e, List.nil_append, hn] at this
  exact this

set_option maxRecDepth 20000 in
set_option maxHeartbeats 1600000 in
theorem rraw_go (w : World) (y : Nat) (rv : Value) (bs : List UInt8) (s : S) (k : Nat) (h : RefSt w y rv bs s) (hc : s.code = 0) (hn : 0 < k) (hl : s.p + k ≤ bs.length) (hlen : bs.length ≤ 140737488355000) :
    Calls Tryd.prog 80 #[.pointer (some ⟨y, 0, none⟩), .int .i64 k] w (RRawC w y rv bs (mNext bs s (mPlace s) k)) := by
  have HM := hide (show mNext bs s (mPlace s) k = (some ((bs.drop s.p).take k), { s with p := s.p + k }) by
    rw [mNext, if_neg (by omega), if_neg (by omega)])
  obtain ⟨i0, hi, hz0, hz1, hz2⟩ := info_parts infoU8
  have h0 := h
  obtain ⟨⟨hm, hbt⟩, hp, hA⟩ := h
  obtain ⟨b, cap, cur, rfl, hcap, hcm, hby, hB, ht⟩ : ∃ b cap cur, rv = .slice (some ⟨b, 0, none⟩) bs.length cap ∧ bs.length ≤ cap ∧ cap ≤ maxLen ∧ b ≠ y ∧ Blk w b cur 5 ∧ cur.toList.take bs.length = bs.map u8c := by
    rcases hbt with ⟨_, e⟩ | h
    · rw [e] at hl; simp at hl; omega
    · exact h
  have hm2 : bs.length ≤ 9223372036854775807 := hm
  have hcm2 : cap ≤ 9223372036854775807 := hcm
  have c0 := Blk.cell hA 0
  have c1 := Blk.cell hA 1
  have c2 := Blk.cell hA 2
  have f1 := Blk.frozen hA 1
  have hd : decide (s.code ≠ 0) = false := by simp [hc]
  rw [hd] at c2
  have HC := hide hc
  clear hc
  obtain ⟨news, hnews⟩ : ∃ news, news = ((bs.drop s.p).take k).map u8c := ⟨_, rfl⟩
  obtain ⟨q, hq⟩ : ∃ q, q = s.p + k := ⟨_, rfl⟩
  have hnl : news.length = (q - s.p) * 1 := by rw [hnews, hq]; simp; omega
  have hwr : IntKind.i64.wrap ((s.p : Int) + (k : Int)) = (q : Int) := by rw [IntKind.wrap_i64]; omega
  have hq1 : s.p ≤ q := by omega
  have hq2 : (q : Int) ≤ (cap : Int) := by omega
  have hone : ∀ u ∈ news, u.oneCell' = true := by rw [hnews]; exact u8c_one _
  have hcel : ∀ (m : Nat) j u, news[j]? = some u → (w.drewN m).cell? ((⟨b, s.p, none⟩ : Addr).add j) = some u := by
    intro m j u hj
    have hjl : j < k := by
      rcases Nat.lt_or_ge j k with h | h
      · exact h
      · rw [List.getElem?_eq_none (by omega)] at hj; cases hj
    rw [Addr.add_mid, World.cell?_drewN, hB.cell, ← Array.getElem?_toList]
    have e1 : (cur.toList.take bs.length)[s.p + j]? = some u := by
      rw [ht, ← hj, hnews]
      simp [List.getElem?_take, hjl]
    rwa [List.getElem?_take_of_lt (by omega)] at e1
  have HN := hide hnews
  have HCE := hide hcel
  have HNL := hide hnl
  have HO := hide hone
  have HQ := hide hq
  have hqk : q - s.p ≤ 140737488355000 := by omega
  have hqp : 0 < q - s.p := by omega
  clear hnews hcel hnl hone hbt ht hq
  have hpc : ¬ cap = s.p := by omega
  have hle : (k : Int) ≤ (bs.length : Int) - (s.p : Int) := by omega
  go_enter Tryd.func80, Tryd.ntmps80
  go_wp2_with fail
  go_quiet (fail)
  go_wp2_with fail
  go_region_law (refine step_append_grows rfl (.tmp 32) (.tmp 47) 23 rfl 5 i0 (.int .u8 0) 1 1 Tryd.underlying23 hi hz0 hz1 hz2 rfl (by decide) none 0 0 [] (by simp [Act.eval, Act.put]) (fun _ => ⟨rfl, rfl⟩) rfl (by intro b h; cases h) ⟨b, s.p, none⟩ (q - s.p) (cap - s.p) news (by simp [Act.eval, Act.put]) HNL.out (HCE.out _) HO.out (by omega) (by unfold maxLen; omega) (by omega) ?_; intro v' w' hown hgrow)
  all_goals
    have hA' : RefAt w' y _ s := (Blk.drewN hA _).grown hgrow (by simp)
    have c1' := Blk.cell hA' 1
    have f1' := Blk.frozen hA' 1
    have HW := hide hown
    have HG := hide hgrow
    have HA' := hide hA'
    clear hown hgrow hA'
    go_wp2
    go_ret
    rw [HM.out]
    exact raw_fin h0 HW.out HG.out HA'.out HC.out HQ.out HN.out hl

theorem rraw_st (w : World) (y : Nat) (rv : Value) (bs : List UInt8) (s : S) (n : Int) (h : RefSt w y rv bs s) (hlen : bs.length ≤ 140737488355000) :
    Calls Tryd.prog 80 #[.pointer (some ⟨y, 0, none⟩), .int .i64 n] w (RRawC w y rv bs (mNext bs s (mPlace s) n.toNat)) := by
  by_cases hc : s.code = 0
  · by_cases hn : 0 < n
    · by_cases hl : (bs.length : Int) - (s.p : Int) < n
      · exact rraw_ends w y rv bs s n h hc hn hl
      · obtain ⟨k, rfl⟩ := Int.eq_ofNat_of_zero_le (show 0 ≤ n by omega)
        exact rraw_go w y rv bs s k h hc (by omega) (by have := h.2.1; omega) hlen
    · exact rraw_none w y rv bs s n h hc (by omega)
  · exact rraw_stopped w y rv bs s n h hc
end Go.Proofs.YtjcfndiceinkjaaDoor

/- The document's Text and Fixed. -/
namespace Go.Proofs.YtjcfndiceinkjaaDoor
set_option linter.unusedVariables false
set_option linter.unusedSimpArgs false
set_option maxRecDepth 100000
open Go.RowKit

theorem rvar_st (w : World) (y : Nat) (rv : Value) (bs : List UInt8) (s : S) (most : Nat) (h : RefSt w y rv bs s) :
    Calls Tryd.prog 82 #[.pointer (some ⟨y, 0, none⟩), .int .u64 most] w (RVarC w y rv bs (mNum bs s most)) := by
  by_cases hc : s.code = 0
  · exact rvar_go w y rv bs s most h hc
  · exact rvar_stopped w y rv bs s most h hc

def FixR (w : World) (y : Nat) (rv : Value) (bs : List UInt8) (r : Option (List UInt8) × S) (e : Ending) (w' : World) : Prop :=
  e = .returned (.int .u64 (leNat (r.1.getD []) : Nat)) ∧ RefSt w' y rv bs r.2 ∧ w.grownBy w' (some y)
theorem le_down (xs : List UInt8) (k : Nat) (h : k < xs.length) (h8 : xs.length ≤ 8) : IntKind.u64.wrap (IntKind.u64.wrap ((leNat (xs.drop (k + 1)) : Nat) * 256) + (xs[k].toNat : Int)) = ((leNat (xs.drop k) : Nat) : Int) := by
  have e : xs.drop k = xs[k] :: xs.drop (k + 1) := List.drop_eq_getElem_cons h
  have h1 := leNat_lt (xs.drop k) 8 (by rw [List.length_drop]; omega)
  rw [e] at h1 ⊢
  rw [leNat] at h1 ⊢
  have h2 : (256 : Nat) ^ 8 = 18446744073709551616 := by decide
  rw [IntKind.wrap_u64, IntKind.wrap_u64]
  omega

set_option maxRecDepth 20000 in
set_option maxHeartbeats 1600000 in
theorem rfixed_st (w : World) (y : Nat) (rv : Value) (bs : List UInt8) (s : S) (k : Nat) (h : RefSt w y rv bs s) (hlen : bs.length ≤ 140737488355000) (hk : k ≤ 8) :
    Calls Tryd.prog 79 #[.pointer (some ⟨y, 0, none⟩), .int .i64 k] w (FixR w y rv bs (mNext bs s (mPlace s) k)) := by
  have HR := hide (rraw_st w y rv bs s k h hlen)
  have hxl := mNext_few bs s (mPlace s) k
  rw [Int.toNat_natCast] at HR
  generalize mNext bs s (mPlace s) k = r at HR hxl ⊢
  go_enter Tryd.func79, Tryd.ntmps79
  go_wp2_with fail
  refine (HR.out).mono ?_
  rintro e w1 ⟨⟨v, rfl, hown⟩, hd, hg⟩
  obtain ⟨xs, hxs⟩ : ∃ xs, r.1.getD [] = xs := ⟨_, rfl⟩
  rw [hxs] at hown hxl
  have HXS := hide hxs
  have hrd := Rd_owned hown
  clear hxs hown HR
  obtain ⟨ao, c, rfl, hc, hm, hcel⟩ := hrd
  have HC := hide hcel
  clear hcel
  have hx8 : xs.length ≤ 8 := by omega
  go_wp2
  go_loop [6, 7] (fun v i => ∃ j : Nat, j ≤ xs.length ∧ i = .int .i64 ((j : Int) - 1) ∧ v = .int .u64 (leNat (xs.drop j) : Nat)) (fun _ i => (intOf i + 1).toNat)
  case atStart => exact ⟨xs.length, Nat.le_refl _, rfl, by simp [leNat]⟩
  case round =>
    obtain ⟨j, hj, rfl, rfl⟩ := hrel
    by_cases hlt : 0 < j
    · obtain ⟨j, rfl⟩ : ∃ j', j = j' + 1 := ⟨j - 1, by omega⟩
      have hjl : j < xs.length := by omega
      obtain ⟨b, o, rfl, hcell⟩ : ∃ b o, ao = some ⟨b, o, none⟩ ∧ ∀ i (h : i < xs.length), w1.cell? ⟨b, o + i, none⟩ = some (u8c xs[i]) := by
        rcases HC.out with ⟨_, h⟩ | h
        · omega
        · exact h
      have hck := hcell j hjl
      have HS := hide (le_down xs j hjl hx8)
      clear hcell HC
      unfold u8c at hck
      obtain ⟨t, ht⟩ : ∃ t, t = xs[j].toNat := ⟨_, rfl⟩
      have htb : t < 256 := by rw [ht]; exact xs[j].toNat_lt
      rw [← ht] at hck HS
      clear ht
      generalize leNat (xs.drop (j + 1)) = x at HS ⊢
      have hj1 : ((j + 1 : Nat) : Int) - 1 = (j : Int) := by omega
      rw [hj1]
      go_wp2
      go_round
      case rel => exact ⟨j, by omega, rfl, by rw [HS.out]⟩
      case measure => simp [intOf]
    · obtain rfl : j = 0 := by omega
      go_wp2
      go_ret
      unfold FixR
      rw [HXS.out]
      exact ⟨by simp, hd, hg⟩

/-- The document's Text by the plain machine. -/
def rText (bs : List UInt8) (s : S) (most : Nat) : List UInt8 × S :=
  if s.code ≠ 0 then ([], s)
  else if (mNum bs s most).2.2.code ≠ 0 then ([], (mNum bs s most).2.2)
  else if (mNext bs (mNum bs s most).2.2 (mPlace (mNum bs s most).2.2) (mNum bs s most).1).2.code ≠ 0 then ([], { (mNext bs (mNum bs s most).2.2 (mPlace (mNum bs s most).2.2) (mNum bs s most).1).2 with p := s.p, fat := s.p })
  else ((mNext bs (mNum bs s most).2.2 (mPlace (mNum bs s most).2.2) (mNum bs s most).1).1.getD [], (mNext bs (mNum bs s most).2.2 (mPlace (mNum bs s most).2.2) (mNum bs s most).1).2)
def RTextC (w : World) (y : Nat) (rv : Value) (bs : List UInt8) (r : List UInt8 × S) (e : Ending) (w' : World) : Prop :=
  e = .returned (.string ⟨r.1.toArray⟩) ∧ RefSt w' y rv bs r.2 ∧ w.grownBy w' (some y)
theorem rtext_stopped (w : World) (y : Nat) (rv : Value) (bs : List UInt8) (s : S) (n : Int) (h : RefSt w y rv bs s) (hc : s.code ≠ 0) :
    Calls Tryd.prog 84 #[.pointer (some ⟨y, 0, none⟩), .int .i64 n] w (RTextC w y rv bs (rText bs s n.toNat)) := by
  have HM := hide (show rText bs s n.toNat = ([], s) by rw [rText, if_pos hc])
  have c2 := Blk.cell h.2.2 2
  have hd : decide (s.code ≠ 0) = true := by simp [hc]
  rw [hd] at c2
  clear hc
  go_enter Tryd.func84, Tryd.ntmps84
  go_wp2
  go_ret
  rw [HM.out]
  exact ⟨rfl, h, World.grownBy.refl _ _⟩
theorem text_fin {w w2 : World} {y p : Nat} {rv : Value} {bs : List UInt8} {s2 : S} (h : RefSt w2 y rv bs s2) (hg : w.grownBy w2 (some y)) (hp : p ≤ bs.length) :
    RTextC w y rv bs ([], { s2 with p := p, fat := p }) (.returned (.string ⟨#[]⟩)) ((w2.setCell ⟨y, 1, none⟩ (.int .i64 p)).setCell ⟨y, 3, none⟩ (.int .i64 p)) := by
  have hg1 : w2.grownBy ((w2.setCell ⟨y, 1, none⟩ (.int .i64 p)).setCell ⟨y, 3, none⟩ (.int .i64 p)) (some y) := grownBy_trans (grownBy_set _ _ _ _) (grownBy_set _ _ _ _)
  exact ⟨rfl, ⟨h.1.self hg1, hp, Blk.set (Blk.set h.2.2 1 (.int .i64 p)) 3 (.int .i64 p)⟩, grownBy_trans hg hg1⟩

set_option maxRecDepth 20000 in
set_option maxHeartbeats 1600000 in
theorem rtext_go (w : World) (y : Nat) (rv : Value) (bs : List UInt8) (s : S) (n : Int) (m : Nat) (hn : (m : Int) = max n 0) (h1 : -9223372036854775808 ≤ n) (h2 : n ≤ 9223372036854775807) (h : RefSt w y rv bs s) (hlen : bs.length ≤ 140737488355000) (hc : s.code = 0) :
    Calls Tryd.prog 84 #[.pointer (some ⟨y, 0, none⟩), .int .i64 n] w (RTextC w y rv bs (rText bs s m)) := by
  obtain ⟨r', hr'⟩ : ∃ r', rText bs s m = r' := ⟨_, rfl⟩
  rw [hr']
  rw [rText, if_neg (by omega)] at hr'
  have HR := hide hr'
  clear hr'
  have c1 := Blk.cell h.2.2 1
  have c2 := Blk.cell h.2.2 2
  have hd : decide (s.code ≠ 0) = false := by simp [hc]
  rw [hd] at c2
  clear hc
  have HV := hide (rvar_st w y rv bs s m h)
  have hle := mNum_ok_le bs s m
  have HX := hide (fun w s' (k : Nat) h => rraw_st w y rv bs s' k h hlen)
  generalize mNum bs s m = r at HV HR hle
  obtain ⟨v, ok, s1⟩ := r
  simp only [] at HR hle
  have hv63 : v ≤ 9223372036854775807 := by omega
  have hp := h.2.1
  clear hle
  have HP := hide hp
  by_cases hneg : n < 0
  · obtain rfl : m = 0 := by omega
    clear hn
    go_enter Tryd.func84, Tryd.ntmps84
    go_wp2_with fail
    refine (HV.out).mono ?_
    rintro e w1 ⟨rfl, hd1, hg1⟩
    simp only [] at hd1
    have d2 := Blk.cell hd1.2.2 2
    by_cases hs1 : s1.code = 0
    · have hdd : decide (s1.code ≠ 0) = false := by simp [hs1]
      rw [hdd] at d2
      have HS1 := hide hs1
      clear hs1
      have HX1 := hide (HX.out w1 s1 v hd1)
      rw [Int.toNat_natCast] at HX1
      have HR1 := hide HR.out
      rw [if_neg (by have := HS1.out; omega)] at HR1
      have hq := mNext_le bs s1 (mPlace s1) v hd1.2.1
      generalize mNext bs s1 (mPlace s1) v = q at HX1 HR1 hq
      obtain ⟨q1, s2⟩ := q
      simp only [] at HR1
      have HD1 := hide hd1
      have HG1 := hide hg1
      clear hd1 hg1 HR
      go_wp2_with fail
      refine (HX1.out).mono ?_
      rintro e w2 ⟨⟨v2, rfl, hown⟩, hd2, hg2⟩
      simp only [] at hown hd2
      have e2 := Blk.cell hd2.2.2 2
      have e1 := Blk.cell hd2.2.2 1
      have e3 := Blk.cell hd2.2.2 3
      have g1 := Blk.frozen hd2.2.2 1
      have g3 := Blk.frozen hd2.2.2 3
      have HG2 := hide (grownBy_trans HG1.out hg2)
      have HD2 := hide hd2
      by_cases hs2 : s2.code = 0
      · have hde : decide (s2.code ≠ 0) = false := by simp [hs2]
        rw [hde] at e2
        have HS2 := hide hs2
        have hcv := conv_rd w2 v2 _ (Rd_owned hown)
        clear hs2 hown hd2 hg2
        go_wp2
        go_ret
        rw [← HR1.out, if_neg (by have := HS2.out; omega)]
        exact ⟨rfl, HD2.out, HG2.out⟩
      · have hde : decide (s2.code ≠ 0) = true := by simp [hs2]
        rw [hde] at e2
        have HS2 := hide hs2
        clear hs2 hown hd2 hg2
        go_wp2
        go_ret
        rw [← HR1.out, if_pos HS2.out]
        exact text_fin HD2.out HG2.out HP.out
    · have hdd : decide (s1.code ≠ 0) = true := by simp [hs1]
      rw [hdd] at d2
      have HS1 := hide hs1
      clear hs1
      go_wp2
      go_ret
      rw [← HR.out, if_pos HS1.out]
      exact ⟨rfl, hd1, hg1⟩
  · obtain rfl : n = m := by omega
    clear hn
    go_enter Tryd.func84, Tryd.ntmps84
    go_wp2_with fail
    refine (HV.out).mono ?_
    rintro e w1 ⟨rfl, hd1, hg1⟩
    simp only [] at hd1
    have d2 := Blk.cell hd1.2.2 2
    by_cases hs1 : s1.code = 0
    · have hdd : decide (s1.code ≠ 0) = false := by simp [hs1]
      rw [hdd] at d2
      have HS1 := hide hs1
      clear hs1
      have HX1 := hide (HX.out w1 s1 v hd1)
      rw [Int.toNat_natCast] at HX1
      have HR1 := hide HR.out
      rw [if_neg (by have := HS1.out; omega)] at HR1
      have hq := mNext_le bs s1 (mPlace s1) v hd1.2.1
      generalize mNext bs s1 (mPlace s1) v = q at HX1 HR1 hq
      obtain ⟨q1, s2⟩ := q
      simp only [] at HR1
      have HD1 := hide hd1
      have HG1 := hide hg1
      clear hd1 hg1 HR
      go_wp2_with fail
      refine (HX1.out).mono ?_
      rintro e w2 ⟨⟨v2, rfl, hown⟩, hd2, hg2⟩
      simp only [] at hown hd2
      have e2 := Blk.cell hd2.2.2 2
      have e1 := Blk.cell hd2.2.2 1
      have e3 := Blk.cell hd2.2.2 3
      have g1 := Blk.frozen hd2.2.2 1
      have g3 := Blk.frozen hd2.2.2 3
      have HG2 := hide (grownBy_trans HG1.out hg2)
      have HD2 := hide hd2
      by_cases hs2 : s2.code = 0
      · have hde : decide (s2.code ≠ 0) = false := by simp [hs2]
        rw [hde] at e2
        have HS2 := hide hs2
        have hcv := conv_rd w2 v2 _ (Rd_owned hown)
        clear hs2 hown hd2 hg2
        go_wp2
        go_ret
        rw [← HR1.out, if_neg (by have := HS2.out; omega)]
        exact ⟨rfl, HD2.out, HG2.out⟩
      · have hde : decide (s2.code ≠ 0) = true := by simp [hs2]
        rw [hde] at e2
        have HS2 := hide hs2
        clear hs2 hown hd2 hg2
        go_wp2
        go_ret
        rw [← HR1.out, if_pos HS2.out]
        exact text_fin HD2.out HG2.out HP.out
    · have hdd : decide (s1.code ≠ 0) = true := by simp [hs1]
      rw [hdd] at d2
      have HS1 := hide hs1
      clear hs1
      go_wp2
      go_ret
      rw [← HR.out, if_pos HS1.out]
      exact ⟨rfl, hd1, hg1⟩

theorem rtext_st (w : World) (y : Nat) (rv : Value) (bs : List UInt8) (s : S) (n : Int) (h1 : -9223372036854775808 ≤ n) (h2 : n ≤ 9223372036854775807) (h : RefSt w y rv bs s) (hlen : bs.length ≤ 140737488355000) :
    Calls Tryd.prog 84 #[.pointer (some ⟨y, 0, none⟩), .int .i64 n] w (RTextC w y rv bs (rText bs s n.toNat)) := by
  by_cases hc : s.code = 0
  · exact rtext_go w y rv bs s n n.toNat (by omega) h1 h2 h hlen hc
  · exact rtext_stopped w y rv bs s n h hc
end Go.Proofs.YtjcfndiceinkjaaDoor

/- The document's Key. -/
namespace Go.Proofs.YtjcfndiceinkjaaDoor
set_option linter.unusedVariables false
set_option linter.unusedSimpArgs false
set_option maxRecDepth 100000
open Go.RowKit

def zerosK : Array Value := #[.int .u8 0, .int .u8 0, .int .u8 0, .int .u8 0, .int .u8 0, .int .u8 0, .int .u8 0, .int .u8 0, .int .u8 0, .int .u8 0, .int .u8 0, .int .u8 0, .int .u8 0, .int .u8 0, .int .u8 0, .int .u8 0, .int .u8 0, .int .u8 0, .int .u8 0, .int .u8 0, .int .u8 0, .int .u8 0, .int .u8 0, .int .u8 0, .int .u8 0, .int .u8 0, .int .u8 0, .int .u8 0, .int .u8 0, .int .u8 0, .int .u8 0, .int .u8 0]
theorem zerosK_eq : zerosK = ((List.replicate 32 (0 : UInt8)).map u8c).toArray := rfl
def padK (xs : List UInt8) (j : Nat) : List UInt8 := xs.take j ++ List.replicate (32 - j) 0
theorem padK_len (xs : List UInt8) (j : Nat) (h : j ≤ xs.length) (h2 : xs.length ≤ 32) : (padK xs j).length = 32 := by unfold padK; simp; omega
theorem padK_set (xs : List UInt8) (j : Nat) (h : j < xs.length) (h2 : xs.length ≤ 32) : ((padK xs j).map u8c).toArray.setIfInBounds j (u8c xs[j]) = ((padK xs (j + 1)).map u8c).toArray := by
  unfold padK
  rw [List.setIfInBounds_toArray]
  congr 1
  rw [List.take_succ_eq_append_getElem h]
  have e : 32 - j = (32 - (j + 1)) + 1 := by omega
  rw [e, List.replicate_succ]
  simp [List.set_append]
  rw [Nat.min_eq_left (by omega)]
  simp
  rw [List.take_succ_eq_append_getElem (i := j) (l := xs.map u8c) (by simpa using h)]
  simp
def KeyR (w : World) (y : Nat) (rv : Value) (bs : List UInt8) (r : Option (List UInt8) × S) (e : Ending) (w' : World) : Prop :=
  e = .returned (.agg (keyCells r.1)) ∧ RefSt w' y rv bs r.2 ∧ w.grownBy w' (some y)
theorem keyPad (r : Option (List UInt8)) (h : ∀ xs, r = some xs → xs.length = 32) : ((padK (r.getD []) (r.getD []).length).map u8c).toArray = keyCells r := by
  rw [keyCells_eq]
  cases r with
  | none => rfl
  | some xs =>
    have := h xs rfl
    simp [padK, keyBytes, this]
    rw [← this, List.take_of_length_le (by simp)]

theorem rangeBlk {w : World} {b : Nat} {xs : List UInt8} {t : TypeId} (hB : Blk w b (xs.map u8c).toArray t) : w.rangeAt b 0 (xs.map u8c) := fun j v hj => by
  rw [Nat.zero_add, hB.cell]
  simpa using hj
theorem key_fin {w w1 w3 w4 : World} {y : Nat} {rv : Value} {bs : List UInt8} {s' : S} {o1 o2 : Obj} (hy : y < w.heap.size) (hrv : ∀ b cap, rv = .slice (some ⟨b, 0, none⟩) bs.length cap → b < w.heap.size)
    (hd : RefSt w1 y rv bs s') (hg : ((w.alloc o1).alloc o2).grownBy w1 (some y)) (hg3 : w1.grownBy w3 (some (w.heap.size + 1))) (hg4 : w3.grownBy w4 (some w.heap.size)) : RefSt w4 y rv bs s' ∧ w.grownBy w4 (some y) := by
  have hs := hg.size
  simp at hs
  have d3 : RefSt w3 y rv bs s' := hd.grown hg3 (fun e => by have := Option.some.inj e; omega) (fun b cap e1 e => by have := Option.some.inj e; have := hrv b cap e1; omega)
  have d4 : RefSt w4 y rv bs s' := d3.grown hg4 (fun e => by have := Option.some.inj e; omega) (fun b cap e1 e => by have := Option.some.inj e; have := hrv b cap e1; omega)
  refine ⟨d4, hg4.os.trans (hg3.os.trans hg.os), hg4.tape.trans (hg3.tape.trans hg.tape), hg4.output.trans (hg3.output.trans hg.output), ?_, fun k hk hne => ?_⟩
  · have := hg3.size; have := hg4.size; omega
  · have a4 := hg4.block k (by have := hg3.size; omega) (fun e => by have := Option.some.inj e; omega)
    have a3 := hg3.block k (by omega) (fun e => by have := Option.some.inj e; omega)
    have a1 := hg.block k (by simp; omega) hne
    rw [a4, a3, a1, Below.heap_alloc _ _ _ (by simp; omega), Below.heap_alloc _ _ _ hk]

set_option maxRecDepth 20000 in
set_option maxHeartbeats 1600000 in
theorem rkey_st (w : World) (y : Nat) (rv : Value) (bs : List UInt8) (s : S) (h : RefSt w y rv bs s) (hlen : bs.length ≤ 140737488355000) :
    Calls Tryd.prog 83 #[.pointer (some ⟨y, 0, none⟩)] w (KeyR w y rv bs (mNext bs s (mPlace s) 32)) := by
  have hy := h.lt
  have HRV := hide (fun b cap => h.1.blk (b := b) (cap := cap))
  have hb2 : ∀ o1 o2, Below w.heap.size w ((w.alloc o1).alloc o2) := fun o1 o2 => ((Below.refl _ _).alloc (Nat.le_refl _) _).alloc (by simp) _
  have HR := hide (fun o1 o2 => rraw_st ((w.alloc o1).alloc o2) y rv bs s 32 (h.below (hb2 o1 o2)) hlen)
  have hxl := mNext_few bs s (mPlace s) 32
  have HK := hide (keyPad (mNext bs s (mPlace s) 32).1 (mNext_whole bs s (mPlace s) 32))
  rw [show (32 : Int).toNat = 32 from rfl] at HR
  generalize mNext bs s (mPlace s) 32 = r at HR hxl HK ⊢
  clear hb2
  go_enter Tryd.func83, Tryd.ntmps83
  go_wp2_with fail
  refine (HR.out _ _).mono ?_
  rintro e w1 ⟨⟨v, rfl, hown⟩, hd, hg⟩
  obtain ⟨xs, hxs⟩ : ∃ xs, r.1.getD [] = xs := ⟨_, rfl⟩
  rw [hxs] at hown hxl HK
  have hrd := Rd_owned hown
  have hbl : ∀ k, v.ownBlock = some k → w.heap.size + 2 ≤ k := fun k hk => by have := (hown.lt k hk).1; simpa using this
  have hB0 : Blk w1 w.heap.size zerosK 27 := ((Blk.made w zerosK 27).alloc (.cells zerosK 27)).grown hg (fun e => by have := Option.some.inj e; omega)
  have hB1 : Blk w1 (w.heap.size + 1) zerosK 27 := by
    have := Blk.made (w.alloc (.cells zerosK 27)) zerosK 27
    rw [World.size_alloc] at this
    exact this.grown hg (fun e => by have := Option.some.inj e; omega)
  clear hxs hown HR
  obtain ⟨ao, c, rfl, hc, hm, hcel⟩ := hrd
  have HC := hide hcel
  have HBL := hide hbl
  have HB0 := hide hB0
  have HB1 := hide hB1
  have HD := hide hd
  have HG := hide hg
  clear hcel hbl hB0 hB1 hd hg
  go_wp2
  go_loopw [5] (fun i wr => ∃ j : Nat, j ≤ xs.length ∧ i = .int .i64 j ∧ Blk wr (w.heap.size + 1) ((padK xs j).map u8c).toArray 27 ∧ w1.grownBy wr (some (w.heap.size + 1))) (fun i _ => xs.length - (intOf i).toNat)
  case atStart => exact ⟨0, Nat.zero_le _, rfl, HB1.out, World.grownBy.refl _ _⟩
  case round =>
    obtain ⟨j, hj, rfl, hblk, hgr⟩ := hrel
    by_cases hlt : j < xs.length
    · obtain ⟨b, o, rfl, hcell⟩ : ∃ b o, ao = some ⟨b, o, none⟩ ∧ ∀ i (h : i < xs.length), w1.cell? ⟨b, o + i, none⟩ = some (u8c xs[i]) := by
        rcases HC.out with ⟨_, h⟩ | h
        · omega
        · exact h
      have hbne : w.heap.size + 2 ≤ b := HBL.out b rfl
      have hck : wr.cell? ⟨b, o + j, none⟩ = some (u8c xs[j]) := hgr.cell (hcell j hlt) (fun e => by have := Option.some.inj e; simp at this; omega)
      have HS := hide (padK_set xs j hlt hxl)
      have hpl := padK_len xs j hj hxl
      obtain ⟨old, hold⟩ : ∃ old, wr.cell? ⟨w.heap.size + 1, j, none⟩ = some old := by
        rw [hblk.cell]; exact ⟨_, Array.getElem?_eq_getElem (by simp; omega)⟩
      have hfr := hblk.frozen j
      have HBK := hide hblk
      clear hcell HC hblk hpl
      have hj32 : (j : Int) < 32 := by omega
      unfold u8c at hck
      obtain ⟨t, ht⟩ : ∃ t, t = xs[j].toNat := ⟨_, rfl⟩
      have htb : t < 256 := by rw [ht]; exact xs[j].toNat_lt
      rw [← ht] at hck
      have HT : Hid (u8c xs[j] = Value.int .u8 (t : Int)) := by rw [ht]; rfl
      clear ht
      go_wp2
      go_roundw
      case rel =>
        have hb' := HBK.out.set j (u8c xs[j])
        rw [HS.out, HT.out] at hb'
        exact ⟨j + 1, by omega, by go_num, hb', grownBy_trans hgr (grownBy_set _ _ _ _)⟩
      case measure => simp [intOf]; omega
    · obtain rfl : j = xs.length := by omega
      have hpl := padK_len xs xs.length (Nat.le_refl _) hxl
      have HRA := hide (rangeBlk hblk)
      have HB0' := hide (HB0.out.grown hgr (fun e => by have := Option.some.inj e; omega))
      have HL1 := hide (show ((padK xs xs.length).map u8c).length = 32 by simp [hpl])
      have HL2 := hide (show ((padK xs xs.length).map u8c).toArray.size = 32 by simp [hpl])
      have HO := hide (all_oneCell_toArray (u8c_one (padK xs xs.length)))
      obtain ⟨cs, hcs⟩ : ∃ cs, cs = (padK xs xs.length).map u8c := ⟨_, rfl⟩
      rw [← hcs] at HRA HL1 HL2 HO HK
      clear hcs hblk hpl
      go_wp2_with (first | ((with_reducible refine wpList_load_key ?_ (.tmp 3) ?_ (w.heap.size + 1) 0 ?_ cs HRA.out HL1.out ?_); rfl; rfl; rfl) | ((with_reducible refine wpList_store_blk ?_ 27 (.tmp 2) (.tmp 20) ?_ w.heap.size 32 zerosK cs.toArray 27 HL2.out ?_ ?_ ?_ HB0'.out infoKey HO.out ?_); rfl; rfl; rfl; rfl; rfl; intro w4 hk4 hg4))
      refine bodyPost_ret (results_cell rfl _ _ _ rfl _ (loadBlk hk4 HL2.out)) rfl ?_
      have hf := key_fin hy HRV.out HD.out HG.out hgr hg4
      exact ⟨by rw [HK.out], hf.1, hf.2⟩
end Go.Proofs.YtjcfndiceinkjaaDoor

/- Open. -/
namespace Go.Proofs.YtjcfndiceinkjaaDoor
set_option linter.unusedVariables false
set_option linter.unusedSimpArgs false
set_option maxRecDepth 100000
open Go.RowKit

def s0 : S := ⟨0, 0, 0⟩
set_option maxRecDepth 20000 in
theorem open_any (w : World) (v : Value) (xs : List UInt8) (h : Rd w v xs) (hlen : xs.length ≤ 140737488355000) :
    Calls Tryd.prog 33 #[v] w fun e w' => e = .returned (.pointer (some ⟨w.heap.size + 1, 0, none⟩)) ∧ DecSt w' (w.heap.size + 1) (.slice (some ⟨w.heap.size, 0, none⟩) xs.length xs.length) xs s0 ∧ Below w.heap.size w w' ∧ w'.heap.size = w.heap.size + 2 := by
  have hmk := make_u8 xs.length (by omega)
  have hcp := copy_made w v xs h
  obtain ⟨ao, c, hv, hrest⟩ := h
  clear hrest
  subst hv
  go_enter Tryd.func33, Tryd.ntmps33
  go_wp2
  go_ret
  refine ⟨rfl, ⟨⟨by unfold maxLen; omega, .inr ⟨w.heap.size, rfl, by omega, (Blk.made w _ _).alloc _⟩⟩, Nat.zero_le _, ?_⟩, ((Below.refl _ _).alloc (Nat.le_refl _) _).alloc (by simp) _, by simp⟩
  have := Blk.made (w.alloc (.cells (xs.map u8c).toArray 5)) #[.slice (some ⟨w.heap.size, 0, none⟩) xs.length xs.length, .int .i64 0, .int .i64 0, .int .i64 0] 101
  rw [World.size_alloc] at this
  exact this

end Go.Proofs.YtjcfndiceinkjaaDoor

/- Open, both ways. -/
namespace Go.Proofs.YtjcfndiceinkjaaDoor
set_option linter.unusedVariables false
set_option linter.unusedSimpArgs false
set_option maxRecDepth 100000
open Go.RowKit

def ROpenC (w : World) (xs : List UInt8) (e : Ending) (w' : World) : Prop :=
  ∃ rv, e = .returned (.pointer (some ⟨w.heap.size, 0, none⟩)) ∧ RefSt w' w.heap.size rv xs s0 ∧ Below w.heap.size w w' ∧ (∀ b cap, rv = .slice (some ⟨b, 0, none⟩) xs.length cap → w.heap.size < b)
set_option maxRecDepth 20000 in
set_option maxHeartbeats 800000 in
theorem ropen_any (w : World) (v : Value) (xs : List UInt8) (h : Rd w v xs) (hlen : xs.length ≤ 140737488355000) :
    Calls Tryd.prog 38 #[v] w (ROpenC w xs) := by
  obtain ⟨i0, hi, hz0, hz1, hz2⟩ := info_parts infoU8
  rcases h.form with ⟨rfl, rfl⟩ | ⟨b, o, c, rfl, hcell⟩
  · go_enter Tryd.func38, Tryd.ntmps38
    go_wp2
    go_ret
    exact ⟨.slice none 0 0, rfl, ⟨⟨Nat.zero_le _, .inl ⟨rfl, rfl⟩⟩, Nat.zero_le _, Blk.made w _ _⟩, (Below.refl _ _).alloc (Nat.le_refl _) _, fun b cap e => by cases e⟩
  · have HN := hide (Rd_news (w := w.alloc (.cells #[.slice none 0 0, .int .i64 0, .bool false, .int .i64 0, .int .i64 0] 116)) (fun i hi => (World.cell?_alloc_lt w _ ⟨b, o + i, none⟩ (World.block_lt_of_cell? w _ (hcell i hi))).trans (hcell i hi)))
    have HO := hide (u8c_one xs)
    have HL := hide (show (xs.map u8c).length = xs.length * 1 by simp)
    clear h hcell
    go_enter Tryd.func38, Tryd.ntmps38
    go_wp2_with (at_builtin; refine wpList_append_own _ rfl _ _ 23 rfl (w.heap.size + 1) 5 i0 (.int .u8 0) 1 1 Tryd.underlying23 hi hz0 hz1 hz2 rfl (by decide) (.slice none 0 0) 0 [] rfl (World.ownsRow_nil _ _ _ _) ⟨b, o, none⟩ xs.length c (xs.map u8c) rfl HL.out HN.out HO.out (by unfold maxLen; omega) (by omega) (by rw [World.size_alloc]; omega) ?_)
    intro v' w1 hown hgrow _
    have hB : Blk w1 w.heap.size #[.slice none 0 0, .int .i64 0, .bool false, .int .i64 0, .int .i64 0] 116 := (Blk.made w _ _).grown hgrow (by simp [Value.ownBlock])
    have c0 := hB.cell 0
    have f0 := hB.frozen 0
    have hb1 : Below w.heap.size w w1 := ⟨hgrow.os, hgrow.tape, hgrow.output, by have := hgrow.size; simp at this; omega, fun k hk => (hgrow.block k (by simp; omega) (by simp [Value.ownBlock])).trans (Below.heap_alloc w _ k hk)⟩
    have HB := hide hB
    have HBW := hide hb1
    obtain ⟨hl, ⟨rfl, hx⟩ | ⟨g, cap, cur, rfl, hg, hgh, hgc, hcm, hcs, hct⟩⟩ := hown
    · obtain rfl : xs = [] := List.eq_nil_of_length_eq_zero hx
      clear hgrow hb1 hB hl hx
      go_wp2
      go_ret
      exact ⟨.slice none 0 0, rfl, ⟨⟨Nat.zero_le _, .inl ⟨rfl, rfl⟩⟩, Nat.zero_le _, Blk.set HB.out 0 _⟩, HBW.out.setCell (Nat.le_refl _) _, fun b cap e => by cases e⟩
    · have HGH := hide hgh
      have HCT := hide hct
      clear hgrow hb1 hB hl hgh hct hcs
      go_wp2
      go_ret
      refine ⟨.slice (some ⟨g, 0, none⟩) xs.length cap, rfl, ⟨⟨by unfold maxLen; omega, .inr ⟨g, cap, cur, rfl, hgc, hcm, by omega, Blk.setOther HGH.out _ _ (by simp; omega), by have := HCT.out; rwa [Nat.mul_one] at this⟩⟩, Nat.zero_le _, Blk.set HB.out 0 _⟩, HBW.out.setCell (Nat.le_refl _) _, fun b cap' e => by cases e; omega⟩

set_option maxRecDepth 20000 in
set_option maxHeartbeats 800000 in
theorem ropen_arg (w : World) (v : Value) (xs : List UInt8) (h : RdA w v xs) (hlen : xs.length ≤ 140737488355000) :
    Calls Tryd.prog 38 #[v] w (ROpenC w xs) := by
  rcases h with h | ⟨a, rfl, rfl⟩
  · exact ropen_any w v xs h hlen
  · obtain ⟨i0, hi, hz0, hz1, hz2⟩ := info_parts infoU8
    go_enter Tryd.func38, Tryd.ntmps38
    go_wp2_with (at_builtin; refine wpList_append_own _ rfl _ _ 23 rfl (w.heap.size + 1) 5 i0 (.int .u8 0) 1 1 Tryd.underlying23 hi hz0 hz1 hz2 rfl (by decide) (.slice none 0 0) 0 [] rfl (World.ownsRow_nil _ _ _ _) a 0 0 [] rfl rfl (by intro j u hj; simp at hj) (by intro u hu; simp at hu) (by decide) (by decide) (by rw [World.size_alloc]; omega) ?_)
    intro v' w1 hown hgrow hnil
    obtain rfl : v' = .slice none 0 0 := by simpa using hnil
    have hB : Blk w1 w.heap.size #[.slice none 0 0, .int .i64 0, .bool false, .int .i64 0, .int .i64 0] 116 := (Blk.made w _ _).grown hgrow (by simp [Value.ownBlock])
    have c0 := hB.cell 0
    have f0 := hB.frozen 0
    have hb1 : Below w.heap.size w w1 := ⟨hgrow.os, hgrow.tape, hgrow.output, by have := hgrow.size; simp at this; omega, fun k hk => (hgrow.block k (by simp; omega) (by simp [Value.ownBlock])).trans (Below.heap_alloc w _ k hk)⟩
    have HB := hide hB
    have HBW := hide hb1
    clear hgrow hb1 hB hown hnil
    go_wp2
    go_ret
    exact ⟨.slice none 0 0, rfl, ⟨⟨Nat.zero_le _, .inl ⟨rfl, rfl⟩⟩, Nat.zero_le _, Blk.set HB.out 0 _⟩, HBW.out.setCell (Nat.le_refl _) _, fun b cap e => by cases e⟩
end Go.Proofs.YtjcfndiceinkjaaDoor
