/- The document's Text and Fixed. -/
import Derived.Test.YtinjcefekbpabaaR3
namespace Go.Proofs.Ytinjcefekbpabaa
set_option linter.unusedVariables false
set_option linter.unusedSimpArgs false
open Go.RowKit

theorem rvar_st (w : World) (y : Nat) (rv : Value) (bs : List UInt8) (s : S) (most : Nat) (h : RefSt w y rv bs s) :
    Calls Try.prog 58 #[.pointer (some ⟨y, 0, none⟩), .int .u64 most] w (RVarC w y rv bs (mNum bs s most)) := by
  by_cases hc : s.code = 0
  · exact rvar_go w y rv bs s most h hc
  · exact rvar_stopped w y rv bs s most h hc

def FixR (w : World) (y : Nat) (rv : Value) (bs : List UInt8) (r : Option (List UInt8) × S) (e : Ending) (w' : World) : Prop :=
  e = .returned (.int .u64 (leNat (r.1.getD []) : Nat)) ∧ RefSt w' y rv bs r.2 ∧ w.grownBy w' (some y)
theorem le_down (xs : List UInt8) (k : Nat) (h : k < xs.length) (h8 : xs.length ≤ 8) : IntKind.u64.wrap (IntKind.u64.wrap ((leNat (xs.drop (k + 1)) : Nat) * 256) + (xs[k].toNat : Int)) = ((leNat (xs.drop k) : Nat) : Int) := by
  have e : xs.drop k = xs[k] :: xs.drop (k + 1) := List.drop_eq_getElem_cons h
  have h1 := leNat_lt (xs.drop k) 8 (by rw [List.length_drop]; omega)
  rw [e] at h1 ⊢
  rw [leNat] at h1 ⊢
  have h2 : (256 : Nat) ^ 8 = 18446744073709551616 := by decide
  rw [IntKind.wrap_u64, IntKind.wrap_u64]
  omega

set_option maxRecDepth 20000 in
set_option maxHeartbeats 1600000 in
theorem rfixed_st (w : World) (y : Nat) (rv : Value) (bs : List UInt8) (s : S) (k : Nat) (h : RefSt w y rv bs s) (hlen : bs.length ≤ 140737488355000) (hk : k ≤ 8) :
    Calls Try.prog 62 #[.pointer (some ⟨y, 0, none⟩), .int .i64 k] w (FixR w y rv bs (mNext bs s (mPlace s) k)) := by
  have HR := hide (rraw_st w y rv bs s k h hlen)
  have hxl := mNext_few bs s (mPlace s) k
  rw [Int.toNat_natCast] at HR
  generalize mNext bs s (mPlace s) k = r at HR hxl ⊢
  go_enter Try.func62, Try.ntmps62
  go_wp2_with fail
  refine (HR.out).mono ?_
  rintro e w1 ⟨⟨v, rfl, hown⟩, hd, hg⟩
  obtain ⟨xs, hxs⟩ : ∃ xs, r.1.getD [] = xs := ⟨_, rfl⟩
  rw [hxs] at hown hxl
  have HXS := hide hxs
  have hrd := Rd_owned hown
  clear hxs hown HR
  obtain ⟨ao, c, rfl, hc, hm, hcel⟩ := hrd
  have HC := hide hcel
  clear hcel
  have hx8 : xs.length ≤ 8 := by omega
  go_wp2
  go_loop [6, 7] (fun v i => ∃ j : Nat, j ≤ xs.length ∧ i = .int .i64 ((j : Int) - 1) ∧ v = .int .u64 (leNat (xs.drop j) : Nat)) (fun _ i => (intOf i + 1).toNat)
  case atStart => exact ⟨xs.length, Nat.le_refl _, rfl, by simp [leNat]⟩
  case round =>
    obtain ⟨j, hj, rfl, rfl⟩ := hrel
    by_cases hlt : 0 < j
    · obtain ⟨j, rfl⟩ : ∃ j', j = j' + 1 := ⟨j - 1, by omega⟩
      have hjl : j < xs.length := by omega
      obtain ⟨b, o, rfl, hcell⟩ : ∃ b o, ao = some ⟨b, o, none⟩ ∧ ∀ i (h : i < xs.length), w1.cell? ⟨b, o + i, none⟩ = some (u8c xs[i]) := by
        rcases HC.out with ⟨_, h⟩ | h
        · omega
        · exact h
      have hck := hcell j hjl
      have HS := hide (le_down xs j hjl hx8)
      clear hcell HC
      unfold u8c at hck
      obtain ⟨t, ht⟩ : ∃ t, t = xs[j].toNat := ⟨_, rfl⟩
      have htb : t < 256 := by rw [ht]; exact xs[j].toNat_lt
      rw [← ht] at hck HS
      clear ht
      generalize leNat (xs.drop (j + 1)) = x at HS ⊢
      have hj1 : ((j + 1 : Nat) : Int) - 1 = (j : Int) := by omega
      rw [hj1]
      go_wp2
      go_round
      case rel => exact ⟨j, by omega, rfl, by rw [HS.out]⟩
      case measure => simp [intOf]
    · obtain rfl : j = 0 := by omega
      go_wp2
      go_ret
      unfold FixR
      rw [HXS.out]
      exact ⟨by simp, hd, hg⟩

/-- The document's Text by the plain machine. -/
def rText (bs : List UInt8) (s : S) (most : Nat) : List UInt8 × S :=
  if s.code ≠ 0 then ([], s)
  else if (mNum bs s most).2.2.code ≠ 0 then ([], (mNum bs s most).2.2)
  else if (mNext bs (mNum bs s most).2.2 (mPlace (mNum bs s most).2.2) (mNum bs s most).1).2.code ≠ 0 then ([], { (mNext bs (mNum bs s most).2.2 (mPlace (mNum bs s most).2.2) (mNum bs s most).1).2 with p := s.p, fat := s.p })
  else ((mNext bs (mNum bs s most).2.2 (mPlace (mNum bs s most).2.2) (mNum bs s most).1).1.getD [], (mNext bs (mNum bs s most).2.2 (mPlace (mNum bs s most).2.2) (mNum bs s most).1).2)
def RTextC (w : World) (y : Nat) (rv : Value) (bs : List UInt8) (r : List UInt8 × S) (e : Ending) (w' : World) : Prop :=
  e = .returned (.string ⟨r.1.toArray⟩) ∧ RefSt w' y rv bs r.2 ∧ w.grownBy w' (some y)
theorem rtext_stopped (w : World) (y : Nat) (rv : Value) (bs : List UInt8) (s : S) (n : Int) (h : RefSt w y rv bs s) (hc : s.code ≠ 0) :
    Calls Try.prog 59 #[.pointer (some ⟨y, 0, none⟩), .int .i64 n] w (RTextC w y rv bs (rText bs s n.toNat)) := by
  have HM := hide (show rText bs s n.toNat = ([], s) by rw [rText, if_pos hc])
  have c2 := Blk.cell h.2.2 2
  have hd : decide (s.code ≠ 0) = true := by simp [hc]
  rw [hd] at c2
  clear hc
  go_enter Try.func59, Try.ntmps59
  go_wp2
  go_ret
  rw [HM.out]
  exact ⟨rfl, h, World.grownBy.refl _ _⟩
theorem text_fin {w w2 : World} {y p : Nat} {rv : Value} {bs : List UInt8} {s2 : S} (h : RefSt w2 y rv bs s2) (hg : w.grownBy w2 (some y)) (hp : p ≤ bs.length) :
    RTextC w y rv bs ([], { s2 with p := p, fat := p }) (.returned (.string ⟨#[]⟩)) ((w2.setCell ⟨y, 1, none⟩ (.int .i64 p)).setCell ⟨y, 3, none⟩ (.int .i64 p)) := by
  have hg1 : w2.grownBy ((w2.setCell ⟨y, 1, none⟩ (.int .i64 p)).setCell ⟨y, 3, none⟩ (.int .i64 p)) (some y) := grownBy_trans (grownBy_set _ _ _ _) (grownBy_set _ _ _ _)
  exact ⟨rfl, ⟨h.1.self hg1, hp, Blk.set (Blk.set h.2.2 1 (.int .i64 p)) 3 (.int .i64 p)⟩, grownBy_trans hg hg1⟩

set_option maxRecDepth 20000 in
set_option maxHeartbeats 1600000 in
theorem rtext_go (w : World) (y : Nat) (rv : Value) (bs : List UInt8) (s : S) (n : Int) (m : Nat) (hn : (m : Int) = max n 0) (h1 : -9223372036854775808 ≤ n) (h2 : n ≤ 9223372036854775807) (h : RefSt w y rv bs s) (hlen : bs.length ≤ 140737488355000) (hc : s.code = 0) :
    Calls Try.prog 59 #[.pointer (some ⟨y, 0, none⟩), .int .i64 n] w (RTextC w y rv bs (rText bs s m)) := by
  obtain ⟨r', hr'⟩ : ∃ r', rText bs s m = r' := ⟨_, rfl⟩
  rw [hr']
  rw [rText, if_neg (by omega)] at hr'
  have HR := hide hr'
  clear hr'
  have c1 := Blk.cell h.2.2 1
  have c2 := Blk.cell h.2.2 2
  have hd : decide (s.code ≠ 0) = false := by simp [hc]
  rw [hd] at c2
  clear hc
  have HV := hide (rvar_st w y rv bs s m h)
  have hle := mNum_ok_le bs s m
  have HX := hide (fun w s' (k : Nat) h => rraw_st w y rv bs s' k h hlen)
  generalize mNum bs s m = r at HV HR hle
  obtain ⟨v, ok, s1⟩ := r
  simp only [] at HR hle
  have hv63 : v ≤ 9223372036854775807 := by omega
  have hp := h.2.1
  clear hle
  have HP := hide hp
  by_cases hneg : n < 0
  · obtain rfl : m = 0 := by omega
    clear hn
    go_enter Try.func59, Try.ntmps59
    go_wp2_with fail
    refine (HV.out).mono ?_
    rintro e w1 ⟨rfl, hd1, hg1⟩
    simp only [] at hd1
    have d2 := Blk.cell hd1.2.2 2
    by_cases hs1 : s1.code = 0
    · have hdd : decide (s1.code ≠ 0) = false := by simp [hs1]
      rw [hdd] at d2
      have HS1 := hide hs1
      clear hs1
      have HX1 := hide (HX.out w1 s1 v hd1)
      rw [Int.toNat_natCast] at HX1
      have HR1 := hide HR.out
      rw [if_neg (by have := HS1.out; omega)] at HR1
      have hq := mNext_le bs s1 (mPlace s1) v hd1.2.1
      generalize mNext bs s1 (mPlace s1) v = q at HX1 HR1 hq
      obtain ⟨q1, s2⟩ := q
      simp only [] at HR1
      have HD1 := hide hd1
      have HG1 := hide hg1
      clear hd1 hg1 HR
      go_wp2_with fail
      refine (HX1.out).mono ?_
      rintro e w2 ⟨⟨v2, rfl, hown⟩, hd2, hg2⟩
      simp only [] at hown hd2
      have e2 := Blk.cell hd2.2.2 2
      have e1 := Blk.cell hd2.2.2 1
      have e3 := Blk.cell hd2.2.2 3
      have g1 := Blk.frozen hd2.2.2 1
      have g3 := Blk.frozen hd2.2.2 3
      have HG2 := hide (grownBy_trans HG1.out hg2)
      have HD2 := hide hd2
      by_cases hs2 : s2.code = 0
      · have hde : decide (s2.code ≠ 0) = false := by simp [hs2]
        rw [hde] at e2
        have HS2 := hide hs2
        have hcv := conv_rd w2 v2 _ (Rd_owned hown)
        clear hs2 hown hd2 hg2
        go_wp2
        go_ret
        rw [← HR1.out, if_neg (by have := HS2.out; omega)]
        exact ⟨rfl, HD2.out, HG2.out⟩
      · have hde : decide (s2.code ≠ 0) = true := by simp [hs2]
        rw [hde] at e2
        have HS2 := hide hs2
        clear hs2 hown hd2 hg2
        go_wp2
        go_ret
        rw [← HR1.out, if_pos HS2.out]
        exact text_fin HD2.out HG2.out HP.out
    · have hdd : decide (s1.code ≠ 0) = true := by simp [hs1]
      rw [hdd] at d2
      have HS1 := hide hs1
      clear hs1
      go_wp2
      go_ret
      rw [← HR.out, if_pos HS1.out]
      exact ⟨rfl, hd1, hg1⟩
  · obtain rfl : n = m := by omega
    clear hn
    go_enter Try.func59, Try.ntmps59
    go_wp2_with fail
    refine (HV.out).mono ?_
    rintro e w1 ⟨rfl, hd1, hg1⟩
    simp only [] at hd1
    have d2 := Blk.cell hd1.2.2 2
    by_cases hs1 : s1.code = 0
    · have hdd : decide (s1.code ≠ 0) = false := by simp [hs1]
      rw [hdd] at d2
      have HS1 := hide hs1
      clear hs1
      have HX1 := hide (HX.out w1 s1 v hd1)
      rw [Int.toNat_natCast] at HX1
      have HR1 := hide HR.out
      rw [if_neg (by have := HS1.out; omega)] at HR1
      have hq := mNext_le bs s1 (mPlace s1) v hd1.2.1
      generalize mNext bs s1 (mPlace s1) v = q at HX1 HR1 hq
      obtain ⟨q1, s2⟩ := q
      simp only [] at HR1
      have HD1 := hide hd1
      have HG1 := hide hg1
      clear hd1 hg1 HR
      go_wp2_with fail
      refine (HX1.out).mono ?_
      rintro e w2 ⟨⟨v2, rfl, hown⟩, hd2, hg2⟩
      simp only [] at hown hd2
      have e2 := Blk.cell hd2.2.2 2
      have e1 := Blk.cell hd2.2.2 1
      have e3 := Blk.cell hd2.2.2 3
      have g1 := Blk.frozen hd2.2.2 1
      have g3 := Blk.frozen hd2.2.2 3
      have HG2 := hide (grownBy_trans HG1.out hg2)
      have HD2 := hide hd2
      by_cases hs2 : s2.code = 0
      · have hde : decide (s2.code ≠ 0) = false := by simp [hs2]
        rw [hde] at e2
        have HS2 := hide hs2
        have hcv := conv_rd w2 v2 _ (Rd_owned hown)
        clear hs2 hown hd2 hg2
        go_wp2
        go_ret
        rw [← HR1.out, if_neg (by have := HS2.out; omega)]
        exact ⟨rfl, HD2.out, HG2.out⟩
      · have hde : decide (s2.code ≠ 0) = true := by simp [hs2]
        rw [hde] at e2
        have HS2 := hide hs2
        clear hs2 hown hd2 hg2
        go_wp2
        go_ret
        rw [← HR1.out, if_pos HS2.out]
        exact text_fin HD2.out HG2.out HP.out
    · have hdd : decide (s1.code ≠ 0) = true := by simp [hs1]
      rw [hdd] at d2
      have HS1 := hide hs1
      clear hs1
      go_wp2
      go_ret
      rw [← HR.out, if_pos HS1.out]
      exact ⟨rfl, hd1, hg1⟩

theorem rtext_st (w : World) (y : Nat) (rv : Value) (bs : List UInt8) (s : S) (n : Int) (h1 : -9223372036854775808 ≤ n) (h2 : n ≤ 9223372036854775807) (h : RefSt w y rv bs s) (hlen : bs.length ≤ 140737488355000) :
    Calls Try.prog 59 #[.pointer (some ⟨y, 0, none⟩), .int .i64 n] w (RTextC w y rv bs (rText bs s n.toNat)) := by
  by_cases hc : s.code = 0
  · exact rtext_go w y rv bs s n n.toNat (by omega) h1 h2 h hlen hc
  · exact rtext_stopped w y rv bs s n h hc
end Go.Proofs.Ytinjcefekbpabaa
