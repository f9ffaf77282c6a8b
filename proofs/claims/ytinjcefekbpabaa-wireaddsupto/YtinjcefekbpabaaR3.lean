/- The document's Raw. -/
import Derived.Test.YtinjcefekbpabaaR2
import Derived.Deep.RegionLawGrows
namespace Go.Proofs.Ytinjcefekbpabaa
set_option linter.unusedVariables false
set_option linter.unusedSimpArgs false
open Go.RowKit

def RRawC (w : World) (y : Nat) (rv : Value) (bs : List UInt8) (r : Option (List UInt8) × S) (e : Ending) (w' : World) : Prop :=
  (∃ v, e = .returned v ∧ w'.ownsRow w.heap.size 5 1 v (r.1.getD []).length ((r.1.getD []).map u8c)) ∧ RefSt w' y rv bs r.2 ∧ w.grownBy w' (some y)

theorem rraw_stopped (w : World) (y : Nat) (rv : Value) (bs : List UInt8) (s : S) (n : Int) (h : RefSt w y rv bs s) (hc : s.code ≠ 0) :
    Calls Try.prog 60 #[.pointer (some ⟨y, 0, none⟩), .int .i64 n] w (RRawC w y rv bs (mNext bs s (mPlace s) n.toNat)) := by
  have HM := hide (show mNext bs s (mPlace s) n.toNat = (none, s) by rw [mNext, if_pos hc])
  have c2 := Blk.cell h.2.2 2
  have hd : decide (s.code ≠ 0) = true := by simp [hc]
  rw [hd] at c2
  clear hc
  go_enter Try.func60, Try.ntmps60
  go_wp2
  go_ret
  rw [HM.out]
  exact ⟨⟨_, rfl, World.ownsRow_nil _ _ _ _⟩, h, World.grownBy.refl _ _⟩
theorem rraw_none (w : World) (y : Nat) (rv : Value) (bs : List UInt8) (s : S) (n : Int) (h : RefSt w y rv bs s) (hc : s.code = 0) (hn : n ≤ 0) :
    Calls Try.prog 60 #[.pointer (some ⟨y, 0, none⟩), .int .i64 n] w (RRawC w y rv bs (mNext bs s (mPlace s) n.toNat)) := by
  have HM := hide (show mNext bs s (mPlace s) n.toNat = (some [], s) by
    rw [mNext, if_neg (by omega), show n.toNat = 0 by omega, if_neg (by have := h.2.1; omega)]; simp)
  have c2 := Blk.cell h.2.2 2
  have hd : decide (s.code ≠ 0) = false := by simp [hc]
  rw [hd] at c2
  clear hc
  go_enter Try.func60, Try.ntmps60
  go_wp2
  go_ret
  rw [HM.out]
  exact ⟨⟨_, rfl, World.ownsRow_nil _ _ _ _⟩, h, World.grownBy.refl _ _⟩
theorem rraw_ends (w : World) (y : Nat) (rv : Value) (bs : List UInt8) (s : S) (n : Int) (h : RefSt w y rv bs s) (hc : s.code = 0) (hn : 0 < n) (hl : (bs.length : Int) - (s.p : Int) < n) :
    Calls Try.prog 60 #[.pointer (some ⟨y, 0, none⟩), .int .i64 n] w (RRawC w y rv bs (mNext bs s (mPlace s) n.toNat)) := by
  have HM := hide (show mNext bs s (mPlace s) n.toNat = (none, { s with fat := s.p, code := 10 }) by
    rw [mNext, if_neg (by omega), if_pos (by omega), mPlace, if_neg (by omega)])
  obtain ⟨ao, cap, rfl⟩ := h.1.form
  have hm : bs.length ≤ 9223372036854775807 := h.1.1
  have hp := h.2.1
  have c0 := Blk.cell h.2.2 0
  have c1 := Blk.cell h.2.2 1
  have c2 := Blk.cell h.2.2 2
  have hd : decide (s.code ≠ 0) = false := by simp [hc]
  rw [hd] at c2
  clear hc
  go_enter Try.func60, Try.ntmps60
  go_wp2_with fail
  go_quiet (fail)
  go_wp2_with fail
  refine (rstop_go _ y _ bs s s.p 10 (by decide) (h.drewN _)).mono ?_
  rintro e w1 ⟨rfl, hd1, hg1⟩
  go_wp2
  go_ret
  rw [HM.out]
  exact ⟨⟨_, rfl, World.ownsRow_nil _ _ _ _⟩, hd1, grownBy_trans (grownBy_drewN _ _ _) hg1⟩
theorem raw_fin {w w' : World} {y k q m : Nat} {rv v : Value} {bs : List UInt8} {s : S} {news : List Value} (h : RefSt w y rv bs s) (hown : w'.ownsRow (w.drewN m).heap.size 5 1 v (0 + (q - s.p)) ([] ++ news)) (hg : (w.drewN m).grownBy w' none)
    (hA : RefAt w' y rv s) (hc : s.code = 0) (hq : q = s.p + k) (hn : news = ((bs.drop s.p).take k).map u8c) (hl : s.p + k ≤ bs.length) :
    RRawC w y rv bs (some ((bs.drop s.p).take k), { s with p := s.p + k }) (.returned v) (w'.setCell ⟨y, 1, none⟩ (.int .i64 q)) := by
  have hg0 : w.grownBy w' none := grownBy_trans (grownBy_drewN w m none) hg
  have hg1 : w'.grownBy (w'.setCell ⟨y, 1, none⟩ (.int .i64 q)) (some y) := grownBy_set _ _ _ _
  have hR : RefSt w' y rv bs s := h.grown hg0 (by simp) (by simp)
  subst hq
  refine ⟨⟨v, rfl, ?_⟩, ⟨hR.1.self hg1, by simp; omega, Blk.set hA 1 (.int .i64 ((s.p + k : Nat) : Int))⟩, ⟨hg1.os.trans hg0.os, hg1.tape.trans hg0.tape, hg1.output.trans hg0.output, Nat.le_trans hg0.size hg1.size, fun i hi hne => (hg1.block i (Nat.lt_of_lt_of_le hi hg0.size) hne).trans (hg0.block i hi (by simp))⟩⟩
  have hlt : y < w.heap.size := h.lt
  have := ownsRow_setCell_below hown (a := ⟨y, 1, none⟩) hlt (.int .i64 ((s.p + k : Nat) : Int))
  have e : 0 + (s.p + k - s.p) = ((bs.drop s.p).take k).length := by simp; omega
  rw [e, List.nil_append, hn] at this
  exact this

set_option maxRecDepth 20000 in
set_option maxHeartbeats 1600000 in
theorem rraw_go (w : World) (y : Nat) (rv : Value) (bs : List UInt8) (s : S) (k : Nat) (h : RefSt w y rv bs s) (hc : s.code = 0) (hn : 0 < k) (hl : s.p + k ≤ bs.length) (hlen : bs.length ≤ 140737488355000) :
    Calls Try.prog 60 #[.pointer (some ⟨y, 0, none⟩), .int .i64 k] w (RRawC w y rv bs (mNext bs s (mPlace s) k)) := by
  have HM := hide (show mNext bs s (mPlace s) k = (some ((bs.drop s.p).take k), { s with p := s.p + k }) by
    rw [mNext, if_neg (by omega), if_neg (by omega)])
  obtain ⟨i0, hi, hz0, hz1, hz2⟩ := info_parts infoU8
  have h0 := h
  obtain ⟨⟨hm, hbt⟩, hp, hA⟩ := h
  obtain ⟨b, cap, cur, rfl, hcap, hcm, hby, hB, ht⟩ : ∃ b cap cur, rv = .slice (some ⟨b, 0, none⟩) bs.length cap ∧ bs.length ≤ cap ∧ cap ≤ maxLen ∧ b ≠ y ∧ Blk w b cur 5 ∧ cur.toList.take bs.length = bs.map u8c := by
    rcases hbt with ⟨_, e⟩ | h
    · rw [e] at hl; simp at hl; omega
    · exact h
  have hm2 : bs.length ≤ 9223372036854775807 := hm
  have hcm2 : cap ≤ 9223372036854775807 := hcm
  have c0 := Blk.cell hA 0
  have c1 := Blk.cell hA 1
  have c2 := Blk.cell hA 2
  have f1 := Blk.frozen hA 1
  have hd : decide (s.code ≠ 0) = false := by simp [hc]
  rw [hd] at c2
  have HC := hide hc
  clear hc
  obtain ⟨news, hnews⟩ : ∃ news, news = ((bs.drop s.p).take k).map u8c := ⟨_, rfl⟩
  obtain ⟨q, hq⟩ : ∃ q, q = s.p + k := ⟨_, rfl⟩
  have hnl : news.length = (q - s.p) * 1 := by rw [hnews, hq]; simp; omega
  have hwr : IntKind.i64.wrap ((s.p : Int) + (k : Int)) = (q : Int) := by rw [IntKind.wrap_i64]; omega
  have hq1 : s.p ≤ q := by omega
  have hq2 : (q : Int) ≤ (cap : Int) := by omega
  have hone : ∀ u ∈ news, u.oneCell' = true := by rw [hnews]; exact u8c_one _
  have hcel : ∀ (m : Nat) j u, news[j]? = some u → (w.drewN m).cell? ((⟨b, s.p, none⟩ : Addr).add j) = some u := by
    intro m j u hj
    have hjl : j < k := by
      rcases Nat.lt_or_ge j k with h | h
      · exact h
      · rw [List.getElem?_eq_none (by omega)] at hj; cases hj
    rw [Addr.add_mid, World.cell?_drewN, hB.cell, ← Array.getElem?_toList]
    have e1 : (cur.toList.take bs.length)[s.p + j]? = some u := by
      rw [ht, ← hj, hnews]
      simp [List.getElem?_take, hjl]
    rwa [List.getElem?_take_of_lt (by omega)] at e1
  have HN := hide hnews
  have HCE := hide hcel
  have HNL := hide hnl
  have HO := hide hone
  have HQ := hide hq
  have hqk : q - s.p ≤ 140737488355000 := by omega
  have hqp : 0 < q - s.p := by omega
  clear hnews hcel hnl hone hbt ht hq
  have hpc : ¬ cap = s.p := by omega
  have hle : (k : Int) ≤ (bs.length : Int) - (s.p : Int) := by omega
  go_enter Try.func60, Try.ntmps60
  go_wp2_with fail
  go_quiet (fail)
  go_wp2_with fail
  go_region_law (refine step_append_grows rfl (.tmp 32) (.tmp 47) 28 rfl 5 i0 (.int .u8 0) 1 1 Try.underlying28 hi hz0 hz1 hz2 rfl (by decide) none 0 0 [] (by simp [Act.eval, Act.put]) (fun _ => ⟨rfl, rfl⟩) rfl (by intro b h; cases h) ⟨b, s.p, none⟩ (q - s.p) (cap - s.p) news (by simp [Act.eval, Act.put]) HNL.out (HCE.out _) HO.out (by omega) (by unfold maxLen; omega) (by omega) ?_; intro v' w' hown hgrow)
  all_goals
    have hA' : RefAt w' y _ s := (Blk.drewN hA _).grown hgrow (by simp)
    have c1' := Blk.cell hA' 1
    have f1' := Blk.frozen hA' 1
    have HW := hide hown
    have HG := hide hgrow
    have HA' := hide hA'
    clear hown hgrow hA'
    go_wp2
    go_ret
    rw [HM.out]
    exact raw_fin h0 HW.out HG.out HA'.out HC.out HQ.out HN.out hl

theorem rraw_st (w : World) (y : Nat) (rv : Value) (bs : List UInt8) (s : S) (n : Int) (h : RefSt w y rv bs s) (hlen : bs.length ≤ 140737488355000) :
    Calls Try.prog 60 #[.pointer (some ⟨y, 0, none⟩), .int .i64 n] w (RRawC w y rv bs (mNext bs s (mPlace s) n.toNat)) := by
  by_cases hc : s.code = 0
  · by_cases hn : 0 < n
    · by_cases hl : (bs.length : Int) - (s.p : Int) < n
      · exact rraw_ends w y rv bs s n h hc hn hl
      · obtain ⟨k, rfl⟩ := Int.eq_ofNat_of_zero_le (show 0 ≤ n by omega)
        exact rraw_go w y rv bs s k h hc (by omega) (by have := h.2.1; omega) hlen
    · exact rraw_none w y rv bs s n h hc (by omega)
  · exact rraw_stopped w y rv bs s n h hc
end Go.Proofs.Ytinjcefekbpabaa
