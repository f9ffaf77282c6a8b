/- The document's Dec in memory: stop, Place, Left, End. -/
import Derived.Test.YtinjcefekbpabaaT3
namespace Go.Proofs.Ytinjcefekbpabaa
set_option linter.unusedVariables false
set_option linter.unusedSimpArgs false
open Go.RowKit

/-- The bytes of the document's Dec. -/
def RBts (w : World) (y : Nat) (rv : Value) (bs : List UInt8) : Prop :=
  bs.length ≤ maxLen ∧ ((rv = .slice none 0 0 ∧ bs = []) ∨ ∃ b cap cur, rv = .slice (some ⟨b, 0, none⟩) bs.length cap ∧ bs.length ≤ cap ∧ cap ≤ maxLen ∧ b ≠ y ∧ Blk w b cur 5 ∧ cur.toList.take bs.length = bs.map u8c)
def RefAt (w : World) (y : Nat) (rv : Value) (s : S) : Prop :=
  Blk w y #[rv, .int .i64 s.p, .bool (decide (s.code ≠ 0)), .int .i64 s.fat, .int .i64 s.code] 94
def RefSt (w : World) (y : Nat) (rv : Value) (bs : List UInt8) (s : S) : Prop :=
  RBts w y rv bs ∧ s.p ≤ bs.length ∧ RefAt w y rv s

theorem RBts.grown {w w' : World} {y : Nat} {rv : Value} {bs : List UInt8} (h : RBts w y rv bs) {row : Option Nat} (hg : w.grownBy w' row) (hb : ∀ b cap, rv = .slice (some ⟨b, 0, none⟩) bs.length cap → b ≠ y → some b ≠ row) : RBts w' y rv bs := by
  obtain ⟨h0, h | ⟨b, cap, cur, h1, h2, h3, h4, h5, h6⟩⟩ := h
  · exact ⟨h0, .inl h⟩
  · exact ⟨h0, .inr ⟨b, cap, cur, h1, h2, h3, h4, h5.grown hg (hb b cap h1 h4), h6⟩⟩
theorem RBts.self {w w' : World} {y : Nat} {rv : Value} {bs : List UInt8} (h : RBts w y rv bs) (hg : w.grownBy w' (some y)) : RBts w' y rv bs :=
  h.grown hg (fun _ _ _ hne e => hne (Option.some.inj e))
theorem RefSt.lt {w : World} {y : Nat} {rv : Value} {bs : List UInt8} {s : S} (h : RefSt w y rv bs s) : y < w.heap.size := Blk.lt h.2.2
theorem RBts.blk {w : World} {y : Nat} {rv : Value} {bs : List UInt8} (h : RBts w y rv bs) {b cap : Nat} (e : rv = .slice (some ⟨b, 0, none⟩) bs.length cap) : b < w.heap.size := by
  rcases h.2 with ⟨e1, _⟩ | ⟨b', cap', cur, e1, _, _, _, hB, _⟩
  · rw [e1] at e; cases e
  · rw [e1] at e; cases e; exact hB.lt
theorem RefSt.grown {w w' : World} {y : Nat} {rv : Value} {bs : List UInt8} {s : S} (h : RefSt w y rv bs s) {row : Option Nat} (hg : w.grownBy w' row) (hy : some y ≠ row) (hb : ∀ b cap, rv = .slice (some ⟨b, 0, none⟩) bs.length cap → some b ≠ row) : RefSt w' y rv bs s :=
  ⟨h.1.grown hg (fun b cap e _ => hb b cap e), h.2.1, Blk.grown h.2.2 hg hy⟩
theorem RefSt.below {w w' : World} {y : Nat} {rv : Value} {bs : List UInt8} {s : S} (h : RefSt w y rv bs s) (hg : Below w.heap.size w w') : RefSt w' y rv bs s :=
  h.grown (row := none) (grownBy_below hg) (by simp) (by simp)
theorem RefSt.drewN {w : World} {y : Nat} {rv : Value} {bs : List UInt8} {s : S} (h : RefSt w y rv bs s) (n : Nat) : RefSt (w.drewN n) y rv bs s := h
theorem RBts.form {w : World} {y : Nat} {rv : Value} {bs : List UInt8} (h : RBts w y rv bs) : ∃ ao cap, rv = .slice ao bs.length cap := by
  rcases h.2 with ⟨e1, e2⟩ | ⟨b, cap, _, e1, _⟩
  · exact ⟨none, 0, by rw [e1, e2]; rfl⟩
  · exact ⟨_, cap, e1⟩

theorem rstop_go (w : World) (y : Nat) (rv : Value) (bs : List UInt8) (s : S) (a c : Nat) (hc : c ≠ 0) (h : RefSt w y rv bs s) :
    Calls Try.prog 78 #[.pointer (some ⟨y, 0, none⟩), .int .i64 a, .int .i64 c] w fun e w' => e = .returned (.tuple #[]) ∧ RefSt w' y rv bs { s with fat := a, code := c } ∧ w.grownBy w' (some y) := by
  have c2 := Blk.cell h.2.2 2
  have c3 := Blk.cell h.2.2 3
  have c4 := Blk.cell h.2.2 4
  have f2 := Blk.frozen h.2.2 2
  have f3 := Blk.frozen h.2.2 3
  have f4 := Blk.frozen h.2.2 4
  go_enter Try.func78, Try.ntmps78
  go_wp2
  go_returns
  have hg : w.grownBy (((w.setCell ⟨y, 2, none⟩ (.bool true)).setCell ⟨y, 3, none⟩ (.int .i64 a)).setCell ⟨y, 4, none⟩ (.int .i64 c)) (some y) := grownBy_trans (grownBy_trans (grownBy_set _ y 2 _) (grownBy_set _ y 3 _)) (grownBy_set _ y 4 _)
  refine ⟨rfl, ⟨h.1.self hg, h.2.1, ?_⟩, hg⟩
  have := (((Blk.set h.2.2 2 (.bool true)).set 3 (.int .i64 a)).set 4 (.int .i64 c))
  unfold RefAt
  simp only [hc, ne_eq, not_false_eq_true, decide_true]
  exact this

theorem rplace_st (w : World) (y : Nat) (rv : Value) (bs : List UInt8) (s : S) (h : RefSt w y rv bs s) : Calls Try.prog 42 #[.pointer (some ⟨y, 0, none⟩)] w fun e w' => e = .returned (.int .i64 (mPlace s)) ∧ w' = w := by
  have c1 := Blk.cell h.2.2 1
  have c2 := Blk.cell h.2.2 2
  have c3 := Blk.cell h.2.2 3
  by_cases hc : s.code = 0
  · have hd : decide (s.code ≠ 0) = false := by simp [hc]
    have HM := hide (show mPlace s = s.p by rw [mPlace, if_neg (by omega)])
    rw [hd] at c2
    clear hc
    go_enter Try.func42, Try.ntmps42
    go_wp2
    go_ret
    rw [HM.out]
    exact ⟨rfl, rfl⟩
  · have hd : decide (s.code ≠ 0) = true := by simp [hc]
    have HM := hide (show mPlace s = s.fat by rw [mPlace, if_pos hc])
    rw [hd] at c2
    clear hc
    go_enter Try.func42, Try.ntmps42
    go_wp2
    go_ret
    rw [HM.out]
    exact ⟨rfl, rfl⟩
theorem rleft_st (w : World) (y : Nat) (rv : Value) (bs : List UInt8) (s : S) (h : RefSt w y rv bs s) : Calls Try.prog 43 #[.pointer (some ⟨y, 0, none⟩)] w fun e w' => e = .returned (.int .i64 (mLeft bs s)) ∧ ∃ m, w' = w.drewN m := by
  obtain ⟨ao, cap, rfl⟩ := h.1.form
  have hm : bs.length ≤ 9223372036854775807 := h.1.1
  have hp := h.2.1
  have c0 := Blk.cell h.2.2 0
  have c1 := Blk.cell h.2.2 1
  have c2 := Blk.cell h.2.2 2
  by_cases hc : s.code = 0
  · have hd : decide (s.code ≠ 0) = false := by simp [hc]
    have HM := hide (show ((mLeft bs s : Nat) : Int) = (bs.length : Int) - (s.p : Int) by rw [mLeft, if_neg (by omega)]; omega)
    rw [hd] at c2
    clear hc
    go_enter Try.func43, Try.ntmps43
    go_wp2
    go_quiet (fail)
    go_wp2
    go_ret
    rw [HM.out]
    exact ⟨rfl, _, rfl⟩
  · have hd : decide (s.code ≠ 0) = true := by simp [hc]
    have HM := hide (show mLeft bs s = 0 by rw [mLeft, if_pos hc])
    rw [hd] at c2
    clear hc
    go_enter Try.func43, Try.ntmps43
    go_wp2
    go_ret
    rw [HM.out]
    exact ⟨rfl, 0, rfl⟩
/-- What the document's End answers. -/
def rEndV (bs : List UInt8) (s : S) : Nat × Nat :=
  if s.code ≠ 0 then (s.fat, s.code) else if s.p < bs.length then (s.p, 13) else (0, 0)
theorem rend_st (w : World) (y : Nat) (rv : Value) (bs : List UInt8) (s : S) (h : RefSt w y rv bs s) : Calls Try.prog 75 #[.pointer (some ⟨y, 0, none⟩)] w fun e w' => e = .returned (.tuple #[.int .i64 (rEndV bs s).1, .int .i64 (rEndV bs s).2]) ∧ ∃ m, w' = w.drewN m := by
  obtain ⟨ao, cap, rfl⟩ := h.1.form
  have hm : bs.length ≤ 9223372036854775807 := h.1.1
  have hp := h.2.1
  have c0 := Blk.cell h.2.2 0
  have c1 := Blk.cell h.2.2 1
  have c2 := Blk.cell h.2.2 2
  have c3 := Blk.cell h.2.2 3
  have c4 := Blk.cell h.2.2 4
  obtain ⟨v, hv⟩ : ∃ v, rEndV bs s = v := ⟨_, rfl⟩
  rw [hv]
  unfold rEndV at hv
  have HV := hide hv
  clear hv
  by_cases hc : s.code = 0
  · have hd : decide (s.code ≠ 0) = false := by simp [hc]
    rw [hd] at c2
    have HC := hide hc
    clear hc
    by_cases hlt : s.p < bs.length
    · go_enter Try.func75, Try.ntmps75
      go_wp2
      go_quiet (fail)
      go_wp2
      go_ret2
      rw [← HV.out, if_neg (by have := HC.out; omega), if_pos hlt]
      exact ⟨rfl, _, rfl⟩
    · go_enter Try.func75, Try.ntmps75
      go_wp2
      go_quiet (fail)
      go_wp2
      go_ret2
      rw [← HV.out, if_neg (by have := HC.out; omega), if_neg (by omega)]
      exact ⟨rfl, _, rfl⟩
  · have hd : decide (s.code ≠ 0) = true := by simp [hc]
    rw [hd] at c2
    have HC := hide hc
    clear hc
    go_enter Try.func75, Try.ntmps75
    go_wp2
    go_quiet (fail)
    go_wp2
    go_ret2
    rw [← HV.out, if_pos HC.out]
    exact ⟨rfl, _, rfl⟩
end Go.Proofs.Ytinjcefekbpabaa
