/- Names, as the program tells them. -/
import Derived.Test.YtjcfndiceinkjabDoorON3
import Derived.Test.YtjcfndiceinkjabDoorON4
import Derived.Lib.OthersKept
import Derived.Laws.RangeAny
namespace Go.Proofs.YtjcfndiceinkjabDoor
set_option linter.unusedVariables false
set_option linter.unusedSimpArgs false
open Go.RowKit Go.Lib

theorem iterPosOf {w : World} {k : Nat} {s : ByteArray} {p : Nat} (h : w.heap[k]? = some (.stringIter s p)) : w.iterPos k = p := by simp [World.iterPos, h]
def Tabs8 (w : World) : Prop := Lib.Utf8Tabs (laysV_ren.g 3) (laysV_ren.g 4) w
theorem Tabs8.below {w w' : World} (h : Tabs8 w) (hb : Below w.heap.size w w') : Tabs8 w' := Utf8Tabs_below h hb
theorem valid_any (l : List UInt8) (hl : l.length ≤ 9223372036854775800) (w : World) (hT : Tabs8 w) : Calls Tryd.prog 95 #[.string ⟨l.toArray⟩] w fun e w' => e = .returned (.bool (validD l)) ∧ Below w.heap.size w w' := by
  have := Any.utf8_ValidString laysV ⟨l.toArray⟩ w (by simp [ByteArray.size]; omega) hT
  exact this
def NameC (w : World) (l : List UInt8) (e : Ending) (w' : World) : Prop := e = .returned (.bool (nameL l)) ∧ Below w.heap.size w w'
set_option maxRecDepth 20000 in
set_option maxHeartbeats 2000000 in
theorem isName_any (l : List UInt8) (hl : l.length ≤ 9223372036854775800) (w : World) (hT : Tabs8 w) : Calls Tryd.prog 93 #[.string ⟨l.toArray⟩] w (NameC w l) := by
  have HLt := hideN (valid_any l hl w hT)
  obtain ⟨L, hL⟩ : ∃ L, L = l.length := ⟨_, rfl⟩
  obtain ⟨V, hV⟩ : ∃ V, V = validD l := ⟨_, rfl⟩
  obtain ⟨d0, hd0⟩ : ∃ d, d = (l == []) := ⟨_, rfl⟩
  obtain ⟨d1, hd1⟩ : ∃ d, d = (l == [46]) := ⟨_, rfl⟩
  obtain ⟨d2, hd2⟩ : ∃ d, d = (l == [46, 46]) := ⟨_, rfl⟩
  obtain ⟨B, hB⟩ : ∃ d, d = l.any badB := ⟨_, rfl⟩
  have HNm : HidN (nameL l = (decide (1 ≤ L) && decide (L ≤ 64) && !d1 && !d2 && V && !B)) := hideN (by unfold nameL; rw [hL, hV, hd1, hd2, hB])
  have hs0 : (l == []) = d0 := hd0.symm
  have hs1 : (l == [46]) = d1 := hd1.symm
  have hs2 : (l == [46, 46]) = d2 := hd2.symm
  rw [← hV] at HLt
  have hsz : (⟨l.toArray⟩ : ByteArray).size = L := by rw [hL]; simp [ByteArray.size]
  have HL := hideN hL
  have HB := hideN hB
  have HV := hideN hV
  have HD0 : HidN (d0 = decide (L < 1)) := hideN (by rw [hd0, hL]; cases l <;> simp)
  rw [← hL] at hl
  clear hL hV hd0 hd1 hd2 hB
  cases d0 with
  | true =>
    have HF : HidN (nameL l = false) := hideN (by
      have := of_decide_eq_true HD0.out.symm
      rw [HNm.out, decide_eq_false (show ¬ 1 ≤ L by omega)]; rfl)
    go_enter Tryd.func93, Tryd.ntmps93
    go_wp2
    go_ret
    exact ⟨by rw [HF.out]; rfl, Below.refl _ _⟩
  | false =>
  have hL1 : 1 ≤ L := by have := of_decide_eq_false HD0.out.symm; omega
  by_cases h2 : 64 < L
  · have a2 : (64 : Int) < (L : Int) := by omega
    have HF : HidN (nameL l = false) := hideN (by
      rw [HNm.out, decide_eq_false (show ¬ L ≤ 64 by omega)]; simp)
    go_enter Tryd.func93, Tryd.ntmps93
    go_wp2
    go_ret
    exact ⟨by rw [HF.out]; rfl, Below.refl _ _⟩
  have a2 : ¬ (64 : Int) < (L : Int) := by omega
  cases d1 with
  | true =>
    have HF : HidN (nameL l = false) := hideN (by rw [HNm.out]; simp)
    go_enter Tryd.func93, Tryd.ntmps93
    go_wp2
    go_ret
    exact ⟨by rw [HF.out]; rfl, Below.refl _ _⟩
  | false =>
  cases d2 with
  | true =>
    have HF : HidN (nameL l = false) := hideN (by rw [HNm.out]; simp)
    go_enter Tryd.func93, Tryd.ntmps93
    go_wp2
    go_ret
    exact ⟨by rw [HF.out]; rfl, Below.refl _ _⟩
  | false =>
  cases V with
  | false =>
    have HF : HidN (nameL l = false) := hideN (by rw [HNm.out]; simp)
    go_enter Tryd.func93, Tryd.ntmps93
    go_wp2_with fail
    refine HLt.out.mono ?_
    rintro e w1 ⟨rfl, hb1⟩
    have HB1 := hideN hb1
    clear hb1
    go_wp2
    go_ret
    exact ⟨by rw [HF.out]; rfl, HB1.out⟩
  | true =>
  have HF : HidN (nameL l = !B) := hideN (by rw [HNm.out, decide_eq_true hL1, decide_eq_true (show L ≤ 64 by omega)]; simp)
  go_enter Tryd.func93, Tryd.ntmps93
  go_wp2_with fail
  refine HLt.out.mono ?_
  rintro e w1 ⟨rfl, hb1⟩
  have HB1 := hideN hb1
  clear hb1
  go_wp2
  go_loopw [4] (fun v wr => ∃ pos : Nat, wr.heap[w1.heap.size]? = some (.stringIter ⟨l.toArray⟩ pos) ∧ Below w.heap.size w wr ∧ pos ≤ L ∧ validD (l.drop pos) = true ∧ (l.drop pos).any badB = B) (fun _ wr => L - wr.iterPos w1.heap.size)
  case atStart => exact ⟨0, World.iter_heap w1 _ 0, HB1.out.alloc HB1.out.size _, by omega, HV.out.symm, HB.out.symm⟩
  case round =>
    obtain ⟨pos, hit, hbw, hp, hv, hb⟩ := hrel
    have hpos0 := iterPosOf hit
    have HBW := hideN hbw
    by_cases hlt : pos < L
    · have hnx : ∀ ty, (Instr.next (.pointer (some ⟨w1.heap.size, 0, none⟩)) true ty).run Tryd.prog wr = _ := fun ty => Lib.run_next_any_at wr w1.heap.size ⟨l.toArray⟩ pos ty hit (by rw [hsz]; exact hlt)
      have hne : l.drop pos ≠ [] := by intro h; have := congrArg List.length h; rw [List.length_drop] at this; have := HL.out; simp at *; omega
      obtain ⟨s1, s2, s3, s4⟩ := rune_step (l.drop pos) hne hv
      have hdd : decodeL (l.drop pos) = Utf8.decode ⟨l.toArray⟩ pos := decodeL_drop ⟨l.toArray⟩ pos
      rw [hdd] at s1 s2 s3 s4
      rw [List.drop_drop] at s1 s4
      rw [hb] at s4
      rw [List.length_drop] at s2
      have hit2 := Lib.iterAt_heap wr w1.heap.size ⟨l.toArray⟩ pos (pos + (Utf8.decode ⟨l.toArray⟩ pos).2) hit
      have hbw2 := Lib.below_iterAt hbw (k := w1.heap.size) HB1.out.size ⟨l.toArray⟩ (pos + (Utf8.decode ⟨l.toArray⟩ pos).2)
      generalize (Utf8.decode ⟨l.toArray⟩ pos).1 = r at *
      obtain ⟨pos2, hpos2⟩ : ∃ p, p = pos + (Utf8.decode ⟨l.toArray⟩ pos).2 := ⟨_, rfl⟩
      have HP : HidN (pos2 ≤ L ∧ pos < pos2) := hideN (by have := HL.out; omega)
      rw [← hpos2] at hnx s1 s4 hit2 hbw2
      have HI2 := hideN hit2
      have HB2 := hideN hbw2
      have HS1 := hideN s1
      have HS4 := hideN s4
      generalize wr.iterAt w1.heap.size ⟨l.toArray⟩ pos2 = W1 at *
      have HP0 := hideN hpos0
      clear hit hbw hv hb hne s1 s2 s3 s4 hit2 hbw2 hdd hpos2 hpos0 HBW
      by_cases h3 : r = 47
      · have b1 : ((r : Int) == 47) = true := by simp; omega
        have HE : HidN (nameL l = false) := hideN (by rw [HF.out, HS4.out, decide_eq_true h3]; rfl)
        clear h3
        go_wp2
        go_ret
        exact ⟨by rw [HE.out]; rfl, HB2.out⟩
      · have b1 : ((r : Int) == 47) = false := by simp; omega
        by_cases h4 : r = 0
        · have b2 : ((r : Int) == 0) = true := by simp; omega
          have HE : HidN (nameL l = false) := hideN (by rw [HF.out, HS4.out, decide_eq_true h4]; simp)
          clear h3 h4
          go_wp2
          go_ret
          exact ⟨by rw [HE.out]; rfl, HB2.out⟩
        · have b2 : ((r : Int) == 0) = false := by simp; omega
          have HE : HidN ((l.drop pos2).any badB = B) := hideN (by rw [HS4.out, decide_eq_false h3, decide_eq_false h4]; rfl)
          clear h3 h4
          go_wp2
          exact ⟨⟨pos2, HI2.out, HB2.out, HP.out.1, HS1.out, HE.out⟩, by rw [iterPosOf HI2.out, HP0.out]; have := HP.out; omega⟩
    · have hnx : ∀ ty, (Instr.next (.pointer (some ⟨w1.heap.size, 0, none⟩)) true ty).run Tryd.prog wr = _ := fun ty => Lib.run_next_end_at wr w1.heap.size ⟨l.toArray⟩ pos ty hit (by rw [hsz]; omega)
      have HE : HidN (nameL l = true) := hideN (by
        rw [List.drop_eq_nil_of_le (by rw [← HL.out]; omega)] at hb
        rw [HF.out, ← hb]; rfl)
      clear hit hbw hv hb hpos0
      go_wp2
      go_ret
      exact ⟨by rw [HE.out]; rfl, HBW.out⟩
end Go.Proofs.YtjcfndiceinkjabDoor
