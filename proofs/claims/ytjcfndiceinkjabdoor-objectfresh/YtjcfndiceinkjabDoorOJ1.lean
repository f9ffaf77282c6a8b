/- The document's bytes: Var, Fixed, Text. -/
import Derived.Test.YtjcfndiceinkjabDoorOE5
namespace Go.Proofs.YtjcfndiceinkjabDoor
set_option linter.unusedVariables false
set_option linter.unusedSimpArgs false
open Go.RowKit

/-- A call that answers these bytes in new memory. -/
def OwnC (w : World) (xs : List UInt8) (e : Ending) (w' : World) : Prop :=
  ∃ v, e = .returned v ∧ w'.ownsRow w.heap.size 5 1 v xs.length (xs.map u8c) ∧ Below w.heap.size w w'
theorem own_snocN {w : World} {base n : Nat} {v : Value} {bs : List UInt8} {x : Value} {u : UInt8} (h : w.ownsRow base 5 1 v (n + 1) (bs.map u8c ++ [x])) (hn : bs.length = n) (e : x = u8c u) : w.ownsRow base 5 1 v (bs ++ [u]).length ((bs ++ [u]).map u8c) := by
  subst e
  subst hn
  rw [List.map_append, List.length_append]
  exact h
theorem own_snoc {w : World} {base : Nat} {v : Value} {bs : List UInt8} {x : Value} {u : UInt8} (h : w.ownsRow base 5 1 v (bs.length + 1) (bs.map u8c ++ [x])) (e : x = u8c u) : w.ownsRow base 5 1 v (bs ++ [u]).length ((bs ++ [u]).map u8c) := by
  subst e
  rw [List.map_append, List.length_append]
  exact h

set_option maxRecDepth 20000 in
set_option maxHeartbeats 1600000 in
theorem rvarb (w : World) (v : Nat) (hv : v ≤ 18446744073709551615) : Calls Tryd.prog 73 #[.int .u64 v] w (OwnC w (varB v)) := by
  obtain ⟨i0, hi, hz0, hz1, hz2⟩ := info_parts infoU8
  go_enter Tryd.func73, Tryd.ntmps73
  go_wp2_with fail
  go_loopw [0, 3] (fun x out wr => ∃ (y k : Nat) (bs : List UInt8), x = .int .u64 y ∧ k ≤ 9 ∧ y * 128 ^ k ≤ 18446744073709551615 ∧ bs.length = k ∧ varB v = bs ++ varGo (9 - k) y ∧ wr.ownsRow w.heap.size 5 1 out bs.length (bs.map u8c) ∧ Below w.heap.size w wr) (fun x _ _ => (intOf x).toNat)
  case atStart => exact ⟨v, 0, [], rfl, by omega, by omega, rfl, rfl, World.ownsRow_nil _ _ _ _, Below.refl _ _⟩
  case round =>
    obtain ⟨y, k, bs, rfl, hk, hb, hbl, hvb, hown, hbw⟩ := hrel
    have HB := hide hb
    have HVB := hide hvb
    have HBL := hide hbl
    have hbl10 : bs.length ≤ 9 := by omega
    have hsz := hbw.size
    clear hb hvb hbl
    by_cases hlt : 128 ≤ y
    · have hk8 := pow10b y k HB.out hlt
      have hyi : (128 : Int) ≤ (y : Int) := by omega
      have hy64 : y ≤ 18446744073709551615 := Nat.le_trans (Nat.le_mul_of_pos_right y (Nat.pow_pos (by decide))) HB.out
      have hwd : IntKind.u64.wrap ((y : Int) / 128) = (y : Int) / 128 := by rw [IntKind.wrap_u64]; omega
      go_wp2_with (at_builtin; refine wpList_append_own _ rfl _ _ 23 rfl w.heap.size 5 i0 (.int .u8 0) 1 1 Tryd.underlying23 hi hz0 hz1 hz2 rfl (by decide) _ _ _ rfl (hown.alloc _) ⟨wr.heap.size, 0, none⟩ 1 1 [_] rfl rfl (cell_one_new _ _ _) ?c2 ?c3 ?c4 ?c5 ?_)
      case c2 => intro u hu; simp at hu; subst hu; rfl
      case c3 => unfold maxLen; omega
      case c4 => omega
      case c5 => rw [World.size_alloc]; omega
      intro v' w1 hown' hgrow _
      have hb' := own_below (hbw.alloc hsz _) (hown.alloc _) (by rw [World.size_alloc]; omega) hgrow
      clear hown hgrow hbw
      go_wp2
      go_roundw
      case rel =>
        refine ⟨y / 128, k + 1, bs ++ [UInt8.ofNat (y % 128 + 128)], by go_num, by omega, pow10s y k HB.out, by simp [HBL.out], ?_, own_snoc hown' (by unfold u8c; rw [ofN]), hb'⟩
        rw [HVB.out, show 9 - k = (9 - (k + 1)) + 1 by omega, varGo, if_neg (by omega), List.append_assoc]; rfl
      case measure => simp [intOf]; omega
    · have hyi : (y : Int) < 128 := by omega
      have HV9 : Hid (varB v = bs ++ [UInt8.ofNat y]) := by
        refine hide ?_
        rw [HVB.out]
        congr 1
        cases h9 : 9 - k with
        | zero => rfl
        | succ m => rw [varGo, if_pos (by omega)]
      go_wp2_with (at_builtin; refine wpList_append_own _ rfl _ _ 23 rfl w.heap.size 5 i0 (.int .u8 0) 1 1 Tryd.underlying23 hi hz0 hz1 hz2 rfl (by decide) _ _ _ rfl (hown.alloc _) ⟨wr.heap.size, 0, none⟩ 1 1 [_] rfl rfl (cell_one_new _ _ _) ?c2 ?c3 ?c4 ?c5 ?_)
      case c2 => intro u hu; simp at hu; subst hu; rfl
      case c3 => unfold maxLen; omega
      case c4 => omega
      case c5 => rw [World.size_alloc]; omega
      intro v' w1 hown' hgrow _
      have hb' := own_below (hbw.alloc hsz _) (hown.alloc _) (by rw [World.size_alloc]; omega) hgrow
      clear hown hgrow hbw
      go_wp2
      go_ret
      refine ⟨v', rfl, ?_, hb'⟩
      rw [HV9.out]
      exact own_snoc hown' (by unfold u8c; congr 1; simp; omega)

set_option maxRecDepth 20000 in
set_option maxHeartbeats 1600000 in
theorem rfixedb (w : World) (v n : Nat) (hv : v ≤ 18446744073709551615) (hn : n ≤ 8) : Calls Tryd.prog 75 #[.int .u64 v, .int .i64 n] w (OwnC w (fixB n v)) := by
  obtain ⟨i0, hi, hz0, hz1, hz2⟩ := info_parts infoU8
  go_enter Tryd.func75, Tryd.ntmps75
  go_wp2_with fail
  go_loopw [0, 5, 6] (fun x out i wr => ∃ (k : Nat), x = .int .u64 ((v / 256 ^ k : Nat) : Int) ∧ i = .int .i64 k ∧ k ≤ n ∧ wr.ownsRow w.heap.size 5 1 out (fixB k v).length ((fixB k v).map u8c) ∧ Below w.heap.size w wr) (fun _ _ i _ => n - (intOf i).toNat)
  case atStart => exact ⟨0, by simp, rfl, Nat.zero_le _, World.ownsRow_nil _ _ _ _, Below.refl _ _⟩
  case round =>
    obtain ⟨k, rfl, rfl, hk, hown, hbw⟩ := hrel
    have hsz := hbw.size
    have hfl := fixB_len k v
    have HN := hide (fixB_snoc k v)
    have hy64 : v / 256 ^ k ≤ 18446744073709551615 := Nat.le_trans (Nat.div_le_self _ _) hv
    have HD := hide (show v / 256 ^ k / 256 = v / 256 ^ (k + 1) by rw [Nat.div_div_eq_div_mul, Nat.pow_succ])
    generalize v / 256 ^ k = y at hy64 HN HD ⊢
    by_cases hlt : k < n
    · have hwd : IntKind.u64.wrap ((y : Int) / 256) = (y : Int) / 256 := by rw [IntKind.wrap_u64]; omega
      go_wp2_with (at_builtin; refine wpList_append_own _ rfl _ _ 23 rfl w.heap.size 5 i0 (.int .u8 0) 1 1 Tryd.underlying23 hi hz0 hz1 hz2 rfl (by decide) _ _ _ rfl (hown.alloc _) ⟨wr.heap.size, 0, none⟩ 1 1 [_] rfl rfl (cell_one_new _ _ _) ?c2 ?c3 ?c4 ?c5 ?_)
      case c2 => intro u hu; simp at hu; subst hu; rfl
      case c3 => unfold maxLen; omega
      case c4 => omega
      case c5 => rw [World.size_alloc]; omega
      intro v' w1 hown' hgrow _
      have hb' := own_below (hbw.alloc hsz _) (hown.alloc _) (by rw [World.size_alloc]; omega) hgrow
      clear hown hgrow hbw
      go_wp2
      go_roundw
      case rel =>
        refine ⟨k + 1, ?_, by go_num, by omega, ?_, hb'⟩
        · rw [← HD.out]; go_num
        · rw [HN.out]
          exact own_snocN hown' hfl (by unfold u8c; simp)
      case measure => simp [intOf]; omega
    · obtain rfl : k = n := by omega
      go_wp2
      go_ret
      exact ⟨_, rfl, hown, hbw⟩

set_option maxRecDepth 20000 in
set_option maxHeartbeats 1600000 in
theorem rtextb (w : World) (tb : List UInt8) (hl : tb.length ≤ 140737488354000) : Calls Tryd.prog 74 #[.string ⟨tb.toArray⟩] w (OwnC w (varB tb.length ++ tb)) := by
  obtain ⟨i0, hi, hz0, hz1, hz2⟩ := info_parts infoU8
  have HV := hide (rvarb w tb.length (by omega))
  have hls : (⟨tb.toArray⟩ : ByteArray).size = tb.length := by simp [ByteArray.size]
  have HAT : Hid (∀ k (h : k < tb.length), (⟨tb.toArray⟩ : ByteArray).data[k]? = some tb[k]) := hide fun k h => by simp
  have hvl := varB_len tb.length
  obtain ⟨s, hs⟩ : ∃ s : ByteArray, s = ⟨tb.toArray⟩ := ⟨_, rfl⟩
  rw [← hs] at hls HAT ⊢
  clear hs
  go_enter Tryd.func74, Tryd.ntmps74
  go_wp2_with fail
  refine (HV.out).mono ?_
  rintro e w1 ⟨u, rfl, hown0, hb1⟩
  have HO1 := hide hown0
  have HB1 := hide hb1
  clear hown0 hb1 HV
  go_wp2_with fail
  go_loopw [3, 4] (fun out i wr => ∃ (k : Nat), i = .int .i64 k ∧ k ≤ tb.length ∧ wr.ownsRow w.heap.size 5 1 out (varB tb.length ++ tb.take k).length ((varB tb.length ++ tb.take k).map u8c) ∧ Below w.heap.size w wr) (fun _ i _ => tb.length - (intOf i).toNat)
  case atStart => exact ⟨0, rfl, Nat.zero_le _, by simpa using HO1.out, HB1.out⟩
  case round =>
    obtain ⟨k, rfl, hk, hown, hbw⟩ := hrel
    have hsz := hbw.size
    have hpl : (varB tb.length ++ tb.take k).length ≤ tb.length + 10 := by simp; omega
    by_cases hlt : k < tb.length
    · have hat := HAT.out k hlt
      have HTK : Hid (varB tb.length ++ tb.take (k + 1) = (varB tb.length ++ tb.take k) ++ [tb[k]]) := hide (by rw [List.take_succ_eq_append_getElem hlt, List.append_assoc])
      generalize varB tb.length ++ tb.take k = xs at hown hpl HTK
      go_wp2_with (at_builtin; refine wpList_append_own _ rfl _ _ 23 rfl w.heap.size 5 i0 (.int .u8 0) 1 1 Tryd.underlying23 hi hz0 hz1 hz2 rfl (by decide) _ _ _ rfl (hown.alloc _) ⟨wr.heap.size, 0, none⟩ 1 1 [_] rfl rfl (cell_one_new _ _ _) ?c2 ?c3 ?c4 ?c5 ?_)
      case c2 => intro u hu; simp at hu; subst hu; rfl
      case c3 => unfold maxLen; omega
      case c4 => omega
      case c5 => rw [World.size_alloc]; omega
      intro v' w2 hown' hgrow _
      have hb' := own_below (hbw.alloc hsz _) (hown.alloc _) (by rw [World.size_alloc]; omega) hgrow
      clear hown hgrow hbw
      go_wp2
      go_roundw
      case rel =>
        refine ⟨k + 1, by go_num, by omega, ?_, hb'⟩
        rw [HTK.out]
        refine own_snoc hown' ?_
        have e : s.data[k]'(by have : s.data.size = s.size := rfl; omega) = tb[k] := by
          have := hat
          rw [Array.getElem?_eq_getElem (by have : s.data.size = s.size := rfl; omega)] at this
          exact Option.some.inj this
        unfold u8c
        rw [← e]
        rfl
      case measure => simp [intOf]; omega
    · obtain rfl : k = tb.length := by omega
      go_wp2
      go_ret
      refine ⟨_, rfl, ?_, hbw⟩
      rw [List.take_length] at hown
      exact hown
end Go.Proofs.YtjcfndiceinkjabDoor
