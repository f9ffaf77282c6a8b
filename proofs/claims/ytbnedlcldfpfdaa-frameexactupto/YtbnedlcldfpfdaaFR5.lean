/- joined: bytes one behind the other, in new memory. -/
import Derived.Test.YtbnedlcldfpfdaaFR4
import Derived.Deep.DeepAppendWide
namespace Go.Proofs.Ytbnedlcldfpfdaa
set_option linter.unusedVariables false
set_option linter.unusedSimpArgs false
open Go.RowKit

/-- append of one byte to a row of the call's own. -/
theorem wpList_append_byteW {ops : Array Oper} {rest : List Oper} {o : Oper} {a : Act} {w : World} {Q : Exit → Act → World → Prop} (hgd : o.guard = none) (s x : Operand) (ho : o.op = .call { callee := .builtin .append, args := #[s, x], argTypes := #[22, 22] })
    (base : Nat) (v : Value) (xs : List UInt8) (hs : a.eval s = v) (hown : OwnsB w base v xs) (z c : Nat) (hx : a.eval x = .slice (some ⟨z, 0, none⟩) 1 c) (y : UInt8) (q : Int) (hq : q = y.toNat) (hc : w.cell? ⟨z, 0, none⟩ = some (.int .u8 q)) (hlen : xs.length ≤ 200000000000000) (hbase : base ≤ w.heap.size)
    (h : ∀ v' w', Hid (OwnsB w' base v' (xs ++ [y])) → Hid (w.grownBy w' v.ownBlock) → wpList Try.prog ops Q rest (a.put o.dst v') w') : wpList Try.prog ops Q (o :: rest) a w := by
  subst hq
  obtain ⟨i0, hi, hz0, hz1, hz2⟩ := info_parts infoU8
  refine wpList_append_own_wide w hgd s x 22 ho base 5 i0 (.int .u8 0) 1 1 Try.underlying22 hi hz0 hz1 hz2 rfl (by decide) v xs.length (xs.map u8c) hs hown ⟨z, 0, none⟩ 1 c [u8c y] hx rfl ?_ (u8c_one [y]) (by unfold maxLen; omega) (by omega) hbase ?_
  · intro j u hj
    cases j with
    | zero => cases hj; exact hc
    | succ j => simp at hj
  · intro v' w' h1 h2 _
    exact h v' w' (hide (by unfold OwnsB; rw [List.length_append, List.map_append]; exact h1)) (hide h2)
theorem OwnsB.slice {w : World} {base : Nat} {v : Value} {xs : List UInt8} (h : OwnsB w base v xs) : ∃ ao c, v = .slice ao xs.length c ∧ xs.length ≤ c ∧ c ≤ 9223372036854775807 := by
  obtain ⟨_, ⟨rfl, e⟩ | ⟨g, cap, cur, rfl, _, _, hc, hm, _⟩⟩ := h
  · exact ⟨none, 0, by rw [e], by omega, by omega⟩
  · exact ⟨_, cap, rfl, hc, by unfold maxLen at hm; omega⟩
def JoinC (w : World) (zs : List UInt8) (e : Ending) (w' : World) : Prop := ∃ v, e = .returned v ∧ OwnsB w' w.heap.size v zs ∧ Below w.heap.size w w'
set_option maxRecDepth 20000 in
set_option maxHeartbeats 1600000 in
theorem joined_any (w : World) (va vb : Value) (xs ys : List UInt8) (ha : RdA w va xs) (hb : RdA w vb ys) (hlen : xs.length + ys.length ≤ 200000000000000) : Calls Try.prog 16 #[va, vb] w (JoinC w (xs ++ ys)) := by
  have HV := hide ha
  have HW := hide hb
  obtain ⟨ao, c, rfl, hl63⟩ := ha.slice
  obtain ⟨bo, d, rfl, hl64⟩ := hb.slice
  clear ha hb
  go_enter Try.func16, Try.ntmps16
  go_wp2
  go_loopw [5, 6] (fun v i wr => ∃ (vo : Value) (k : Nat), vo = v ∧ i = .int .i64 k ∧ k ≤ xs.length ∧ OwnsB wr w.heap.size vo (xs.take k) ∧ Below w.heap.size w wr) (fun _ i _ => xs.length - (intOf i).toNat)
  case atStart => exact ⟨_, 0, rfl, rfl, by omega, World.ownsRow_nil _ _ _ _, Below.refl _ _⟩
  case round =>
    obtain ⟨vo, k, rfl, rfl, hk, hown, hbel⟩ := hrel
    have HO := hide hown
    have hsz : w.heap.size ≤ wr.heap.size := hbel.size
    by_cases hlt : k < xs.length
    · have hki : (k : Int) < xs.length := by omega
      obtain ⟨bz, bo', cc, he, hcell⟩ := (HV.out.below hbel).at k hlt
      cases he
      have HT : Hid (xs.take (k + 1) = xs.take k ++ [xs[k]]) := hide (List.take_succ_eq_append_getElem hlt)
      obtain ⟨x, hx⟩ : ∃ x, x = xs[k] := ⟨_, rfl⟩
      rw [← hx] at hcell HT
      obtain ⟨ao2, cap, rfl, -, -⟩ := hown.slice
      have htl : (xs.take k).length = k := by simp; omega
      rw [htl] at HO ⊢
      clear hown hx
      go_wp2_with (at_builtin; refine wpList_append_byteW rfl _ _ rfl w.heap.size _ (xs.take k) rfl ?c1 wr.heap.size 1 rfl x x.toNat rfl ?c2 ?c3 ?c4 ?_)
      case c1 => exact owns_below HO.out ((Below.refl _ _).alloc (Nat.le_refl _) _)
      case c2 => exact (Blk.made wr _ _).cell 0
      case c3 => omega
      case c4 => simp; omega
      intro v' w1 HO' HG
      go_wp2
      refine ⟨⟨_, k + 1, rfl, by go_num, by omega, ?_, own_below (hbel.alloc hsz _) (owns_below HO.out ((Below.refl _ _).alloc (Nat.le_refl _) _)) (by simp; omega) HG.out⟩, by simp [intOf]; omega⟩
      rw [HT.out]; exact HO'.out
    · have hk2 : ¬ (k : Int) < xs.length := by omega
      obtain rfl : k = xs.length := by omega
      rw [List.take_length] at HO
      clear hown
      go_wp2
      obtain ⟨wp, hwp⟩ : ∃ wp, wp = wr := ⟨_, rfl⟩
      rw [← hwp] at HO hbel
      have HBp := hide hbel
      go_loopw [5, 7] (fun v i wr => ∃ (vo : Value) (k : Nat), vo = v ∧ i = .int .i64 k ∧ k ≤ ys.length ∧ OwnsB wr w.heap.size vo (xs ++ ys.take k) ∧ Below w.heap.size w wr) (fun _ i _ => ys.length - (intOf i).toNat)
      case atStart => exact ⟨_, 0, rfl, rfl, by omega, by rw [List.take_zero, List.append_nil, ← hwp]; exact HO.out, by rw [← hwp]; exact HBp.out⟩
      case round =>
        clear HO HBp hbel hwp
        obtain ⟨vo, k, rfl, rfl, hk, hown, hbel⟩ := hrel
        have HO := hide hown
        have hsz : w.heap.size ≤ wr.heap.size := hbel.size
        by_cases hlt : k < ys.length
        · have hki : (k : Int) < ys.length := by omega
          obtain ⟨bz, bo', cc, he, hcell⟩ := (HW.out.below hbel).at k hlt
          cases he
          have HT : Hid (xs ++ ys.take (k + 1) = xs ++ ys.take k ++ [ys[k]]) := hide (by rw [List.take_succ_eq_append_getElem hlt, List.append_assoc])
          obtain ⟨x, hx⟩ : ∃ x, x = ys[k] := ⟨_, rfl⟩
          rw [← hx] at hcell HT
          obtain ⟨ao2, cap, rfl, -, -⟩ := hown.slice
          have htl : (xs ++ ys.take k).length = xs.length + k := by simp; omega
          rw [htl] at HO ⊢
          clear hown hx
          go_wp2_with (at_builtin; refine wpList_append_byteW rfl _ _ rfl w.heap.size _ (xs ++ ys.take k) rfl ?c1 wr.heap.size 1 rfl x x.toNat rfl ?c2 ?c3 ?c4 ?_)
          case c1 => exact owns_below HO.out ((Below.refl _ _).alloc (Nat.le_refl _) _)
          case c2 => exact (Blk.made wr _ _).cell 0
          case c3 => omega
          case c4 => simp; omega
          intro v' w1 HO' HG
          go_wp2
          refine ⟨⟨_, k + 1, rfl, by go_num, by omega, ?_, own_below (hbel.alloc hsz _) (owns_below HO.out ((Below.refl _ _).alloc (Nat.le_refl _) _)) (by simp; omega) HG.out⟩, by simp [intOf]; omega⟩
          rw [HT.out, List.append_assoc]; exact HO'.out
        · have hk2 : ¬ (k : Int) < ys.length := by omega
          obtain rfl : k = ys.length := by omega
          rw [List.take_length] at HO
          clear hown
          go_wp2
          go_ret
          exact ⟨vo, rfl, HO.out, hbel⟩
end Go.Proofs.Ytbnedlcldfpfdaa
