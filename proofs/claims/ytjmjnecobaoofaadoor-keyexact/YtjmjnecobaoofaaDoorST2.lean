/- The document's Tail. -/
import Derived.Test.YtjmjnecobaoofaaDoorST1
namespace Go.Proofs.YtjmjnecobaoofaaDoor
set_option linter.unusedVariables false
set_option linter.unusedSimpArgs false
open Go.RowKit

/-- append of one byte to a row of the call's own. -/
theorem wpList_append_byte {ops : Array Oper} {rest : List Oper} {o : Oper} {a : Act} {w : World} {Q : Exit → Act → World → Prop} (hgd : o.guard = none) (s x : Operand) (ho : o.op = .call { callee := .builtin .append, args := #[s, x], argTypes := #[22, 22] })
    (base : Nat) (v : Value) (xs : List UInt8) (hs : a.eval s = v) (hown : OwnsB w base v xs) (z c : Nat) (hx : a.eval x = .slice (some ⟨z, 0, none⟩) 1 c) (y : UInt8) (q : Int) (hq : q = y.toNat) (hc : w.cell? ⟨z, 0, none⟩ = some (.int .u8 q)) (hlen : xs.length ≤ 140737488354000) (hbase : base ≤ w.heap.size)
    (h : ∀ v' w', Hid (OwnsB w' base v' (xs ++ [y])) → Hid (w.grownBy w' v.ownBlock) → Hid (v'.ownBlock = v.ownBlock ∨ v'.ownBlock = some w.heap.size) → wpList Tryd.prog ops Q rest (a.put o.dst v') w') : wpList Tryd.prog ops Q (o :: rest) a w := by
  subst hq
  obtain ⟨i0, hi, hz0, hz1, hz2⟩ := info_parts infoU8
  refine wpList_append_own_at w hgd s x 22 ho base 5 i0 (.int .u8 0) 1 1 Tryd.underlying22 hi hz0 hz1 hz2 rfl (by decide) v xs.length (xs.map u8c) hs hown ⟨z, 0, none⟩ 1 c [u8c y] hx rfl ?_ (u8c_one [y]) (by unfold maxLen; omega) (by omega) hbase ?_
  · intro j u hj
    cases j with
    | zero => cases hj; exact hc
    | succ j => simp at hj
  · intro v' w' h1 h2 _ h4
    exact h v' w' (hide (by unfold OwnsB; rw [List.length_append, List.map_append]; exact h1)) (hide h2) (hide h4)

theorem OwnsB.new (w : World) (xs : List UInt8) (hl : xs.length ≤ maxLen) (base : Nat) (hb : base ≤ w.heap.size) : OwnsB (w.alloc (.cells (xs.map u8c).toArray 5)) base (.slice (some ⟨w.heap.size, 0, none⟩) xs.length xs.length) xs := owns_made w xs hl base hb

def slen : Value → Nat
  | .slice _ n _ => n
  | _ => 0
set_option maxRecDepth 20000 in
set_option maxHeartbeats 1600000 in
theorem rtail (w : World) (n : Nat) (hn : n < 18446744073709551616) : Calls Tryd.prog 30 #[.int .u64 n] w (TailC w n) := by
  obtain ⟨z, hz⟩ : ∃ z : Nat, z = (119 - n % 64) % 64 := ⟨_, rfl⟩
  obtain ⟨b, hb⟩ : ∃ b : Nat, b = 8 * n % 18446744073709551616 := ⟨_, rfl⟩
  have hz64 : z < 64 := by omega
  have e4 : IntKind.u64.wrap (n * 8) = (b : Int) := by rw [IntKind.wrap_u64]; omega
  have HZ := hide hz
  have HB := hide hb
  clear hz hb
  go_enter Tryd.func30, Tryd.ntmps30
  go_wp2
  go_loopw [3] (fun v wr => ∃ (va : Value) (k : Nat), va = v ∧ k ≤ z ∧ OwnsB wr w.heap.size va (128 :: List.replicate k 0) ∧ Below w.heap.size w wr) (fun v _ => z + 1 - slen v)
  case atStart => exact ⟨_, 0, rfl, by omega, OwnsB.new w [128] (by decide) _ (Nat.le_refl _), (Below.refl _ _).alloc (Nat.le_refl _) _⟩
  case round =>
    obtain ⟨va, k, rfl, hk, hown, hbel⟩ := hrel
    obtain ⟨ao, cap, hva, hnn⟩ := own_formB hown
    have hl : (128 :: List.replicate k (0 : UInt8)).length = k + 1 := by simp
    rw [hl] at hva
    subst hva
    have HO := hide hown
    have HN := hide hnn
    clear hown hnn hl
    have hsz : w.heap.size ≤ wr.heap.size := hbel.size
    by_cases hlt : k < z
    · have hc : (((n : Int) % 64 + (k + 1) + 8) % 64 != 0) = true := by
        have := HZ.out
        rw [bne_iff_ne]; omega
      go_wp2_with (at_builtin; refine wpList_append_byte rfl _ _ rfl w.heap.size _ (128 :: List.replicate k 0) rfl ?c1 wr.heap.size 1 rfl 0 0 rfl ?c2 ?c3 ?c4 ?_)
      case c1 => exact owns_below HO.out ((Below.refl _ _).alloc (Nat.le_refl _) _)
      case c2 => exact (Blk.made wr _ _).cell 0
      case c3 => simp; omega
      case c4 => simp; omega
      intro v' w1 HO' HG HW
      go_wp2
      refine ⟨⟨_, k + 1, rfl, hlt, ?_, own_below (hbel.alloc hsz _) (owns_below HO.out ((Below.refl _ _).alloc (Nat.le_refl _) _)) (by simp; omega) HG.out⟩, ?_⟩
      · rw [List.replicate_succ']; exact HO'.out
      · obtain ⟨ao', cap', e, _⟩ := own_formB HO'.out
        rw [e]; simp [slen]; omega
    · obtain rfl : k = z := by omega
      have hc : (((n : Int) % 64 + (k + 1) + 8) % 64 != 0) = false := by
        have := HZ.out
        rw [bne_eq_false_iff_eq]; omega
      go_wp2
      go_loopw [3, 5] (fun v i wr => ∃ (va : Value) (l : Nat), va = v ∧ i = .int .i64 (7 - l) ∧ l ≤ 8 ∧ OwnsB wr w.heap.size va (128 :: (List.replicate k 0 ++ (List.range l).map (tb n))) ∧ Below w.heap.size w wr) (fun _ i _ => (intOf i + 1).toNat)
      case atStart => exact ⟨_, 0, rfl, rfl, by omega, by simpa using HO.out, hbel⟩
      case round =>
        clear HO HN hbel hsz
        obtain ⟨va, l, rfl, rfl, hl, hown, hbel⟩ := hrel
        obtain ⟨ao, cap, hva, hnn⟩ := own_formB hown
        have hlen : (128 :: (List.replicate k (0 : UInt8) ++ (List.range l).map (tb n))).length = k + l + 1 := by simp
        rw [hlen] at hva
        subst hva
        have HO := hide hown
        clear hown hnn hlen
        have hsz : w.heap.size ≤ wr.heap.size := hbel.size
        by_cases hlt : l < 8
        · have g1 : (0 : Int) ≤ 7 - l := by omega
          go_wp2
          obtain ⟨wp, rfl⟩ : ∃ w0, w0 = wr := ⟨_, rfl⟩
          go_loopw [6, 7] (fun v j wr2 => ∃ (m : Nat), j = .int .i64 m ∧ m ≤ 7 - l ∧ v = .int .u64 (b / 256 ^ m : Nat) ∧ wr2 = wp) (fun _ j _ => 7 - (intOf j).toNat)
          case atStart => exact ⟨0, rfl, by omega, by simp, rfl⟩
          case round =>
            obtain ⟨m, rfl, hm, rfl, rfl⟩ := hrel
            have hcl : b / 256 ^ m < 18446744073709551616 := Nat.lt_of_le_of_lt (Nat.div_le_self _ _) (by rw [HB.out]; omega)
            obtain ⟨c, hcc⟩ : ∃ c, c = b / 256 ^ m := ⟨_, rfl⟩
            rw [← hcc] at hcl ⊢
            have HC := hide hcc
            clear hcc
            by_cases hlm : m < 7 - l
            · have g2 : (m : Int) < 7 - l := by omega
              have g3 : IntKind.u64.wrap ((c : Int) / 256) = ((c / 256 : Nat) : Int) := by rw [IntKind.wrap_u64]; omega
              go_wp2
              refine ⟨⟨m + 1, by go_num, by omega, ?_, by simp⟩, by simp [intOf]; omega⟩
              rw [HC.out, Nat.pow_succ, ← Nat.div_div_eq_div_mul, ← HC.out]
              rfl
            · have g2 : ¬ (m : Int) < 7 - l := by omega
              have g3 : (c : Int).tmod 256 = ((c % 256 : Nat) : Int) := by rw [Int.tmod_eq_emod_of_nonneg (by omega)]; rfl
              have g4 : IntKind.u8.wrap ((c % 256 : Nat) : Int) = ((c % 256 : Nat) : Int) := by rw [IntKind.wrap_u8]; omega
              have e7 : 7 - l = m := by omega
              have e8 : tb n l = UInt8.ofNat (c % 256) := by unfold tb; rw [e7, ← HB.out, ← HC.out]
              have e9 : ((c : Int) % 256) = (tb n l).toNat := by rw [e8, UInt8.toNat_ofNat', Nat.mod_mod]; rfl
              have E8 := hide e9
              clear e8 e9
              go_wp2_with (at_builtin; refine wpList_append_byte rfl _ _ rfl w.heap.size _ (128 :: (List.replicate k 0 ++ (List.range l).map (tb n))) rfl ?c1 wr.heap.size 1 rfl (tb n l) ((c : Int) % 256) ?c0 ?c2 ?c3 ?c4 ?_)
              case c0 => exact E8.out
              case c1 => exact owns_below HO.out ((Below.refl _ _).alloc (Nat.le_refl _) _)
              case c3 => omega
              case c4 => omega
              intro v' w1 HO' HG HW
              go_wp2
              refine ⟨⟨_, l + 1, rfl, by go_num, by omega, ?_, own_below (hbel.alloc hsz _) (owns_below HO.out ((Below.refl _ _).alloc (Nat.le_refl _) _)) (by simp; omega) HG.out⟩, by simp [intOf]; omega⟩
              rw [List.range_succ, List.map_append]
              simpa using HO'.out
        · obtain rfl : l = 8 := by omega
          go_wp2
          go_ret
          refine ⟨_, rfl, ?_, hbel⟩
          have h := HO.out
          have e : tailL n = 128 :: (List.replicate k 0 ++ (List.range 8).map (tb n)) := by rw [HZ.out]; rfl
          rw [e]
          exact h
end Go.Proofs.YtjmjnecobaoofaaDoor
