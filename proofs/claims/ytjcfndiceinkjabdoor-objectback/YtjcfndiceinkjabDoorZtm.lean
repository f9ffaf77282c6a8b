/- Tail, the program's and the document's. -/
import Derived.Test.YtjcfndiceinkjabDoorOL7
import Derived.Test.YtjcfndiceinkjabDoorZam
import Derived.Test.YtjcfndiceinkjabDoorZSK3
namespace Go.Proofs.YtjcfndiceinkjabDoor
set_option linter.unusedVariables false
set_option linter.unusedSimpArgs false
open Go.RowKit

def TailC (w : World) (n : Nat) (e : Ending) (w' : World) : Prop := ∃ v, e = .returned v ∧ OwnsB w' w.heap.size v (tailL n) ∧ Below w.heap.size w w'

theorem make_u8u (n : Nat) (h : n ≤ 281474976710656) (w : World) : (Instr.makeSlice 23 (.int .u64 (n : Int)) (.int .u64 (n : Int))).run Tryd.prog w = .ok (.slice (some ⟨w.heap.size, 0, none⟩) n n) (w.alloc (.cells (madeCells #[.int .u8 0] n) 5)) :=
  run_make_row' (P := Tryd.prog) 23 5 (.int .u8 0) 1 Tryd.underlying23 infoU8 rfl .u64 .u64 n (by omega) (by omega) w

/-- The tail's byte j of its last eight. -/
def tb (n j : Nat) : UInt8 := UInt8.ofNat (8 * n % 18446744073709551616 / 256 ^ (7 - j) % 256)
/-- The tail while it is written, k of its last bytes laid. -/
def tailK (n z k : Nat) : List UInt8 := 128 :: (List.replicate z 0 ++ (List.range 8).map (fun j => if 8 - k ≤ j then tb n j else 0))
theorem tailK_all (n : Nat) : tailK n ((119 - n % 64) % 64) 8 = tailL n := by simp [tailK, tailL, tb]
theorem tailK_len (n z k : Nat) : (tailK n z k).length = 9 + z := by simp [tailK]; omega
theorem tailK_set (n z k : Nat) (hk : k < 8) : (tailK n z k).set (8 + z - k) (tb n (7 - k)) = tailK n z (k + 1) := by
  unfold tailK
  rw [show 8 + z - k = (z + (7 - k)) + 1 by omega, List.set_cons_succ, List.set_append_right _ _ (by simp)]
  congr 2
  rw [List.length_replicate, Nat.add_sub_cancel_left]
  have : k = 0 ∨ k = 1 ∨ k = 2 ∨ k = 3 ∨ k = 4 ∨ k = 5 ∨ k = 6 ∨ k = 7 := by omega
  rcases this with h | h | h | h | h | h | h | h <;> subst h <;> rfl
theorem tailK_zero (n z : Nat) : (tailK n z 0).map u8c = Value.int .u8 128 :: List.replicate (8 + z) (.int .u8 0) := by
  rw [Nat.add_comm, ← List.replicate_append_replicate]
  simp only [tailK, List.map_cons, List.map_append, List.map_replicate]
  rfl
set_option maxRecDepth 20000 in
set_option maxHeartbeats 1600000 in
theorem stail (w : World) (n : Nat) (hn : n < 18446744073709551616) : Calls Tryd.prog 97 #[.int .u64 n] w (TailC w n) := by
  obtain ⟨z, hz⟩ : ∃ z : Nat, z = (119 - n % 64) % 64 := ⟨_, rfl⟩
  obtain ⟨m, hm⟩ : ∃ m : Nat, m = 9 + z := ⟨_, rfl⟩
  have hz64 : z < 64 := by omega
  have e1 : (IntKind.u64.wrap (-IntKind.u64.wrap (IntKind.u64.wrap (n + 1) + 8))).tmod 64 = z := by
    rw [IntKind.wrap_u64, IntKind.wrap_u64, IntKind.wrap_u64, Int.tmod_eq_emod_of_nonneg (by omega)]; omega
  have e2 : IntKind.u64.wrap (1 + z) = 1 + z := by rw [IntKind.wrap_u64]; omega
  have e3 : IntKind.u64.wrap (1 + z + 8) = (m : Int) := by rw [IntKind.wrap_u64]; omega
  have hmk := make_u8u m (by omega) w
  have HZ := hide hz
  have HM := hide hm
  have hm9 : 9 ≤ m := by omega
  have hm72 : m < 73 := by omega
  obtain ⟨b, hb⟩ : ∃ b : Nat, b = 8 * n % 18446744073709551616 := ⟨_, rfl⟩
  have e4 : IntKind.u64.wrap (8 * n) = (b : Int) := by rw [IntKind.wrap_u64]; omega
  have HB := hide hb
  have hB0 := Blk.made w (madeCells #[.int .u8 0] m) 5
  have c0 : (w.alloc (.cells (madeCells #[.int .u8 0] m) 5)).cell? ⟨w.heap.size, 0, none⟩ = some (.int .u8 0) := by
    rw [hB0.cell, ← Array.getElem?_toList, toList_madeCells_one, List.getElem?_replicate, if_pos (by omega)]
  have f0 := hB0.frozen 0
  clear hz hm hb hB0
  go_enter Tryd.func97, Tryd.ntmps97
  go_wp2
  go_loopw [20] (fun i wr => ∃ k : Nat, i = .int .i64 k ∧ k ≤ 8 ∧ Blk wr w.heap.size ((tailK n z k).map u8c).toArray 5 ∧ Below w.heap.size w wr) (fun i _ => 8 - (intOf i).toNat)
  case atStart =>
    refine ⟨0, rfl, by omega, ?_, (Below.refl _ _).alloc (Nat.le_refl _) _⟩
    rw [tailK_zero]
    rw [show (madeCells #[Value.int .u8 0] m).setIfInBounds 0 (.int .u8 128) = (Value.int .u8 128 :: List.replicate (8 + z) (.int .u8 0)).toArray by
      apply Array.ext'
      rw [Array.toList_setIfInBounds, toList_madeCells_one, HM.out, show 9 + z = (8 + z) + 1 by omega, List.replicate_succ, List.set_cons_zero]]
    exact Blk.made _ _ _
  case round =>
    obtain ⟨k, rfl, hk, hblk, hbel⟩ := hrel
    by_cases hlt : k < 8
    · obtain ⟨j, hj⟩ : ∃ j : Nat, j = 8 + z - k := ⟨_, rfl⟩
      have hm := HM.out
      have g1 : (m : Int) - 1 - k = j := by omega
      have hjm : j < m := by omega
      have hlen := tailK_len n z k
      obtain ⟨q, gc⟩ : ∃ q, wr.cell? ⟨w.heap.size, j, none⟩ = some (.int .u8 q) := by
        refine ⟨((tailK n z k)[j]'(by omega)).toNat, ?_⟩
        rw [hblk.cell, List.getElem?_toArray, List.getElem?_map, List.getElem?_eq_getElem (by omega)]; rfl
      have gf := hblk.frozen j
      have HJ := hide hj
      have HBK := hide hblk
      clear hj hm hblk hlen
      go_wp2
      refine ⟨⟨k + 1, by go_num, by omega, ?_, hbel.setCell (Nat.le_refl _) _⟩, by simp [intOf]; omega⟩
      have h := HBK.out.set j (.int .u8 ((b : Int) / 2 ^ (8 * k) % 256))
      rw [← tailK_set n z k hlt, ← HJ.out, List.map_set]
      have e : u8c (tb n (7 - k)) = .int .u8 ((b : Int) / 2 ^ (8 * k) % 256) := by
        unfold u8c tb
        rw [UInt8.toNat_ofNat', ← HB.out, show 7 - (7 - k) = k by omega, Nat.mod_mod, show (2 : Int) ^ (8 * k) = ((256 ^ k : Nat) : Int) by rw [Int.pow_mul]; simp]
        rfl
      rw [e]
      simpa using h
    · obtain rfl : k = 8 := by omega
      have HBK := hide hblk
      clear hblk
      go_wp2
      go_ret
      refine ⟨_, rfl, ?_, hbel⟩
      have hl := tailK_len n z 8
      rw [HZ.out, tailK_all] at hl
      have h := HBK.out
      rw [HZ.out, tailK_all] at h
      have e : m = (tailL n).length := by rw [hl, ← HZ.out]; exact HM.out
      rw [e]
      exact ⟨by simp, .inr ⟨w.heap.size, _, _, rfl, Nat.le_refl _, h, Nat.le_refl _, by unfold maxLen; omega, by simp, List.take_of_length_le (by simp)⟩⟩
end Go.Proofs.YtjcfndiceinkjabDoor

/- The document's Tail. -/
namespace Go.Proofs.YtjcfndiceinkjabDoor
set_option linter.unusedVariables false
set_option linter.unusedSimpArgs false
open Go.RowKit

/-- append of one byte to a row of the call's own. -/
theorem wpList_append_byte {ops : Array Oper} {rest : List Oper} {o : Oper} {a : Act} {w : World} {Q : Exit → Act → World → Prop} (hgd : o.guard = none) (s x : Operand) (ho : o.op = .call { callee := .builtin .append, args := #[s, x], argTypes := #[23, 23] })
    (base : Nat) (v : Value) (xs : List UInt8) (hs : a.eval s = v) (hown : OwnsB w base v xs) (z c : Nat) (hx : a.eval x = .slice (some ⟨z, 0, none⟩) 1 c) (y : UInt8) (q : Int) (hq : q = y.toNat) (hc : w.cell? ⟨z, 0, none⟩ = some (.int .u8 q)) (hlen : xs.length ≤ 140737488354000) (hbase : base ≤ w.heap.size)
    (h : ∀ v' w', Hid (OwnsB w' base v' (xs ++ [y])) → Hid (w.grownBy w' v.ownBlock) → Hid (v'.ownBlock = v.ownBlock ∨ v'.ownBlock = some w.heap.size) → wpList Tryd.prog ops Q rest (a.put o.dst v') w') : wpList Tryd.prog ops Q (o :: rest) a w := by
  subst hq
  obtain ⟨i0, hi, hz0, hz1, hz2⟩ := info_parts infoU8
  refine wpList_append_own_at w hgd s x 23 ho base 5 i0 (.int .u8 0) 1 1 Tryd.underlying23 hi hz0 hz1 hz2 rfl (by decide) v xs.length (xs.map u8c) hs hown ⟨z, 0, none⟩ 1 c [u8c y] hx rfl ?_ (u8c_one [y]) (by unfold maxLen; omega) (by omega) hbase ?_
  · intro j u hj
    cases j with
    | zero => cases hj; exact hc
    | succ j => simp at hj
  · intro v' w' h1 h2 _ h4
    exact h v' w' (hide (by unfold OwnsB; rw [List.length_append, List.map_append]; exact h1)) (hide h2) (hide h4)

theorem OwnsB.new (w : World) (xs : List UInt8) (hl : xs.length ≤ maxLen) (base : Nat) (hb : base ≤ w.heap.size) : OwnsB (w.alloc (.cells (xs.map u8c).toArray 5)) base (.slice (some ⟨w.heap.size, 0, none⟩) xs.length xs.length) xs := owns_made w xs hl base hb

def slen : Value → Nat
  | .slice _ n _ => n
  | _ => 0
set_option maxRecDepth 20000 in
set_option maxHeartbeats 1600000 in
theorem rtail (w : World) (n : Nat) (hn : n < 18446744073709551616) : Calls Tryd.prog 30 #[.int .u64 n] w (TailC w n) := by
  obtain ⟨z, hz⟩ : ∃ z : Nat, z = (119 - n % 64) % 64 := ⟨_, rfl⟩
  obtain ⟨b, hb⟩ : ∃ b : Nat, b = 8 * n % 18446744073709551616 := ⟨_, rfl⟩
  have hz64 : z < 64 := by omega
  have e4 : IntKind.u64.wrap (n * 8) = (b : Int) := by rw [IntKind.wrap_u64]; omega
  have HZ := hide hz
  have HB := hide hb
  clear hz hb
  go_enter Tryd.func30, Tryd.ntmps30
  go_wp2
  go_loopw [3] (fun v wr => ∃ (va : Value) (k : Nat), va = v ∧ k ≤ z ∧ OwnsB wr w.heap.size va (128 :: List.replicate k 0) ∧ Below w.heap.size w wr) (fun v _ => z + 1 - slen v)
  case atStart => exact ⟨_, 0, rfl, by omega, OwnsB.new w [128] (by decide) _ (Nat.le_refl _), (Below.refl _ _).alloc (Nat.le_refl _) _⟩
  case round =>
    obtain ⟨va, k, rfl, hk, hown, hbel⟩ := hrel
    obtain ⟨ao, cap, hva, hnn⟩ := own_formB hown
    have hl : (128 :: List.replicate k (0 : UInt8)).length = k + 1 := by simp
    rw [hl] at hva
    subst hva
    have HO := hide hown
    have HN := hide hnn
    clear hown hnn hl
    have hsz : w.heap.size ≤ wr.heap.size := hbel.size
    by_cases hlt : k < z
    · have hc : (((n : Int) % 64 + (k + 1) + 8) % 64 != 0) = true := by
        have := HZ.out
        rw [bne_iff_ne]; omega
      go_wp2_with (at_builtin; refine wpList_append_byte rfl _ _ rfl w.heap.size _ (128 :: List.replicate k 0) rfl ?c1 wr.heap.size 1 rfl 0 0 rfl ?c2 ?c3 ?c4 ?_)
      case c1 => exact owns_below HO.out ((Below.refl _ _).alloc (Nat.le_refl _) _)
      case c2 => exact (Blk.made wr _ _).cell 0
      case c3 => simp; omega
      case c4 => simp; omega
      intro v' w1 HO' HG HW
      go_wp2
      refine ⟨⟨_, k + 1, rfl, hlt, ?_, own_below (hbel.alloc hsz _) (owns_below HO.out ((Below.refl _ _).alloc (Nat.le_refl _) _)) (by simp; omega) HG.out⟩, ?_⟩
      · rw [List.replicate_succ']; exact HO'.out
      · obtain ⟨ao', cap', e, _⟩ := own_formB HO'.out
        rw [e]; simp [slen]; omega
    · obtain rfl : k = z := by omega
      have hc : (((n : Int) % 64 + (k + 1) + 8) % 64 != 0) = false := by
        have := HZ.out
        rw [bne_eq_false_iff_eq]; omega
      go_wp2
      go_loopw [3, 5] (fun v i wr => ∃ (va : Value) (l : Nat), va = v ∧ i = .int .i64 (7 - l) ∧ l ≤ 8 ∧ OwnsB wr w.heap.size va (128 :: (List.replicate k 0 ++ (List.range l).map (tb n))) ∧ Below w.heap.size w wr) (fun _ i _ => (intOf i + 1).toNat)
      case atStart => exact ⟨_, 0, rfl, rfl, by omega, by simpa using HO.out, hbel⟩
      case round =>
        clear HO HN hbel hsz
        obtain ⟨va, l, rfl, rfl, hl, hown, hbel⟩ := hrel
        obtain ⟨ao, cap, hva, hnn⟩ := own_formB hown
        have hlen : (128 :: (List.replicate k (0 : UInt8) ++ (List.range l).map (tb n))).length = k + l + 1 := by simp
        rw [hlen] at hva
        subst hva
        have HO := hide hown
        clear hown hnn hlen
        have hsz : w.heap.size ≤ wr.heap.size := hbel.size
        by_cases hlt : l < 8
        · have g1 : (0 : Int) ≤ 7 - l := by omega
          go_wp2
          obtain ⟨wp, rfl⟩ : ∃ w0, w0 = wr := ⟨_, rfl⟩
          go_loopw [6, 7] (fun v j wr2 => ∃ (m : Nat), j = .int .i64 m ∧ m ≤ 7 - l ∧ v = .int .u64 (b / 256 ^ m : Nat) ∧ wr2 = wp) (fun _ j _ => 7 - (intOf j).toNat)
          case atStart => exact ⟨0, rfl, by omega, by simp, rfl⟩
          case round =>
            obtain ⟨m, rfl, hm, rfl, rfl⟩ := hrel
            have hcl : b / 256 ^ m < 18446744073709551616 := Nat.lt_of_le_of_lt (Nat.div_le_self _ _) (by rw [HB.out]; omega)
            obtain ⟨c, hcc⟩ : ∃ c, c = b / 256 ^ m := ⟨_, rfl⟩
            rw [← hcc] at hcl ⊢
            have HC := hide hcc
            clear hcc
            by_cases hlm : m < 7 - l
            · have g2 : (m : Int) < 7 - l := by omega
              have g3 : IntKind.u64.wrap ((c : Int) / 256) = ((c / 256 : Nat) : Int) := by rw [IntKind.wrap_u64]; omega
              go_wp2
              refine ⟨⟨m + 1, by go_num, by omega, ?_, by simp⟩, by simp [intOf]; omega⟩
              rw [HC.out, Nat.pow_succ, ← Nat.div_div_eq_div_mul, ← HC.out]
              rfl
            · have g2 : ¬ (m : Int) < 7 - l := by omega
              have g3 : (c : Int).tmod 256 = ((c % 256 : Nat) : Int) := by rw [Int.tmod_eq_emod_of_nonneg (by omega)]; rfl
              have g4 : IntKind.u8.wrap ((c % 256 : Nat) : Int) = ((c % 256 : Nat) : Int) := by rw [IntKind.wrap_u8]; omega
              have e7 : 7 - l = m := by omega
              have e8 : tb n l = UInt8.ofNat (c % 256) := by unfold tb; rw [e7, ← HB.out, ← HC.out]
              have e9 : ((c : Int) % 256) = (tb n l).toNat := by rw [e8, UInt8.toNat_ofNat', Nat.mod_mod]; rfl
              have E8 := hide e9
              clear e8 e9
              go_wp2_with (at_builtin; refine wpList_append_byte rfl _ _ rfl w.heap.size _ (128 :: (List.replicate k 0 ++ (List.range l).map (tb n))) rfl ?c1 wr.heap.size 1 rfl (tb n l) ((c : Int) % 256) ?c0 ?c2 ?c3 ?c4 ?_)
              case c0 => exact E8.out
              case c1 => exact owns_below HO.out ((Below.refl _ _).alloc (Nat.le_refl _) _)
              case c3 => omega
              case c4 => omega
              intro v' w1 HO' HG HW
              go_wp2
              refine ⟨⟨_, l + 1, rfl, by go_num, by omega, ?_, own_below (hbel.alloc hsz _) (owns_below HO.out ((Below.refl _ _).alloc (Nat.le_refl _) _)) (by simp; omega) HG.out⟩, by simp [intOf]; omega⟩
              rw [List.range_succ, List.map_append]
              simpa using HO'.out
        · obtain rfl : l = 8 := by omega
          go_wp2
          go_ret
          refine ⟨_, rfl, ?_, hbel⟩
          have h := HO.out
          have e : tailL n = 128 :: (List.replicate k 0 ++ (List.range 8).map (tb n)) := by rw [HZ.out]; rfl
          rw [e]
          exact h
end Go.Proofs.YtjcfndiceinkjabDoor

/- words, the document's. -/
namespace Go.Proofs.YtjcfndiceinkjabDoor
set_option linter.unusedVariables false
set_option linter.unusedSimpArgs false
open Go.RowKit

theorem infoU64 : (Tryd.prog.info? 47).map (fun i => (i.zero, i.size, i.bytes)) = some (some (.int .u64 0), 1, 8) := by kernel_rfl
theorem u64c_one (xs : List Nat) : ∀ v ∈ xs.map u64c, v.oneCell' = true := by
  intro v hv
  obtain ⟨u, _, rfl⟩ := List.mem_map.1 hv
  rfl
/-- A row of the call's own that holds these words. -/
def OwnsW (w : World) (base : Nat) (v : Value) (xs : List Nat) : Prop := w.ownsRow base 47 1 v xs.length (xs.map u64c)
theorem wpList_append_word {ops : Array Oper} {rest : List Oper} {o : Oper} {a : Act} {w : World} {Q : Exit → Act → World → Prop} (hgd : o.guard = none) (s x : Operand) (ho : o.op = .call { callee := .builtin .append, args := #[s, x], argTypes := #[110, 110] })
    (base : Nat) (v : Value) (xs : List Nat) (hs : a.eval s = v) (hown : OwnsW w base v xs) (z c : Nat) (hx : a.eval x = .slice (some ⟨z, 0, none⟩) 1 c) (y : Nat) (q : Int) (hq : q = y) (hc : w.cell? ⟨z, 0, none⟩ = some (.int .u64 q)) (hlen : xs.length ≤ 1000000) (hbase : base ≤ w.heap.size)
    (h : ∀ v' w', Hid (OwnsW w' base v' (xs ++ [y])) → Hid (w.grownBy w' v.ownBlock) → wpList Tryd.prog ops Q rest (a.put o.dst v') w') : wpList Tryd.prog ops Q (o :: rest) a w := by
  subst hq
  obtain ⟨i0, hi, hz0, hz1, hz2⟩ := info_parts infoU64
  refine wpList_append_own_at w hgd s x 110 ho base 47 i0 (.int .u64 0) 1 8 Tryd.underlying110 hi hz0 hz1 hz2 rfl (by decide) v xs.length (xs.map u64c) hs hown ⟨z, 0, none⟩ 1 c [u64c y] hx rfl ?_ (u64c_one [y]) (by unfold maxLen; omega) (by omega) hbase ?_
  · intro j u hj
    cases j with
    | zero => cases hj; exact hc
    | succ j => simp at hj
  · intro v' w' h1 h2 _ h4
    exact h v' w' (hide (by unfold OwnsW; rw [List.length_append, List.map_append]; exact h1)) (hide h2)
theorem OwnsW.at {w : World} {base g n cap : Nat} {xs : List Nat} (h : OwnsW w base (.slice (some ⟨g, 0, none⟩) n cap) xs) (k : Nat) (hk : k < xs.length) : w.cell? ⟨g, k, none⟩ = some (.int .u64 ((xs[k]?.getD 0 : Nat) : Int)) := by
  obtain ⟨hl, ⟨h1, _⟩ | ⟨g', cap', cur, e, hb, hg, hc, hm, hs, ht⟩⟩ := h
  · cases h1
  · cases e
    have hB : Blk w g cur 47 := hg
    rw [hB.cell, ← Array.getElem?_toList]
    have : (cur.toList.take (xs.length * 1))[k]? = some (u64c (xs[k]?.getD 0)) := by rw [ht]; simp [List.getElem?_eq_getElem hk]
    rw [List.getElem?_take_of_lt (by omega)] at this
    exact this
theorem below_drew' (base : Nat) (w : World) (n : Nat) : Below base w (w.drewN n) := ⟨rfl, rfl, rfl, Nat.le_refl _, fun _ _ => rfl⟩

theorem OwnsW.below {w w' : World} {base : Nat} {v : Value} {xs : List Nat} (h : OwnsW w base v xs) (hb : Below w.heap.size w w') : OwnsW w' base v xs := owns_below h hb
theorem OwnsW.form {w : World} {base : Nat} {v : Value} {xs : List Nat} (h : OwnsW w base v xs) (h0 : 0 < xs.length) : ∃ g cap, v = .slice (some ⟨g, 0, none⟩) xs.length cap := by
  obtain ⟨hl, ⟨h1, h2⟩ | ⟨g, cap, cur, rfl, r⟩⟩ := h
  · omega
  · exact ⟨g, cap, rfl⟩
/-- turned, what stays. -/
theorem turned_b (w : World) (x n : Nat) (hx : x < 4294967296) (h : n ≤ 32) : Calls Tryd.prog 99 #[.int .u64 x, .int .i64 n] w fun e w' => e = .returned (.int .u64 (rr n x : Nat)) ∧ Below w.heap.size w w' :=
  (turned_any w x n hx h).mono fun e w' ⟨h1, m, h2⟩ => ⟨h1, by rw [h2]; exact below_drew' _ _ _⟩
theorem rright_b (w : World) (x n : Nat) (hx : x < 4294967296) (h : n ≤ 32) : Calls Tryd.prog 100 #[.int .u64 x, .int .i64 n] w fun e w' => e = .returned (.int .u64 (x / 2 ^ n : Nat)) ∧ Below w.heap.size w w' :=
  (rright_any w x n hx h).mono fun e w' ⟨h1, h2⟩ => ⟨h1, by rw [h2]; exact Below.refl _ _⟩
theorem xor64_nat (x y : Nat) (hx : x < 4294967296) (hy : y < 4294967296) : bits .xor .u64 (x : Int) (y : Int) = ((x ^^^ y : Nat) : Int) := u64_xor_nat x y (by omega) (by omega)
set_option maxRecDepth 40000 in
set_option maxHeartbeats 4000000 in
theorem words_any (w : World) (v : Value) (b : List UInt8) (hrd : Rd w v b) (hb : b.length = 64) : Calls Tryd.prog 67 #[v] w fun e w' => ∃ v', e = .returned v' ∧ OwnsW w' w.heap.size v' (wds b 64) ∧ Below w.heap.size w w' := by
  have HRD := hide (fun w' (hb : Below w.heap.size w w') => hrd.below hb)
  obtain ⟨bz, bo, bc, rfl⟩ : ∃ bz bo bc, v = .slice (some ⟨bz, bo, none⟩) 64 bc := by
    rcases hrd.form with ⟨_, rfl⟩ | ⟨bz, bo, bc, e, _⟩
    · simp at hb
    · exact ⟨bz, bo, bc, by rw [e, hb]⟩
  clear hrd
  go_enter Tryd.func67, Tryd.ntmps67
  go_wp2
  go_loopw [3, 4] (fun v i wr => ∃ (va : Value) (k : Nat), va = v ∧ i = .int .i64 k ∧ k ≤ 64 ∧ OwnsW wr w.heap.size va (wds b k) ∧ Below w.heap.size w wr) (fun _ i _ => 64 - (intOf i).toNat)
  case atStart => exact ⟨_, 0, rfl, rfl, by omega, World.ownsRow_nil _ _ _ _, Below.refl _ _⟩
  case round =>
    obtain ⟨va, k, rfl, rfl, hk, hown, hbel⟩ := hrel
    have hsz : w.heap.size ≤ wr.heap.size := hbel.size
    by_cases hlt : k < 64
    · by_cases h16 : k < 16
      · have hq (j : Nat) (hj : j < 4) : wr.cell? ⟨bz, bo + (4 * k + j), none⟩ = some (.int .u8 ((b[4 * k + j]?.getD 0).toNat : Int)) := by
          have hl : 4 * k + j < b.length := by omega
          rcases (HRD.out wr hbel).form with ⟨e, _⟩ | ⟨z', o', c', e, hcell⟩
          · cases e
          · obtain ⟨e1, _, _⟩ := (Value.slice.injEq ..).mp e
            cases e1
            rw [hcell _ hl, List.getElem?_eq_getElem hl]; rfl
        have hwd : wordAt b k = (((b[4 * k]?.getD 0).toNat * 256 + (b[4 * k + 1]?.getD 0).toNat) * 65536 + (b[4 * k + 2]?.getD 0).toNat * 256 + (b[4 * k + 3]?.getD 0).toNat) := rfl
        have q0 := hq 0 (by omega)
        have q1 := hq 1 (by omega)
        have q2 := hq 2 (by omega)
        have q3 := hq 3 (by omega)
        have l0 := (b[4 * k]?.getD 0).toNat_lt
        have l1 := (b[4 * k + 1]?.getD 0).toNat_lt
        have l2 := (b[4 * k + 2]?.getD 0).toNat_lt
        have l3 := (b[4 * k + 3]?.getD 0).toNat_lt
        rw [Nat.add_zero] at q0
        generalize (b[4 * k]?.getD 0).toNat = x0 at q0 l0 hwd
        generalize (b[4 * k + 1]?.getD 0).toNat = x1 at q1 l1 hwd
        generalize (b[4 * k + 2]?.getD 0).toNat = x2 at q2 l2 hwd
        generalize (b[4 * k + 3]?.getD 0).toNat = x3 at q3 l3 hwd
        have HW := hide hwd
        have HO := hide hown
        clear hq hwd hown
        go_wp2
        refine wp_loop_rounds 5 ?_
        rw [rounds_succ]
        go_wp2
        rw [rounds_succ]
        go_wp2
        rw [rounds_succ]
        go_wp2
        rw [rounds_succ]
        go_wp2
        rw [rounds_succ]
        go_wp2_with (at_builtin; refine wpList_append_word rfl _ _ rfl w.heap.size _ (wds b k) rfl ?c1 wr.heap.size 1 rfl (wordAt b k) ((((x0 : Int) * 256 + x1) * 256 + x2) * 256 + x3) ?c0 ?c2 ?c3 ?c4 ?_)
        case c0 => rw [HW.out]; omega
        case c1 => exact HO.out.below ((Below.refl _ _).alloc (Nat.le_refl _) _)
        case c2 => exact (Blk.made wr _ _).cell 0
        case c3 => rw [wds_length]; omega
        case c4 => simp; omega
        intro v' w1 HO' HG
        go_wp2
        refine ⟨⟨_, k + 1, rfl, by go_num, by omega, ?_, own_below (hbel.alloc hsz _) (HO.out.below ((Below.refl _ _).alloc (Nat.le_refl _) _)) (by simp; omega) HG.out⟩, by simp [intOf]; omega⟩
        have h := HO'.out
        rw [wds, if_pos h16]; exact h
      · obtain ⟨g, cap, rfl⟩ := hown.form (by rw [wds_length]; omega)
        rw [wds_length] at hown ⊢
        have hL (j : Nat) (hj : j < k) : (wds b k)[j]?.getD 0 < 4294967296 := by
          have hl : j < (wds b k).length := by rw [wds_length]; exact hj
          rw [List.getElem?_eq_getElem hl]
          exact wds_lt b k _ (List.getElem_mem hl)
        have hnx : wnext (wds b k) = (s1 ((wds b k)[k - 2]?.getD 0) + (wds b k)[k - 7]?.getD 0 + s0 ((wds b k)[k - 15]?.getD 0) + (wds b k)[k - 16]?.getD 0) % 4294967296 := by rw [wnext, wds_length]
        obtain ⟨j2, e2⟩ : ∃ j, j = k - 2 := ⟨_, rfl⟩
        obtain ⟨j7, e7⟩ : ∃ j, j = k - 7 := ⟨_, rfl⟩
        obtain ⟨j15, e15⟩ : ∃ j, j = k - 15 := ⟨_, rfl⟩
        obtain ⟨j16, e16⟩ : ∃ j, j = k - 16 := ⟨_, rfl⟩
        rw [← e2, ← e7, ← e15, ← e16] at hnx
        have hq (j : Nat) (hj : j < k) (w' : World) (ho : OwnsW w' w.heap.size (.slice (some ⟨g, 0, none⟩) k cap) (wds b k)) := ho.at j (by rw [wds_length]; exact hj)
        have Q2 := hide (hq j2 (by omega))
        have Q7 := hide (hq j7 (by omega))
        have Q15 := hide (hq j15 (by omega))
        have Q16 := hide (hq j16 (by omega))
        have l2 := hL j2 (by omega)
        have l7 := hL j7 (by omega)
        have l15 := hL j15 (by omega)
        have l16 := hL j16 (by omega)
        generalize (wds b k)[j2]?.getD 0 = x2 at Q2 l2 hnx
        generalize (wds b k)[j7]?.getD 0 = x7 at Q7 l7 hnx
        generalize (wds b k)[j15]?.getD 0 = x15 at Q15 l15 hnx
        generalize (wds b k)[j16]?.getD 0 = x16 at Q16 l16 hnx
        have n2 : (k : Int) - 2 = j2 := by omega
        have n7 : (k : Int) - 7 = j7 := by omega
        have n15 : (k : Int) - 15 = j15 := by omega
        have n16 : (k : Int) - 16 = j16 := by omega
        have m2 := wrapi64_nat j2 (by omega)
        have m7 := wrapi64_nat j7 (by omega)
        have m15 := wrapi64_nat j15 (by omega)
        have m16 := wrapi64_nat j16 (by omega)
        have b2 : (j2 : Int) < k := by omega
        have b7 : (j7 : Int) < k := by omega
        have b15 : (j15 : Int) < k := by omega
        have b16 : (j16 : Int) < k := by omega
        have b2' : j2 < k := by omega
        have b7' : j7 < k := by omega
        have b15' : j15 < k := by omega
        have b16' : j16 < k := by omega
        have q2 := Q2.out wr hown
        have q15 := Q15.out wr hown
        have HR7 := hide (fun w => turned_b w x15 7 l15 (by decide))
        have HR18 := hide (fun w => turned_b w x15 18 l15 (by decide))
        have HR3 := hide (fun w => rright_b w x15 3 l15 (by decide))
        have HR17 := hide (fun w => turned_b w x2 17 l2 (by decide))
        have HR19 := hide (fun w => turned_b w x2 19 l2 (by decide))
        have HR10 := hide (fun w => rright_b w x2 10 l2 (by decide))
        have z1 := xor64_nat (rr 7 x15) (rr 18 x15) (rr_lt 7 x15 (by decide) l15) (rr_lt 18 x15 (by decide) l15)
        have z2 : bits .xor .u64 ((rr 7 x15 ^^^ rr 18 x15 : Nat) : Int) ((x15 / 2 ^ 3 : Nat) : Int) = ((s0 x15 : Nat) : Int) := xor64_nat _ (x15 / 8) (xor_lt (rr_lt 7 x15 (by decide) l15) (rr_lt 18 x15 (by decide) l15)) (by omega)
        have z3 := xor64_nat (rr 17 x2) (rr 19 x2) (rr_lt 17 x2 (by decide) l2) (rr_lt 19 x2 (by decide) l2)
        have z4 : bits .xor .u64 ((rr 17 x2 ^^^ rr 19 x2 : Nat) : Int) ((x2 / 2 ^ 10 : Nat) : Int) = ((s1 x2 : Nat) : Int) := xor64_nat _ (x2 / 1024) (xor_lt (rr_lt 17 x2 (by decide) l2) (rr_lt 19 x2 (by decide) l2)) (by omega)
        have ls0 := s0_lt l15
        have ls1 := s1_lt l2
        generalize rr 7 x15 ^^^ rr 18 x15 = y1 at z1 z2
        generalize rr 17 x2 ^^^ rr 19 x2 = y2 at z3 z4
        generalize rr 7 x15 = r7 at z1 HR7
        generalize rr 18 x15 = r18 at z1 HR18
        generalize rr 17 x2 = r17 at z3 HR17
        generalize rr 19 x2 = r19 at z3 HR19
        generalize x15 / 2 ^ 3 = d3 at z2 HR3
        generalize x2 / 2 ^ 10 = d10 at z4 HR10
        generalize s0 x15 = t0 at z2 hnx ls0
        generalize s1 x2 = t1 at z4 hnx ls1
        have z5 : ((t1 : Int) + x7 + t0 + x16) % 4294967296 = ((wnext (wds b k) : Nat) : Int) := by rw [hnx]; omega
        have HO := hide hown
        have HNX := hide hnx
        clear hown hq hL hnx e2 e7 e15 e16
        go_wp2_with fail
        refine (HR7.out _).mono ?_
        rintro e w1 ⟨rfl, hb1⟩
        have HO1 := hide (HO.out.below hb1)
        have hl1 := hbel.trans (hb1.mono hsz)
        clear HO hb1 q2 q15 hbel
        go_wp2_with fail
        refine (HR18.out _).mono ?_
        rintro e w2 ⟨rfl, hb2⟩
        have HO2 := hide (HO1.out.below hb2)
        have hl2 := hl1.trans (hb2.mono hl1.size)
        clear HO1 hb2 hl1
        go_wp2_with fail
        refine (HR3.out _).mono ?_
        rintro e w3 ⟨rfl, hb3⟩
        have HO3 := hide (HO2.out.below hb3)
        have hl3 := hl2.trans (hb3.mono hl2.size)
        clear HO2 hb3 hl2
        go_wp2_with fail
        refine (HR17.out _).mono ?_
        rintro e w4 ⟨rfl, hb4⟩
        have HO4 := hide (HO3.out.below hb4)
        have hl4 := hl3.trans (hb4.mono hl3.size)
        clear HO3 hb4 hl3
        go_wp2_with fail
        refine (HR19.out _).mono ?_
        rintro e w5 ⟨rfl, hb5⟩
        have HO5 := hide (HO4.out.below hb5)
        have hl5 := hl4.trans (hb5.mono hl4.size)
        clear HO4 hb5 hl4
        go_wp2_with fail
        refine (HR10.out _).mono ?_
        rintro e w6 ⟨rfl, hb6⟩
        have HO6 := hide (HO5.out.below hb6)
        have hl6 := hl5.trans (hb6.mono hl5.size)
        have q7 := Q7.out w6 HO6.out
        have q16 := Q16.out w6 HO6.out
        clear HO5 hb6 hl5
        go_wp2
        go_quiet (fail)
        obtain ⟨wn, hwn⟩ : ∃ wn, wn = w6.drewN nq := ⟨_, rfl⟩
        have hbn : Below w6.heap.size w6 wn := by rw [hwn]; exact below_drew' _ _ _
        rw [← hwn]
        have HOn := hide (HO6.out.below hbn)
        have hln := hl6.trans (hbn.mono hl6.size)
        have hszn := hln.size
        clear hwn hbn q7 q16 HO6 hl6 Q2 Q7 Q15 Q16
        go_wp2_with (at_builtin; refine wpList_append_word rfl _ _ rfl w.heap.size _ (wds b k) rfl ?d1 wn.heap.size 1 rfl (wnext (wds b k)) ((wnext (wds b k) : Nat) : Int) rfl ?d2 ?d3 ?d4 ?_)
        case d1 => exact HOn.out.below ((Below.refl _ _).alloc (Nat.le_refl _) _)
        case d2 => exact (Blk.made wn _ _).cell 0
        case d3 => rw [wds_length]; omega
        case d4 => simp; omega
        intro v' w7 HO' HG
        go_wp2
        refine ⟨⟨_, k + 1, rfl, by go_num, by omega, ?_, own_below (hln.alloc hszn _) (HOn.out.below ((Below.refl _ _).alloc (Nat.le_refl _) _)) (by simp; omega) HG.out⟩, by simp [intOf]; omega⟩
        have h := HO'.out
        rw [wds, if_neg h16]; exact h
    · have HO := hide hown
      clear hown
      obtain rfl : k = 64 := by omega
      go_wp2
      go_ret
      exact ⟨_, rfl, HO.out, hbel⟩
end Go.Proofs.YtjcfndiceinkjabDoor

/- Block and Start, the document's; Start, the program's. -/
namespace Go.Proofs.YtjcfndiceinkjabDoor
set_option linter.unusedVariables false
set_option linter.unusedSimpArgs false
open Go.RowKit

theorem start_any (w : World) : Calls Tryd.prog 104 #[] w fun e w' => e = .returned begin8.val ∧ Below w.heap.size w w' := by
  go_enter Tryd.func104, Tryd.ntmps104
  go_wp2
  refine bodyPost_ret (results_cell rfl _ _ _ rfl _ (loadBlkT (Blk.made w _ _) 69 _ Tryd.underlying69 rfl 8 infoS8 rfl)) rfl ?_
  exact ⟨rfl, (Below.refl _ _).alloc (Nat.le_refl _) _⟩
set_option maxRecDepth 40000 in
theorem three_any (w : World) (x n1 n2 n3 : Nat) (hx : x < 4294967296) (h1 : n1 ≤ 32) (h2 : n2 ≤ 32) (h3 : n3 ≤ 32) : Calls Tryd.prog 68 #[.int .u64 x, .int .i64 n1, .int .i64 n2, .int .i64 n3] w fun e w' => e = .returned (.int .u64 (rr n1 x ^^^ rr n2 x ^^^ rr n3 x : Nat)) ∧ ∃ m, w' = w.drewN m := by
  have HA := hide (fun w => turned_any w x n1 hx h1)
  have HB := hide (fun w => turned_any w x n2 hx h2)
  have HC := hide (fun w => turned_any w x n3 hx h3)
  have z1 := xor64_nat _ _ (rr_lt n1 x h1 hx) (rr_lt n2 x h2 hx)
  have z2 := xor64_nat _ _ (xor_lt (rr_lt n1 x h1 hx) (rr_lt n2 x h2 hx)) (rr_lt n3 x h3 hx)
  generalize rr n1 x ^^^ rr n2 x ^^^ rr n3 x = y2 at z2 ⊢
  generalize rr n1 x ^^^ rr n2 x = y1 at z1 z2
  generalize rr n1 x = r1 at HA z1
  generalize rr n2 x = r2 at HB z1
  generalize rr n3 x = r3 at HC z2
  go_enter Tryd.func68, Tryd.ntmps68
  go_wp2_with fail
  refine (HA.out _).mono ?_
  rintro e w1 ⟨rfl, m1, rfl⟩
  go_wp2_with fail
  refine (HB.out _).mono ?_
  rintro e w2 ⟨rfl, m2, rfl⟩
  go_wp2_with fail
  refine (HC.out _).mono ?_
  rintro e w3 ⟨rfl, m3, rfl⟩
  go_wp2
  go_ret
  exact ⟨rfl, _, rfl⟩
set_option maxRecDepth 40000 in
set_option maxHeartbeats 4000000 in
theorem rstart_any (w : World) (hT : Tabs w) : Calls Tryd.prog 31 #[] w fun e w' => e = .returned begin8.val ∧ Below w.heap.size w w' := by
  have b0 : w.cell? ⟨0, 0, none⟩ = some (.int .u64 0x6a09e667) := hT.beg 0 (by decide)
  have b1 : w.cell? ⟨0, 1, none⟩ = some (.int .u64 0xbb67ae85) := hT.beg 1 (by decide)
  have b2 : w.cell? ⟨0, 2, none⟩ = some (.int .u64 0x3c6ef372) := hT.beg 2 (by decide)
  have b3 : w.cell? ⟨0, 3, none⟩ = some (.int .u64 0xa54ff53a) := hT.beg 3 (by decide)
  have b4 : w.cell? ⟨0, 4, none⟩ = some (.int .u64 0x510e527f) := hT.beg 4 (by decide)
  have b5 : w.cell? ⟨0, 5, none⟩ = some (.int .u64 0x9b05688c) := hT.beg 5 (by decide)
  have b6 : w.cell? ⟨0, 6, none⟩ = some (.int .u64 0x1f83d9ab) := hT.beg 6 (by decide)
  have b7 : w.cell? ⟨0, 7, none⟩ = some (.int .u64 0x5be0cd19) := hT.beg 7 (by decide)
  have hsz : 0 < w.heap.size := by have := hT.sz; omega
  have hn1 : ¬ 0 = w.heap.size := by omega
  have hn2 : ¬ w.heap.size = 0 := by omega
  have hn3 : ¬ 0 = w.heap.size + 1 := by omega
  have hn4 : ¬ w.heap.size = 0 := by omega
  have hlt2 : 0 < w.heap.size + 1 := by omega
  clear hT
  go_enter Tryd.func31, Tryd.ntmps31
  go_wp2
  go_rounds 9
  refine bodyPost_ret (results_cell rfl _ _ _ rfl _ (loadBlkT ((Blk.made w _ _).alloc _) 69 _ Tryd.underlying69 rfl 8 infoS8 rfl)) rfl ?_
  exact ⟨rfl, ((Below.refl _ _).alloc (Nat.le_refl _) _).alloc (by simp) _⟩
end Go.Proofs.YtjcfndiceinkjabDoor
