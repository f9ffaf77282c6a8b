/- Grow, Concat, Clone; a record is packed. -/
import Derived.Test.YtbnedlcldfpfdaaFR7
import Derived.Lib.AppendZeros
import Derived.StillTailTactics
namespace Go.Proofs.Ytbnedlcldfpfdaa
set_option linter.unusedVariables false
set_option linter.unusedSimpArgs false
open Go.RowKit

theorem zc_size (n : Nat) : (Builtin.zeroCells #[Value.int .u8 0] n).size = n := by rw [size_zeroCells]; simp
def GrowC (w : World) (e : Ending) (w' : World) : Prop := ∃ g cap, e = .returned (.slice (some ⟨g, 0, none⟩) 0 cap) ∧ OwnsB w' w.heap.size (.slice (some ⟨g, 0, none⟩) 0 cap) [] ∧ Below w.heap.size w w'
set_option maxRecDepth 20000 in
set_option maxHeartbeats 1600000 in
theorem grow_any (w : World) (n : Nat) (h0 : 0 < n) (h1 : n ≤ 140737488355328) : Calls Try.prog 41 #[.slice none 0 0, .int .i64 (n : Int)] w (GrowC w) := by
  obtain ⟨i0, hi, hz0, hz1, hz2⟩ := info_parts infoU8
  have hr := fun (ty : TypeId) => Lib.run_append_nil_zeros (P := Try.prog) w 22 3 ty 5 i0 (.int .u8 0) .i64 .i64 Try.underlying22 Try.underlying3 hi hz0 n h0 (by rw [hz1]; omega) (by omega) (by rw [hz2]; omega)
  have hcn : n ≤ grownCap w n 0 5 := grownCap_ge w n 0 5
  have hcm : grownCap w n 0 5 ≤ maxLen := grownCap_le_maxLen w n 0 5 (by unfold maxLen; omega)
  have HOW : Hid (OwnsB (w.drew.alloc (.cells (Builtin.zeroCells (Value.int .u8 0).cells n ++ Builtin.zeroCells (Value.int .u8 0).cells (grownCap w n 0 5 - n)) 5)) w.heap.size (.slice (some ⟨w.heap.size, 0, none⟩) 0 (grownCap w n 0 5)) []) := by
    refine ⟨rfl, .inr ⟨w.heap.size, _, _, rfl, Nat.le_refl _, Blk.made w.drew _ _, Nat.zero_le _, hcm, ?_, by simp⟩⟩
    rw [Array.size_append, show (Value.int .u8 0).cells = #[Value.int .u8 0] from rfl, zc_size, zc_size]
    omega
  have HB : Hid (Below w.heap.size w (w.drew.alloc (.cells (Builtin.zeroCells (Value.int .u8 0).cells n ++ Builtin.zeroCells (Value.int .u8 0).cells (grownCap w n 0 5 - n)) 5))) := hide ((Below.refl w.heap.size w).trans (((⟨rfl, rfl, rfl, Nat.le_refl _, fun _ _ => rfl⟩ : Below w.heap.size w w.drew)).alloc (Nat.le_refl _) _))
  obtain ⟨w1, hw1⟩ : ∃ w1, w1 = w.drew.alloc (.cells (Builtin.zeroCells (Value.int .u8 0).cells n ++ Builtin.zeroCells (Value.int .u8 0).cells (grownCap w n 0 5 - n)) 5) := ⟨_, rfl⟩
  rw [← hw1] at HOW HB hr
  obtain ⟨cap, hcap⟩ : ∃ cap, cap = grownCap w n 0 5 := ⟨_, rfl⟩
  rw [← hcap] at HOW hr hcn hcm
  clear hw1 hcap hi hz0 hz1 hz2
  have HR := hide hr
  have hs1 := slice_hi none 0 0 0 (Nat.le_refl _) 0 rfl
  have hs2 := slice_hi (some ⟨w.heap.size, 0, none⟩) n cap 0 (Nat.zero_le _) 0 rfl
  have e1 : sliced none 0 0 0 1 = Value.slice none 0 0 := by kernel_rfl
  have e2 : sliced (some ⟨w.heap.size, 0, none⟩) 0 0 cap 1 = Value.slice (some ⟨w.heap.size, 0, none⟩) 0 cap := by unfold sliced; rw [if_neg (by omega)]; rfl
  rw [e1] at hs1
  rw [e2] at hs2
  have hn0 : ¬ (n : Int) < 0 := by omega
  have hn1 : (0 : Int) < (n : Int) := by omega
  unfold maxLen at hcm
  clear hr e1 e2
  go_enter Try.func41, Try.ntmps41
  go_wp2_with (at_builtin; refine Lib.wpList_append_run _ rfl _ _ _ _ rfl _ _ rfl rfl _ _ (HR.out _) ?_)
  go_ret
  exact ⟨_, _, rfl, HOW.out, HB.out⟩

/-- A row of slices of bytes. -/
def Parts (w : World) (ap : Option Addr) (ps : List (List UInt8)) : Prop := ∀ i (h : i < ps.length), ∃ b o v, ap = some ⟨b, o, none⟩ ∧ w.cell? ⟨b, o + i, none⟩ = some v ∧ RdA w v ps[i]
theorem block_lt_of_cell' {w : World} {a : Addr} {v : Value} (h : w.cell? a = some v) : a.block < w.heap.size := World.block_lt_of_cell? w _ h
theorem Parts.below {w w' : World} {ap : Option Addr} {ps : List (List UInt8)} (h : Parts w ap ps) (hb : Below w.heap.size w w') : Parts w' ap ps := by
  intro i hi
  obtain ⟨b, o, v, e, hc, hr⟩ := h i hi
  exact ⟨b, o, v, e, by rw [hb.cell (block_lt_of_cell' hc)]; exact hc, hr.below hb⟩
/-- The first i parts, joined. -/
def joinTo (ps : List (List UInt8)) (i : Nat) : List UInt8 := (ps.take i).flatten
theorem joinTo_succ (ps : List (List UInt8)) (i : Nat) (h : i < ps.length) : joinTo ps (i + 1) = joinTo ps i ++ ps[i] := by
  unfold joinTo
  rw [List.take_succ_eq_append_getElem h, List.flatten_append]; simp
theorem joinTo_all (ps : List (List UInt8)) : joinTo ps ps.length = ps.flatten := by unfold joinTo; rw [List.take_length]
theorem joinTo_le (ps : List (List UInt8)) (i : Nat) : (joinTo ps i).length ≤ ps.flatten.length := by
  unfold joinTo
  have : ps.flatten = (ps.take i).flatten ++ (ps.drop i).flatten := by rw [← List.flatten_append, List.take_append_drop]
  rw [this, List.length_append]
  omega
set_option maxRecDepth 20000 in
set_option maxHeartbeats 1600000 in
theorem concat_any (w : World) (ap : Option Addr) (c : Nat) (ps : List (List UInt8)) (hp : Parts w ap ps) (hl : ps.length ≤ 1000) (h0 : 0 < ps.flatten.length) (hb : ps.flatten.length ≤ 140737488355000) : Calls Try.prog 32 #[.slice ap ps.length c] w (JoinC w ps.flatten) := by
  have HP := hide hp
  clear hp
  have HL := hide (joinTo_le ps)
  have HG3 := hide hb
  have HG1 := hide (Nat.le_trans hb (by decide : 140737488355000 ≤ 140737488355328))
  go_enter Try.func32, Try.ntmps32
  go_wp2
  go_loopw [3, 11] (fun n i wr => ∃ k : Nat, n = .int .i64 ((joinTo ps k).length : Int) ∧ i = .int .i64 k ∧ k ≤ ps.length ∧ w = wr) (fun _ i _ => ps.length - (intOf i).toNat)
  case atStart => exact ⟨0, rfl, rfl, by omega, rfl⟩
  case round =>
    obtain ⟨k, rfl, rfl, hk, rfl⟩ := hrel
    have hjl := HL.out k
    by_cases hlt : k < ps.length
    · have hki : (k : Int) < ps.length := by omega
      obtain ⟨b, o, v, rfl, hc, hr⟩ := HP.out k hlt
      have HS : Hid ((joinTo ps (k + 1)).length = (joinTo ps k).length + ps[k].length) := hide (by rw [joinTo_succ ps k hlt, List.length_append])
      have hj2 := HL.out (k + 1)
      rw [HS.out] at hj2
      obtain ⟨ao, cc, rfl, hz⟩ := hr.slice
      obtain ⟨m, hm⟩ : ∃ m, m = ps[k].length := ⟨_, rfl⟩
      rw [← hm] at hc hj2 HS
      obtain ⟨j, hj⟩ : ∃ j, j = (joinTo ps k).length := ⟨_, rfl⟩
      rw [← hj] at hj2 HS ⊢
      have hnn : ¬ ((j : Int) + (m : Int)) < 0 := by omega
      clear hr hz hm hj
      go_wp2
      refine ⟨⟨k + 1, ?_, by go_num, by omega, by trivial⟩, by simp [intOf]; omega⟩
      rw [HS.out]; go_num
    · have hki : ¬ (k : Int) < ps.length := by omega
      obtain rfl : k = ps.length := by omega
      rw [joinTo_all]
      have HG2 := hide h0
      obtain ⟨L, hL⟩ : ∃ L, L = ps.flatten.length := ⟨_, rfl⟩
      rw [← hL] at HG1 HG2 HG3 ⊢
      have HLL := hide hL
      clear hL h0 hb hjl
      go_wp2_with fail
      refine (grow_any _ L HG2.out HG1.out).mono ?_
      rintro e w1 ⟨g, cap, rfl, hO, hB⟩
      have HO := hide hO
      have HB := hide hB
      clear hO hB
      go_wp2
      obtain ⟨wp, hwp⟩ : ∃ wp, wp = w1 := ⟨_, rfl⟩
      go_loopw [6, 27] (fun v i wr => ∃ (vo : Value) (k : Nat), vo = v ∧ i = .int .i64 k ∧ k ≤ ps.length ∧ OwnsB wr w.heap.size vo (joinTo ps k) ∧ Below w.heap.size w wr) (fun _ i _ => ps.length - (intOf i).toNat)
      case atStart => exact ⟨_, 0, rfl, rfl, by omega, HO.out, HB.out⟩
      case round =>
        clear HO HB hwp
        obtain ⟨vo, k, rfl, rfl, hk, hown, hbel⟩ := hrel
        have HO := hide hown
        have hsz : w.heap.size ≤ wr.heap.size := hbel.size
        by_cases hlt : k < ps.length
        · have hki : (k : Int) < ps.length := by omega
          obtain ⟨b, o, v, rfl, hc, hr⟩ := (HP.out.below hbel) k hlt
          have HS := hide (joinTo_succ ps k hlt)
          have HR := hide hr
          have HJ2 : Hid ((joinTo ps k).length + ps[k].length ≤ 140737488355000) := hide (by have := HL.out (k + 1); rw [HS.out, List.length_append, ← HLL.out] at this; exact Nat.le_trans this HG3.out)
          obtain ⟨ao, cc, rfl, hz⟩ := hr.slice
          clear hr hz hown
          obtain ⟨m, hm⟩ : ∃ m, m = ps[k].length := ⟨_, rfl⟩
          rw [← hm] at hc HR
          clear hm
          go_wp2_with (at_builtin; refine wpList_append_rdX rfl _ _ rfl w.heap.size _ _ (joinTo ps k) ps[k] rfl HO.out rfl HR.out HJ2.out hsz ?_)
          intro v' w2 HO' HG HW
          go_wp2
          refine ⟨⟨_, k + 1, rfl, by go_num, by omega, ?_, own_below hbel HO.out hsz HG.out⟩, by simp [intOf]; omega⟩
          rw [HS.out]; exact HO'.out
        · have hki : ¬ (k : Int) < ps.length := by omega
          obtain rfl : k = ps.length := by omega
          rw [joinTo_all] at HO
          clear hown
          go_wp2
          go_ret
          exact ⟨vo, rfl, HO.out, hbel⟩
end Go.Proofs.Ytbnedlcldfpfdaa
