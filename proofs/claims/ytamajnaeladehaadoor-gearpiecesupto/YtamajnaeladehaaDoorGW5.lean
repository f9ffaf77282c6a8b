/- End; bytes held against one another; pieces and lengths, plainly. -/
import Derived.Test.YtamajnaeladehaaDoorGW4
namespace Go.Proofs.YtamajnaeladehaaDoor
set_option linter.unusedVariables false
set_option linter.unusedSimpArgs false
open Go.RowKit

set_option maxRecDepth 20000 in
set_option maxHeartbeats 1000000 in
theorem end_any (w : World) (B z : Nat) (mn me mx : Int) (hv : Value) (hs : List UInt8) (bh bn br b4 b5 : Nat) (C : CuSt w B z mn me mx hv hs bh bn br b4 b5) : Calls Tryd.prog 25 #[ptr z] w fun e w' => e = .returned (.tuple #[hv, .int .i64 0]) ∧ Ch w w' (fun k => k = z) := by
  have HRy := hide (ready_any w B z mn me mx hv hs bh bn br b4 b5 C)
  obtain ⟨ha, hc, hvf, -⟩ := own_formB C.own
  subst hvf
  have d3 : w.cell? ⟨z, 3, none⟩ = some (endV bh bn br b4 b5) := C.blk.cell 3
  have d5 : w.cell? ⟨z, 5, none⟩ = some (.bool false) := C.blk.cell 5
  have f3 : ∀ i, w.frozen? ⟨z, i, none⟩ = false := fun i => C.blk.frozen i
  have HBk := hide ((C.blk.set 5 (.bool true)).set 3 .nilFunc)
  have HCh := hide (((Ch.ofSet w z 5 (.bool true)).trans (Ch.ofSet _ z 3 .nilFunc)).trans (Ch.ofSet _ z 4 (.slice none 0 0)))
  have HG := hide (give_any _ z _ _ ha hs.length hc HBk.out rfl)
  unfold endV ptr at d3
  unfold ptr at HRy HG
  unfold ptr
  clear C HBk
  go_enter Tryd.func25, Tryd.ntmps25
  go_wp2_with fail
  refine HRy.out.mono ?_
  rintro e w' ⟨rfl, rfl⟩
  clear HRy
  go_wp2_with fail
  refine HG.out.mono ?_
  rintro e w2 ⟨rfl, rfl⟩
  go_wp2
  go_ret2
  exact ⟨rfl, HCh.out⟩
set_option maxRecDepth 20000 in
set_option maxHeartbeats 1000000 in
theorem sameBytes_any (w : World) (v u : Value) (xs : List UInt8) (hv : RdA w v xs) (hu : RdA w u xs) : Calls Tryd.prog 18 #[v, u] w fun e w' => e = .returned (.bool true) ∧ Below w.heap.size w w' := by
  have HV := hide hv
  have HU := hide hu
  obtain ⟨ao, c, rfl, hl⟩ := hv.slice
  obtain ⟨bo, d, rfl, -⟩ := hu.slice
  clear hv hu
  go_enter Tryd.func18, Tryd.ntmps18
  go_wp2
  go_loopw [5] (fun i wr => ∃ k : Nat, i = .int .i64 k ∧ k ≤ xs.length ∧ Below w.heap.size w wr) (fun i _ => xs.length - (intOf i).toNat)
  case atStart => exact ⟨0, rfl, by omega, Below.refl _ _⟩
  case round =>
    obtain ⟨k, rfl, hk, hbel⟩ := hrel
    by_cases hlt : k < xs.length
    · have hki : (k : Int) < xs.length := by omega
      obtain ⟨b1, o1, c1, e1, q1⟩ := (HV.out.below hbel).at k hlt
      obtain ⟨b2, o2, c2, e2, q2⟩ := (HU.out.below hbel).at k hlt
      cases e1
      cases e2
      obtain ⟨x, hx⟩ : ∃ x : Int, x = (xs[k].toNat : Int) := ⟨_, rfl⟩
      rw [← hx] at q1 q2
      clear hx
      go_wp2
      go_quiet (fail)
      go_wp2
      exact ⟨⟨k + 1, by go_num, by omega, hbel.trans ⟨rfl, rfl, rfl, Nat.le_refl _, fun _ _ => rfl⟩⟩, by simp [intOf]; omega⟩
    · have hki : ¬ (k : Int) < xs.length := by omega
      go_wp2
      go_ret
      exact ⟨rfl, hbel⟩
theorem feed_first (mn me mx : Int) : ∀ (xs hs : List UInt8), ((firstG mn me mx (rollL hs) hs.length xs).2 = true → ∃ j, j ≤ xs.length ∧ (firstG mn me mx (rollL hs) hs.length xs).1 = hs.length + j ∧ feed mn me mx hs xs = ((hs ++ xs.take j) :: (feed mn me mx [] (xs.drop j)).1, (feed mn me mx [] (xs.drop j)).2)) ∧ ((firstG mn me mx (rollL hs) hs.length xs).2 = false → feed mn me mx hs xs = ([], hs ++ xs))
  | [], hs => by
    rw [firstG, feed]
    exact ⟨fun h => Bool.noConfusion h, fun _ => by rw [List.append_nil]⟩
  | x :: r, hs => by
    have hl : (hs ++ [x]).length = hs.length + 1 := by simp
    rw [firstG, feed, roll_snoc]
    by_cases hc : endB mn me mx (rollL (hs ++ [x])) (hs.length + 1) = true
    · rw [if_pos hc, if_pos hc]
      exact ⟨fun _ => ⟨1, by simp, rfl, by simp⟩, fun h => Bool.noConfusion h⟩
    · rw [if_neg hc, if_neg hc]
      have ih := feed_first mn me mx r (hs ++ [x])
      rw [hl] at ih
      refine ⟨fun h => ?_, fun h => ?_⟩
      · obtain ⟨j, h1, h2, h3⟩ := ih.1 h
        refine ⟨j + 1, by simp; omega, by omega, ?_⟩
        rw [h3]
        simp
      · rw [ih.2 h]; simp
/-- All lists: the pieces, and what is left, if it is something. -/
def allL (p : List (List UInt8) × List UInt8) : List (List UInt8) := p.1 ++ (if p.2.length = 0 then [] else [p.2])
theorem feed_cut {mn me mx : Int} (hm : mayB mn me mx = true) : ∀ (n : Nat) (xs : List UInt8), xs.length ≤ n → cutL mn me mx xs = (allL (feed mn me mx [] xs)).map (fun l => (l.length : Int)) ∧ xs = (allL (feed mn me mx [] xs)).flatten
  | 0, xs, h => by
    obtain rfl : xs = [] := List.eq_nil_of_length_eq_zero (by omega)
    exact ⟨rfl, rfl⟩
  | n + 1, xs, h => by
    rcases Nat.eq_zero_or_pos xs.length with h0 | h0
    · obtain rfl : xs = [] := List.eq_nil_of_length_eq_zero h0
      exact ⟨rfl, rfl⟩
    · have hb := firstP_bounds hm xs h0
      have ff := feed_first mn me mx xs []
      have hf : firstP mn me mx xs = firstG mn me mx 0 0 xs := by unfold firstP; rw [if_pos hm]
      have hr0 : rollL [] = 0 := rfl
      rw [hr0, List.length_nil] at ff
      rw [cutL_cons hm xs h0]
      rw [hf] at hb ⊢
      cases hc : (firstG mn me mx 0 0 xs).2 with
      | true =>
        obtain ⟨j, h1, h2, h3⟩ := ff.1 hc
        rw [Nat.zero_add] at h2
        have ih := feed_cut hm n (xs.drop j) (by rw [List.length_drop]; omega)
        rw [h2, h3]
        have ha : allL ((([] ++ xs.take j) :: (feed mn me mx [] (xs.drop j)).1 : List (List UInt8)), (feed mn me mx [] (xs.drop j)).2) = xs.take j :: allL (feed mn me mx [] (xs.drop j)) := by rw [List.nil_append]; rfl
        rw [ha]
        refine ⟨?_, ?_⟩
        · rw [List.map_cons, ← ih.1, List.length_take, Nat.min_eq_left h1]
        · rw [List.flatten_cons, ← ih.2, List.take_append_drop]
      | false =>
        have h3 := ff.2 hc
        have hl := firstG_lost mn me mx xs 0 0 hc
        rw [hl, Nat.zero_add, List.drop_of_length_le (Nat.le_refl _), cutL_nil, h3]
        have ha : allL (([] : List (List UInt8)), [] ++ xs) = [xs] := by
          rw [List.nil_append]
          unfold allL
          rw [if_neg (by simpa using Nat.ne_of_gt h0)]
          rfl
        rw [ha]
        exact ⟨rfl, by simp⟩
end Go.Proofs.YtamajnaeladehaaDoor
