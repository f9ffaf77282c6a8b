/- A Deque of ints: none, New, Push, Pop, Len. -/
import Derived.Test.YtiogblfdchdioaaGR8i
import Derived.Test.YtiogblfdchdioaaGR9i
namespace Go.Proofs.Ytiogblfdchdioaa
set_option linter.unusedVariables false
set_option linter.unusedSimpArgs false
namespace RI
open Go.RowKit
set_option maxRecDepth 100000

abbrev DT : TypeId := 62
section
variable {w : World} {z g : Nat} {M : Nat} {V : List EL}
theorem dnone_no (h : RgAt w z g DT M V) : Calls Try.prog 31 #[.pointer (some ⟨z, 0, none⟩)] w fun e w' => e = .returned (.bool false) ∧ w' = w := by
  obtain ⟨S, b, hz, _, _, _⟩ := h.ex
  obtain ⟨d0, d1, d2, d3⟩ := cells3 hz
  have hzl := hz.lt
  generalize S.length = n at *
  have hnil : ∀ W, (binOp .eql 38 (.slice (some ⟨g, 0, none⟩) n n) (.slice none 0 0)).run Try.prog W = .ok (.bool false) W := fun W => by kernel_rfl
  clear h hz
  go_enter Try.func31, Try.ntmps31
  go_wp2
  go_ret
  exact ⟨rfl, rfl⟩
theorem newDeque_any (w : World) (v : Value) (L : List EL) (h : RowR w v L) (hn : EB * L.length ≤ 281474976710656) (hM : L.length ≤ 2 * M + 1) : Calls Try.prog 10 #[v] w (NewC w DT M L) := by
  have HN := hide (newRow_any w v L h hn)
  clear h
  have HM := hide hM
  clear hM
  go_enter Try.func10, Try.ntmps10
  go_wp2_with (go_at_call 30; (with_reducible refine HN.out.mono ?_); rintro e w2 ⟨g, rfl, h1, h2, h3⟩; have H1 := hide h1; have H2 := hide h2; have H3 := hide h3; clear h1 h2 h3; simp only [rgL])
  go_ret
  have hs := H3.out.size
  refine ⟨w2.heap.size, g, rfl, ⟨⟨L, 0, Blk.made w2 _ _, H1.out.below (below_alloc _ _) H1.out.lt, Ring.whole L, HM.out⟩, Nat.ne_of_gt H1.out.lt⟩, hs, H2.out, H3.out.alloc hs _⟩
theorem pushTop_any (h : RgAt w z g DT M V) (hV : V.length ≤ M) (hB : EB * (2 * M + 1) ≤ 281474976710656) (v : EL) : Calls Try.prog 12 #[.pointer (some ⟨z, 0, none⟩), elV v] w (PushC w z g DT M (V ++ [v])) := by
  have HN := hide (dnone_no h)
  have HP := hide (push_any h hV hB false v)
  clear h
  go_enter Try.func12, Try.ntmps12
  go_wp2_with (first | (go_at_call 31; (with_reducible refine HN.out.mono ?_); rintro e w' ⟨rfl, hw⟩; rw [hw]; clear hw) | (go_at_call 32; (with_reducible refine HP.out.mono ?_); rintro e w2 ⟨rfl, h2⟩; have H2 := hide h2; clear h2))
  go_returns
  exact ⟨rfl, H2.out⟩
theorem pushBottom_any (h : RgAt w z g DT M V) (hV : V.length ≤ M) (hB : EB * (2 * M + 1) ≤ 281474976710656) (v : EL) : Calls Try.prog 11 #[.pointer (some ⟨z, 0, none⟩), elV v] w (PushC w z g DT M (v :: V)) := by
  have HN := hide (dnone_no h)
  have HP := hide (push_any h hV hB true v)
  clear h
  go_enter Try.func11, Try.ntmps11
  go_wp2_with (first | (go_at_call 31; (with_reducible refine HN.out.mono ?_); rintro e w' ⟨rfl, hw⟩; rw [hw]; clear hw) | (go_at_call 32; (with_reducible refine HP.out.mono ?_); rintro e w2 ⟨rfl, h2⟩; have H2 := hide h2; clear h2))
  go_returns
  exact ⟨rfl, H2.out⟩
theorem len_any (h : RgAt w z g DT M V) : Calls Try.prog 14 #[.pointer (some ⟨z, 0, none⟩)] w fun e w' => e = .returned (.int .i64 (V.length : Int)) ∧ w' = w := by
  have HN := hide (dnone_no h)
  obtain ⟨S, b, hz, _, _, _⟩ := h.ex
  obtain ⟨d0, d1, d2, d3⟩ := cells3 hz
  have hzl := hz.lt
  generalize V.length = n at *
  clear h hz
  go_enter Try.func14, Try.ntmps14
  go_wp2_with (go_at_call 31; (with_reducible refine HN.out.mono ?_); rintro e w' ⟨rfl, hw⟩; rw [hw]; clear hw)
  go_ret
  exact ⟨rfl, rfl⟩
theorem take_of (bot : Bool) (R : Ending → World → Prop) (u : EL) (ok : Bool) (h : RgAt w z g DT M V) (W : World → Prop) (hp : Calls Try.prog 33 #[.pointer (some ⟨z, 0, none⟩), .bool bot] w fun e w' => e = .returned (.tuple #[elV u, .bool ok]) ∧ W w') : Calls Try.prog 34 #[.pointer (some ⟨z, 0, none⟩), .bool bot] w fun e w' => e = .returned (.tuple #[elV u, .bool ok]) ∧ W w' := by
  have HN := hide (dnone_no h)
  have HP := hide hp
  clear h hp
  go_enter Try.func34, Try.ntmps34
  go_wp2_with (first | (go_at_call 31; (with_reducible refine HN.out.mono ?_); rintro e w' ⟨rfl, hw⟩; rw [hw]; clear hw) | (go_at_call 33; (with_reducible refine HP.out.mono ?_); rintro e w2 ⟨rfl, h2⟩; have H2 := hide h2; clear h2))
  go_ret2
  exact ⟨rfl, H2.out⟩
theorem popTop_of (u : EL) (ok : Bool) (W : World → Prop) (hp : Calls Try.prog 34 #[.pointer (some ⟨z, 0, none⟩), .bool false] w fun e w' => e = .returned (.tuple #[elV u, .bool ok]) ∧ W w') : Calls Try.prog 15 #[.pointer (some ⟨z, 0, none⟩)] w fun e w' => e = .returned (.tuple #[elV u, .bool ok]) ∧ W w' := by
  have HP := hide hp
  clear hp
  go_enter Try.func15, Try.ntmps15
  go_wp2_with (go_at_call 34; (with_reducible refine HP.out.mono ?_); rintro e w2 ⟨rfl, h2⟩; have H2 := hide h2; clear h2)
  go_ret2
  exact ⟨rfl, H2.out⟩
theorem popBottom_of (u : EL) (ok : Bool) (W : World → Prop) (hp : Calls Try.prog 34 #[.pointer (some ⟨z, 0, none⟩), .bool true] w fun e w' => e = .returned (.tuple #[elV u, .bool ok]) ∧ W w') : Calls Try.prog 16 #[.pointer (some ⟨z, 0, none⟩)] w fun e w' => e = .returned (.tuple #[elV u, .bool ok]) ∧ W w' := by
  have HP := hide hp
  clear hp
  go_enter Try.func16, Try.ntmps16
  go_wp2_with (go_at_call 34; (with_reducible refine HP.out.mono ?_); rintro e w2 ⟨rfl, h2⟩; have H2 := hide h2; clear h2)
  go_ret2
  exact ⟨rfl, H2.out⟩
theorem popTop_any (v : EL) (h : RgAt w z g DT M (V ++ [v])) (hM : M ≤ 140737488355327) : Calls Try.prog 15 #[.pointer (some ⟨z, 0, none⟩)] w (PopC w z g DT M v V) :=
  popTop_of v true _ (take_of false (fun _ _ => True) v true h _ (popT_any v h hM))
theorem popBottom_any (v : EL) (h : RgAt w z g DT M (v :: V)) (hM : M ≤ 140737488355327) : Calls Try.prog 16 #[.pointer (some ⟨z, 0, none⟩)] w (PopC w z g DT M v V) :=
  popBottom_of v true _ (take_of true (fun _ _ => True) v true h _ (popB_any v h hM))
theorem popTop_none (h : RgAt w z g DT M []) : Calls Try.prog 15 #[.pointer (some ⟨z, 0, none⟩)] w fun e w' => e = .returned (.tuple #[elV elZ, .bool false]) ∧ w' = w :=
  popTop_of elZ false _ (take_of false (fun _ _ => True) elZ false h _ (pop_no h false))
end
end RI
end Go.Proofs.Ytiogblfdchdioaa
