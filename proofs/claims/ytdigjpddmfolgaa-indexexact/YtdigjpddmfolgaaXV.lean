/- The index: Len. -/
import Derived.Test.YtdigjpddmfolgaaXU
namespace Go.Proofs.Ytdigjpddmfolgaa
set_option linter.unusedVariables false
set_option linter.unusedSimpArgs false
namespace TX
set_option maxRecDepth 100000
set_option maxHeartbeats 8000000
open Go.RowKit Go.Sort

/-- What the first j tables have of a map. -/
def preF (f : KY → Option EN) (j : Nat) : KY → Option EN := fun k => if sh k < j then f k else none
theorem preF_all (f : KY → Option EN) : preF f 16 = f := by
  funext k
  unfold preF
  rw [if_pos (sh_lt k)]
theorem preF_join {f : KY → Option EN} {j : Nat} {A B : List (KY × EN)} (hA : Maps A (preF f j)) (hB : Maps B (gsh f j)) : Maps (A ++ B) (preF f (j + 1)) := by
  have kA : ∀ k e, (k, e) ∈ A → sh k < j := fun k e h => by
    have := (hA.mem k e).1 h
    unfold preF at this
    split at this
    · assumption
    · cases this
  have kB : ∀ k e, (k, e) ∈ B → sh k = j := fun k e h => by
    have := (hB.mem k e).1 h
    unfold gsh at this
    split at this
    · assumption
    · cases this
  refine ⟨?_, fun k e => ?_⟩
  · rw [List.map_append, List.nodup_append]
    refine ⟨hA.nd, hB.nd, fun a ha b hb e => ?_⟩
    obtain ⟨⟨a1, a2⟩, h1, h2⟩ := List.mem_map.1 ha
    obtain ⟨⟨b1, b2⟩, h3, h4⟩ := List.mem_map.1 hb
    have h5 := kA a1 a2 h1
    have h6 := kB b1 b2 h3
    have : a1 = b1 := by
      have e1 : a1 = a := h2
      have e2 : b1 = b := h4
      rw [e1, e2, e]
    rw [this] at h5
    omega
  · rw [List.mem_append, hA.mem, hB.mem]
    unfold preF gsh
    by_cases h1 : sh k < j
    · rw [if_pos h1, if_neg (by omega), if_pos (by omega)]
      exact ⟨fun h => h.elim id (fun h => by cases h), .inl⟩
    · by_cases h2 : sh k = j
      · rw [if_neg h1, if_pos h2, if_pos (by omega)]
        exact ⟨fun h => h.elim (fun h => by cases h) id, .inr⟩
      · rw [if_neg h1, if_neg h2, if_neg (by omega)]
        exact ⟨fun h => h.elim id id, .inl⟩
section
variable {w : World} {x : Nat} {L : List Tab} {f : KY → Option EN} {P : Nat}
theorem len_ix (h : IxL w x 16 L f P) : Calls Try.prog 12 #[.pointer (some ⟨x, 0, none⟩)] w fun e w' => ∃ A : List (KY × EN), Maps A f ∧ e = .returned (.int .i64 (A.length : Int)) ∧ Below w.heap.size w w' := by
  have HS := hide (sizes_ix h)
  clear h
  go_enter Try.func12, Try.ntmps12
  go_upto_region 3 with (go_at_call 25; (with_reducible refine HS.out.mono ?_); rintro e w1 ⟨ns, hl, hr, rfl, hb⟩; have HL := hide hl; have HR := hide hr; have HB := hide hb; clear hl hr hb)
  go_loop [3, 8] (fun s t => ∃ (j : Nat) (A : List (KY × EN)) (n : Nat), s = .int .i64 (n : Int) ∧ t = .int .i64 j ∧ j ≤ 16 ∧ Hid (Maps A (preF f j)) ∧ Hid (A.length = n) ∧ n ≤ j * 17592186044416) (fun _ t => 16 - (intOf t).toNat)
  case atStart => exact ⟨0, [], 0, rfl, rfl, by omega, hide ⟨List.nodup_nil, fun k e => ⟨fun m => by simp at m, fun m => by unfold preF at m; rw [if_neg (Nat.not_lt_zero _)] at m; cases m⟩⟩, hide rfl, by omega⟩
  case round =>
    obtain ⟨j, A, n, rfl, rfl, hj, HA, HN, hn⟩ := hrel
    by_cases hlt : j < 16
    · have hji : (j : Int) < 16 := by omega
      obtain ⟨m, hm⟩ : ∃ m, ns[j]? = some m := ⟨_, List.getElem?_eq_getElem (by rw [HL.out]; exact hlt)⟩
      obtain ⟨hm2, B, hB, hBl⟩ := HR.out j m hm
      have HM := hide hm
      have HBB := hide hB
      have HBL := hide hBl
      have hn2 : n ≤ 281474976710656 := by omega
      clear hm hB hBl
      go_upto_region 5 with (refine wpList_ixZ ?_ (.tmp 7) (.tmp 8) ?_ ns j m HM.out ?_ ?_ hlt ?_; rfl; rfl; rfl; rfl)
      go_wp2
      go_round
      case rel => exact ⟨j + 1, A ++ B, n + m, by go_num, by go_num, by omega, hide (preF_join HA.out HBB.out), hide (by rw [List.length_append, HN.out, HBL.out]), by omega⟩
      case measure => simp [intOf]; omega
    · obtain rfl : j = 16 := by omega
      go_wp2
      go_ret
      refine ⟨A, by have := HA.out; rw [preF_all] at this; exact this, by rw [HN.out]; rfl, HB.out⟩
end
end TX
end Go.Proofs.Ytdigjpddmfolgaa
