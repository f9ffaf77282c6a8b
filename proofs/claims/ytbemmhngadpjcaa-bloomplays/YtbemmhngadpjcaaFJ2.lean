/- Join and Meet of two filters. -/
import Derived.Test.YtbemmhngadpjcaaFJ1
import Derived.StillTailTactics
namespace Go.Proofs.Ytbemmhngadpjcaa
set_option linter.unusedVariables false
set_option linter.unusedSimpArgs false
open Go.RowKit

theorem below_drewN' {w wr : World} (h : Below w.heap.size w wr) (n : Nat) : Below w.heap.size w (wr.drewN n) := ⟨h.os, h.tape, h.output, h.size, h.block⟩
/-- What pair answers of two filters. -/
def pairE (h h2 n n2 : Nat) : Int := if h = h2 ∧ n = n2 then 0 else 70
def PairC (w : World) (r : Int) (e : Ending) (w' : World) : Prop := e = .returned (.int .i64 r) ∧ ∃ n, w' = w.drewN n
set_option maxRecDepth 20000 in
set_option maxHeartbeats 4000000 in
theorem pair_any (w : World) (z g h z2 g2 h2 : Nat) (ws ws2 : List Nat) (f : FilAt w z g h ws) (f2 : FilAt w z2 g2 h2 ws2) : Calls Try.prog 56 #[.pointer (some ⟨z, 0, none⟩), .pointer (some ⟨z2, 0, none⟩)] w (PairC w (pairE h h2 ws.length ws2.length)) := by
  have C1 := hide (none_some w z g h ws f)
  have C2 := hide (none_some w z2 g2 h2 ws2 f2)
  have c0 : w.cell? ⟨z, 0, none⟩ = some (.int .i64 h) := f.zb.cell 0
  have c1 : w.cell? ⟨z, 1, none⟩ = some (.slice (some ⟨g, 0, none⟩) ws.length ws.length) := f.zb.cell 1
  have d0 : w.cell? ⟨z2, 0, none⟩ = some (.int .i64 h2) := f2.zb.cell 0
  have d1 : w.cell? ⟨z2, 1, none⟩ = some (.slice (some ⟨g2, 0, none⟩) ws2.length ws2.length) := f2.zb.cell 1
  obtain ⟨n, hn⟩ : ∃ n, n = ws.length := ⟨_, rfl⟩
  obtain ⟨n2, hn2⟩ : ∃ n, n = ws2.length := ⟨_, rfl⟩
  rw [← hn] at c1 ⊢
  rw [← hn2] at d1 ⊢
  clear f f2 hn hn2
  go_enter Try.func56, Try.ntmps56
  go_wp2_with fail
  refine C1.out.mono ?_
  rintro e w1 ⟨rfl, hw1⟩
  subst hw1
  go_wp2_with fail
  refine C2.out.mono ?_
  rintro e w2 ⟨rfl, hw2⟩
  subst hw2
  by_cases hh : h = h2
  · have hhi : ((h : Int) == (h2 : Int)) = true := by rw [beq_iff_eq]; omega
    by_cases hnn : n = n2
    · have hni : ((n : Int) == (n2 : Int)) = true := by rw [beq_iff_eq]; omega
      have HE : Hid (pairE h h2 n n2 = 0) := hide (by unfold pairE; rw [if_pos ⟨hh, hnn⟩])
      subst hh
      subst hnn
      clear hhi hni
      go_wp2
      go_quiet (fail)
      go_wp2
      go_ret
      exact ⟨by rw [HE.out]; rfl, _, rfl⟩
    · have hni : ((n : Int) == (n2 : Int)) = false := by rw [beq_eq_false_iff_ne]; omega
      have hni2 : ¬ (n : Int) = (n2 : Int) := by omega
      have HE : Hid (pairE h h2 n n2 = 70) := hide (by unfold pairE; rw [if_neg (fun h => hnn h.2)])
      subst hh
      clear hnn
      go_wp2
      go_quiet (fail)
      go_wp2
      go_ret
      exact ⟨by rw [HE.out]; rfl, _, rfl⟩
  · have hhi : ((h : Int) == (h2 : Int)) = false := by rw [beq_eq_false_iff_ne]; omega
    have hhi2 : ¬ (h : Int) = (h2 : Int) := by omega
    have HE : Hid (pairE h h2 n n2 = 70) := hide (by unfold pairE; rw [if_neg (fun q => hh q.1)])
    clear hh
    go_wp2
    go_quiet (fail)
    go_wp2
    go_ret
    exact ⟨by rw [HE.out]; rfl, _, rfl⟩
theorem FilAt.drewN {w : World} {z g h : Nat} {ws : List Nat} (f : FilAt w z g h ws) (n : Nat) : FilAt (w.drewN n) z g h ws := ⟨f.zb, f.gb, f.hh, f.hn, f.ok⟩
/-- Word by word, the first k. -/
def zipK (op : Nat → Nat → Nat) (us vs : List Nat) (k : Nat) : List Nat := (List.zipWith op us vs).take k ++ us.drop k
theorem zipK_len (op : Nat → Nat → Nat) (us vs : List Nat) (h : us.length = vs.length) (k : Nat) (hk : k ≤ us.length) : (zipK op us vs k).length = us.length := by
  unfold zipK
  rw [List.length_append, List.length_take, List.length_zipWith, List.length_drop]
  omega
theorem zipK_zero (op : Nat → Nat → Nat) (us vs : List Nat) : zipK op us vs 0 = us := by simp [zipK]
theorem zipK_all (op : Nat → Nat → Nat) (us vs : List Nat) (h : us.length = vs.length) : zipK op us vs us.length = List.zipWith op us vs := by
  unfold zipK
  rw [List.drop_length, List.append_nil, List.take_of_length_le (by rw [List.length_zipWith]; omega)]
theorem zipK_at (op : Nat → Nat → Nat) (us vs : List Nat) (h : us.length = vs.length) (k : Nat) (hk : k < us.length) : (zipK op us vs k)[k]? = some us[k] := by
  unfold zipK
  have hl : ((List.zipWith op us vs).take k).length = k := by rw [List.length_take, List.length_zipWith]; omega
  rw [List.getElem?_append_right (by omega), hl, Nat.sub_self, List.getElem?_drop, Nat.add_zero, List.getElem?_eq_getElem hk]
theorem zipK_set (op : Nat → Nat → Nat) (us vs : List Nat) (h : us.length = vs.length) (k : Nat) (hk : k < us.length) : (zipK op us vs k).set k (op us[k] (vs[k]'(by omega))) = zipK op us vs (k + 1) := by
  unfold zipK
  have hl : ((List.zipWith op us vs).take k).length = k := by rw [List.length_take, List.length_zipWith]; omega
  rw [List.set_append_right _ _ (by omega), hl, Nat.sub_self, List.drop_eq_getElem_cons hk, List.set_cons_zero, List.take_succ_eq_append_getElem (by rw [List.length_zipWith]; omega), List.append_assoc, List.getElem_zipWith]
  rfl
end Go.Proofs.Ytbemmhngadpjcaa
