/- Of lists and snapshots, why they may not be: both ways. -/
import Derived.Test.YtjcfndiceinkjaaDoorOB14
import Derived.Test.YtjcfndiceinkjaaDoorON7
namespace Go.Proofs.YtjcfndiceinkjaaDoor
set_option linter.unusedVariables false
set_option linter.unusedSimpArgs false
open Go.RowKit Go.Lib

/-- Do the sizes fit in what is left? -/
def tot : List Nat → Nat → Bool
  | [], _ => true
  | s :: L, left => if left < s then false else tot L (left - s)
def wrongListO (L : List PartR) : Int := if 128 < L.length then 42 else if tot (L.map (·.2)) 9223372036854775807 then 0 else 47
def wrongSnapO (ps : List (List UInt8)) (note : List UInt8) : Int := if 127 < ps.length then 42 else if 1024 < note.length then 46 else if validD note then 0 else 46
theorem isMode_any (m : Nat) (w : World) : Calls Tryd.prog 108 #[.int .u8 (m : Int)] w fun e w' => e = .returned (.bool (decide (1 ≤ m) && decide (m ≤ 4))) ∧ w' = w := by
  by_cases h1 : 1 ≤ m
  · have a1 : (1 : Int) ≤ (m : Int) := by omega
    by_cases h2 : m ≤ 4
    · have a2 : (m : Int) ≤ 4 := by omega
      rw [decide_eq_true h1, decide_eq_true h2]
      go_enter Tryd.func108, Tryd.ntmps108
      go_wp2
      go_ret
      exact ⟨rfl, rfl⟩
    · have a2 : ¬ (m : Int) ≤ 4 := by omega
      rw [decide_eq_true h1, decide_eq_false h2]
      go_enter Tryd.func108, Tryd.ntmps108
      go_wp2
      go_ret
      exact ⟨rfl, rfl⟩
  · have a1 : ¬ (1 : Int) ≤ (m : Int) := by omega
    rw [decide_eq_false h1]
    go_enter Tryd.func108, Tryd.ntmps108
    go_wp2
    go_ret
    exact ⟨rfl, rfl⟩
def ErrC (w : World) (r : Int) (e : Ending) (w' : World) : Prop := e = .returned (.int .i64 r) ∧ Below w.heap.size w w'
set_option maxRecDepth 20000 in
theorem wrongSnap_any (w : World) (hT : Tabs8 w) (v : Value) (ps : List (List UInt8)) (note : List UInt8) (hv : RowR w v 32 (ps.map keyC)) : Calls Tryd.prog 78 #[v, .string ⟨note.toArray⟩] w (ErrC w (wrongSnapO ps note)) := by
  obtain ⟨ao, c, rfl, hpl⟩ := hv.slice
  rw [List.length_map] at hpl ⊢
  have HT8 := hide hT
  obtain ⟨n, hn⟩ : ∃ n, n = ps.length := ⟨_, rfl⟩
  obtain ⟨m, hm⟩ : ∃ m, m = note.length := ⟨_, rfl⟩
  obtain ⟨V, hV⟩ : ∃ V, V = validD note := ⟨_, rfl⟩
  have HE : Hid (wrongSnapO ps note = if 127 < n then 42 else if 1024 < m then 46 else if V then 0 else 46) := hide (by unfold wrongSnapO; rw [hn, hm, hV])
  have hsz : (⟨note.toArray⟩ : ByteArray).size = m := by rw [hm]; simp [ByteArray.size]
  rw [← hn] at hpl ⊢
  have HM := hide hm
  have HVV := hide hV
  clear hv hn hm hV hT
  by_cases h1 : 127 < n
  · have a1 : (127 : Int) < (n : Int) := by omega
    have HF : Hid (wrongSnapO ps note = 42) := hide (by rw [HE.out, if_pos h1])
    go_enter Tryd.func78, Tryd.ntmps78
    go_wp2
    go_ret
    exact ⟨by rw [HF.out]; rfl, Below.refl _ _⟩
  have a1 : ¬ (127 : Int) < (n : Int) := by omega
  by_cases h2 : 1024 < m
  · have a2 : (1024 : Int) < (m : Int) := by omega
    have HF : Hid (wrongSnapO ps note = 46) := hide (by rw [HE.out, if_neg h1, if_pos h2])
    go_enter Tryd.func78, Tryd.ntmps78
    go_wp2
    go_ret
    exact ⟨by rw [HF.out]; rfl, Below.refl _ _⟩
  have a2 : ¬ (1024 : Int) < (m : Int) := by omega
  have HV := hide (valid_any note (by rw [← HM.out]; omega) w HT8.out)
  rw [← HVV.out] at HV
  clear HVV HM HT8
  cases V with
  | true =>
    have HF : Hid (wrongSnapO ps note = 0) := hide (by rw [HE.out, if_neg h1, if_neg h2]; rfl)
    go_enter Tryd.func78, Tryd.ntmps78
    go_wp2_with fail
    refine HV.out.mono ?_
    rintro e w1 ⟨rfl, hb1⟩
    have HB1 := hide hb1
    clear hb1
    go_wp2
    go_ret
    exact ⟨by rw [HF.out]; rfl, HB1.out⟩
  | false =>
    have HF : Hid (wrongSnapO ps note = 46) := hide (by rw [HE.out, if_neg h1, if_neg h2]; rfl)
    go_enter Tryd.func78, Tryd.ntmps78
    go_wp2_with fail
    refine HV.out.mono ?_
    rintro e w1 ⟨rfl, hb1⟩
    have HB1 := hide hb1
    clear hb1
    go_wp2
    go_ret
    exact ⟨by rw [HF.out]; rfl, HB1.out⟩
end Go.Proofs.YtjcfndiceinkjaaDoor
