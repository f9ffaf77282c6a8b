/- Ones, Shape, Fill and Alarm of a filter. -/
import Derived.Test.YtbemmhngadpjcaaFJ5
import Derived.Test.YtbemmhngadpjcaaFJ6
import Derived.Test.YtbemmhngadpjcaaFJ2
namespace Go.Proofs.Ytbemmhngadpjcaa
set_option linter.unusedVariables false
set_option linter.unusedSimpArgs false
open Go.RowKit Go.Sort Ieee

/-- How many bits of the words are set. -/
def popS : List Nat → Nat
  | [] => 0
  | x :: xs => popB 64 x + popS xs
theorem popS_append (xs ys : List Nat) : popS (xs ++ ys) = popS xs + popS ys := by
  induction xs with
  | nil => rw [List.nil_append, popS, Nat.zero_add]
  | cons x xs ih => rw [List.cons_append, popS, popS, ih, Nat.add_assoc]
theorem popS_le (ws : List Nat) : popS ws ≤ 64 * ws.length := by
  induction ws with
  | nil => exact Nat.le_refl _
  | cons x xs ih =>
    rw [popS, List.length_cons]
    have := popB_le 64 x
    omega
theorem popS_take (ws : List Nat) (k : Nat) (h : k < ws.length) : popS (ws.take (k + 1)) = popS (ws.take k) + popB 64 ws[k] := by
  rw [List.take_succ_eq_append_getElem h, popS_append, popS, popS, Nat.add_zero]
def DrC (w : World) (v : Value) (e : Ending) (w' : World) : Prop := e = .returned v ∧ ∃ n, w' = w.drewN n
set_option maxRecDepth 20000 in
set_option maxHeartbeats 4000000 in
theorem ones_any (w : World) (z g h : Nat) (ws : List Nat) (f : FilAt w z g h ws) : Calls Try.prog 22 #[.pointer (some ⟨z, 0, none⟩)] w (fun e w' => e = .returned (.int .i64 (popS ws : Nat)) ∧ w' = w) := by
  have HF := hide f
  have CN := hide (none_some w z g h ws f)
  have HO := hide (fun b hb W => ones64_any b hb W)
  obtain ⟨hn1, hn2⟩ := f.hn
  obtain ⟨L, hL⟩ : ∃ L, L = ws.length := ⟨_, rfl⟩
  have c1 : w.cell? ⟨z, 1, none⟩ = some (.slice (some ⟨g, 0, none⟩) L L) := by rw [hL]; exact f.zb.cell 1
  rw [← hL] at hn1 hn2
  have HLe := hide hL
  obtain ⟨S, hS⟩ : ∃ S, S = popS ws := ⟨_, rfl⟩
  rw [← hS]
  have HSe := hide hS
  clear f hL hS
  go_enter Try.func22, Try.ntmps22
  go_wp2_with fail
  refine CN.out.mono ?_
  rintro e w0 ⟨rfl, hw0⟩
  subst hw0
  clear CN
  go_wp2
  go_loopw [3, 12] (fun s3 s12 wr => ∃ (k n : Nat), s12 = .int .i64 k ∧ k ≤ L ∧ s3 = .int .i64 n ∧ n ≤ 64 * k ∧ Hid (n = popS (ws.take k)) ∧ wr = w0) (fun _ s12 _ => L - (intOf s12).toNat)
  case atStart => exact ⟨0, 0, rfl, by omega, rfl, by omega, hide (by rw [List.take_zero]; rfl), rfl⟩
  case round =>
    obtain ⟨k, n, rfl, hk, rfl, hnb, HN, hw⟩ := hrel
    subst hw
    by_cases hlt : k < L
    · have hki : (k : Int) < L := by omega
      have hku : k < ws.length := by have := HLe.out; omega
      obtain ⟨x, hx⟩ : ∃ x, x = ws[k] := ⟨_, rfl⟩
      have hxb : x < 18446744073709551616 := by rw [hx]; exact HF.out.ok _ (List.getElem_mem hku)
      have cx : wr.cell? ⟨g, k, none⟩ = some (.int .u64 x) := by rw [hx]; exact HF.out.cellW k hku
      have HOx := hide (HO.out x hxb)
      have hox := onesI_eq x hxb
      rw [hox] at HOx
      obtain ⟨p, hp⟩ : ∃ p, p = popB 64 x := ⟨_, rfl⟩
      have hpb : p ≤ 64 := by rw [hp]; exact popB_le 64 x
      rw [← hp] at HOx
      have HNk : Hid (n + p = popS (ws.take (k + 1))) := hide (by rw [popS_take ws k hku, ← hx, ← hp, HN.out])
      clear hox hp hx hku hxb
      go_wp2_with fail
      refine (HOx.out _).mono ?_
      rintro e w3 ⟨rfl, rfl⟩
      go_wp2
      exact ⟨⟨k + 1, n + p, by go_num, by omega, by go_num, by omega, HNk, trivial⟩, by simp [intOf]; omega⟩
    · have hki : ¬ (k : Int) < L := by omega
      have hkh : k = ws.length := by have := HLe.out; omega
      have HN2 : Hid (n = S) := hide (by rw [HN.out, HSe.out, hkh, List.take_length])
      clear hkh HN
      go_wp2
      go_ret
      exact ⟨by rw [HN2.out]; rfl, rfl⟩
set_option maxRecDepth 20000 in
set_option maxHeartbeats 2000000 in
theorem shape_any (w : World) (z g h : Nat) (ws : List Nat) (f : FilAt w z g h ws) : Calls Try.prog 34 #[.pointer (some ⟨z, 0, none⟩)] w (fun e w' => e = .returned (.tuple #[.int .i64 (64 * ws.length : Nat), .int .i64 h]) ∧ ∃ n, w' = w.drewN n) := by
  have CN := hide (none_some w z g h ws f)
  have c0 : w.cell? ⟨z, 0, none⟩ = some (.int .i64 h) := f.zb.cell 0
  have c1 : w.cell? ⟨z, 1, none⟩ = some (.slice (some ⟨g, 0, none⟩) ws.length ws.length) := f.zb.cell 1
  obtain ⟨hn1, hn2⟩ := f.hn
  obtain ⟨L, hL⟩ : ∃ L, L = ws.length := ⟨_, rfl⟩
  rw [← hL] at c1 hn1 hn2 ⊢
  clear f hL
  go_enter Try.func34, Try.ntmps34
  go_wp2_with fail
  refine CN.out.mono ?_
  rintro e w0 ⟨rfl, hw0⟩
  subst hw0
  go_wp2
  go_quiet (fail)
  go_wp2
  go_ret2
  exact ⟨by go_num, _, rfl⟩
set_option maxRecDepth 20000 in
set_option maxHeartbeats 2000000 in
theorem fill_any (w : World) (z g h : Nat) (ws : List Nat) (f : FilAt w z g h ws) : Calls Try.prog 28 #[.pointer (some ⟨z, 0, none⟩)] w (FlC w (fillF (popS ws) (64 * ws.length))) := by
  have CN := hide (none_some w z g h ws f)
  have CS := hide (shape_any w z g h ws f)
  have CO := hide (fun W (hW : Below w.heap.size w W) => ones_any W z g h ws (f.below hW))
  obtain ⟨hn1, hn2⟩ := f.hn
  have hp := popS_le ws
  have o1 := (fill_ok (popS ws) (64 * ws.length) (by omega) (by omega) hp).1
  have g1 := fdiv o1
  rw [← flI (popS ws), ← flI (64 * ws.length)] at g1
  obtain ⟨R, hR⟩ : ∃ R, R = fillF (popS ws) (64 * ws.length) := ⟨_, rfl⟩
  obtain ⟨B, hB⟩ : ∃ B, B = 64 * ws.length := ⟨_, rfl⟩
  obtain ⟨S, hS⟩ : ∃ S, S = popS ws := ⟨_, rfl⟩
  rw [← hR] at g1 ⊢
  rw [← hB, ← hS] at g1
  rw [← hB] at CS
  rw [← hS] at CO
  clear f hR hB hS o1 hp
  go_enter Try.func28, Try.ntmps28
  go_wp2_with fail
  refine CN.out.mono ?_
  rintro e w0 ⟨rfl, hw0⟩
  subst hw0
  go_wp2_with fail
  refine CS.out.mono ?_
  rintro e w1 ⟨rfl, hw1⟩
  have hb1 : Below w0.heap.size w0 w1 := by
    obtain ⟨n, rfl⟩ := hw1
    exact below_drewN' (Below.refl _ _) n
  have CO1 := hide (CO.out w1 hb1)
  clear hw1 CO
  go_wp2_with fail
  refine CO1.out.mono ?_
  rintro e w2 ⟨rfl, hw2⟩
  subst hw2
  go_wp2_with (first | simp only [g1])
  go_ret
  exact ⟨rfl, hb1⟩
set_option maxRecDepth 20000 in
set_option maxHeartbeats 2000000 in
theorem alarm_any (w : World) (z g h : Nat) (ws : List Nat) (f : FilAt w z g h ws) : Calls Try.prog 27 #[.pointer (some ⟨z, 0, none⟩)] w (FlC w (powF ONE (fillF (popS ws) (64 * ws.length)) h)) := by
  have CN := hide (none_some w z g h ws f)
  have CF : Hid (∀ W, Below w.heap.size w W → Calls Try.prog 28 #[.pointer (some ⟨z, 0, none⟩)] W fun e w' => e = .returned (.float .f64 (fillF (popS ws) (64 * ws.length))) ∧ Below w.heap.size w w') := hide (fun W hW => by
    refine (fill_any W z g h ws (f.below hW)).mono ?_
    rintro e w' ⟨he, hb⟩
    exact ⟨he, hW.trans (hb.mono hW.size)⟩)
  have HB : Hid (∀ w1 w2 : World, Below w.heap.size w w1 → Below w1.heap.size w1 w2 → Below w.heap.size w w2) := hide (fun w1 w2 h1 h2 => h1.trans (h2.mono h1.size))
  have hF := hide f
  have hfi := (fill_ok (popS ws) (64 * ws.length) (by have := f.hn; omega) (by have := f.hn; omega) (popS_le ws)).2
  have CP := hide (fun W => pow_any (fillF (popS ws) (64 * ws.length)) h hfi (by have := f.hh; omega) W)
  obtain ⟨R, hR⟩ : ∃ R, R = powF ONE (fillF (popS ws) (64 * ws.length)) h := ⟨_, rfl⟩
  rw [← hR] at CP ⊢
  obtain ⟨x, hx⟩ : ∃ x, x = fillF (popS ws) (64 * ws.length) := ⟨_, rfl⟩
  rw [← hx] at CP CF
  clear f hR hx hfi
  go_enter Try.func27, Try.ntmps27
  go_wp2_with fail
  refine CN.out.mono ?_
  rintro e w0 ⟨rfl, hw0⟩
  subst hw0
  have c00 : w0.cell? ⟨z, 0, none⟩ = some (.int .i64 h) := hF.out.zb.cell 0
  have CD := hide (CF.out w0.drew (below_drewN' (Below.refl _ _) 1))
  clear CF
  go_wp2
  go_region_with (first | (go_at_call 28; go_loud (refine CD.out.mono ?_; rintro e w1 ⟨rfl, hb1⟩; have c0 : w1.cell? ⟨z, 0, none⟩ = some (.int .i64 h) := (hF.out.below hb1).zb.cell 0)) | (go_at_call 41; refine (CP.out _).mono ?_; rintro e w2 ⟨rfl, hb2⟩))
  all_goals
    go_wp2
    go_ret
    exact ⟨rfl, HB.out _ _ hb1 hb2⟩
end Go.Proofs.Ytbemmhngadpjcaa
