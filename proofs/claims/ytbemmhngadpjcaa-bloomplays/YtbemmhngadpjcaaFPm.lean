/- The nil filter: what each of its ways answers. -/
import Derived.Test.YtbemmhngadpjcaaFJ7
import Derived.Test.YtbemmhngadpjcaaFJ3
namespace Go.Proofs.Ytbemmhngadpjcaa
set_option linter.unusedVariables false
set_option linter.unusedSimpArgs false
open Go.RowKit Go.Sort Ieee

set_option maxRecDepth 20000 in
theorem ones_nil (w : World) : Calls Try.prog 22 #[.pointer none] w (fun e w' => e = .returned (.int .i64 0) ∧ w' = w) := by
  have CN := hide (none_nil w)
  go_enter Try.func22, Try.ntmps22
  go_wp2_with fail
  refine CN.out.mono ?_
  rintro e w0 ⟨rfl, hw0⟩
  subst hw0
  go_wp2
  go_ret
  exact ⟨rfl, rfl⟩
set_option maxRecDepth 20000 in
theorem shape_nil (w : World) : Calls Try.prog 34 #[.pointer none] w (fun e w' => e = .returned (.tuple #[.int .i64 0, .int .i64 0]) ∧ w' = w) := by
  have CN := hide (none_nil w)
  go_enter Try.func34, Try.ntmps34
  go_wp2_with fail
  refine CN.out.mono ?_
  rintro e w0 ⟨rfl, hw0⟩
  subst hw0
  go_wp2
  go_ret2
  exact ⟨rfl, rfl⟩
set_option maxRecDepth 20000 in
theorem fill_nil (w : World) : Calls Try.prog 28 #[.pointer none] w (FlC w NAN) := by
  have CN := hide (none_nil w)
  have CA := hide (fun W => nan_any W)
  go_enter Try.func28, Try.ntmps28
  go_wp2_with fail
  refine CN.out.mono ?_
  rintro e w0 ⟨rfl, hw0⟩
  subst hw0
  go_wp2_with fail
  refine (CA.out _).mono ?_
  rintro e w1 ⟨rfl, hb⟩
  go_wp2
  go_ret
  exact ⟨rfl, hb⟩
set_option maxRecDepth 20000 in
theorem alarm_nil (w : World) : Calls Try.prog 27 #[.pointer none] w (FlC w NAN) := by
  have CN := hide (none_nil w)
  have CA := hide (fun W => nan_any W)
  go_enter Try.func27, Try.ntmps27
  go_wp2_with fail
  refine CN.out.mono ?_
  rintro e w0 ⟨rfl, hw0⟩
  subst hw0
  go_wp2_with fail
  refine (CA.out _).mono ?_
  rintro e w1 ⟨rfl, hb⟩
  go_wp2
  go_ret
  exact ⟨rfl, hb⟩
def BlC (w : World) (r : Bool) (e : Ending) (w' : World) : Prop := e = .returned (.bool r) ∧ Below w.heap.size w w'
set_option maxRecDepth 20000 in
theorem has_nil (w : World) (K : Array Value) : Calls Try.prog 26 #[.pointer none, .agg K] w (BlC w false) := by
  obtain ⟨W1, hW1⟩ : ∃ W1, W1 = w.alloc (.cells K 36) := ⟨_, rfl⟩
  have HB : Hid (Below w.heap.size w W1) := hide (by rw [hW1]; exact (Below.refl _ _).alloc (Nat.le_refl _) _)
  have CN := hide (none_nil W1)
  go_enter Try.func26, Try.ntmps26
  go_wp2_with fail
  rw [← hW1]
  refine CN.out.mono ?_
  rintro e w0 ⟨rfl, hw0⟩
  subst hw0
  clear hW1
  go_wp2
  go_ret
  exact ⟨rfl, HB.out⟩
set_option maxRecDepth 20000 in
theorem add_nil (w : World) (K : Array Value) : Calls Try.prog 23 #[.pointer none, .agg K] w (BlC w false) := by
  obtain ⟨W1, hW1⟩ : ∃ W1, W1 = w.alloc (.cells K 36) := ⟨_, rfl⟩
  have HB : Hid (Below w.heap.size w W1) := hide (by rw [hW1]; exact (Below.refl _ _).alloc (Nat.le_refl _) _)
  have CN := hide (none_nil W1)
  go_enter Try.func23, Try.ntmps23
  go_wp2_with fail
  rw [← hW1]
  refine CN.out.mono ?_
  rintro e w0 ⟨rfl, hw0⟩
  subst hw0
  clear hW1
  go_wp2
  go_ret
  exact ⟨rfl, HB.out⟩
set_option maxRecDepth 20000 in
theorem bytes_nil (w : World) : Calls Try.prog 19 #[.pointer none] w (fun e w' => e = .returned (.slice none 0 0) ∧ w' = w) := by
  have CN := hide (none_nil w)
  go_enter Try.func19, Try.ntmps19
  go_wp2_with fail
  refine CN.out.mono ?_
  rintro e w0 ⟨rfl, hw0⟩
  subst hw0
  go_wp2
  go_ret
  exact ⟨rfl, rfl⟩
end Go.Proofs.Ytbemmhngadpjcaa

/- The nil filter, joined and met. -/
namespace Go.Proofs.Ytbemmhngadpjcaa
set_option linter.unusedVariables false
set_option linter.unusedSimpArgs false
open Go.RowKit

set_option maxRecDepth 20000 in
set_option maxHeartbeats 4000000 in
theorem pair_nil (w : World) (v : Value) : Calls Try.prog 56 #[.pointer none, v] w (PairC w 1) := by
  have CN := hide (none_nil w)
  go_enter Try.func56, Try.ntmps56
  go_wp2_with fail
  refine CN.out.mono ?_
  rintro e w0 ⟨rfl, hw0⟩
  subst hw0
  go_wp2
  go_ret
  exact ⟨rfl, 0, rfl⟩
set_option maxRecDepth 20000 in
set_option maxHeartbeats 4000000 in
theorem pair_nil2 (w : World) (z g h : Nat) (ws : List Nat) (f : FilAt w z g h ws) : Calls Try.prog 56 #[.pointer (some ⟨z, 0, none⟩), .pointer none] w (PairC w 1) := by
  have CS := hide (none_some w z g h ws f)
  have CN := hide (none_nil w)
  clear f
  go_enter Try.func56, Try.ntmps56
  go_wp2_with fail
  refine CS.out.mono ?_
  rintro e w0 ⟨rfl, hw0⟩
  subst hw0
  go_wp2_with fail
  refine CN.out.mono ?_
  rintro e w0 ⟨rfl, hw0⟩
  subst hw0
  go_wp2
  go_ret
  exact ⟨rfl, 0, rfl⟩
set_option maxRecDepth 20000 in
set_option maxHeartbeats 4000000 in
theorem meet_nil (w : World) (v : Value) : Calls Try.prog 24 #[.pointer none, v] w (NoWC w 1) := by
  have CP := hide (pair_nil w v)
  go_enter Try.func24, Try.ntmps24
  go_wp2_with fail
  refine CP.out.mono ?_
  rintro e w1 ⟨rfl, nd, rfl⟩
  go_wp2
  go_ret
  exact ⟨rfl, below_drewN' (Below.refl _ _) nd⟩
set_option maxRecDepth 20000 in
set_option maxHeartbeats 4000000 in
theorem meet_nil2 (w : World) (z g h : Nat) (ws : List Nat) (f : FilAt w z g h ws) : Calls Try.prog 24 #[.pointer (some ⟨z, 0, none⟩), .pointer none] w (NoWC w 1) := by
  have CP := hide (pair_nil2 w z g h ws f)
  clear f
  go_enter Try.func24, Try.ntmps24
  go_wp2_with fail
  refine CP.out.mono ?_
  rintro e w1 ⟨rfl, nd, rfl⟩
  go_wp2
  go_ret
  exact ⟨rfl, below_drewN' (Below.refl _ _) nd⟩
set_option maxRecDepth 20000 in
set_option maxHeartbeats 4000000 in
theorem join_nil (w : World) (v : Value) : Calls Try.prog 25 #[.pointer none, v] w (NoWC w 1) := by
  have CP := hide (pair_nil w v)
  go_enter Try.func25, Try.ntmps25
  go_wp2_with fail
  refine CP.out.mono ?_
  rintro e w1 ⟨rfl, nd, rfl⟩
  go_wp2
  go_ret
  exact ⟨rfl, below_drewN' (Below.refl _ _) nd⟩
set_option maxRecDepth 20000 in
set_option maxHeartbeats 4000000 in
theorem join_nil2 (w : World) (z g h : Nat) (ws : List Nat) (f : FilAt w z g h ws) : Calls Try.prog 25 #[.pointer (some ⟨z, 0, none⟩), .pointer none] w (NoWC w 1) := by
  have CP := hide (pair_nil2 w z g h ws f)
  clear f
  go_enter Try.func25, Try.ntmps25
  go_wp2_with fail
  refine CP.out.mono ?_
  rintro e w1 ⟨rfl, nd, rfl⟩
  go_wp2
  go_ret
  exact ⟨rfl, below_drewN' (Below.refl _ _) nd⟩
end Go.Proofs.Ytbemmhngadpjcaa

/- The document's filter, wherever its bits lie; how many of them are set; which share. -/
namespace Go.Proofs.Ytbemmhngadpjcaa
set_option linter.unusedVariables false
set_option linter.unusedSimpArgs false
open Go.RowKit Go.Sort Ieee

/-- The document's filter at block z: its bits from the start of block g on, with room c. -/
structure RF (w : World) (z g c h : Nat) (bs : List Bool) : Prop where
  zb : Blk w z #[.slice (some ⟨g, 0, none⟩) bs.length c, .int .i64 h] 71
  at' : ∀ i (hi : i < bs.length), w.cell? ⟨g, i, none⟩ = some (.bool bs[i])
  hn : 64 ≤ bs.length ∧ bs.length ≤ 1048576
  hh : 1 ≤ h ∧ h ≤ 16
def cntT : List Bool → Nat
  | [] => 0
  | b :: bs => b.toNat + cntT bs
theorem cntT_append (xs ys : List Bool) : cntT (xs ++ ys) = cntT xs + cntT ys := by
  induction xs with
  | nil => rw [List.nil_append, cntT, Nat.zero_add]
  | cons x xs ih => rw [List.cons_append, cntT, cntT, ih, Nat.add_assoc]
theorem cntT_le (bs : List Bool) : cntT bs ≤ bs.length := by
  induction bs with
  | nil => exact Nat.le_refl _
  | cons b bs ih =>
    rw [cntT, List.length_cons]
    have := Bool.toNat_le b
    omega
theorem cntT_take (bs : List Bool) (k : Nat) (h : k < bs.length) : cntT (bs.take (k + 1)) = cntT (bs.take k) + bs[k].toNat := by
  rw [List.take_succ_eq_append_getElem h, cntT_append, cntT, cntT, Nat.add_zero]
set_option maxRecDepth 20000 in
set_option maxHeartbeats 4000000 in
theorem rones_any (w : World) (z g c h : Nat) (bs : List Bool) (f : RF w z g c h bs) : Calls Try.prog 35 #[.pointer (some ⟨z, 0, none⟩)] w (fun e w' => e = .returned (.int .i64 (cntT bs : Nat)) ∧ w' = w) := by
  have HF := hide f
  obtain ⟨hn1, hn2⟩ := f.hn
  obtain ⟨L, hL⟩ : ∃ L, L = bs.length := ⟨_, rfl⟩
  have c0 : w.cell? ⟨z, 0, none⟩ = some (.slice (some ⟨g, 0, none⟩) L c) := by rw [hL]; exact f.zb.cell 0
  rw [← hL] at hn1 hn2
  have HLe := hide hL
  obtain ⟨S, hS⟩ : ∃ S, S = cntT bs := ⟨_, rfl⟩
  rw [← hS]
  have HSe := hide hS
  clear f hL hS
  go_enter Try.func35, Try.ntmps35
  go_wp2
  go_loopw [3, 4] (fun s3 s4 wr => ∃ (k n : Nat), s4 = .int .i64 k ∧ k ≤ L ∧ s3 = .int .i64 n ∧ n ≤ k ∧ Hid (n = cntT (bs.take k)) ∧ wr = w) (fun _ s4 _ => L - (intOf s4).toNat)
  case atStart => exact ⟨0, 0, rfl, by omega, rfl, by omega, hide (by rw [List.take_zero]; rfl), rfl⟩
  case round =>
    obtain ⟨k, n, rfl, hk, rfl, hnb, HN, hw⟩ := hrel
    subst hw
    by_cases hlt : k < L
    · have hki : (k : Int) < L := by omega
      have hku : k < bs.length := by have := HLe.out; omega
      obtain ⟨b, hb⟩ : ∃ b, b = bs[k] := ⟨_, rfl⟩
      have cx : wr.cell? ⟨g, k, none⟩ = some (.bool b) := by rw [hb]; exact HF.out.at' k hku
      have HNk : Hid (n + b.toNat = cntT (bs.take (k + 1))) := hide (by rw [cntT_take bs k hku, ← hb, HN.out])
      clear hb hku
      cases b
      · go_wp2
        exact ⟨⟨k + 1, n, by go_num, by omega, rfl, by omega, HNk, trivial⟩, by simp [intOf]; omega⟩
      · go_wp2
        exact ⟨⟨k + 1, n + 1, by go_num, by omega, by go_num, by omega, HNk, trivial⟩, by simp [intOf]; omega⟩
    · have hki : ¬ (k : Int) < L := by omega
      have hkh : k = bs.length := by have := HLe.out; omega
      have HN2 : Hid (n = S) := hide (by rw [HN.out, HSe.out, hkh, List.take_length])
      clear hkh HN
      go_wp2
      go_ret
      exact ⟨by rw [HN2.out]; rfl, rfl⟩
end Go.Proofs.Ytbemmhngadpjcaa

/- The document's share of bits set, and its alarm. -/
namespace Go.Proofs.Ytbemmhngadpjcaa
set_option linter.unusedVariables false
set_option linter.unusedSimpArgs false
open Go.RowKit Go.Sort Ieee

theorem RF.below {w w' : World} {z g c h : Nat} {bs : List Bool} (f : RF w z g c h bs) (hb : Below w.heap.size w w') : RF w' z g c h bs :=
  ⟨f.zb.below hb f.zb.lt, fun i hi => (hb.cell (World.block_lt_of_cell? w _ (f.at' i hi))).trans (f.at' i hi), f.hn, f.hh⟩
set_option maxRecDepth 20000 in
set_option maxHeartbeats 4000000 in
theorem rfill_any (w : World) (z g c h : Nat) (bs : List Bool) (f : RF w z g c h bs) : Calls Try.prog 37 #[.pointer (some ⟨z, 0, none⟩)] w (FlC w (fillF (cntT bs) bs.length)) := by
  have hbd : Below w.heap.size w w.drew := below_drewN' (Below.refl _ _) 1
  have HBd := hide hbd
  have CO := hide (rones_any w.drew z g c h bs (f.below hbd))
  obtain ⟨hn1, hn2⟩ := f.hn
  have o1 := (fill_ok (cntT bs) bs.length (by omega) (by omega) (cntT_le bs)).1
  have g1 := fdiv o1
  rw [← flI (cntT bs), ← flI bs.length] at g1
  have c0 : w.cell? ⟨z, 0, none⟩ = some (.slice (some ⟨g, 0, none⟩) bs.length c) := f.zb.cell 0
  obtain ⟨R, hR⟩ : ∃ R, R = fillF (cntT bs) bs.length := ⟨_, rfl⟩
  obtain ⟨B, hB⟩ : ∃ B, B = bs.length := ⟨_, rfl⟩
  obtain ⟨S, hS⟩ : ∃ S, S = cntT bs := ⟨_, rfl⟩
  rw [← hR] at g1 ⊢
  rw [← hB, ← hS] at g1
  rw [← hB] at c0 hn1 hn2
  rw [← hS] at CO
  clear f hR hB hS o1 hbd
  go_enter Try.func37, Try.ntmps37
  go_wp2
  go_region_with (go_at_call 35; refine CO.out.mono ?_; rintro e w1 ⟨rfl, hw1⟩; subst hw1)
  all_goals
    go_wp2_with (first | simp only [g1])
    go_ret
    exact ⟨rfl, HBd.out⟩
set_option maxRecDepth 20000 in
set_option maxHeartbeats 4000000 in
theorem ralarm_any (w : World) (z g c h : Nat) (bs : List Bool) (f : RF w z g c h bs) : Calls Try.prog 38 #[.pointer (some ⟨z, 0, none⟩)] w (FlC w (powF ONE (fillF (cntT bs) bs.length) h)) := by
  have hF := hide f
  have hbd : Below w.heap.size w w.drew := below_drewN' (Below.refl _ _) 1
  have CD : Hid (Calls Try.prog 37 #[.pointer (some ⟨z, 0, none⟩)] w.drew fun e w' => e = .returned (.float .f64 (fillF (cntT bs) bs.length)) ∧ Below w.heap.size w w') := hide (by
    refine (rfill_any w.drew z g c h bs (f.below hbd)).mono ?_
    rintro e w' ⟨he, hb⟩
    exact ⟨he, hbd.trans (hb.mono hbd.size)⟩)
  have HB : Hid (∀ w1 w2 : World, Below w.heap.size w w1 → Below w1.heap.size w1 w2 → Below w.heap.size w w2) := hide (fun w1 w2 h1 h2 => h1.trans (h2.mono h1.size))
  have hfi := (fill_ok (cntT bs) bs.length (by have := f.hn; omega) (by have := f.hn; omega) (cntT_le bs)).2
  have CP := hide (fun W => rpow_any (fillF (cntT bs) bs.length) h hfi (by have := f.hh; omega) W)
  obtain ⟨R, hR⟩ : ∃ R, R = powF ONE (fillF (cntT bs) bs.length) h := ⟨_, rfl⟩
  rw [← hR] at CP ⊢
  obtain ⟨x, hx⟩ : ∃ x, x = fillF (cntT bs) bs.length := ⟨_, rfl⟩
  rw [← hx] at CP CD
  have c00 : w.cell? ⟨z, 1, none⟩ = some (.int .i64 h) := f.zb.cell 1
  clear f hR hx hfi hbd
  go_enter Try.func38, Try.ntmps38
  go_wp2
  go_region_with (first | (go_at_call 37; refine CD.out.mono ?_; rintro e w1 ⟨rfl, hb1⟩; have c0 : w1.cell? ⟨z, 1, none⟩ = some (.int .i64 h) := (hF.out.below hb1).zb.cell 1) | (go_at_call 39; refine (CP.out _).mono ?_; rintro e w2 ⟨rfl, hb2⟩))
  all_goals
    go_wp2
    go_ret
    exact ⟨rfl, HB.out _ _ hb1 hb2⟩
end Go.Proofs.Ytbemmhngadpjcaa
