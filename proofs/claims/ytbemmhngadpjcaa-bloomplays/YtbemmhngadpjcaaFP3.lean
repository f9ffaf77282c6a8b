/- The document's filter, wherever its bits lie; how many of them are set; which share. -/
import Derived.Test.YtbemmhngadpjcaaFP2
namespace Go.Proofs.Ytbemmhngadpjcaa
set_option linter.unusedVariables false
set_option linter.unusedSimpArgs false
open Go.RowKit Go.Sort Ieee

/-- The document's filter at block z: its bits from the start of block g on, with room c. -/
structure RF (w : World) (z g c h : Nat) (bs : List Bool) : Prop where
  zb : Blk w z #[.slice (some ⟨g, 0, none⟩) bs.length c, .int .i64 h] 71
  at' : ∀ i (hi : i < bs.length), w.cell? ⟨g, i, none⟩ = some (.bool bs[i])
  hn : 64 ≤ bs.length ∧ bs.length ≤ 1048576
  hh : 1 ≤ h ∧ h ≤ 16
def cntT : List Bool → Nat
  | [] => 0
  | b :: bs => b.toNat + cntT bs
theorem cntT_append (xs ys : List Bool) : cntT (xs ++ ys) = cntT xs + cntT ys := by
  induction xs with
  | nil => rw [List.nil_append, cntT, Nat.zero_add]
  | cons x xs ih => rw [List.cons_append, cntT, cntT, ih, Nat.add_assoc]
theorem cntT_le (bs : List Bool) : cntT bs ≤ bs.length := by
  induction bs with
  | nil => exact Nat.le_refl _
  | cons b bs ih =>
    rw [cntT, List.length_cons]
    have := Bool.toNat_le b
    omega
theorem cntT_take (bs : List Bool) (k : Nat) (h : k < bs.length) : cntT (bs.take (k + 1)) = cntT (bs.take k) + bs[k].toNat := by
  rw [List.take_succ_eq_append_getElem h, cntT_append, cntT, cntT, Nat.add_zero]
set_option maxRecDepth 20000 in
set_option maxHeartbeats 4000000 in
theorem rones_any (w : World) (z g c h : Nat) (bs : List Bool) (f : RF w z g c h bs) : Calls Try.prog 35 #[.pointer (some ⟨z, 0, none⟩)] w (fun e w' => e = .returned (.int .i64 (cntT bs : Nat)) ∧ w' = w) := by
  have HF := hide f
  obtain ⟨hn1, hn2⟩ := f.hn
  obtain ⟨L, hL⟩ : ∃ L, L = bs.length := ⟨_, rfl⟩
  have c0 : w.cell? ⟨z, 0, none⟩ = some (.slice (some ⟨g, 0, none⟩) L c) := by rw [hL]; exact f.zb.cell 0
  rw [← hL] at hn1 hn2
  have HLe := hide hL
  obtain ⟨S, hS⟩ : ∃ S, S = cntT bs := ⟨_, rfl⟩
  rw [← hS]
  have HSe := hide hS
  clear f hL hS
  go_enter Try.func35, Try.ntmps35
  go_wp2
  go_loopw [3, 4] (fun s3 s4 wr => ∃ (k n : Nat), s4 = .int .i64 k ∧ k ≤ L ∧ s3 = .int .i64 n ∧ n ≤ k ∧ Hid (n = cntT (bs.take k)) ∧ wr = w) (fun _ s4 _ => L - (intOf s4).toNat)
  case atStart => exact ⟨0, 0, rfl, by omega, rfl, by omega, hide (by rw [List.take_zero]; rfl), rfl⟩
  case round =>
    obtain ⟨k, n, rfl, hk, rfl, hnb, HN, hw⟩ := hrel
    subst hw
    by_cases hlt : k < L
    · have hki : (k : Int) < L := by omega
      have hku : k < bs.length := by have := HLe.out; omega
      obtain ⟨b, hb⟩ : ∃ b, b = bs[k] := ⟨_, rfl⟩
      have cx : wr.cell? ⟨g, k, none⟩ = some (.bool b) := by rw [hb]; exact HF.out.at' k hku
      have HNk : Hid (n + b.toNat = cntT (bs.take (k + 1))) := hide (by rw [cntT_take bs k hku, ← hb, HN.out])
      clear hb hku
      cases b
      · go_wp2
        exact ⟨⟨k + 1, n, by go_num, by omega, rfl, by omega, HNk, trivial⟩, by simp [intOf]; omega⟩
      · go_wp2
        exact ⟨⟨k + 1, n + 1, by go_num, by omega, by go_num, by omega, HNk, trivial⟩, by simp [intOf]; omega⟩
    · have hki : ¬ (k : Int) < L := by omega
      have hkh : k = bs.length := by have := HLe.out; omega
      have HN2 : Hid (n = S) := hide (by rw [HN.out, HSe.out, hkh, List.take_length])
      clear hkh HN
      go_wp2
      go_ret
      exact ⟨by rw [HN2.out]; rfl, rfl⟩
end Go.Proofs.Ytbemmhngadpjcaa
