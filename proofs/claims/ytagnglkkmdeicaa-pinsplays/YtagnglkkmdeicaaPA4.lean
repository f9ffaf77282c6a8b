/- The document's Open, Close, Enter, Leave, Busy. -/
import Derived.Test.YtagnglkkmdeicaaPA3
import Derived.StillTailTactics
namespace Go.Proofs.Ytagnglkkmdeicaa
set_option linter.unusedVariables false
set_option linter.unusedSimpArgs false
open Go.RowKit
set_option maxRecDepth 100000

theorem ropen_out (w : World) (q : Option Addr) (s : Int) (hs : ¬ (0 ≤ s ∧ s < 16)) : Calls Try.prog 16 #[.pointer q, .int .i64 s] w fun e w' => e = .returned (.int .i64 140) ∧ w' = w := by
  by_cases h0 : s < 0
  · go_enter Try.func16, Try.ntmps16
    go_wp2
    go_ret
    exact ⟨rfl, rfl⟩
  · have h1 : (15 : Int) < s := by
      rcases Int.lt_or_le s 16 with h | h
      · exact absurd ⟨by omega, h⟩ hs
      · omega
    clear hs
    go_enter Try.func16, Try.ntmps16
    go_wp2
    go_ret
    exact ⟨rfl, rfl⟩
theorem ropen_again (w : World) (zr : Nat) (D : List RfV) (k : Nat) (d : RfV) (hk : k < 16) (h : RfAt w zr D) (hd : D[k]? = some d) (ho : d.op = true) : Calls Try.prog 16 #[.pointer (some ⟨zr, 0, none⟩), .int .i64 (k : Int)] w fun e w' => e = .returned (.int .i64 141) ∧ w' = w := by
  have hc := h.cO hd
  rw [ho] at hc
  have h0 : ¬ (k : Int) < 0 := by omega
  have h1 : ¬ (15 : Int) < (k : Int) := by omega
  have h2 : (k : Int) < 16 := by omega
  clear h hd ho hk
  go_enter Try.func16, Try.ntmps16
  go_wp2
  go_ret
  exact ⟨rfl, rfl⟩
theorem ropen_yes (w : World) (zr : Nat) (D : List RfV) (k : Nat) (d : RfV) (hk : k < 16) (h : RfAt w zr D) (hd : D[k]? = some d) (ho : d.op = false) : Calls Try.prog 16 #[.pointer (some ⟨zr, 0, none⟩), .int .i64 (k : Int)] w fun e w' => e = .returned (.int .i64 0) ∧ RfAt w' zr (D.set k { d with op := true }) ∧ w.grownBy w' (some zr) := by
  have hc := h.cO hd
  rw [ho] at hc
  have hf := h.blk.frozen k
  have HP := hide (h.setO hd true)
  have HG := hide (grownBy_set w zr k (.bool true))
  have h0 : ¬ (k : Int) < 0 := by omega
  have h1 : ¬ (15 : Int) < (k : Int) := by omega
  have h2 : (k : Int) < 16 := by omega
  clear h hd ho hk
  go_enter Try.func16, Try.ntmps16
  go_wp2
  go_ret
  exact ⟨rfl, HP.out, HG.out⟩
theorem risNo {w : World} {zr : Nat} {D : List RfV} {s : Int} (h : RfAt w zr D) (ho : opD D s = false) : Calls Try.prog 37 #[.pointer (some ⟨zr, 0, none⟩), .int .i64 s] w fun e w' => e = .returned (.bool false) ∧ w' = w := by
  have := risOpen_any w zr D s h
  rw [ho] at this
  exact this
theorem risYes {w : World} {zr : Nat} {D : List RfV} {k : Nat} {d : RfV} (h : RfAt w zr D) (hk : k < 16) (hd : D[k]? = some d) (ho : d.op = true) : Calls Try.prog 37 #[.pointer (some ⟨zr, 0, none⟩), .int .i64 (k : Int)] w fun e w' => e = .returned (.bool true) ∧ w' = w := by
  have := risOpen_any w zr D k h
  rw [opD_in hk hd, ho] at this
  exact this
theorem rclose_no (w : World) (zr : Nat) (D : List RfV) (s : Int) (h : RfAt w zr D) (ho : opD D s = false) : Calls Try.prog 18 #[.pointer (some ⟨zr, 0, none⟩), .int .i64 s] w fun e w' => e = .returned (.int .i64 140) ∧ w' = w := by
  have HI := hide (risNo h ho)
  clear h ho
  go_enter Try.func18, Try.ntmps18
  go_wp2_with (go_at_call 37; (with_reducible refine HI.out.mono ?_); rintro e w' ⟨rfl, rfl⟩)
  go_ret
  exact ⟨rfl, rfl⟩
theorem rclose_busy (w : World) (zr : Nat) (D : List RfV) (k : Nat) (d : RfV) (hk : k < 16) (h : RfAt w zr D) (hd : D[k]? = some d) (ho : d.op = true) (hb : d.busy ≠ 0) : Calls Try.prog 18 #[.pointer (some ⟨zr, 0, none⟩), .int .i64 (k : Int)] w fun e w' => e = .returned (.int .i64 142) ∧ w' = w := by
  have HI := hide (risYes h hk hd ho)
  have hc := h.cB hd
  obtain ⟨b, hbb⟩ : ∃ b, b = d.busy := ⟨_, rfl⟩
  have hb0 : 0 < b := by omega
  rw [← hbb] at hc
  have h2 : (k : Int) < 16 := by omega
  clear h hd ho hk hb hbb
  go_enter Try.func18, Try.ntmps18
  go_wp2_with (go_at_call 37; (with_reducible refine HI.out.mono ?_); rintro e w' ⟨rfl, rfl⟩)
  go_ret
  exact ⟨rfl, rfl⟩
theorem set_set {α : Type} (l : List α) (k : Nat) (a b : α) : (l.set k a).set k b = l.set k b := List.set_set ..
theorem rclose_yes (w : World) (zr : Nat) (D : List RfV) (k : Nat) (d : RfV) (hk : k < 16) (h : RfAt w zr D) (hd : D[k]? = some d) (ho : d.op = true) (hb : d.busy = 0) : Calls Try.prog 18 #[.pointer (some ⟨zr, 0, none⟩), .int .i64 (k : Int)] w fun e w' => e = .returned (.int .i64 0) ∧ RfAt w' zr (D.set k { d with op := false, ao := none, cap := 0, L := [] }) ∧ w.grownBy w' (some zr) := by
  have HI := hide (risYes h hk hd ho)
  have hc := h.cB hd
  rw [hb] at hc
  have hco := h.cO hd
  have hf := h.blk.frozen k
  have h1 := h.setO hd false
  have hd1 : (D.set k { d with op := false })[k]? = some { d with op := false } := List.getElem?_set_self (by rw [h.len]; exact hk)
  have hck := h1.cK hd1
  have hf2 := h1.blk.frozen (32 + k)
  have h3 := h1.setK hd1 none 0 [] ⟨fun i hi => absurd hi (Nat.not_lt_zero _), fun k hk => by cases hk⟩ (fun a e => by cases e)
  rw [set_set] at h3
  have HP : Hid (RfAt ((w.setCell ⟨zr, k, none⟩ (.bool false)).setCell ⟨zr, 32 + k, none⟩ (.slice none 0 0)) zr (D.set k { d with op := false, ao := none, cap := 0, L := [] })) := hide h3
  have HG := hide (grownBy_trans (grownBy_set w zr k (.bool false)) (grownBy_set _ zr (32 + k) (.slice none 0 0)))
  have h2 : (k : Int) < 16 := by omega
  have hcb : (w.setCell ⟨zr, k, none⟩ (.bool false)).cell? ⟨zr, 32 + k, none⟩ = some (.slice d.ao d.L.length d.cap) := hck
  clear h hd ho hk hb h1 hd1 h3 hck
  go_enter Try.func18, Try.ntmps18
  go_wp2_with (go_at_call 37; (with_reducible refine HI.out.mono ?_); rintro e w' ⟨rfl, rfl⟩)
  go_ret
  exact ⟨rfl, HP.out, HG.out⟩
theorem renter_no (w : World) (zr : Nat) (D : List RfV) (s : Int) (h : RfAt w zr D) (ho : opD D s = false) : Calls Try.prog 21 #[.pointer (some ⟨zr, 0, none⟩), .int .i64 s] w fun e w' => e = .returned (.int .i64 140) ∧ w' = w := by
  have HI := hide (risNo h ho)
  clear h ho
  go_enter Try.func21, Try.ntmps21
  go_wp2_with (go_at_call 37; (with_reducible refine HI.out.mono ?_); rintro e w' ⟨rfl, rfl⟩)
  go_ret
  exact ⟨rfl, rfl⟩
theorem rleave_no (w : World) (zr : Nat) (D : List RfV) (s : Int) (h : RfAt w zr D) (ho : opD D s = false) : Calls Try.prog 23 #[.pointer (some ⟨zr, 0, none⟩), .int .i64 s] w fun e w' => e = .returned (.int .i64 140) ∧ w' = w := by
  have HI := hide (risNo h ho)
  clear h ho
  go_enter Try.func23, Try.ntmps23
  go_wp2_with (go_at_call 37; (with_reducible refine HI.out.mono ?_); rintro e w' ⟨rfl, rfl⟩)
  go_ret
  exact ⟨rfl, rfl⟩
theorem rbusy_no (w : World) (zr : Nat) (D : List RfV) (s : Int) (h : RfAt w zr D) (ho : opD D s = false) : Calls Try.prog 39 #[.pointer (some ⟨zr, 0, none⟩), .int .i64 s] w fun e w' => e = .returned (.int .i64 0) ∧ w' = w := by
  have HI := hide (risNo h ho)
  clear h ho
  go_enter Try.func39, Try.ntmps39
  go_wp2_with (go_at_call 37; (with_reducible refine HI.out.mono ?_); rintro e w' ⟨rfl, rfl⟩)
  go_ret
  exact ⟨rfl, rfl⟩
theorem rbusy_yes (w : World) (zr : Nat) (D : List RfV) (k : Nat) (d : RfV) (hk : k < 16) (h : RfAt w zr D) (hd : D[k]? = some d) (ho : d.op = true) : Calls Try.prog 39 #[.pointer (some ⟨zr, 0, none⟩), .int .i64 (k : Int)] w fun e w' => e = .returned (.int .i64 (d.busy : Int)) ∧ w' = w := by
  have HI := hide (risYes h hk hd ho)
  have hc := h.cB hd
  have h2 : (k : Int) < 16 := by omega
  clear h hd ho hk
  go_enter Try.func39, Try.ntmps39
  go_wp2_with (go_at_call 37; (with_reducible refine HI.out.mono ?_); rintro e w' ⟨rfl, rfl⟩)
  go_ret
  exact ⟨rfl, rfl⟩
theorem renter_yes (w : World) (zr : Nat) (D : List RfV) (k : Nat) (d : RfV) (hk : k < 16) (h : RfAt w zr D) (hd : D[k]? = some d) (ho : d.op = true) (hb : d.busy + 1 ≤ 9223372036854775807) : Calls Try.prog 21 #[.pointer (some ⟨zr, 0, none⟩), .int .i64 (k : Int)] w fun e w' => e = .returned (.int .i64 0) ∧ RfAt w' zr (D.set k { d with busy := d.busy + 1 }) ∧ w.grownBy w' (some zr) := by
  have HI := hide (risYes h hk hd ho)
  have hD := h.below (below_d w)
  have hc := hD.cB hd
  have hf := hD.blk.frozen (16 + k)
  have HP := hide (hD.setB hd (d.busy + 1))
  have HG := hide (grownBy_trans (grownBy_below (below_d w)) (grownBy_set w.drew zr (16 + k) (.int .i64 ((d.busy + 1 : Nat) : Int))))
  obtain ⟨b, hbb⟩ : ∃ b, b = d.busy := ⟨_, rfl⟩
  obtain ⟨b1, hb1⟩ : ∃ b1, b1 = d.busy + 1 := ⟨_, rfl⟩
  have hbi : (b : Int) + 1 = (b1 : Int) := by omega
  have hbw : IntKind.i64.wrap (b1 : Int) = (b1 : Int) := wrapi64_nat b1 (by omega)
  have h2 : (k : Int) < 16 := by omega
  rw [← hbb] at hc
  rw [← hb1] at HP HG ⊢
  clear h hd ho hk hb hbb hb1 hD
  go_enter Try.func21, Try.ntmps21
  go_upto_region 3 with (go_at_call 37; (with_reducible refine HI.out.mono ?_); rintro e w' ⟨rfl, rfl⟩)
  refine wp_region_still_tail 10 (by kernel_rfl) (by kernel_rfl) ?_
  simp only [List.take_succ_cons, List.take_zero, List.drop_succ_cons, List.drop_zero]
  iterate 10 still_step
  refine wpStill_nil ?_
  go_wp2
  go_ret
  exact ⟨rfl, HP.out, HG.out⟩
theorem rleave_idle (w : World) (zr : Nat) (D : List RfV) (k : Nat) (d : RfV) (hk : k < 16) (h : RfAt w zr D) (hd : D[k]? = some d) (ho : d.op = true) (hb : d.busy = 0) : Calls Try.prog 23 #[.pointer (some ⟨zr, 0, none⟩), .int .i64 (k : Int)] w fun e w' => e = .returned (.int .i64 3) ∧ w' = w := by
  have HI := hide (risYes h hk hd ho)
  have hc := h.cB hd
  rw [hb] at hc
  have h2 : (k : Int) < 16 := by omega
  clear h hd ho hk hb
  go_enter Try.func23, Try.ntmps23
  go_wp2_with (go_at_call 37; (with_reducible refine HI.out.mono ?_); rintro e w' ⟨rfl, rfl⟩)
  go_ret
  exact ⟨rfl, rfl⟩
theorem rleave_yes (w : World) (zr : Nat) (D : List RfV) (k : Nat) (d : RfV) (hk : k < 16) (h : RfAt w zr D) (hd : D[k]? = some d) (ho : d.op = true) (hb : d.busy ≤ 9223372036854775807) (h0 : d.busy ≠ 0) : Calls Try.prog 23 #[.pointer (some ⟨zr, 0, none⟩), .int .i64 (k : Int)] w fun e w' => e = .returned (.int .i64 0) ∧ RfAt w' zr (D.set k { d with busy := d.busy - 1 }) ∧ w.grownBy w' (some zr) := by
  have HI := hide (risYes h hk hd ho)
  have hc0 := h.cB hd
  have hD := h.below (below_d w)
  have hc := hD.cB hd
  have hf := hD.blk.frozen (16 + k)
  have HP := hide (hD.setB hd (d.busy - 1))
  have HG := hide (grownBy_trans (grownBy_below (below_d w)) (grownBy_set w.drew zr (16 + k) (.int .i64 ((d.busy - 1 : Nat) : Int))))
  obtain ⟨b, hbb⟩ : ∃ b, b = d.busy := ⟨_, rfl⟩
  obtain ⟨b1, hb1⟩ : ∃ b1, b1 = d.busy - 1 := ⟨_, rfl⟩
  have hbi : (b : Int) - 1 = (b1 : Int) := by omega
  have hbw : IntKind.i64.wrap (b1 : Int) = (b1 : Int) := wrapi64_nat b1 (by omega)
  have hb0 : ((b : Int) == 0) = false := by simp; omega
  have h2 : (k : Int) < 16 := by omega
  rw [← hbb] at hc hc0
  rw [← hb1] at HP HG ⊢
  clear h hd ho hk hb hbb hb1 hD h0
  go_enter Try.func23, Try.ntmps23
  go_upto_region 5 with (go_at_call 37; (with_reducible refine HI.out.mono ?_); rintro e w' ⟨rfl, rfl⟩)
  refine wp_region_still_tail 10 (by kernel_rfl) (by kernel_rfl) ?_
  simp only [List.take_succ_cons, List.take_zero, List.drop_succ_cons, List.drop_zero]
  iterate 10 still_step
  refine wpStill_nil ?_
  go_wp2
  go_ret
  exact ⟨rfl, HP.out, HG.out⟩
end Go.Proofs.Ytagnglkkmdeicaa
