/- Pins: Enter, Leave, IsOpen, Busy; Open, Close and Pin where they are refused. -/
import Derived.Test.YtagnglkkmdeicaaPN4
namespace Go.Proofs.Ytagnglkkmdeicaa
set_option linter.unusedVariables false
set_option linter.unusedSimpArgs false
open Go.RowKit
set_option maxRecDepth 100000

/-- A session is so many times busy now. -/
theorem PinsAt.busyTo {w : World} {zp : Nat} {os : List (Option SesV)} (h : PinsAt w zp os) {k : Nat} {v : SesV} (hk : os[k]? = some (some v)) (b : Nat) : PinsAt (w.setCell ⟨v.zs, 1, none⟩ (.int .i64 (b : Int))) zp (os.set k (some { v with busy := b })) := by
  obtain ⟨n1, n2, n3⟩ := h.ne hk
  have hg := grownBy_set w v.zs 1 (.int .i64 (b : Int))
  have hl : k < os.length := (List.getElem?_eq_some_iff.1 hk).1
  have he : os.map ptS = (os.set k (some { v with busy := b })).map ptS := by
    rw [List.map_set]
    apply List.ext_getElem?
    intro i
    by_cases e : i = k
    · subst e
      rw [List.getElem?_set_self (by simpa using hl), List.getElem?_map, hk]; rfl
    · rw [List.getElem?_set_ne (fun e2 => e e2.symm)]
  have hv := h.ses k v hk
  refine ⟨?_, by rw [List.length_set]; exact h.len, fun s u e => ?_, fun s t u x e1 e2 hne => ?_⟩
  · have := h.blk.grown hg (fun e => n1 (Option.some.inj e))
    unfold pinL at this ⊢
    rw [he] at this
    exact this
  · rcases get_set e with ⟨_, q⟩ | ⟨r, e⟩
    · cases q
      refine ⟨hv.blk.set 1 _, hv.set.grown hg (fun e => ?_) (fun e => ?_)⟩
      · exact blk_ne hv.set.blk hv.blk (by decide) (Option.some.inj e)
      · exact blk_map_ne hv.blk hv.set (Option.some.inj e).symm
    · have ha := h.apart s k u v e hk r
      have hu := h.ses s u e
      refine hu.grown hg (fun e => ha.2 (Option.some.inj e)) (fun e => ?_) (fun e => ?_)
      · exact blk_ne hu.set.blk hv.blk (by decide) (Option.some.inj e)
      · exact blk_map_ne hv.blk hu.set (Option.some.inj e).symm
  · rcases get_set e1 with ⟨r1, q1⟩ | ⟨r1, e1⟩
    · cases q1
      rcases get_set e2 with ⟨r2, q2⟩ | ⟨r2, e2⟩
      · exact absurd (r1.trans r2.symm) hne
      · exact h.apart k t v x hk e2 (fun e => r2 e.symm)
    · rcases get_set e2 with ⟨r2, q2⟩ | ⟨r2, e2⟩
      · cases q2
        exact h.apart s k u v e1 hk r1
      · exact h.apart s t u x e1 e2 hne
theorem opened_no {w : World} {zp : Nat} {os : List (Option SesV)} {s : Int} (h : PinsAt w zp os) (hs : sel os s = none) : Calls Try.prog 31 #[.pointer (some ⟨zp, 0, none⟩), .int .i64 s] w fun e w' => e = .returned (.tuple #[.pointer none, .int .i64 140]) ∧ w' = w := by
  have := opened_any w zp os s h
  rw [hs] at this
  exact this
theorem opened_yes {w : World} {zp : Nat} {os : List (Option SesV)} {s : Int} {v : SesV} (h : PinsAt w zp os) (hs : sel os s = some v) : Calls Try.prog 31 #[.pointer (some ⟨zp, 0, none⟩), .int .i64 s] w fun e w' => e = .returned (.tuple #[.pointer (some ⟨v.zs, 0, none⟩), .int .i64 0]) ∧ w' = w := by
  have := opened_any w zp os s h
  rw [hs] at this
  exact this
theorem opened_nil (w : World) (s : Int) : Calls Try.prog 31 #[.pointer none, .int .i64 s] w fun e w' => e = .returned (.tuple #[.pointer none, .int .i64 1]) ∧ w' = w := by
  have HT := hide (there_nil w)
  go_enter Try.func31, Try.ntmps31
  go_wp2_with (go_at_call 28; (with_reducible refine HT.out.mono ?_); rintro e w' ⟨rfl, rfl⟩)
  go_ret2
  exact ⟨rfl, rfl⟩
theorem enter_no (w : World) (q : Option Addr) (s n : Int) (hn : n ≠ 0) (h : Calls Try.prog 31 #[.pointer q, .int .i64 s] w fun e w' => e = .returned (.tuple #[.pointer none, .int .i64 n]) ∧ w' = w) : Calls Try.prog 20 #[.pointer q, .int .i64 s] w fun e w' => e = .returned (.int .i64 n) ∧ w' = w := by
  have HO := hide h
  have hb : (n == 0) = false := by simpa using hn
  clear h hn
  go_enter Try.func20, Try.ntmps20
  go_wp2_with (go_at_call 31; (with_reducible refine HO.out.mono ?_); rintro e w' ⟨rfl, rfl⟩)
  go_ret
  exact ⟨rfl, rfl⟩
theorem leave_no (w : World) (q : Option Addr) (s n : Int) (hn : n ≠ 0) (h : Calls Try.prog 31 #[.pointer q, .int .i64 s] w fun e w' => e = .returned (.tuple #[.pointer none, .int .i64 n]) ∧ w' = w) : Calls Try.prog 22 #[.pointer q, .int .i64 s] w fun e w' => e = .returned (.int .i64 n) ∧ w' = w := by
  have HO := hide h
  have hb : (n == 0) = false := by simpa using hn
  clear h hn
  go_enter Try.func22, Try.ntmps22
  go_wp2_with (go_at_call 31; (with_reducible refine HO.out.mono ?_); rintro e w' ⟨rfl, rfl⟩)
  go_ret
  exact ⟨rfl, rfl⟩
theorem close_no (w : World) (q : Option Addr) (s n : Int) (hn : n ≠ 0) (h : Calls Try.prog 31 #[.pointer q, .int .i64 s] w fun e w' => e = .returned (.tuple #[.pointer none, .int .i64 n]) ∧ w' = w) : Calls Try.prog 17 #[.pointer q, .int .i64 s] w fun e w' => e = .returned (.int .i64 n) ∧ w' = w := by
  have HO := hide h
  have hb : (n == 0) = false := by simpa using hn
  clear h hn
  go_enter Try.func17, Try.ntmps17
  go_wp2_with (go_at_call 31; (with_reducible refine HO.out.mono ?_); rintro e w' ⟨rfl, rfl⟩)
  go_ret
  exact ⟨rfl, rfl⟩
theorem pin_no (w : World) (q : Option Addr) (s n : Int) (x : List UInt8) (hn : n ≠ 0) (h : ∀ W, Below w.heap.size w W → Calls Try.prog 31 #[.pointer q, .int .i64 s] W fun e w' => e = .returned (.tuple #[.pointer none, .int .i64 n]) ∧ w' = W) : Calls Try.prog 10 #[.pointer q, .int .i64 s, keyV x] w fun e w' => e = .returned (.int .i64 n) ∧ Below w.heap.size w w' := by
  have hB : Below w.heap.size w (w.alloc (.cells (x.map u8c).toArray 30)) := (Below.refl _ _).alloc (Nat.le_refl _) _
  have HO := hide (h _ hB)
  have HB := hide hB
  have hb : (n == 0) = false := by simpa using hn
  clear h hn hB
  show Calls Try.prog 10 #[.pointer q, .int .i64 s, .agg (x.map u8c).toArray] w _
  go_enter Try.func10, Try.ntmps10
  go_wp2_with (go_at_call 31; (with_reducible refine HO.out.mono ?_); rintro e w' ⟨rfl, rfl⟩)
  go_ret
  exact ⟨rfl, HB.out⟩
theorem enter_yes (w : World) (zp : Nat) (os : List (Option SesV)) (k : Nat) (v : SesV) (hk : k < 16) (h : PinsAt w zp os) (hn : os[k]? = some (some v)) (hb : v.busy + 1 ≤ 9223372036854775807) : Calls Try.prog 20 #[.pointer (some ⟨zp, 0, none⟩), .int .i64 (k : Int)] w fun e w' => e = .returned (.int .i64 0) ∧ PinsAt w' zp (os.set k (some { v with busy := v.busy + 1 })) ∧ w.grownBy w' (some v.zs) := by
  have HO := hide (opened_yes h (sel_in hk hn))
  have hc : w.cell? ⟨v.zs, 1, none⟩ = some (.int .i64 (v.busy : Int)) := by rw [(h.ses k v hn).blk.cell]; rfl
  have hf := (h.ses k v hn).blk.frozen 1
  have HP := hide (h.busyTo hn (v.busy + 1))
  have HG := hide (grownBy_set w v.zs 1 (.int .i64 ((v.busy + 1 : Nat) : Int)))
  obtain ⟨b, hbb⟩ : ∃ b, b = v.busy := ⟨_, rfl⟩
  obtain ⟨b1, hb1⟩ : ∃ b1, b1 = v.busy + 1 := ⟨_, rfl⟩
  have hbi : (b : Int) + 1 = (b1 : Int) := by omega
  have hbl : (b1 : Int) ≤ 9223372036854775807 := by omega
  rw [← hbb] at hc
  rw [← hb1] at HP HG ⊢
  clear h hn hb hbb hb1
  go_enter Try.func20, Try.ntmps20
  go_wp2_with (go_at_call 31; (with_reducible refine HO.out.mono ?_); rintro e w' ⟨rfl, rfl⟩)
  go_ret
  exact ⟨rfl, HP.out, HG.out⟩
theorem leave_yes (w : World) (zp : Nat) (os : List (Option SesV)) (k : Nat) (v : SesV) (hk : k < 16) (h : PinsAt w zp os) (hn : os[k]? = some (some v)) (hb : v.busy ≤ 9223372036854775807) (h0 : v.busy ≠ 0) : Calls Try.prog 22 #[.pointer (some ⟨zp, 0, none⟩), .int .i64 (k : Int)] w fun e w' => e = .returned (.int .i64 0) ∧ PinsAt w' zp (os.set k (some { v with busy := v.busy - 1 })) ∧ w.grownBy w' (some v.zs) := by
  have HO := hide (opened_yes h (sel_in hk hn))
  have hc : w.cell? ⟨v.zs, 1, none⟩ = some (.int .i64 (v.busy : Int)) := by rw [(h.ses k v hn).blk.cell]; rfl
  have hf := (h.ses k v hn).blk.frozen 1
  have HP := hide (h.busyTo hn (v.busy - 1))
  have HG := hide (grownBy_set w v.zs 1 (.int .i64 ((v.busy - 1 : Nat) : Int)))
  obtain ⟨b, hbb⟩ : ∃ b, b = v.busy := ⟨_, rfl⟩
  obtain ⟨b1, hb1⟩ : ∃ b1, b1 = v.busy - 1 := ⟨_, rfl⟩
  have hbi : (b : Int) - 1 = (b1 : Int) := by omega
  have hbl : (b1 : Int) ≤ 9223372036854775807 := by omega
  have hb0 : ((b : Int) == 0) = false := by simp; omega
  rw [← hbb] at hc
  rw [← hb1] at HP HG ⊢
  clear h hn hb hbb hb1 h0
  go_enter Try.func22, Try.ntmps22
  go_wp2_with (go_at_call 31; (with_reducible refine HO.out.mono ?_); rintro e w' ⟨rfl, rfl⟩)
  go_ret
  exact ⟨rfl, HP.out, HG.out⟩
theorem leave_idle (w : World) (zp : Nat) (os : List (Option SesV)) (k : Nat) (v : SesV) (hk : k < 16) (h : PinsAt w zp os) (hn : os[k]? = some (some v)) (h0 : v.busy = 0) : Calls Try.prog 22 #[.pointer (some ⟨zp, 0, none⟩), .int .i64 (k : Int)] w fun e w' => e = .returned (.int .i64 3) ∧ w' = w := by
  have HO := hide (opened_yes h (sel_in hk hn))
  have hc : w.cell? ⟨v.zs, 1, none⟩ = some (.int .i64 0) := by
    rw [(h.ses k v hn).blk.cell]; show some (Value.int .i64 (v.busy : Int)) = _; rw [h0]; rfl
  clear h hn h0
  go_enter Try.func22, Try.ntmps22
  go_wp2_with (go_at_call 31; (with_reducible refine HO.out.mono ?_); rintro e w' ⟨rfl, rfl⟩)
  go_ret
  exact ⟨rfl, rfl⟩
theorem close_busy (w : World) (zp : Nat) (os : List (Option SesV)) (k : Nat) (v : SesV) (hk : k < 16) (h : PinsAt w zp os) (hn : os[k]? = some (some v)) (h0 : v.busy ≠ 0) : Calls Try.prog 17 #[.pointer (some ⟨zp, 0, none⟩), .int .i64 (k : Int)] w fun e w' => e = .returned (.int .i64 142) ∧ w' = w := by
  have HO := hide (opened_yes h (sel_in hk hn))
  have hc : w.cell? ⟨v.zs, 1, none⟩ = some (.int .i64 (v.busy : Int)) := by rw [(h.ses k v hn).blk.cell]; rfl
  obtain ⟨b, hbb⟩ : ∃ b, b = v.busy := ⟨_, rfl⟩
  have hb0 : 0 < b := by omega
  rw [← hbb] at hc
  clear h hn h0 hbb
  go_enter Try.func17, Try.ntmps17
  go_wp2_with (go_at_call 31; (with_reducible refine HO.out.mono ?_); rintro e w' ⟨rfl, rfl⟩)
  go_ret
  exact ⟨rfl, rfl⟩
theorem open_out (w : World) (zp : Nat) (os : List (Option SesV)) (s : Int) (hs : ¬ (0 ≤ s ∧ s < 16)) (h : PinsAt w zp os) : Calls Try.prog 9 #[.pointer (some ⟨zp, 0, none⟩), .int .i64 s] w fun e w' => e = .returned (.int .i64 140) ∧ w' = w := by
  have HT := hide (there_yes w zp os h)
  have HI := hide (isSes_no w s hs)
  clear h hs
  go_enter Try.func9, Try.ntmps9
  go_wp2_with (first | (go_at_call 28; (with_reducible refine HT.out.mono ?_); rintro e w' ⟨rfl, rfl⟩) | (go_at_call 29; (with_reducible refine HI.out.mono ?_); rintro e w' ⟨rfl, rfl⟩))
  go_ret
  exact ⟨rfl, rfl⟩
theorem open_again (w : World) (zp : Nat) (os : List (Option SesV)) (k : Nat) (v : SesV) (hk : k < 16) (h : PinsAt w zp os) (hn : os[k]? = some (some v)) : Calls Try.prog 9 #[.pointer (some ⟨zp, 0, none⟩), .int .i64 (k : Int)] w fun e w' => e = .returned (.int .i64 141) ∧ w' = w := by
  have HT := hide (there_yes w zp os h)
  have HI := hide (isSes_yes w k hk)
  have hc : w.cell? ⟨zp, 1 + k, none⟩ = some (.pointer (some ⟨v.zs, 0, none⟩)) := h.cell hn
  have hk2 : (k : Int) < 16 := by omega
  clear h hn hk
  go_enter Try.func9, Try.ntmps9
  go_wp2_with (first | (go_at_call 28; (with_reducible refine HT.out.mono ?_); rintro e w' ⟨rfl, rfl⟩) | (go_at_call 29; (with_reducible refine HI.out.mono ?_); rintro e w' ⟨rfl, rfl⟩))
  go_ret
  exact ⟨rfl, rfl⟩
theorem open_nil (w : World) (s : Int) : Calls Try.prog 9 #[.pointer none, .int .i64 s] w fun e w' => e = .returned (.int .i64 1) ∧ w' = w := by
  have HT := hide (there_nil w)
  go_enter Try.func9, Try.ntmps9
  go_wp2_with (go_at_call 28; (with_reducible refine HT.out.mono ?_); rintro e w' ⟨rfl, rfl⟩)
  go_ret
  exact ⟨rfl, rfl⟩
theorem isOpen_any (w : World) (zp : Nat) (os : List (Option SesV)) (s : Int) (h : PinsAt w zp os) : Calls Try.prog 25 #[.pointer (some ⟨zp, 0, none⟩), .int .i64 s] w fun e w' => e = .returned (.bool (sel os s).isSome) ∧ w' = w := by
  have HC := hide (at_any w zp os s h)
  clear h
  generalize sel os s = o at HC ⊢
  cases o with
  | none =>
    have HC' : Hid (Calls Try.prog 33 #[.pointer (some ⟨zp, 0, none⟩), .int .i64 s] w fun e w' => e = .returned (.pointer none) ∧ w' = w) := HC
    clear HC
    go_enter Try.func25, Try.ntmps25
    go_wp2_with (go_at_call 33; (with_reducible refine HC'.out.mono ?_); rintro e w' ⟨rfl, rfl⟩)
    go_ret
    exact ⟨rfl, rfl⟩
  | some v =>
    have HC' : Hid (Calls Try.prog 33 #[.pointer (some ⟨zp, 0, none⟩), .int .i64 s] w fun e w' => e = .returned (.pointer (some ⟨v.zs, 0, none⟩)) ∧ w' = w) := HC
    clear HC
    go_enter Try.func25, Try.ntmps25
    go_wp2_with (go_at_call 33; (with_reducible refine HC'.out.mono ?_); rintro e w' ⟨rfl, rfl⟩)
    go_ret
    exact ⟨rfl, rfl⟩
theorem isOpen_nil (w : World) (s : Int) : Calls Try.prog 25 #[.pointer none, .int .i64 s] w fun e w' => e = .returned (.bool false) ∧ w' = w := by
  have HC := hide (at_nil w s)
  go_enter Try.func25, Try.ntmps25
  go_wp2_with (go_at_call 33; (with_reducible refine HC.out.mono ?_); rintro e w' ⟨rfl, rfl⟩)
  go_ret
  exact ⟨rfl, rfl⟩
def busyO : Option SesV → Nat
  | none => 0
  | some v => v.busy
theorem busy_any (w : World) (zp : Nat) (os : List (Option SesV)) (s : Int) (h : PinsAt w zp os) : Calls Try.prog 26 #[.pointer (some ⟨zp, 0, none⟩), .int .i64 s] w fun e w' => e = .returned (.int .i64 (busyO (sel os s) : Nat)) ∧ w' = w := by
  have HC := hide (at_any w zp os s h)
  have hs := h.sel s
  clear h
  generalize sel os s = o at HC hs ⊢
  cases o with
  | none =>
    have HC' : Hid (Calls Try.prog 33 #[.pointer (some ⟨zp, 0, none⟩), .int .i64 s] w fun e w' => e = .returned (.pointer none) ∧ w' = w) := HC
    clear HC hs
    go_enter Try.func26, Try.ntmps26
    go_wp2_with (go_at_call 33; (with_reducible refine HC'.out.mono ?_); rintro e w' ⟨rfl, rfl⟩)
    go_ret
    exact ⟨rfl, rfl⟩
  | some v =>
    have HC' : Hid (Calls Try.prog 33 #[.pointer (some ⟨zp, 0, none⟩), .int .i64 s] w fun e w' => e = .returned (.pointer (some ⟨v.zs, 0, none⟩)) ∧ w' = w) := HC
    have hc : w.cell? ⟨v.zs, 1, none⟩ = some (.int .i64 (v.busy : Int)) := by rw [(hs v rfl).blk.cell]; rfl
    clear HC hs
    go_enter Try.func26, Try.ntmps26
    go_wp2_with (go_at_call 33; (with_reducible refine HC'.out.mono ?_); rintro e w' ⟨rfl, rfl⟩)
    go_ret
    exact ⟨rfl, rfl⟩
theorem busy_nil (w : World) (s : Int) : Calls Try.prog 26 #[.pointer none, .int .i64 s] w fun e w' => e = .returned (.int .i64 0) ∧ w' = w := by
  have HC := hide (at_nil w s)
  go_enter Try.func26, Try.ntmps26
  go_wp2_with (go_at_call 33; (with_reducible refine HC.out.mono ?_); rintro e w' ⟨rfl, rfl⟩)
  go_ret
  exact ⟨rfl, rfl⟩
end Go.Proofs.Ytagnglkkmdeicaa
