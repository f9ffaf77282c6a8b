/- Pins: Open, Pin, Close where they are done. -/
import Derived.Test.YtagnglkkmdeicaaPN2
namespace Go.Proofs.Ytagnglkkmdeicaa
set_option linter.unusedVariables false
set_option linter.unusedSimpArgs false
open Go.RowKit
set_option maxRecDepth 100000

theorem SesAt.grown {w w' : World} {v : SesV} {row : Option Nat} (h : SesAt w v) (hg : w.grownBy w' row) (h1 : some v.zs ≠ row) (h2 : some v.z ≠ row) (h3 : some v.b ≠ row) : SesAt w' v := ⟨h.blk.grown hg h1, h.set.grown hg h2 h3⟩
theorem pinL_set (os : List (Option SesV)) (k : Nat) (o : Option SesV) : (pinL os).toArray.setIfInBounds (1 + k) (ptS o) = (pinL (os.set k o)).toArray := by
  unfold pinL
  rw [List.setIfInBounds_toArray, Nat.add_comm, List.set_cons_succ, List.map_set]
theorem PinsAt.ne {w : World} {zp : Nat} {os : List (Option SesV)} (h : PinsAt w zp os) {s : Nat} {v : SesV} (e : os[s]? = some (some v)) : zp ≠ v.zs ∧ zp ≠ v.z ∧ zp ≠ v.b :=
  ⟨blk_ne h.blk (h.ses s v e).blk (by decide), blk_ne h.blk (h.ses s v e).set.blk (by decide), blk_map_ne h.blk (h.ses s v e).set⟩
theorem get_set {α : Type} {l : List α} {k s : Nat} {a b : α} (h : (l.set k a)[s]? = some b) : (s = k ∧ b = a) ∨ (s ≠ k ∧ l[s]? = some b) := by
  by_cases e : s = k
  · subst e
    rcases Nat.lt_or_ge s l.length with hl | hl
    · rw [List.getElem?_set_self hl] at h
      exact .inl ⟨rfl, (Option.some.inj h).symm⟩
    · rw [List.getElem?_eq_none (by simpa using hl)] at h; cases h
  · rw [List.getElem?_set_ne (fun e2 => e e2.symm)] at h
    exact .inr ⟨e, h⟩
/-- A place is set: to nil, or to a session that was made since. -/
theorem PinsAt.put {w w1 : World} {zp : Nat} {os : List (Option SesV)} (h : PinsAt w zp os) (hb : Below w.heap.size w w1) (k : Nat) (o : Option SesV) (ho : ∀ v, o = some v → SesAt w1 v ∧ w.heap.size ≤ v.zs ∧ w.heap.size ≤ v.z ∧ w.heap.size ≤ v.b) :
    PinsAt (w1.setCell ⟨zp, 1 + k, none⟩ (ptS o)) zp (os.set k o) ∧ w.grownBy (w1.setCell ⟨zp, 1 + k, none⟩ (ptS o)) (some zp) := by
  have hz := h.blk.lt
  have hg := grownBy_set w1 zp (1 + k) (ptS o)
  refine ⟨⟨?_, by rw [List.length_set]; exact h.len, fun s v e => ?_, fun s t v u e1 e2 hne => ?_⟩, grownBy_trans (grownBy_below hb) hg⟩
  · have := (h.blk.below hb hz).set (1 + k) (ptS o)
    rw [pinL_set] at this
    exact this
  · rcases get_set e with ⟨_, rfl⟩ | ⟨_, e⟩
    · obtain ⟨h1, h2, h3, h4⟩ := ho v rfl
      exact h1.grown hg (fun e => by have := Option.some.inj e; omega) (fun e => by have := Option.some.inj e; omega) (fun e => by have := Option.some.inj e; omega)
    · obtain ⟨n1, n2, n3⟩ := h.ne e
      exact ((h.ses s v e).below hb).grown hg (fun e => n1 (Option.some.inj e).symm) (fun e => n2 (Option.some.inj e).symm) (fun e => n3 (Option.some.inj e).symm)
  · rcases get_set e1 with ⟨r1, q1⟩ | ⟨r1, e1⟩
    · obtain ⟨_, a2, _, a4⟩ := ho v q1.symm
      rcases get_set e2 with ⟨r2, q2⟩ | ⟨r2, e2⟩
      · exact absurd (r1.trans r2.symm) hne
      · have b1 := (h.ses t u e2).blk.lt
        have b2 := (h.ses t u e2).set.set.lt
        exact ⟨by omega, by omega⟩
    · rcases get_set e2 with ⟨r2, q2⟩ | ⟨r2, e2⟩
      · obtain ⟨_, a2, _, a4⟩ := ho u q2.symm
        have b1 := (h.ses s v e1).blk.lt
        have b2 := (h.ses s v e1).set.set.lt
        exact ⟨by omega, by omega⟩
      · exact h.apart s t v u e1 e2 hne
/-- A session's keys are others now. -/
theorem PinsAt.turn {w w1 : World} {zp : Nat} {os : List (Option SesV)} (h : PinsAt w zp os) {k : Nat} {v : SesV} (hk : os[k]? = some (some v)) (S : List (List UInt8)) (hg : w.grownBy w1 (some v.b)) (hs : SetAt w1 v.z v.b S) : PinsAt w1 zp (os.set k (some { v with S := S })) := by
  obtain ⟨n1, n2, n3⟩ := h.ne hk
  have hl : k < os.length := (List.getElem?_eq_some_iff.1 hk).1
  have he : os.map ptS = (os.set k (some { v with S := S })).map ptS := by
    rw [List.map_set]
    apply List.ext_getElem?
    intro i
    by_cases e : i = k
    · subst e
      rw [List.getElem?_set_self (by simpa using hl), List.getElem?_map, hk]; rfl
    · rw [List.getElem?_set_ne (fun e2 => e e2.symm)]
  refine ⟨?_, by rw [List.length_set]; exact h.len, fun s u e => ?_, fun s t u x e1 e2 hne => ?_⟩
  · have := h.blk.grown hg (fun e => n3 (Option.some.inj e))
    unfold pinL at this ⊢
    rw [he] at this
    exact this
  · rcases get_set e with ⟨_, q⟩ | ⟨r, e⟩
    · cases q
      have hb : v.zs ≠ v.b := blk_map_ne (h.ses k v hk).blk (h.ses k v hk).set
      exact ⟨(h.ses k v hk).blk.grown hg (fun e => hb (Option.some.inj e)), hs⟩
    · have ha := h.apart s k u v e hk r
      have hu := h.ses s u e
      have hv := (h.ses k v hk).set
      refine hu.grown hg (fun e => ?_) (fun e => ?_) (fun e => ha.1 (Option.some.inj e))
      · exact blk_map_ne hu.blk hv (Option.some.inj e)
      · exact blk_map_ne hu.set.blk hv (Option.some.inj e)
  · rcases get_set e1 with ⟨r1, q1⟩ | ⟨r1, e1⟩
    · cases q1
      rcases get_set e2 with ⟨r2, q2⟩ | ⟨r2, e2⟩
      · exact absurd (r1.trans r2.symm) hne
      · exact h.apart k t v x hk e2 (fun e => r2 e.symm)
    · rcases get_set e2 with ⟨r2, q2⟩ | ⟨r2, e2⟩
      · cases q2
        exact h.apart s k u v e1 hk r1
      · exact h.apart s t u x e1 e2 hne
def OpenedC (w : World) (zp : Nat) (os : List (Option SesV)) (k : Nat) (e : Ending) (w' : World) : Prop := e = .returned (.int .i64 0) ∧ ∃ v : SesV, v.busy = 0 ∧ v.S = [] ∧ w.heap.size ≤ v.zs ∧ w.heap.size ≤ v.z ∧ w.heap.size ≤ v.b ∧ PinsAt w' zp (os.set k (some v)) ∧ w.grownBy w' (some zp)
theorem newSet_none (w : World) : Calls Try.prog 30 #[.slice none 0 0] w (NewC w []) := newSet_any w none 0 0 [] rfl ⟨fun i h => absurd h (by simp), fun k h => absurd h (by simp)⟩ (by decide)
set_option maxHeartbeats 1000000 in
theorem open_yes (w : World) (zp : Nat) (os : List (Option SesV)) (k : Nat) (hk : k < 16) (h : PinsAt w zp os) (hn : os[k]? = some none) : Calls Try.prog 9 #[.pointer (some ⟨zp, 0, none⟩), .int .i64 (k : Int)] w (OpenedC w zp os k) := by
  have HT := hide (there_yes w zp os h)
  have HI := hide (isSes_yes w k hk)
  have hc : w.cell? ⟨zp, 1 + k, none⟩ = some (.pointer none) := h.cell hn
  have HH := hide h
  have hk2 : (k : Int) < 16 := by omega
  have HK := hide hk
  clear h hn hk
  go_enter Try.func9, Try.ntmps9
  go_upto_region 7 with (first | (go_at_call 28; (with_reducible refine HT.out.mono ?_); rintro e w' ⟨rfl, rfl⟩) | (go_at_call 29; (with_reducible refine HI.out.mono ?_); rintro e w' ⟨rfl, rfl⟩))
  refine po_walk _ (fun _ _ _ _ _ h => h) w' zp k (.pointer none) (fun z w1 => ∃ b, w'.heap.size ≤ z ∧ w'.heap.size ≤ b ∧ SetAt w1 z b [] ∧ Below w'.heap.size w' w1) HK.out ?_ ?_ _ (Nat.lt_of_sub_pos (by exact Nat.succ_pos _)) rfl rfl ?_
  · rintro z w1 ⟨b, h1, h2, h3, h4⟩
    have hb := h4.alloc h4.size (.cells #[.pointer (some ⟨z, 0, none⟩), .int .i64 0] 66)
    have hB := HH.out.blk.below hb HH.out.blk.lt
    refine ⟨?_, hB.frozen _⟩
    rw [hb.cell (p := ⟨zp, 1 + k, none⟩) HH.out.blk.lt]
    exact hc
  · refine (newSet_none w'.drew).mono ?_
    rintro e w1 ⟨z, b, rfl, h1, h2, h3, h4⟩
    exact ⟨z, rfl, b, h1, h2, h3, (below_d w').trans h4⟩
  rintro z w1 ⟨b, h1, h2, h3, h4⟩
  have hb := h4.alloc h4.size (.cells #[.pointer (some ⟨z, 0, none⟩), .int .i64 0] 66)
  have hp := HH.out.put hb k (some ⟨w1.heap.size, z, b, 0, []⟩) (fun v e => by
    cases e
    exact ⟨⟨Blk.made w1 _ _, h3.below ((Below.refl _ _).alloc (Nat.le_refl _) _)⟩, h4.size, h1, h2⟩)
  have HP := hide hp
  have HS := hide h4.size
  have H1 := hide h1
  have H2 := hide h2
  clear h1 h2 h3 h4 hb hp hc HH HT HI
  simp only [Act.put, List.setIfInBounds_toArray, List.set_cons_zero, List.set_cons_succ]
  go_wp2
  go_ret
  exact ⟨rfl, ⟨w1.heap.size, z, b, 0, []⟩, rfl, rfl, HS.out, H1.out, H2.out, HP.out.1, HP.out.2⟩
def PinnedC (w : World) (zp : Nat) (os : List (Option SesV)) (k : Nat) (v : SesV) (x : List UInt8) (e : Ending) (w' : World) : Prop := e = .returned (.int .i64 0) ∧ PinsAt w' zp (os.set k (some { v with S := addK x v.S })) ∧ w.grownBy w' (some v.b)
set_option maxHeartbeats 1000000 in
theorem pin_yes (w : World) (zp : Nat) (os : List (Option SesV)) (k : Nat) (v : SesV) (x : List UInt8) (hk : k < 16) (hx : x.length = 32) (h : PinsAt w zp os) (hn : os[k]? = some (some v)) (hl : v.S.length < maxLen) : Calls Try.prog 10 #[.pointer (some ⟨zp, 0, none⟩), .int .i64 (k : Int), keyV x] w (PinnedC w zp os k v x) := by
  obtain ⟨W, hW⟩ : ∃ W, W = w.alloc (.cells (x.map u8c).toArray 30) := ⟨_, rfl⟩
  have hb : Below w.heap.size w W := by rw [hW]; exact (Below.refl _ _).alloc (Nat.le_refl _) _
  have hP := h.below hb
  have HO0 := opened_any W zp os k hP
  rw [sel_in hk hn] at HO0
  have HO : Hid (Calls Try.prog 31 #[.pointer (some ⟨zp, 0, none⟩), .int .i64 (k : Int)] W fun e w' => e = .returned (.tuple #[.pointer (some ⟨v.zs, 0, none⟩), .int .i64 0]) ∧ w' = W) := HO0
  have hKA : KeyAt W w.heap.size x := by rw [hW]; exact ⟨Blk.made w _ _, hx⟩
  have hbd := below_d W
  have hPd := hP.below hbd
  have hc : W.drew.cell? ⟨v.zs, 0, none⟩ = some (.pointer (some ⟨v.z, 0, none⟩)) := by rw [(hPd.ses k v hn).blk.cell]; rfl
  have HKL : Hid ((Instr.loadAt 30 (.pointer (some ⟨w.heap.size, 0, none⟩))).run Try.prog W.drew = .ok (keyV x) W.drew) := hide (hKA.below hbd).load
  have HA := hide (add_any W.drew v.z v.b v.S x hx (hPd.ses k v hn).set hl)
  have HN := hide hn
  have HPD := hide hPd
  have HB := hide (hb.trans (hbd.mono hb.size))
  clear HO0 h hP hPd hKA hbd hn hl hx hb
  show Calls Try.prog 10 #[.pointer (some ⟨zp, 0, none⟩), .int .i64 (k : Int), .agg (x.map u8c).toArray] w _
  go_enter Try.func10, Try.ntmps10
  go_upto_region 1 with fail
  rw [← hW]
  clear hW
  go_upto_region 4 with (go_at_call 31; (with_reducible refine HO.out.mono ?_); rintro e w' ⟨rfl, rfl⟩)
  refine wp_region_still_tail 5 (by kernel_rfl) (by kernel_rfl) ?_
  simp only [List.take_succ_cons, List.take_zero, List.drop_succ_cons, List.drop_zero]
  still_step
  still_step
  still_step
  still_step
  refine wpStill_val (keyV x) rfl (run_load rfl rfl HKL.out) ?_
  refine wpStill_nil ?_
  go_wp2_with (go_at_call 32; (with_reducible refine HA.out.mono ?_); rintro e w2 ⟨rfl, hS2, hg2⟩)
  go_ret
  exact ⟨rfl, HPD.out.turn HN.out _ hg2 hS2, grownBy_trans (grownBy_below HB.out) hg2⟩
set_option maxHeartbeats 1000000 in
theorem close_yes (w : World) (zp : Nat) (os : List (Option SesV)) (k : Nat) (v : SesV) (hk : k < 16) (h : PinsAt w zp os) (hn : os[k]? = some (some v)) (hb : v.busy = 0) : Calls Try.prog 17 #[.pointer (some ⟨zp, 0, none⟩), .int .i64 (k : Int)] w fun e w' => e = .returned (.int .i64 0) ∧ PinsAt w' zp (os.set k none) ∧ w.grownBy w' (some zp) := by
  have HO0 := opened_any w zp os k h
  rw [sel_in hk hn] at HO0
  have HO : Hid (Calls Try.prog 31 #[.pointer (some ⟨zp, 0, none⟩), .int .i64 (k : Int)] w fun e w' => e = .returned (.tuple #[.pointer (some ⟨v.zs, 0, none⟩), .int .i64 0]) ∧ w' = w) := HO0
  have hc : w.cell? ⟨v.zs, 1, none⟩ = some (.int .i64 0) := by
    rw [(h.ses k v hn).blk.cell]; show some (Value.int .i64 (v.busy : Int)) = _; rw [hb]; rfl
  have hc2 : w.cell? ⟨zp, 1 + k, none⟩ = some (.pointer (some ⟨v.zs, 0, none⟩)) := h.cell hn
  have hf := h.blk.frozen (1 + k)
  have HP : Hid (PinsAt (w.setCell ⟨zp, 1 + k, none⟩ (.pointer none)) zp (os.set k none) ∧ w.grownBy (w.setCell ⟨zp, 1 + k, none⟩ (.pointer none)) (some zp)) := hide (h.put (Below.refl _ _) k none (fun v e => by cases e))
  have hk2 : (k : Int) < 16 := by omega
  clear HO0 h hn hb
  go_enter Try.func17, Try.ntmps17
  go_wp2_with (go_at_call 31; (with_reducible refine HO.out.mono ?_); rintro e w' ⟨rfl, rfl⟩)
  go_ret
  exact ⟨rfl, HP.out.1, HP.out.2⟩
end Go.Proofs.Ytagnglkkmdeicaa
