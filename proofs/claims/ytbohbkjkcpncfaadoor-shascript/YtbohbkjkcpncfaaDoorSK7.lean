/- ShaBlocks: the walk. -/
import Derived.Test.YtbohbkjkcpncfaaDoorSK6
import Derived.Test.YtbohbkjkcpncfaaDoorSQ
import Derived.Lib.QuietBelow
import Derived.StillTailTactics
namespace Go.Proofs.YtbohbkjkcpncfaaDoor
set_option linter.unusedVariables false
set_option linter.unusedSimpArgs false
open Go.RowKit Go.Sort

theorem mixed : Tryd.prog.follows .mixedOrders = true := by kernel_rfl

/-- A slice of words that can be read. -/
def RdU (w : World) (v : Value) (xs : List Nat) : Prop :=
  ∃ ao c, v = .slice ao xs.length c ∧ xs.length ≤ maxLen ∧ ∀ i (h : i < xs.length), ∃ b o, ao = some ⟨b, o, none⟩ ∧ w.cell? ⟨b, o + i, none⟩ = some (u32c xs[i])
theorem RdU.below {w w' : World} {v : Value} {xs : List Nat} (h : RdU w v xs) (hb : Below w.heap.size w w') : RdU w' v xs := by
  obtain ⟨ao, c, e, hl, hc⟩ := h
  refine ⟨ao, c, e, hl, fun i hi => ?_⟩
  obtain ⟨b, o, e1, e2⟩ := hc i hi
  exact ⟨b, o, e1, (hb.cell (World.block_lt_of_cell? w _ e2)).trans e2⟩
/-- The first eight of some words, and zeros. -/
def eight (xs : List Nat) : S8 := ⟨xs[0]?.getD 0, xs[1]?.getD 0, xs[2]?.getD 0, xs[3]?.getD 0, xs[4]?.getD 0, xs[5]?.getD 0, xs[6]?.getD 0, xs[7]?.getD 0⟩
theorem eight_ok (xs : List Nat) (h : ∀ x ∈ xs, x < 4294967296) : (eight xs).ok := by
  have g (i : Nat) : xs[i]?.getD 0 < 4294967296 := by
    rcases Nat.lt_or_ge i xs.length with hl | hl
    · rw [List.getElem?_eq_getElem hl]; exact h _ (List.getElem_mem hl)
    · rw [List.getElem?_eq_none hl]; decide
  exact ⟨g 0, g 1, g 2, g 3, g 4, g 5, g 6, g 7⟩
/-- The first 64 of some bytes, and zeros. -/
def pad64 (k : Nat) (xs : List UInt8) : List UInt8 := xs.take k ++ List.replicate (64 - (xs.take k).length) 0
theorem pad64_len (k : Nat) (xs : List UInt8) (h : k ≤ 64) : (pad64 k xs).length = 64 := by simp [pad64]; omega
theorem pad64_set (k : Nat) (xs : List UInt8) (hk : k < 64) (hl : k < xs.length) : (pad64 k xs).set k xs[k] = pad64 (k + 1) xs := by
  unfold pad64
  have e1 : (xs.take k).length = k := by simp; omega
  have e2 : (xs.take (k + 1)).length = k + 1 := by simp; omega
  rw [e1, e2, List.set_append_right _ _ (by omega), e1, Nat.sub_self, show 64 - k = (64 - (k + 1)) + 1 by omega, List.replicate_succ, List.set_cons_zero, List.take_succ_eq_append_getElem hl, List.append_assoc]
  rfl
theorem eight_set (xs : List Nat) (k : Nat) (hk : k < 8) (hl : k < xs.length) : (out8 (eight xs) k).set k (u32c xs[k]) = out8 (eight xs) (k + 1) := by
  have := out8_set (eight xs) k hk
  rwa [show (eight xs).nats[k]?.getD 0 = xs[k] by
    rw [← Option.getD_some (a := xs[k]) (b := 0), ← List.getElem?_eq_getElem hl]
    rcases (show k = 0 ∨ k = 1 ∨ k = 2 ∨ k = 3 ∨ k = 4 ∨ k = 5 ∨ k = 6 ∨ k = 7 by omega) with rfl | rfl | rfl | rfl | rfl | rfl | rfl | rfl <;> rfl] at this
/-- Behind the last word there are zeros. -/
theorem eight_end (xs : List Nat) (k : Nat) (hk : k ≤ 8) (h : 8 ≤ k ∨ xs.length ≤ k) : out8 (eight xs) k = (eight xs).nats.map u32c := by
  rcases Nat.lt_or_ge k 8 with h8 | h8
  · have hl : xs.length ≤ k := by omega
    have z (i : Nat) (hi : k ≤ i) : xs[i]?.getD 0 = 0 := by rw [List.getElem?_eq_none (by omega)]; rfl
    unfold out8 eight S8.nats
    rcases (show k = 0 ∨ k = 1 ∨ k = 2 ∨ k = 3 ∨ k = 4 ∨ k = 5 ∨ k = 6 ∨ k = 7 by omega) with rfl | rfl | rfl | rfl | rfl | rfl | rfl | rfl <;> simp [z]
  · obtain rfl : k = 8 := by omega
    rfl
set_option maxRecDepth 40000 in
set_option maxHeartbeats 4000000 in
theorem blocks_any (w : World) (hT : Tabs w) (vw vb : Value) (ws : List Nat) (bs : List UInt8) (hw : RdU w vw ws) (hwl : ∀ x ∈ ws, x < 4294967296) (hb : RdA w vb bs) : Calls Tryd.prog 4 #[.agg #[vw, vb]] w fun e w' => e = .returned (.bool true) ∧ Below w.heap.size w w' := by
  have HT := hide hT
  have HW := hide (fun w' (h : Below w.heap.size w w') => hw.below h)
  have HB := hide (fun w' (h : Below w.heap.size w w') => hb.below h)
  obtain ⟨aw, cw, rfl, hlw, _⟩ := hw
  obtain ⟨ab, cb, rfl, hlb⟩ := hb.slice
  have hok := eight_ok ws hwl
  obtain ⟨n, hn⟩ : ∃ n, n = ws.length := ⟨_, rfl⟩
  obtain ⟨m, hm⟩ : ∃ m, m = bs.length := ⟨_, rfl⟩
  rw [← hn] at hlw HW ⊢
  rw [← hm] at hlb HB ⊢
  have HN := hide hn
  have HM := hide hm
  clear hT hb hwl hn hm
  unfold maxLen at hlw
  go_enter Tryd.func4, Tryd.ntmps4
  go_wp2
  go_loopw [4] (fun i wr => ∃ k : Nat, i = .int .i64 k ∧ k ≤ 8 ∧ k ≤ n ∧ Blk wr (w.heap.size + 1) (out8 (eight ws) k).toArray 33 ∧ Blk wr w.heap.size #[.slice aw n cw, .slice ab m cb] 31 ∧ Below w.heap.size w wr) (fun i _ => 8 - (intOf i).toNat)
  case atStart =>
    refine ⟨0, rfl, by omega, by omega, ?_, (Blk.made w _ _).alloc _, ((Below.refl _ _).alloc (Nat.le_refl _) _).alloc (by simp) _⟩
    have := Blk.made (w.alloc (.cells #[.slice aw n cw, .slice ab m cb] 31)) (out8 (eight ws) 0).toArray 33
    rw [World.size_alloc] at this
    exact this
  case round =>
    obtain ⟨k, rfl, hk, hkl, hS, hX, hbel⟩ := hrel
    have x0 : wr.cell? ⟨w.heap.size, 0, none⟩ = some (.slice aw n cw) := hX.cell 0
    have x1 : wr.cell? ⟨w.heap.size, 1, none⟩ = some (.slice ab m cb) := hX.cell 1
    by_cases hlt : k < 8 ∧ k < n
    · obtain ⟨h8, hl⟩ := hlt
      have hl' : k < ws.length := by rw [← HN.out]; exact hl
      obtain ⟨_, _, e1, _, hc⟩ := HW.out wr hbel
      obtain ⟨bz, bo, e2, hcell⟩ := hc k hl'
      obtain ⟨e3, _, _⟩ := (Value.slice.injEq ..).mp e1
      rw [e2] at e3
      subst e3
      clear e1 e2 hc
      have hset := eight_set ws k h8 hl'
      obtain ⟨x, hx⟩ : ∃ x, x = ws[k] := ⟨_, rfl⟩
      rw [← hx] at hcell hset
      have pz : wr.cell? ⟨w.heap.size + 1, k, none⟩ = some (.int .u32 0) := blk_at hS (out8_next _ k h8)
      have pf := hS.frozen k
      have HS := hide (blk_set hS k (u32c x))
      have HSET := hide hset
      have HX := hide hX
      unfold u32c at hcell
      clear hS hX hset hx
      go_wp2
      refine ⟨⟨k + 1, by go_num, by omega, by omega, ?_, HX.out.setOther ⟨w.heap.size + 1, k, none⟩ _ (by show w.heap.size ≠ w.heap.size + 1; omega), hbel.setCell (Nat.le_succ _) _⟩, by simp [intOf]; omega⟩
      have h := HS.out
      rw [HSET.out] at h
      exact h
    · have hcase : (k < n ∧ ¬ k < 8) ∨ ¬ k < n := by omega
      have HS : Hid (Blk8 wr (w.heap.size + 1) (eight ws)) := by
        rw [eight_end ws k hk (by rw [← HN.out]; omega)] at hS
        exact hS
      have HX := hide hX
      clear hS hX hlt
      rcases hcase with ⟨h1, h2⟩ | h1
      all_goals
        go_wp2
        obtain ⟨wp, rfl⟩ : ∃ w0, w0 = wr := ⟨_, rfl⟩
        go_loopw [6] (fun i wr => ∃ j : Nat, i = .int .i64 j ∧ j ≤ 64 ∧ j ≤ m ∧ Blk wr wp.heap.size ((pad64 j bs).map u8c).toArray 34 ∧ Below wp.heap.size wp wr) (fun i _ => 64 - (intOf i).toNat)
        case atStart =>
          exact ⟨0, rfl, by omega, by omega, Blk.made wp _ _, (Below.refl _ _).alloc (Nat.le_refl _) _⟩
        case round =>
          obtain ⟨j, rfl, hj, hjm, hB, hbl⟩ := hrel
          have hwlt : w.heap.size + 1 < wp.heap.size := Blk.lt HS.out
          have y1 : wr.cell? ⟨w.heap.size, 1, none⟩ = some (.slice ab m cb) := (Blk.below HX.out hbl (Blk.lt HX.out)).cell 1
          have hbw : Below w.heap.size w wr := hbel.trans (hbl.mono hbel.size)
          by_cases hlt : j < 64 ∧ j < m
          · obtain ⟨h8, hl⟩ := hlt
            have hl' : j < bs.length := by rw [← HM.out]; exact hl
            obtain ⟨bz, bo, bc, e1, hcell⟩ := RdA.at (HB.out wr hbw) j hl'
            obtain ⟨e3, _, _⟩ := (Value.slice.injEq ..).mp e1
            subst e3
            clear e1
            have hset := pad64_set j bs h8 hl'
            have hz : ∃ q : Int, wr.cell? ⟨wp.heap.size, j, none⟩ = some (.int .u8 q) := by
              have hpl := pad64_len j bs hj
              exact ⟨_, blk_at hB (by rw [List.getElem?_map, List.getElem?_eq_getElem (by omega)]; rfl)⟩
            obtain ⟨q, hz⟩ := hz
            have pf := hB.frozen j
            have HBS := hide (blk_set hB j (u8c bs[j]))
            rw [← List.map_set, hset] at HBS
            obtain ⟨x, hx⟩ : ∃ x : Int, x = (bs[j].toNat : Int) := ⟨_, rfl⟩
            unfold u8c at HBS
            rw [← hx] at hcell HBS
            clear hB hset hx
            go_wp2
            exact ⟨⟨j + 1, by go_num, by omega, by omega, HBS.out, hbl.setCell (Nat.le_refl _) _⟩, by simp [intOf]; omega⟩
          · have hcase : (j < m ∧ ¬ j < 64) ∨ ¬ j < m := by omega
            obtain ⟨bb, hbb⟩ : ∃ bb, bb = pad64 j bs := ⟨_, rfl⟩
            have HBL := hide (show bb.length = 64 by rw [hbb]; exact pad64_len j bs hj)
            rw [← hbb] at hB
            have HB' := hide hB
            have HS' : Hid (Blk8 wr (w.heap.size + 1) (eight ws)) := hide (Blk.below HS.out hbl (Blk.lt HS.out))
            have HTr := hide (HT.out.below hbw)
            generalize eight ws = sv at hok HS'
            clear hB hbb HX HS HB HW x0 x1 hlt hbel hbl
            rcases hcase with ⟨h3, h4⟩ | h3
            all_goals
              go_wp2
              clear y1
              have hrdB : ∀ W, Below wr.heap.size wr W → Rd W (.slice (some ⟨wp.heap.size, 0, none⟩) 64 64) bb := by
                intro W hW
                refine ⟨_, 64, by rw [HBL.out], by rw [HBL.out]; omega, by unfold maxLen; omega, .inr ⟨_, 0, rfl, fun i hi => ?_⟩⟩
                rw [Nat.zero_add]
                refine blk_at (Blk.below HB'.out hW (Blk.lt HB'.out)) ?_
                rw [List.getElem?_map, List.getElem?_eq_getElem hi]; rfl
              obtain ⟨r, hr⟩ : ∃ r, r = blk sv bb := ⟨_, rfl⟩
              refine b11_one _ (fun _ _ _ _ _ h => h) wr (w.heap.size + 1) wp.heap.size _ _ HS'.out rfl rfl (cells8_one r.a r.b r.c r.d r.e r.f r.g r.h) (fun W hW => (rblock_any W (HTr.out.below hW) sv hok _ bb (hrdB W hW) HBL.out).mono fun e' w' h => ⟨h.1.trans (by rw [← hr]; rfl), h.2⟩) _ (Nat.lt_of_sub_pos (by exact Nat.succ_pos _)) rfl rfl ?_
              intro z w2 hkz hb2 hz
              have HKZ := hide hkz
              have HT2 := hide (HTr.out.below hb2)
              have HS2 : Hid (Blk8 w2 (w.heap.size + 1) sv) := hide (Blk.below HS'.out hb2 (Blk.lt HS'.out))
              have HB2 := hide (Blk.below HB'.out hb2 (Blk.lt HB'.out))
              have h02 : Below w.heap.size w w2 := hbw.trans (hb2.mono hbw.size)
              clear hkz hrdB hb2
              simp only [Act.put, List.setIfInBounds_toArray, List.set_cons_zero, List.set_cons_succ]
              go_wp2_with fail
              refine (rstart_any _ HT2.out).mono ?_
              rintro e w3 ⟨rfl, hb3⟩
              have HKZ3 := hide (Blk.below HKZ.out hb3 (Blk.lt HKZ.out))
              have HT3 := hide (HT2.out.below hb3)
              have HS3 : Hid (Blk8 w3 (w.heap.size + 1) sv) := hide (Blk.below HS2.out hb3 (Blk.lt HS2.out))
              have HB3 := hide (Blk.below HB2.out hb3 (Blk.lt HB2.out))
              have h03 : Below w.heap.size w w3 := h02.trans (hb3.mono h02.size)
              clear HKZ HT2 HS2 HB2 hb3 h02
              unfold S8.val begin8
              go_wp2_with fail
              have hb34 := (Below.refl w3.heap.size w3).alloc (Nat.le_refl _) (.cells (cells8 0x6a09e667 0xbb67ae85 0x3c6ef372 0xa54ff53a 0x510e527f 0x9b05688c 0x1f83d9ab 0x5be0cd19) 33)
              refine b13_walk _ (fun _ _ _ _ _ h => h) (w3.alloc (.cells (cells8 0x6a09e667 0xbb67ae85 0x3c6ef372 0xa54ff53a 0x510e527f 0x9b05688c 0x1f83d9ab 0x5be0cd19) 33)) (w.heap.size + 1) wp.heap.size z w3.heap.size _ _ r.a r.b r.c r.d r.e r.f r.g r.h 0x6a09e667 0xbb67ae85 0x3c6ef372 0xa54ff53a 0x510e527f 0x9b05688c 0x1f83d9ab 0x5be0cd19 ⟨Blk.below HS3.out hb34 (Blk.lt HS3.out), Blk.below HB3.out hb34 (Blk.lt HB3.out), Blk.below HKZ3.out hb34 (Blk.lt HKZ3.out), Blk.made w3 _ _⟩ rfl (by simp [HBL.out]) (fun W' hW' => (block_any W' ((HT3.out.below hb34).below hW') sv hok bb HBL.out).mono fun e' w' h => ⟨h.1.trans (by rw [← hr]; rfl), h.2⟩) (fun W' => (start_any W').mono fun e' w' h => ⟨h.1, h.2⟩) _ (Nat.lt_of_sub_pos (by exact Nat.succ_pos _)) rfl rfl rfl rfl ?_
              intro w5 hb5
              have h05 : Below w.heap.size w w5 := (h03.trans (hb34.mono h03.size)).trans (hb5.mono (Nat.le_trans h03.size hb34.size))
              simp only [Act.put, List.setIfInBounds_toArray, List.set_cons_zero, List.set_cons_succ]
              go_wp2
              go_ret
              exact ⟨rfl, h05⟩
end Go.Proofs.YtbohbkjkcpncfaaDoor
