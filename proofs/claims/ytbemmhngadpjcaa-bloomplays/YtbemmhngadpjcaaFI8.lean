/- Open of a filter, the document's, walked. -/
import Derived.Test.YtbemmhngadpjcaaFI7
namespace Go.Proofs.Ytbemmhngadpjcaa
set_option linter.unusedVariables false
set_option linter.unusedSimpArgs false
open Go.RowKit

theorem hF_eq (xs : List UInt8) (h : 3 ≤ xs.length) : hF xs = (xs[0]'(by omega)).toNat := by
  rcases xs with _ | ⟨a, r⟩
  · simp at h
  · simp [hF, leNat]
theorem cntF_eq (xs : List UInt8) (h : 3 ≤ xs.length) : cntF xs = (xs[1]'(by omega)).toNat + 256 * (xs[2]'(by omega)).toNat := by
  rcases xs with _ | ⟨a, _ | ⟨b, _ | ⟨c, r⟩⟩⟩
  · simp at h
  · simp at h
  · simp at h
  · simp [cntF, leNat]
def ROpenFC (w : World) (xs : List UInt8) (e : Ending) (w' : World) : Prop :=
  (¬ OkB xs ∧ e = .returned (.pointer none) ∧ Below w.heap.size w w') ∨ (OkB xs ∧ ∃ z, e = .returned (.pointer (some ⟨z, 0, none⟩)) ∧ Below w.heap.size w w')
theorem RdA.cells {w : World} {v : Value} {xs : List UInt8} (h : RdA w v xs) (h0 : 0 < xs.length) : ∃ b o c, v = .slice (some ⟨b, o, none⟩) xs.length c ∧ ∀ i (h : i < xs.length), w.cell? ⟨b, o + i, none⟩ = some (u8c xs[i]) := by
  rcases h with h | ⟨a, _, rfl⟩
  · rcases h.form with ⟨_, rfl⟩ | h
    · simp at h0
    · exact h
  · simp at h0
theorem below_drewN {w wr : World} (h : Below w.heap.size w wr) (n : Nat) : Below w.heap.size w (wr.drewN n) := ⟨h.os, h.tape, h.output, h.size, h.block⟩
set_option maxRecDepth 20000 in
set_option maxHeartbeats 8000000 in
theorem rfopen_any (w : World) (v : Value) (xs : List UInt8) (hv : RdA w v xs) : Calls Try.prog 18 #[v] w (ROpenFC w xs) := by
  obtain ⟨ao, c0, hvs, hl63⟩ := hv.slice
  by_cases h3 : xs.length < 3
  · subst hvs
    have h3i : (xs.length : Int) < 3 := by omega
    have HN : Hid (¬ OkB xs) := hide (fun h => by have := h.1; omega)
    clear hv
    go_enter Try.func18, Try.ntmps18
    go_wp2
    go_ret
    exact .inl ⟨HN.out, rfl, Below.refl _ _⟩
  · clear hvs
    obtain ⟨b, o, c1, rfl, hcell⟩ := hv.cells (by omega)
    have h3i : ¬ (xs.length : Int) < 3 := by omega
    have h3b : (0 : Int) < xs.length := by omega
    have h3c : (1 : Int) < xs.length := by omega
    have h3d : (2 : Int) < xs.length := by omega
    have q0 := hcell 0 (by omega)
    have q1 := hcell 1 (by omega)
    have q2 := hcell 2 (by omega)
    have hH := hF_eq xs (by omega)
    have hC := cntF_eq xs (by omega)
    unfold u8c at q0 q1 q2
    obtain ⟨x0, hx0⟩ : ∃ x, x = (xs[0]'(by omega)).toNat := ⟨_, rfl⟩
    obtain ⟨x1, hx1⟩ : ∃ x, x = (xs[1]'(by omega)).toNat := ⟨_, rfl⟩
    obtain ⟨x2, hx2⟩ : ∃ x, x = (xs[2]'(by omega)).toNat := ⟨_, rfl⟩
    have b0 : x0 < 256 := by rw [hx0]; exact UInt8.toNat_lt _
    have b1 : x1 < 256 := by rw [hx1]; exact UInt8.toNat_lt _
    have b2 : x2 < 256 := by rw [hx2]; exact UInt8.toNat_lt _
    rw [← hx0] at q0 hH
    rw [← hx1] at q1 hC
    rw [← hx2] at q2 hC
    rw [Nat.add_zero] at q0
    have HC := hide hcell
    have HH := hide hH
    have HCn := hide hC
    obtain ⟨k, hk⟩ : ∃ k, k = 64 * (x1 + 256 * x2) := ⟨_, rfl⟩
    have HKe := hide hk
    have hkb : k ≤ 4194240 := by omega
    have hki : 64 * ((x1 : Int) + 256 * (x2 : Int)) = (k : Int) := by omega
    clear hcell hH hC hx0 hx1 hx2 hv hk
    go_enter Try.func18, Try.ntmps18
    go_wp2
    go_quiet (fail)
    go_wp2_with fail
    have HW : Hid (Below w.heap.size w (w.drewN nq)) := hide (below_drewN (Below.refl _ _) nq)
    obtain ⟨W, hW⟩ : ∃ W, W = w.drewN nq := ⟨_, rfl⟩
    rw [← hW] at HW ⊢
    clear hW
    have hOk : OkB xs ↔ NewOk (k : Int) x0 ∧ xs.length = 3 + k / 8 := by
      have e1 := HH.out
      have e2 := HCn.out
      have e3 := HKe.out
      unfold OkB NewOk
      rw [e1, e2]
      omega
    have HOk := hide hOk
    clear hOk
    by_cases hok : NewOk (k : Int) x0
    · have CN := hide (rnew_in W k x0 hok)
      have HOK := hide hok
      have hkm : k ≤ 1048576 := by unfold NewOk at hok; omega
      clear hok
      refine CN.out.mono ?_
      rintro e w2 ⟨rfl, hf, hb2, hs2⟩
      obtain ⟨z, hz⟩ : ∃ z, z = W.heap.size + 1 := ⟨_, rfl⟩
      obtain ⟨g, hg⟩ : ∃ g, g = W.heap.size := ⟨_, rfl⟩
      have hgl : w.heap.size ≤ g := by rw [hg]; exact HW.out.size
      rw [← hz, ← hg] at hf
      rw [← hz]
      have HF := hide hf
      have HB2 := hide (HW.out.trans (hb2.mono HW.out.size))
      have hd8 : Int.tdiv (k : Int) 8 = ((k / 8 : Nat) : Int) := (Int.ofNat_tdiv k 8).symm
      obtain ⟨m, hm⟩ : ∃ m, m = k / 8 := ⟨_, rfl⟩
      rw [← hm] at hd8
      have HM := hide hm
      clear hf hb2 hs2 hz hg CN hm
      have hmb : m ≤ 131072 := by have := HM.out; omega
      by_cases hlen : xs.length = 3 + m
      · have hli : (xs.length : Int) = 3 + (m : Int) := by omega
        have hOk := HOk.out.2 ⟨HOK.out, by rw [← HM.out]; exact hlen⟩
        have HOkx := hide hOk
        have HLen := hide hlen
        clear hOk hlen
        go_wp2
        go_loopw [5] (fun s5 wr => ∃ (i : Nat) (bs : List Bool), s5 = .int .i64 i ∧ i ≤ k ∧ bs.length = k ∧ RFil wr z g x0 bs ∧ Below w.heap.size w wr) (fun s5 _ => k - (intOf s5).toNat)
        case atStart => exact ⟨0, List.replicate k false, rfl, by omega, List.length_replicate, HF.out, HB2.out⟩
        case round =>
          obtain ⟨i, bs, rfl, hi, hbs, hR, hB⟩ := hrel
          obtain ⟨wp, hwp⟩ : ∃ w0, w0 = wr := ⟨_, rfl⟩
          rw [← hwp] at hR hB ⊢
          clear hwp
          have HR := hide hR
          have HB := hide hB
          have HBs := hide hbs
          clear hR hB hbs
          by_cases hlt : i < k
          · have hii : (i : Int) < k := by omega
            obtain ⟨j, hj⟩ : ∃ j, j = i / 8 := ⟨_, rfl⟩
            obtain ⟨t, ht⟩ : ∃ t, t = i % 8 := ⟨_, rfl⟩
            have hdi : Int.tdiv (i : Int) 8 = (j : Int) := by rw [hj]; exact (Int.ofNat_tdiv i 8).symm
            have hmi : Int.tmod (i : Int) 8 = (t : Int) := by rw [ht]; exact (Int.ofNat_tmod i 8).symm
            have htb : t < 8 := by omega
            have hjm : j < m := by have := HM.out; omega
            have hjx : 3 + j < xs.length := by have := HLen.out; omega
            have q3 := (HB.out.cell (World.block_lt_of_cell? w _ (HC.out (3 + j) hjx))).trans (HC.out (3 + j) hjx)
            unfold u8c at q3
            obtain ⟨y, hy⟩ : ∃ y, y = (xs[3 + j]).toNat := ⟨_, rfl⟩
            have hyb : y < 256 := by rw [hy]; exact UInt8.toNat_lt _
            rw [← hy] at q3
            have hji : 3 + (j : Int) < 3 + (m : Int) := by omega
            clear hy hj ht
            go_wp2
            go_loopw [6, 7] (fun s6 s7 wi => ∃ (u f : Nat), s6 = .int .u8 u ∧ u < 256 ∧ s7 = .int .i64 f ∧ f ≤ t ∧ wp = wi) (fun _ s7 _ => t - (intOf s7).toNat)
            case atStart => exact ⟨y, 0, rfl, hyb, rfl, by omega, rfl⟩
            case round =>
              obtain ⟨u, f, rfl, hu, rfl, hf, hwi⟩ := hrel
              subst hwi
              by_cases hft : f < t
              · have hfi : (f : Int) < t := by omega
                have hu2 : Int.tdiv (u : Int) 2 = ((u / 2 : Nat) : Int) := (Int.ofNat_tdiv u 2).symm
                go_wp2
                exact ⟨⟨u / 2, f + 1, by go_num, by omega, by go_num, by omega, trivial⟩, by simp [intOf]; omega⟩
              · have hfi : ¬ (f : Int) < t := by omega
                have hum : Int.tmod (u : Int) 2 = ((u % 2 : Nat) : Int) := (Int.ofNat_tmod u 2).symm
                obtain ⟨r, hr⟩ : ∃ r, r = u % 2 := ⟨_, rfl⟩
                rw [← hr] at hum
                have hrb : r < 2 := by omega
                have cz : wp.cell? ⟨z, 0, none⟩ = some (.slice (some ⟨g, 0, none⟩) k k) := by
                  have := HR.out.zb.cell 0
                  rw [HBs.out] at this
                  exact this
                obtain ⟨ob, hob⟩ : ∃ ob, wp.cell? ⟨g, i, none⟩ = some (.bool ob) := by
                  refine ⟨bs[i]'(by have := HBs.out; omega), ?_⟩
                  rw [HR.out.gb.cell]
                  simp [List.getElem?_eq_getElem (show i < bs.length by have := HBs.out; omega)]
                have fz := HR.out.gb.frozen i
                clear hr
                obtain ⟨bb, hbb⟩ : ∃ bb, ((r : Int) == 1) = bb := ⟨_, rfl⟩
                have HR2 := hide (HR.out.setB i bb)
                have HB2' := hide (HB.out.setCell (p := ⟨g, i, none⟩) hgl (.bool bb))
                go_wp2
                go_roundw
                case rel => exact ⟨i + 1, bs.set i bb, by go_num, by omega, by rw [List.length_set]; exact HBs.out, HR2.out, HB2'.out⟩
                case measure => simp [intOf]; omega
          · have hii : ¬ (i : Int) < k := by omega
            go_wp2
            go_ret
            exact .inr ⟨HOkx.out, z, rfl, HB.out⟩
      · have hli : ¬ (xs.length : Int) = 3 + (m : Int) := by omega
        have hlb : ((xs.length : Int) == 3 + (m : Int)) = false := by rw [beq_eq_false_iff_ne]; exact hli
        have HNo : Hid (¬ OkB xs) := hide (fun h => hlen (by rw [HM.out]; exact (HOk.out.1 h).2))
        clear hlen
        go_wp2
        go_ret
        exact .inl ⟨HNo.out, rfl, HB2.out⟩
    · have CN := hide (rnew_out W (k : Int) x0 hok)
      have HNo : Hid (¬ OkB xs) := hide (fun h => hok (HOk.out.1 h).1)
      clear hok
      refine CN.out.mono ?_
      rintro e w2 ⟨rfl, rfl⟩
      go_wp2
      go_ret
      exact .inl ⟨HNo.out, rfl, HW.out⟩
end Go.Proofs.Ytbemmhngadpjcaa
