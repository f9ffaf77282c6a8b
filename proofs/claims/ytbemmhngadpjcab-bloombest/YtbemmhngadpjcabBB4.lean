/- BloomBest, walked. -/
import Derived.Test.YtbemmhngadpjcabBB3
import Derived.Lib.QuietBelow
namespace Go.Proofs.Ytbemmhngadpjcab
set_option linter.unusedVariables false
set_option linter.unusedSimpArgs false
open Go.RowKit Go.Sort Ieee

/-- The rates, some of them no numbers. -/
def mixF (rs : List Nat) (ns : List Bool) : List Nat := (List.range rs.length).map (fun i => if ns[i]?.getD false then NAN else rs[i]?.getD 0)
theorem mix_len (rs : List Nat) (ns : List Bool) : (mixF rs ns).length = rs.length := by simp [mixF]
theorem mix_take (rs : List Nat) (ns : List Bool) (k : Nat) (hk : k < rs.length) : (mixF rs ns).take (k + 1) = (mixF rs ns).take k ++ [if ns[k]?.getD false then NAN else rs[k]?.getD 0] := by
  rw [List.take_succ_eq_append_getElem (by rw [mix_len]; exact hk)]
  congr 2
  simp [mixF]
theorem best_two : bestI (bestK [NAN, 4602678819172646912] 2) = 1 := by decide
theorem best_none : bestI (bestK [] 0) = -1 := rfl
def TrueC (w : World) (e : Ending) (w' : World) : Prop := e = .returned (.bool true) ∧ Below w.heap.size w w'
theorem below_to {w a b : World} (h : Below w.heap.size w a) (k : Below w.heap.size a b) : Below w.heap.size w b := h.trans k
set_option maxRecDepth 20000 in
set_option maxHeartbeats 8000000 in
theorem best_law (w : World) (v u : Value) (rs : List Nat) (ns : List Bool) (hv : RdF w v rs) (hu : RdZ w u ns) (hlen : rs.length ≤ 17592186044416) : Calls Try.prog 3 #[v, u] w (TrueC w) := by
  obtain ⟨ao, c, rfl, hl, hf⟩ := hv
  obtain ⟨bo, d, rfl, hl2, hg⟩ := hu
  have HF := hide hf
  have HG := hide hg
  clear hf hg
  have HN := hide (fun W => nan_any W)
  obtain ⟨M, hM⟩ : ∃ M, M = mixF rs ns := ⟨_, rfl⟩
  have hMn := mix_len rs ns
  rw [← hM] at hMn
  have HMt : Hid (∀ k, k < rs.length → M.take (k + 1) = M.take k ++ [if ns[k]?.getD false then NAN else rs[k]?.getD 0]) := hide (fun k hk => by rw [hM]; exact mix_take rs ns k hk)
  have HMn := hide hMn
  clear hM hMn
  go_enter Try.func3, Try.ntmps3
  go_wp2
  go_loopw [5, 6] (fun s5 s6 wr => ∃ (va : Value) (k : Nat), va = s5 ∧ s6 = .int .i64 k ∧ k ≤ rs.length ∧ Hid (OwnsF wr w.heap.size va (M.take k)) ∧ Below w.heap.size w wr) (fun _ s6 _ => rs.length - (intOf s6).toNat)
  case atStart => exact ⟨_, 0, rfl, rfl, by omega, hide (World.ownsRow_nil _ _ _ _), Below.refl _ _⟩
  case round =>
    obtain ⟨va, k, rfl, rfl, hk, HO, hbel⟩ := hrel
    by_cases hlt : k < rs.length
    · have hki : (k : Int) < rs.length := by omega
      obtain ⟨wp, hwp⟩ : ∃ w0, w0 = wr := ⟨_, rfl⟩
      rw [← hwp] at HO hbel ⊢
      clear hwp
      have HBel := hide hbel
      have hsz : w.heap.size ≤ wp.heap.size := hbel.size
      have HT := hide (HMt.out k hlt)
      have htl : (M.take k).length = k := by rw [List.length_take, HMn.out]; omega
      have HTl := hide htl
      clear htl
      obtain ⟨gr, go', hao, hc⟩ := HF.out (by omega)
      subst hao
      have q1 := (hbel.cell (World.block_lt_of_cell? w _ (hc k hlt))).trans (hc k hlt)
      obtain ⟨x, hx⟩ : ∃ x, x = rs[k] := ⟨_, rfl⟩
      have HX : Hid (rs[k]?.getD 0 = x) := hide (by rw [List.getElem?_eq_getElem hlt, hx]; rfl)
      rw [← hx] at q1
      clear hx hc hbel
      by_cases hkn : k < ns.length
      · have hkni : (k : Int) < ns.length := by omega
        obtain ⟨g2, go2, hbo, hc2⟩ := HG.out (by omega)
        subst hbo
        have q2 := (HBel.out.cell (World.block_lt_of_cell? w _ (hc2 k hkn))).trans (hc2 k hkn)
        have HNk : Hid (ns[k]?.getD false = ns[k]) := hide (by rw [List.getElem?_eq_getElem hkn]; rfl)
        cases hb : ns[k] with
        | true =>
          rw [hb] at q2 HNk
          clear hb hc2
          go_wp2_with fail
          refine (HN.out _).mono ?_
          rintro e w1 ⟨rfl, hb1⟩
          have HB1 := hide (Below.step HBel.out hb1)
          have hs1 := (Below.refl w1.heap.size w1).alloc (Nat.le_refl _) (.cells #[.float .f64 NAN] 24)
          have HOa := hide ((HO.out.below hb1).below hs1)
          have hsz1 : w.heap.size ≤ w1.heap.size := HB1.out.size
          have HBa := hide (Below.step HB1.out hs1)
          clear hb1 hs1
          go_wp2_with (at_builtin; refine wpList_append_oneF rfl _ _ rfl w.heap.size _ (M.take k) rfl HOa.out w1.heap.size 1 rfl NAN ?p1 ?p2 ?p3 ?_)
          case p1 => exact (Blk.made w1 _ _).cell 0
          case p2 => rw [HTl.out]; omega
          case p3 => simp; omega
          intro v' w2 HO2 HB2
          go_wp2
          refine ⟨⟨_, k + 1, rfl, by go_num, by omega, ?_, below_to HBa.out HB2.out⟩, by simp [intOf]; omega⟩
          rw [HT.out, HNk.out]
          exact HO2
        | false =>
          rw [hb] at q2 HNk
          clear hb hc2
          have hs1 := (Below.refl wp.heap.size wp).alloc (Nat.le_refl _) (.cells #[.float .f64 x] 24)
          have HOa := hide (HO.out.below hs1)
          have HBa := hide (Below.step HBel.out hs1)
          clear hs1
          go_wp2_with (at_builtin; refine wpList_append_oneF rfl _ _ rfl w.heap.size _ (M.take k) rfl HOa.out wp.heap.size 1 rfl x ?q1 ?q2 ?q3 ?_)
          case q1 => exact (Blk.made wp _ _).cell 0
          case q2 => rw [HTl.out]; omega
          case q3 => simp; omega
          intro v' w2 HO2 HB2
          go_wp2
          refine ⟨⟨_, k + 1, rfl, by go_num, by omega, ?_, below_to HBa.out HB2.out⟩, by simp [intOf]; omega⟩
          rw [HT.out, HNk.out, HX.out]
          exact HO2
      · have hkni : ¬ (k : Int) < ns.length := by omega
        have HNk : Hid (ns[k]?.getD false = false) := hide (by rw [List.getElem?_eq_none (by omega)]; rfl)
        have hs1 := (Below.refl wp.heap.size wp).alloc (Nat.le_refl _) (.cells #[.float .f64 x] 24)
        have HOa := hide (HO.out.below hs1)
        have HBa := hide (Below.step HBel.out hs1)
        clear hs1
        go_wp2_with (at_builtin; refine wpList_append_oneF rfl _ _ rfl w.heap.size _ (M.take k) rfl HOa.out wp.heap.size 1 rfl x ?r1 ?r2 ?r3 ?_)
        case r2 => have := HMn.out; omega
        case r3 => first | omega | (simp; omega)
        intro v' w2 HO2 HB2
        go_wp2
        refine ⟨⟨_, k + 1, rfl, by go_num, by omega, ?_, below_to HBa.out HB2.out⟩, by simp [intOf]; omega⟩
        rw [HT.out, HNk.out, HX.out]
        exact HO2
    · have hki : ¬ (k : Int) < rs.length := by omega
      obtain ⟨wp, hwp⟩ : ∃ w0, w0 = wr := ⟨_, rfl⟩
      rw [← hwp] at HO hbel ⊢
      clear hwp
      have hO := HO.out
      rw [List.take_of_length_le (by rw [HMn.out]; omega)] at hO
      have HRd := hide hO.rdF
      have HBel := hide hbel
      clear HO hO hbel HF HG HMt HN
      obtain ⟨la, lc, hva, -, -⟩ := HRd.out
      subst hva
      go_wp2_with (at_builtin; refine wpList_append_copyF rfl _ _ rfl _ M rfl rfl HRd.out ?s1 ?_)
      case s1 => rw [HMn.out]; omega
      intro vi w2 HO2 HB2
      have HRi := hide (OwnsF.rdF HO2.out)
      have HRl := hide (HRd.out.below HB2.out)
      have HBw := hide (Below.step HBel.out HB2.out)
      clear HO2 HB2 HBel HRd
      obtain ⟨ia, ic, hvi, -, -⟩ := HRi.out
      subst hvi
      go_wp2_with fail
      refine (best_any w2 _ M HRi.out).mono ?_
      rintro e w3 ⟨rfl, hb3⟩
      have HRi3 := hide (HRi.out.below hb3)
      have HRl3 := hide (HRl.out.below hb3)
      have HBw3 := hide (Below.step HBw.out hb3)
      obtain ⟨B, hB⟩ : ∃ B, B = bestI (bestK M M.length) := ⟨_, rfl⟩
      have HBB := hide hB
      rw [← hB]
      clear hb3 HRi HRl HBw hB
      go_wp2
      go_loopw [9] (fun s9 wr => ∃ (k : Nat), s9 = .int .i64 k ∧ k ≤ M.length ∧ Below w3.heap.size w3 wr) (fun s9 _ => M.length - (intOf s9).toNat)
      case atStart => exact ⟨0, rfl, by omega, Below.refl _ _⟩
      case round =>
        obtain ⟨i, rfl, hi, hbi⟩ := hrel
        have HBi := hide hbi
        have HRi4 := hide (HRi3.out.below hbi)
        have HRl4 := hide (HRl3.out.below hbi)
        clear hbi
        by_cases hil : i < M.length
        · have hii : (i : Int) < M.length := by omega
          have hiB : i < 17592186044416 := by have := HMn.out; omega
          obtain ⟨x, hx⟩ : ∃ x, x = M[i] := ⟨_, rfl⟩
          obtain ⟨a1, c1, e1, -, f1⟩ := HRi4.out
          cases e1
          obtain ⟨a2, c2, e2, -, f2⟩ := HRl4.out
          cases e2
          obtain ⟨z1, o1, hz1, k1⟩ := f1 (by omega)
          obtain ⟨z2, o2, hz2, k2⟩ := f2 (by omega)
          subst hz1
          subst hz2
          have p1 := k1 i hil
          have p2 := k2 i hil
          rw [← hx] at p1 p2
          clear hx f1 f2 k1 k2
          go_wp2
          refine wp_region_quiet_below (by kernel_rfl) (by kernel_rfl) ?_
          have d1 := fun d os => cell_regrown p1 d os
          have d2 := fun d os => cell_regrown p2 d os
          repeat quiet_step (fail)
          quiet_step (exact Calls.regrown_of (same_any x _))
          repeat quiet_step (fail)
          refine wpQuiet_nil ?_
          intro w5 hw'
          obtain ⟨⟨dq, osq⟩, hw''⟩ := hw'
          have hb := below_regrown wr dq osq
          rw [← show w5 = grow (redrawn wr dq) osq from hw''] at hb
          have HB5 := hide (Below.step HBi.out hb)
          clear hw'' hb
          go_wp2
          exact ⟨⟨i + 1, by go_num, by omega, HB5.out⟩, by simp [intOf]; omega⟩
        · have hii : ¬ (i : Int) < M.length := by omega
          have HB6 := hide (Below.step HBw3.out HBi.out)
          clear HBw3 HBi
          go_wp2_with fail
          refine (rbest_any wr _ M HRl4.out).mono ?_
          rintro e w6 ⟨rfl, hb6⟩
          rw [← HBB.out]
          have HB7 := hide (Below.step HB6.out hb6)
          clear hb6
          go_wp2_with fail
          refine (best_any w6 _ [] ⟨none, 0, rfl, by simp, fun h => by simp at h⟩).mono ?_
          rintro e w7 ⟨rfl, hb7⟩
          have eN : bestI (bestK [] ([] : List Nat).length) = -1 := rfl
          rw [eN]
          have HB8 := hide (Below.step HB7.out hb7)
          clear hb7 eN
          go_wp2_with fail
          refine (nan_any w7).mono ?_
          rintro e w8 ⟨rfl, hb8⟩
          have HB9 := hide (Below.step HB8.out hb8)
          have hs9 := (Below.refl w8.heap.size w8).alloc (Nat.le_refl _) (.cells #[.float .f64 NAN, .float .f64 4602678819172646912] 24)
          have HBa := hide (Below.step HB9.out hs9)
          have HR9 : Hid (RdF (w8.alloc (.cells #[.float .f64 NAN, .float .f64 4602678819172646912] 24)) (.slice (some ⟨w8.heap.size, 0, none⟩) 2 2) [NAN, 4602678819172646912]) := hide (by
            refine ⟨some ⟨w8.heap.size, 0, none⟩, 2, rfl, by simp, fun _ => ⟨w8.heap.size, 0, rfl, fun k hk => ?_⟩⟩
            have hB := Blk.made w8 #[.float .f64 NAN, .float .f64 4602678819172646912] 24
            rw [Nat.zero_add, hB.cell]
            have : k = 0 ∨ k = 1 := by simp at hk; omega
            rcases this with rfl | rfl <;> rfl)
          clear hb8 hs9
          go_wp2_with fail
          refine (best_any _ _ [NAN, 4602678819172646912] HR9.out).mono ?_
          rintro e w9 ⟨rfl, hb9⟩
          have eT : bestI (bestK [NAN, 4602678819172646912] [NAN, 4602678819172646912].length) = 1 := best_two
          rw [eT]
          have HBb := hide (Below.step HBa.out hb9)
          clear hb9 eT
          go_wp2
          go_ret
          exact ⟨rfl, HBb.out⟩
end Go.Proofs.Ytbemmhngadpjcab
