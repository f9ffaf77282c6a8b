/- apart: the walk. -/
import Derived.Test.YtamajnaeladehaaDoorGP1
import Derived.StillTailTactics
namespace Go.Proofs.YtamajnaeladehaaDoor
set_option linter.unusedVariables false
set_option linter.unusedSimpArgs false
open Go.RowKit Go.Sort

theorem mark_any (W : World) (a : Nat) (ha : a ≤ 100000000) (p : Int) (hp : p = (a : Int)) (k : Nat) : Calls Tryd.prog 36 #[.int .i64 p] W fun e w' => e = .returned (.int .u8 ((mkB a k).toNat : Int)) ∧ w' = W := by
  subst hp
  go_enter Tryd.func36, Tryd.ntmps36
  go_wp2
  go_ret
  refine ⟨?_, rfl⟩
  unfold mkB
  rw [UInt8.toNat_ofNat']
  congr 2
theorem row_form {W : World} {B : Nat} {e : TypeId} {v : Value} {n : Nat} {ys : List Value} (h : W.ownsRow B e 1 v n ys) : ∃ ao c, v = .slice ao n c := by
  obtain ⟨_, ⟨rfl, e⟩ | ⟨g, cap, cur, rfl, _⟩⟩ := h
  · exact ⟨none, 0, by rw [e]⟩
  · exact ⟨_, cap, rfl⟩
theorem rowL_at {W : World} {B : Nat} {e : TypeId} {ao : Option Addr} {c n : Nat} {ys : List Value} (h : W.ownsRow B e 1 (.slice ao n c) n ys) (i : Nat) (y : Value) (hy : ys[i]? = some y) : ∃ L, ao = some ⟨L, 0, none⟩ ∧ W.cell? ⟨L, i, none⟩ = some y := by
  have hcells := fun g => World.ownsRow.cells (g := g) h
  obtain ⟨hl, ⟨e1, e2⟩ | ⟨g, cap, cur, e1, _⟩⟩ := h
  · subst e2
    simp at hl
    subst hl
    simp at hy
  · obtain ⟨rfl, -, rfl⟩ := (Value.slice.injEq ..).mp e1
    refine ⟨g, rfl, ?_⟩
    have := hcells g rfl i y hy
    rw [Addr.add_mid, Nat.zero_add] at this
    exact this
theorem below_drew (w : World) : Below w.heap.size w w.drew := drewR (Below.refl _ _)
def OwnK (w : World) (B : Nat) (e : Ending) (w' : World) : Prop := e = .returned (.bool true) ∧ Below B w w' ∧ KeepsOthers w w'
set_option maxRecDepth 40000 in
set_option maxHeartbeats 16000000 in
theorem apart_keeps (w : World) (B R n : Nat) (ao : Option Addr) (c : Nat) (vs : Nat → Value) (xs : Nat → List UInt8) (len : Nat → Nat) (hlen : ∀ i, i < n → (xs i).length = len i) (hL : Ls w B n vs xs) (hR : LRow w R n ao vs) (hB : B ≤ w.heap.size) (hn : n ≤ 4194304) (hl : ∀ i, i < n → len i ≤ 4194304) : Calls Tryd.prog 19 #[.slice ao n c] w (OwnK w B) := by
  have HL := hide hl
  have H0 : Hid (M1 w w B R n ao vs len xs 0 0) := hide ⟨hL, hlen, fun i j hi hj hc => by omega, hR, BK.refl _ _⟩
  clear hL hR hl hlen
  go_enter Tryd.func19, Tryd.ntmps19
  go_wp2
  go_loopw [3, 4] (fun nn _ wr => ∃ (a : Nat) (ys : Nat → List UInt8), nn = .int .i64 a ∧ a ≤ n ∧ M1 w wr B R n ao vs len ys a 0) (fun nn _ _ => n - (intOf nn).toNat)
  case atStart => exact ⟨0, xs, rfl, by omega, H0.out⟩
  case round =>
    clear H0
    obtain ⟨a, ys, rfl, ha, hM⟩ := hrel
    by_cases hlt : a < n
    · have hai : (a : Int) < (n : Int) := by omega
      obtain rfl := hM.row.here a hlt
      have HM := hide hM
      have hla := HL.out a hlt
      obtain ⟨m, hm⟩ : ∃ m, m = len a := ⟨_, rfl⟩
      have HLA := hide hm
      rw [← hm] at hla
      clear hM hm
      go_wp2
      go_loopw [4] (fun kk wr => ∃ (k : Nat) (ys : Nat → List UInt8), kk = .int .i64 k ∧ k ≤ m ∧ M1 w wr B R n (some ⟨R, 0, none⟩) vs len ys a k) (fun kk _ => m - (intOf kk).toNat)
      case atStart => exact ⟨0, ys, rfl, by omega, HM.out⟩
      case round =>
        clear HM
        obtain ⟨k, ys, rfl, hk, hM⟩ := hrel
        have HM := hide hM
        obtain ⟨aov, cv, hva, -, -⟩ := (hM.ls.own a hlt).slice
        rw [hM.lens a hlt, ← HLA.out] at hva
        have hcel := hM.row.cel a hlt
        rw [hva] at hcel
        by_cases hkl : k < m
        · have hki : (k : Int) < (m : Int) := by omega
          obtain ⟨g, cap, hvb, hg1, hg2, hg3, hg4⟩ := (hM.ls.own a hlt).formB (by rw [hM.lens a hlt, ← HLA.out]; omega)
          rw [hM.lens a hlt, ← HLA.out] at hvb
          obtain ⟨rfl, -, rfl⟩ := (Value.slice.injEq ..).mp (hva.symm.trans hvb)
          have hoa := hM.ls.own a hlt
          rw [hvb] at hoa
          obtain ⟨hby', hfz, -⟩ := hoa.atB k (by rw [hM.lens a hlt, ← HLA.out]; exact hkl)
          obtain ⟨z, hby⟩ : ∃ z : Int, wr.cell? ⟨g, k, none⟩ = some (.int .u8 z) := ⟨_, hby'⟩
          have HS : Hid (M1 w (wr.drew.setCell ⟨g, k, none⟩ (u8c (mkB a k))) B R n (some ⟨R, 0, none⟩) vs len (fun j => if j = a then (ys a).set k (mkB a k) else ys j) a (k + 1)) := hide (M1.set (hM.below (Nat.le_trans hB hM.bel.b.size) (below_drew wr)) hlt (by rw [← HLA.out]; exact hkl) g cv (by rw [← HLA.out]; exact hvb))
          have HVB := hide hvb
          obtain ⟨y, hy⟩ : ∃ y, y = mkB a k := ⟨_, rfl⟩
          have HY := hide hy
          have HK : Hid (∀ (p : Int), p = (a : Int) → ∀ (W : World), Calls Tryd.prog 36 #[.int .i64 p] W fun e w' => e = .returned (.int .u8 (y.toNat : Int)) ∧ w' = W) := hide (fun p hp W => by rw [hy]; exact mark_any W a (by omega) p hp k)
          rw [← hy] at HS
          clear hva hvb hoa hby' hg3 hM hy
          go_wp2
          refine wp_region_still_tail 8 (by kernel_rfl) (by kernel_rfl) ?_
          simp only [List.take_succ_cons, List.take_zero, List.drop_succ_cons, List.drop_zero]
          still_step
          still_step
          still_step
          still_step
          still_step
          still_step
          still_call (HK.out _ (by rfl) _)
          still_step
          refine wpStill_nil ?_
          go_wp2
          exact ⟨⟨k + 1, _, by go_num, by omega, HS.out⟩, by simp [intOf]; omega⟩
        · obtain rfl : k = m := by omega
          have hki : ¬ (k : Int) < (k : Int) := by omega
          have HN : Hid (M1 w wr B R n (some ⟨R, 0, none⟩) vs len ys (a + 1) 0) := hide (M1.next (by rw [← HLA.out]; exact HM.out))
          clear hM hva
          go_wp2
          go_roundw
          case rel => exact ⟨a + 1, ys, by go_num, by omega, HN.out⟩
          case measure => simp [intOf] <;> omega
    · obtain rfl : a = n := by omega
      have hai : ¬ (a : Int) < (a : Int) := by omega
      have HM := hide hM.done
      clear hM
      go_wp2
      obtain ⟨wp, hwp⟩ : ∃ wp, wp = wr := ⟨_, rfl⟩
      rw [← hwp] at HM
      go_loopw [5, 6, 7, 8] (fun lg nn _ _ wr => ∃ (vl : Value) (b : Nat) (gs : Nat → Value), vl = lg ∧ nn = .int .i64 b ∧ b ≤ a ∧ M2 w wr B R a ao vs len gs vl b) (fun _ nn _ _ _ => a - (intOf nn).toNat)
      case atStart => exact ⟨_, 0, _, rfl, rfl, by omega, by rw [← hwp]; exact HM.out⟩
      case round =>
        clear HM hwp hai
        obtain ⟨vl, b, gs, rfl, rfl, hb, hM⟩ := hrel
        have HM := hide hM
        obtain ⟨aol, cl, rfl⟩ := row_form hM.lng
        by_cases hlt : b < a
        · have hbi : (b : Int) < (a : Int) := by omega
          obtain rfl := hM.row.here b hlt
          have hla := HL.out b hlt
          obtain ⟨m, hm⟩ : ∃ m, m = len b := ⟨_, rfl⟩
          have HLA := hide hm
          rw [← hm] at hla
          obtain ⟨aov, cv, hva, -⟩ := hM.rd b hlt
          rw [mkL_len, ← hm] at hva
          have hcel := hM.row.cel b hlt
          rw [hva] at hcel
          have HN0 := hide (hM.enter hlt (Nat.le_trans hB hM.bel.b.size))
          rw [hva] at HN0
          have HVA := hide hva
          clear hM hm hva HM
          go_wp2
          go_loopw [7, 8] (fun gv kk wr => ∃ (u : Value) (k : Nat), u = gv ∧ kk = .int .i64 k ∧ k ≤ 40 ∧ N2 w wr B R a (some ⟨R, 0, none⟩) vs len gs (.slice aol b cl) b k u) (fun _ kk _ => 40 - (intOf kk).toNat)
          case atStart => exact ⟨_, 0, rfl, rfl, by omega, HN0.out⟩
          case round =>
            clear HN0 hcel
            obtain ⟨u, k, rfl, rfl, hk, hN⟩ := hrel
            have HN := hide hN
            have hcel := hN.row.cel b hlt
            rw [HVA.out] at hcel
            obtain ⟨aou, cu, rfl, -, -⟩ := hN.uown.slice
            rw [mkL_len, ← HLA.out] at HN ⊢
            clear hN
            by_cases hkl : k < 40
            · have hki : (k : Int) < 40 := by omega
              obtain ⟨y, hy⟩ : ∃ y, y = mkB b (m + k) := ⟨_, rfl⟩
              have HY := hide hy
              obtain ⟨t, ht⟩ : ∃ t, t = m + k := ⟨_, rfl⟩
              have hmk : (m : Int) + (k : Int) = (t : Int) := by omega
              have HT := hide ht
              have htl : t ≤ 4194344 := by omega
              rw [← ht] at HN ⊢
              have HK : Hid (∀ (p : Int), p = (b : Int) → ∀ (W : World), Calls Tryd.prog 36 #[.int .i64 p] W fun e w' => e = .returned (.int .u8 (y.toNat : Int)) ∧ w' = W) := hide (fun p hp W => by rw [hy, ← ht]; exact mark_any W b (by omega) p hp t)
              clear hy ht
              go_wp2_with fail
              refine (HK.out _ rfl _).mono ?_
              rintro e w' ⟨rfl, rfl⟩
              go_wp2_with (at_builtin; refine wpList_append_keepB rfl _ _ rfl B _ (mkL b (len b + k)) rfl ?c1 w'.heap.size 1 rfl y ?c2 ?c3 ?c4 ?_)
              case c1 => exact owns_below HN.out.uown ((Below.refl _ _).alloc (Nat.le_refl _) _)
              case c2 => exact (Blk.made _ _ _).cell 0
              case c3 => rw [mkL_len, ← HLA.out]; omega
              case c4 => have := HN.out.size; simp; omega
              intro v' w1 HO' HG HBk HKp
              have HN1 : Hid (N2 w w1 B R a (some ⟨R, 0, none⟩) vs len gs (.slice aol b cl) b (k + 1) v') := hide (N2.app (HN.out.below ((Below.refl _ _).alloc (Nat.le_refl _) _)) (by rw [← HLA.out, ← HY.out]; rw [← HLA.out] at HO'; exact HO'.out) HG.out (by rw [World.size_alloc]; exact HBk.out) HKp.out)
              go_wp2
              exact ⟨⟨_, k + 1, rfl, by go_num, by omega, HN1.out⟩, by simp [intOf]; omega⟩
            · obtain rfl : k = 40 := by omega
              rw [show ((40 : Nat) : Int) = 40 from rfl]
              go_wp2_with (at_builtin; refine wpList_append_list rfl _ _ rfl B _ b ((List.range b).map gs) rfl ?c1 wr.heap.size 1 rfl (.slice aou (m + 40) cu) rfl ?c2 ?c3 ?c4 ?_)
              case c1 => exact owns_below HN.out.lng ((Below.refl _ _).alloc (Nat.le_refl _) _)
              case c2 => exact (Blk.made _ _ _).cell 0
              case c3 => omega
              case c4 => have := HN.out.size; simp; omega
              intro v' w1 HO' HG HBk
              have HM1 : Hid (M2 w w1 B R a (some ⟨R, 0, none⟩) vs len (fun i => if i = b then .slice aou (m + 40) cu else gs i) v' (b + 1)) := hide (N2.leave (HN.out.below ((Below.refl _ _).alloc (Nat.le_refl _) _)) HO'.out HG.out (by rw [World.size_alloc]; exact HBk.out))
              go_wp2
              go_roundw
              case rel => exact ⟨_, b + 1, _, rfl, by go_num, by omega, HM1.out⟩
              case measure => simp [intOf] <;> omega
        · obtain rfl : b = a := by omega
          have hbi : ¬ (b : Int) < (b : Int) := by omega
          clear hM
          go_wp2
          obtain ⟨wq, hwq⟩ : ∃ wq, wq = wr := ⟨_, rfl⟩
          rw [← hwq] at HM
          go_loopw [9, 10, 11] (fun nn _ _ wr => ∃ d : Nat, nn = .int .i64 d ∧ d ≤ b ∧ Below wq.heap.size wq wr) (fun nn _ _ _ => b - (intOf nn).toNat)
          case atStart => exact ⟨0, rfl, by omega, by rw [← hwq]; exact Below.refl _ _⟩
          case round =>
            clear hwq hbi
            obtain ⟨d, rfl, hd, hbel⟩ := hrel
            by_cases hdl : d < b
            · have hdi : (d : Int) < (b : Int) := by omega
              obtain rfl := HM.out.row.here d hdl
              obtain ⟨L, rfl, hcL⟩ := rowL_at HM.out.lng d (gs d) (by simp [hdl])
              have hla := HL.out d hdl
              obtain ⟨m, hm⟩ : ∃ m, m = len d := ⟨_, rfl⟩
              have HLA := hide hm
              rw [← hm] at hla
              obtain ⟨t, ht⟩ : ∃ t, t = m + 40 := ⟨_, rfl⟩
              have HT := hide ht
              have htl : t ≤ 4194344 := by omega
              obtain ⟨aog, cg, hgd, hgc⟩ := HM.out.grd d hdl
              obtain ⟨aov, cv, hvd, hvc⟩ := HM.out.rd d hdl
              rw [mkL_len, ← hm, ← ht] at hgd
              rw [mkL_len, ← hm] at hvd
              rw [hgd] at hcL
              have hcR := HM.out.row.cel d hdl
              rw [hvd] at hcR
              have HGC : Hid (∀ k, k < t → ∃ g, aog = some ⟨g, 0, none⟩ ∧ wq.cell? ⟨g, k, none⟩ = some (.int .u8 ((mkB d 0).toNat : Int))) := hide (fun k hk => by
                obtain ⟨g, e1, e2⟩ := hgc k (by rw [mkL_len, ← hm, ← ht]; exact hk)
                exact ⟨g, e1, by rw [e2, show (mkL d (len d + 40))[k]'(by rw [mkL_len, ← hm, ← ht]; exact hk) = mkB d 0 from by simp [mkL, mkB]]⟩)
              have HVC : Hid (∀ k, k < m → ∃ g, aov = some ⟨g, 0, none⟩ ∧ wq.cell? ⟨g, k, none⟩ = some (.int .u8 ((mkB d 0).toNat : Int))) := hide (fun k hk => by
                obtain ⟨g, e1, e2⟩ := hvc k (by rw [mkL_len, ← hm]; exact hk)
                exact ⟨g, e1, by rw [e2, show (mkL d (len d))[k]'(by rw [mkL_len, ← hm]; exact hk) = mkB d 0 from by simp [mkL, mkB]]⟩)
              obtain ⟨y, hy⟩ : ∃ y, y = mkB d 0 := ⟨_, rfl⟩
              have HK : Hid (∀ (p : Int), p = (d : Int) → ∀ (W : World), Calls Tryd.prog 36 #[.int .i64 p] W fun e w' => e = .returned (.int .u8 (y.toNat : Int)) ∧ Below W.heap.size W w') := hide (fun p hp W => by rw [hy]; exact (mark_any W d (by omega) p hp 0).mono fun _ _ ⟨h1, h2⟩ => ⟨h1, by rw [h2]; exact Below.refl _ _⟩)
              rw [← hy] at HGC HVC
              have HBL := hide hbel
              have HCL := hide hcL
              have HCR := hide hcR
              clear hm ht hgc hvc hgd hvd hbel hcL hcR hy
              go_wp2
              go_loopw [10] (fun kk wr => ∃ k : Nat, kk = .int .i64 k ∧ k ≤ m ∧ Below wq.heap.size wq wr) (fun kk _ => m - (intOf kk).toNat)
              case atStart => exact ⟨0, rfl, by omega, HBL.out⟩
              case round =>
                clear HBL
                obtain ⟨k, rfl, hk, hbel⟩ := hrel
                have HBE := hide hbel
                have hcR : wr.cell? ⟨R, d, none⟩ = some (.slice aov m cv) := (hbel.cell (block_lt_of_cell' HCR.out)).trans HCR.out
                by_cases hkl : k < m
                · have hki : (k : Int) < (m : Int) := by omega
                  obtain ⟨g, rfl, hg⟩ := HVC.out k hkl
                  have hgw := (hbel.cell (block_lt_of_cell' hg)).trans hg
                  have f2 := fun dd os => cell_regrown hcR dd os
                  have f3 := fun dd os => cell_regrown hgw dd os
                  clear hg hbel
                  go_wp2
                  refine wp_region_quiet_below (by kernel_rfl) (by kernel_rfl) ?_
                  repeat quiet_step (fail)
                  quiet_step (exact Calls.regrown_of (HK.out _ rfl _))
                  repeat quiet_step (fail)
                  refine wpQuiet_nil ?_
                  intro w2 hw'
                  obtain ⟨⟨dq, osq⟩, hw''⟩ := hw'
                  have hb12 := below_regrown wr dq osq
                  rw [← show w2 = grow (redrawn wr dq) osq from hw''] at hb12
                  have HB2 := hide (HBE.out.trans (hb12.mono HBE.out.size))
                  clear hw'' f2 f3 hcR hgw hb12
                  go_wp2
                  exact ⟨⟨k + 1, by go_num, by omega, HB2.out⟩, by simp [intOf]; omega⟩
                · obtain rfl : k = m := by omega
                  have hki : ¬ (k : Int) < (k : Int) := by omega
                  clear hbel
                  go_wp2
                  go_loopw [11] (fun kk wr => ∃ k : Nat, kk = .int .i64 k ∧ k ≤ t ∧ Below wq.heap.size wq wr) (fun kk _ => t - (intOf kk).toNat)
                  case atStart => exact ⟨0, rfl, by omega, HBE.out⟩
                  case round =>
                    clear HBE hcR
                    obtain ⟨k2, rfl, hk2, hbel⟩ := hrel
                    have HBE := hide hbel
                    have hcL : wr.cell? ⟨L, d, none⟩ = some (.slice aog t cg) := (hbel.cell (block_lt_of_cell' HCL.out)).trans HCL.out
                    by_cases hkl2 : k2 < t
                    · have hki2 : (k2 : Int) < (t : Int) := by omega
                      obtain ⟨g, rfl, hg⟩ := HGC.out k2 hkl2
                      have hgw := (hbel.cell (block_lt_of_cell' hg)).trans hg
                      have f2 := fun dd os => cell_regrown hcL dd os
                      have f3 := fun dd os => cell_regrown hgw dd os
                      clear hg hbel
                      go_wp2
                      refine wp_region_quiet_below (by kernel_rfl) (by kernel_rfl) ?_
                      repeat quiet_step (fail)
                      quiet_step (exact Calls.regrown_of (HK.out _ rfl _))
                      repeat quiet_step (fail)
                      refine wpQuiet_nil ?_
                      intro w2 hw'
                      obtain ⟨⟨dq, osq⟩, hw''⟩ := hw'
                      have hb12 := below_regrown wr dq osq
                      rw [← show w2 = grow (redrawn wr dq) osq from hw''] at hb12
                      have HB2 := hide (HBE.out.trans (hb12.mono HBE.out.size))
                      clear hw'' f2 f3 hcL hgw hb12
                      go_wp2
                      exact ⟨⟨k2 + 1, by go_num, by omega, HB2.out⟩, by simp [intOf]; omega⟩
                    · obtain rfl : k2 = t := by omega
                      have hki2 : ¬ (k2 : Int) < (k2 : Int) := by omega
                      clear hbel
                      go_wp2
                      go_roundw
                      case rel => exact ⟨d + 1, by go_num, by omega, HBE.out⟩
                      case measure => simp [intOf] <;> omega
            · obtain rfl : d = b := by omega
              have hdi : ¬ (d : Int) < (d : Int) := by omega
              have HBE := hide hbel
              clear hbel
              go_wp2
              go_ret
              exact ⟨rfl, HM.out.bel.b.trans (HBE.out.mono (Nat.le_trans hB HM.out.bel.b.size)), HM.out.bel.k.trans (keeps_below HBE.out)⟩
end Go.Proofs.YtamajnaeladehaaDoor
