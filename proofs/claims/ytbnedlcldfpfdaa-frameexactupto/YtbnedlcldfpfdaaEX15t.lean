/- FrameExact: packs. -/
import Derived.Test.YtbnedlcldfpfdaaEX14t
namespace Go.Proofs.Ytbnedlcldfpfdaa
set_option linter.unusedVariables false
set_option linter.unusedSimpArgs false
open Go.RowKit Go.Sort

theorem grownBy.of {w W : World} (h : Below w.heap.size w W) (row : Option Nat) : w.grownBy W row := ⟨h.os, h.tape, h.output, h.size, fun k hk _ => h.block k hk⟩
theorem packR_len (xs : List UInt8) : (packR xs).length ≤ 65536 := by
  unfold packR
  split
  · rw [packL_len]; omega
  · simp
theorem packE_len {xs ys : List UInt8} (h : xs.length = ys.length) : packE xs = packE ys := by unfold packE; rw [h]
def three (va vb vc : Value) (i : Nat) : Value := if i = 0 then va else if i = 1 then vb else vc
def threeL (xs ys zs : List UInt8) (i : Nat) : List UInt8 := if i = 0 then xs else if i = 1 then ys else zs
theorem three_apart {W : World} {B M N : Nat} {va vb vc : Value} {xs ys zs : List UInt8} (ha : OwnsB W B va xs) (hb : OwnsB W M vb ys) (hc : OwnsB W N vc zs) (hB : B ≤ M) (hMN : M ≤ N) (hM : ∀ g, va.ownBlock = some g → g < M) (hN : ∀ g, vb.ownBlock = some g → g < N) :
    Ls (W.alloc (.cells #[va, vb, vc] 22)) B 3 (three va vb vc) (threeL xs ys zs) ∧ LRow (W.alloc (.cells #[va, vb, vc] 22)) W.heap.size 3 (some ⟨W.heap.size, 0, none⟩) (three va vb vc) := by
  have hal : Below W.heap.size W (W.alloc (.cells #[va, vb, vc] 22)) := (Below.refl _ _).alloc (Nat.le_refl _) _
  have hk := Blk.made W #[va, vb, vc] 22
  have thr : ∀ i, i < 3 → i = 0 ∨ i = 1 ∨ i = 2 := fun i h => by omega
  have ab : ∀ g, va.ownBlock = some g → vb.ownBlock = some g → False := fun g h1 h2 => by have k1 := hM g h1; have k2 := (hb.blk_ge g h2).1; omega
  have ac : ∀ g, va.ownBlock = some g → vc.ownBlock = some g → False := fun g h1 h2 => by have k1 := hM g h1; have k2 := (hc.blk_ge g h2).1; omega
  have bc : ∀ g, vb.ownBlock = some g → vc.ownBlock = some g → False := fun g h1 h2 => by have k1 := hN g h1; have k2 := (hc.blk_ge g h2).1; omega
  refine ⟨⟨fun i hi => ?_, fun i j hi hj hne g h1 h2 => ?_⟩, ⟨fun _ _ => rfl, fun i hi => ?_, fun i hi e => ?_⟩⟩
  · rcases thr i hi with rfl | rfl | rfl
    · exact ha.below hal
    · exact own_lower (hb.below hal) hB
    · exact own_lower (hc.below hal) (Nat.le_trans hB hMN)
  · rcases thr i hi with rfl | rfl | rfl <;> rcases thr j hj with rfl | rfl | rfl
    · exact hne rfl
    · exact ab g h1 h2
    · exact ac g h1 h2
    · exact ab g h2 h1
    · exact hne rfl
    · exact bc g h1 h2
    · exact ac g h2 h1
    · exact bc g h2 h1
    · exact hne rfl
  · rcases thr i hi with rfl | rfl | rfl
    · exact hk.cell 0
    · exact hk.cell 1
    · exact hk.cell 2
  · rcases thr i hi with rfl | rfl | rfl
    · have := (ha.blk_ge _ e).2; omega
    · have := (hb.blk_ge _ e).2; omega
    · have := (hc.blk_ge _ e).2; omega
set_option maxRecDepth 40000 in
set_option maxHeartbeats 4000000 in
theorem packs_any (own_any : ∀ (w : World) (B R n : Nat) (ao : Option Addr) (c : Nat) (vs : Nat → Value) (xs : Nat → List UInt8) (len : Nat → Nat) (hlen : ∀ i, i < n → (xs i).length = len i) (hL : Ls w B n vs xs) (hR : LRow w R n ao vs) (hB : B ≤ w.heap.size) (hn : n ≤ 4194304) (hl : ∀ i, i < n → len i ≤ 4194304), Calls Try.prog 26 #[.slice ao n c] w (OwnC w B)) (w : World) (vb vr : Value) (at' : Int) (s z : Nat) (xs : List UInt8) (hr : RdA w vb xs) (hB : Blk w z ((roomL xs).map u8c).toArray 5) (hx : xs.length ≤ 4000000) : Calls Try.prog 11 #[.agg (askC vb vr at' s), .slice (some ⟨z, 0, none⟩) xs.length (xs.length + 70)] w (TrueC w) := by
  have OA := hide own_any
  clear own_any
  have HR := hide hr
  have HBZ := hide hB
  have HZ : Hid (z < w.heap.size) := hide hB.lt
  have HRD : Hid (∀ W, Blk W z ((roomL xs).map u8c).toArray 5 → RdA W (.slice (some ⟨z, 0, none⟩) xs.length (xs.length + 70)) xs) := hide (fun W hW => RdA_head hW _ (fun i h => by rw [roomL_at xs i (by omega), roomAt_in xs i h]) (by omega) (by unfold maxLen; omega))
  obtain ⟨ao, c, rfl, -⟩ := hr.slice
  unfold askC
  clear hr hB
  obtain ⟨w1, hw1⟩ : ∃ w1, w1 = w.alloc (.cells #[.slice ao xs.length c, vr, .int .i64 at', .int .u32 (s : Int)] 25) := ⟨_, rfl⟩
  have HK1 : Hid (Blk w1 w.heap.size #[.slice ao xs.length c, vr, .int .i64 at', .int .u32 (s : Int)] 25) := hide (by rw [hw1]; exact Blk.made w _ _)
  have HB1 : Hid (Below w.heap.size w w1) := hide (by rw [hw1]; exact (Below.refl _ _).alloc (Nat.le_refl _) _)
  have hw1' := hw1.symm
  have g0 : w1.cell? ⟨w.heap.size, 0, none⟩ = some (.slice ao xs.length c) := HK1.out.cell 0
  have HZ1 : Hid (z < w1.heap.size) := hide (Nat.lt_of_lt_of_le HZ.out HB1.out.size)
  clear hw1
  obtain ⟨E, hE⟩ : ∃ E, E = packE xs := ⟨_, rfl⟩
  have HE := hide hE
  clear hE
  go_enter Try.func11, Try.ntmps11
  go_wp2_with fail
  refine (rpack_any w1 _ xs (HR.out.below HB1.out)).mono ?_
  rw [show PackC w1 xs = fun e w' => ∃ v, e = .returned (.tuple #[v, .int .i64 E]) ∧ OwnsB w' w1.heap.size v (packR xs) ∧ Below w1.heap.size w1 w' from by rw [HE.out]; rfl]
  rintro e w2 ⟨v2, rfl, hO2, hb2⟩
  have HB2 := hide (Below.step HB1.out hb2)
  have HO2 := hide hO2
  have HS2 : Hid (w1.heap.size ≤ w2.heap.size) := hide hb2.size
  obtain ⟨aw, cw, rfl, -, -⟩ := hO2.slice
  clear hO2 hb2 g0 hw1'
  go_wp2_with fail
  refine (pack_any w2 _ xs (HRD.out w2 (HBZ.out.below HB2.out HZ.out))).mono ?_
  rw [show PackC w2 xs = fun e w' => ∃ v, e = .returned (.tuple #[v, .int .i64 E]) ∧ OwnsB w' w2.heap.size v (packR xs) ∧ Below w2.heap.size w2 w' from by rw [HE.out]; rfl]
  rintro e w3 ⟨v3, rfl, hO3, hb3⟩
  have HB3 := hide (Below.step HB2.out hb3)
  have HW3 := hide (OwnsB.below HO2.out hb3)
  have HO3 := hide hO3
  have HS3 : Hid (w2.heap.size ≤ w3.heap.size) := hide hb3.size
  obtain ⟨av, cv, rfl, -, -⟩ := hO3.slice
  clear hO3 hb3
  go_wp2_with fail
  refine (pack_any w3 _ xs (HRD.out w3 (HBZ.out.below HB3.out HZ.out))).mono ?_
  rw [show PackC w3 xs = fun e w' => ∃ v, e = .returned (.tuple #[v, .int .i64 E]) ∧ OwnsB w' w3.heap.size v (packR xs) ∧ Below w3.heap.size w3 w' from by rw [HE.out]; rfl]
  rintro e w4 ⟨v4, rfl, hO4, hb4⟩
  have HB4 := hide (Below.step HB3.out hb4)
  have HW4 := hide (OwnsB.below HW3.out hb4)
  have HA4 := hide (OwnsB.below HO3.out hb4)
  have HO4 := hide hO4
  have HS4 : Hid (w3.heap.size ≤ w4.heap.size) := hide hb4.size
  obtain ⟨ax, cx, rfl, -, -⟩ := hO4.slice
  clear hO4 hb4
  go_wp2_with fail
  refine (same_any w4 _ _ _ (OwnsB.rd HA4.out) (OwnsB.rd HW4.out)).mono ?_
  rintro e w5 ⟨rfl, hb5⟩
  have HB5 := hide (Below.step HB4.out hb5)
  have HW5 := hide (OwnsB.below HW4.out hb5)
  have HA5 := hide (OwnsB.below HA4.out hb5)
  have HX5 := hide (OwnsB.below HO4.out hb5)
  have HS5 : Hid (w4.heap.size ≤ w5.heap.size) := hide hb5.size
  clear hb5
  go_wp2_with fail
  refine (same_any w5 _ _ _ (OwnsB.rd HX5.out) (OwnsB.rd HW5.out)).mono ?_
  rintro e w6 ⟨rfl, hb6⟩
  have HB6 := hide (Below.step HB5.out hb6)
  have HW6 := hide (OwnsB.below HW5.out hb6)
  have HA6 := hide (OwnsB.below HA5.out hb6)
  have HX6 := hide (OwnsB.below HX5.out hb6)
  have HS6 : Hid (w5.heap.size ≤ w6.heap.size) := hide hb6.size
  clear hb6
  have HBZ6 : Hid (Blk w6 z ((upL xs 0 0).map u8c).toArray 5) := hide (by rw [upL_none]; exact HBZ.out.below HB6.out HZ.out)
  go_wp2
  go_loopw [11] (fun i wr => ∃ k : Nat, i = .int .i64 k ∧ k ≤ xs.length ∧ Blk wr z ((upL xs 0 k).map u8c).toArray 5 ∧ w6.grownBy wr (some z)) (fun i _ => xs.length - (intOf i).toNat)
  case atStart => exact ⟨0, rfl, by omega, HBZ6.out, grownBy.of (Below.refl _ _) _⟩
  case round =>
    clear HBZ6
    obtain ⟨k, rfl, hk, hZ, hG⟩ := hrel
    by_cases hlt : k < xs.length
    · have hki : (k : Int) < xs.length := by omega
      have hat := upL_at xs 0 k k (by omega)
      rw [if_neg (by omega)] at hat
      have HUP := hide (upL_up xs k (by omega))
      obtain ⟨x, hx'⟩ : ∃ x, x = roomAt xs k := ⟨_, rfl⟩
      rw [← hx'] at hat HUP
      have hc := hZ.atU k x hat
      have hf := hZ.frozen k
      have hup := up_add x
      have HZ2 := hide (hZ.setU k (x + 1))
      have HG2 := hide (grownBy.setZ hG k (.int .u8 ((x + 1).toNat : Int)))
      rw [← HUP.out] at HZ2
      obtain ⟨y, hy⟩ : ∃ y, y = x + 1 := ⟨_, rfl⟩
      rw [← hy] at hup HZ2 HG2
      clear hx' hat hZ hG hy
      go_wp2
      exact ⟨⟨k + 1, by go_num, by omega, HZ2.out, HG2.out⟩, by simp [intOf]; omega⟩
    · obtain rfl : k = xs.length := by omega
      have hki : ¬ (xs.length : Int) < xs.length := by omega
      obtain ⟨w7, hw7⟩ : ∃ w7, w7 = wr := ⟨_, rfl⟩
      rw [← hw7] at hZ hG ⊢
      have HZ7 := hide hZ
      have HG7 := hide hG
      have HS7 : Hid (w6.heap.size ≤ w7.heap.size) := hide hG.size
      have HL : Hid (∀ g, w1.heap.size ≤ g → some g ≠ some z) := hide (fun g h e => by have := HZ1.out; cases e; omega)
      have HW7 := hide (OwnsB.grown HW6.out hG (fun g hg => HL.out g (OwnsB.blk_ge HO2.out g hg).1))
      have HA7 := hide (OwnsB.grown HA6.out hG (fun g hg => HL.out g (Nat.le_trans HS2.out (OwnsB.blk_ge HO3.out g hg).1)))
      have HX7 := hide (OwnsB.grown HX6.out hG (fun g hg => HL.out g (Nat.le_trans (Nat.le_trans HS2.out HS3.out) (OwnsB.blk_ge HO4.out g hg).1)))
      obtain ⟨ys, hys⟩ : ∃ ys, ys = xs.map (· + 1) := ⟨_, rfl⟩
      have hyl : ys.length = xs.length := by rw [hys]; simp
      have HRY : Hid (∀ W, Blk W z ((upL xs 0 xs.length).map u8c).toArray 5 → RdA W (.slice (some ⟨z, 0, none⟩) xs.length (xs.length + 70)) ys) := hide (fun W hW => by
        have h := RdA_head (ys := ys) hW (xs.length + 70) (fun i h => by rw [upL_at xs _ _ i (by omega), if_pos (by omega), roomAt_in xs i (by omega)]; simp [hys]) (by omega) (by unfold maxLen; omega)
        rw [hyl] at h
        exact h)
      have HEY : Hid (packE ys = E) := hide (by rw [HE.out]; exact packE_len hyl)
      clear hw7 hZ hG hys hyl
      go_wp2_with fail
      refine (pack_any w7 _ ys (HRY.out w7 HZ7.out)).mono ?_
      rw [show PackC w7 ys = fun e w' => ∃ v, e = .returned (.tuple #[v, .int .i64 E]) ∧ OwnsB w' w7.heap.size v (packR ys) ∧ Below w7.heap.size w7 w' from by rw [← HEY.out]; rfl]
      rintro e w8 ⟨v8, rfl, hO8, hb8⟩
      have HC8 := hide hO8
      have HZ8 := hide (HZ7.out.below hb8 HZ7.out.lt)
      have HW8 := hide (OwnsB.below HW7.out hb8)
      have HA8 := hide (OwnsB.below HA7.out hb8)
      have HX8 := hide (OwnsB.below HX7.out hb8)
      have HG8 := hide (grownBy.step HG7.out hb8)
      obtain ⟨ac, cc, rfl, -, -⟩ := hO8.slice
      clear hO8 hb8
      go_wp2_with fail
      refine (rpack_any w8 _ ys (HRY.out w8 HZ8.out)).mono ?_
      rw [show PackC w8 ys = fun e w' => ∃ v, e = .returned (.tuple #[v, .int .i64 E]) ∧ OwnsB w' w8.heap.size v (packR ys) ∧ Below w8.heap.size w8 w' from by rw [← HEY.out]; rfl]
      rintro e w9 ⟨v9, rfl, hO9, hb9⟩
      have HT9 := hide hO9
      have HC9 := hide (OwnsB.below HC8.out hb9)
      have HZ9 := hide (HZ8.out.below hb9 HZ8.out.lt)
      have HW9 := hide (OwnsB.below HW8.out hb9)
      have HA9 := hide (OwnsB.below HA8.out hb9)
      have HX9 := hide (OwnsB.below HX8.out hb9)
      have HG9 := hide (grownBy.step HG8.out hb9)
      obtain ⟨ad, cd, rfl, -, -⟩ := hO9.slice
      clear hO9 hb9
      go_wp2_with fail
      refine (same_any w9 _ _ _ (OwnsB.rd HC9.out) (OwnsB.rd HT9.out)).mono ?_
      rintro e w10 ⟨rfl, hb10⟩
      have HC10 := hide (OwnsB.below HC9.out hb10)
      have HZ10 := hide (HZ9.out.below hb10 HZ9.out.lt)
      have HW10 := hide (OwnsB.below HW9.out hb10)
      have HA10 := hide (OwnsB.below HA9.out hb10)
      have HX10 := hide (OwnsB.below HX9.out hb10)
      have HG10 := hide (grownBy.step HG9.out hb10)
      clear hb10
      go_wp2_with fail
      refine (same_any w10 _ _ _ (OwnsB.rd HA10.out) (OwnsB.rd HW10.out)).mono ?_
      rintro e w11 ⟨rfl, hb11⟩
      have HC11 := hide (OwnsB.below HC10.out hb11)
      have HZ11 := hide (HZ10.out.below hb11 HZ10.out.lt)
      have HW11 := hide (OwnsB.below HW10.out hb11)
      have HA11 := hide (OwnsB.below HA10.out hb11)
      have HX11 := hide (OwnsB.below HX10.out hb11)
      have HG11 := hide (grownBy.step HG10.out hb11)
      clear hb11
      go_wp2_with fail
      refine (same_any w11 _ _ _ (OwnsB.rd HX11.out) (OwnsB.rd HW11.out)).mono ?_
      rintro e w12 ⟨rfl, hb12⟩
      have HC12 := hide (OwnsB.below HC11.out hb12)
      have HZ12 := hide (HZ11.out.below hb12 HZ11.out.lt)
      have HA12 := hide (OwnsB.below HA11.out hb12)
      have HX12 := hide (OwnsB.below HX11.out hb12)
      have HG12 := hide (grownBy.step HG11.out hb12)
      clear hb12
      go_wp2
      go_loopw [17] (fun i wr => ∃ k : Nat, i = .int .i64 k ∧ k ≤ xs.length ∧ Blk wr z ((upL xs k xs.length).map u8c).toArray 5 ∧ w12.grownBy wr (some z)) (fun i _ => xs.length - (intOf i).toNat)
      case atStart => exact ⟨0, rfl, by omega, HZ12.out, grownBy.of (Below.refl _ _) _⟩
      case round =>
        clear HZ12
        obtain ⟨k, rfl, hk, hZ, hG⟩ := hrel
        by_cases hlt : k < xs.length
        · have hki : (k : Int) < xs.length := by omega
          have hat := upL_at xs k xs.length k (by omega)
          rw [if_pos (by omega)] at hat
          have HUP := hide (upL_down xs k xs.length (by omega) hlt)
          obtain ⟨x, hx'⟩ : ∃ x, x = roomAt xs k := ⟨_, rfl⟩
          rw [← hx'] at hat HUP
          have hc := hZ.atU k (x + 1) hat
          have hf := hZ.frozen k
          have hup := up_sub x
          have HZ2 := hide (hZ.setU k x)
          have HG2 := hide (grownBy.setZ hG k (.int .u8 (x.toNat : Int)))
          rw [← HUP.out] at HZ2
          obtain ⟨y, hy⟩ : ∃ y, y = x + 1 := ⟨_, rfl⟩
          rw [← hy] at hup hc
          clear hx' hat hZ hG hy
          go_wp2
          exact ⟨⟨k + 1, by go_num, by omega, HZ2.out, HG2.out⟩, by simp [intOf]; omega⟩
        · obtain rfl : k = xs.length := by omega
          have hki : ¬ (xs.length : Int) < xs.length := by omega
          rw [upL_none] at hZ
          have HZ13 := hide hZ
          have HG13 := hide hG
          have HA13 := hide (OwnsB.grown HA12.out hG (fun g hg => HL.out g (Nat.le_trans HS2.out (OwnsB.blk_ge HO3.out g hg).1)))
          have HX13 := hide (OwnsB.grown HX12.out hG (fun g hg => HL.out g (Nat.le_trans (Nat.le_trans HS2.out HS3.out) (OwnsB.blk_ge HO4.out g hg).1)))
          have HS17 : Hid (w1.heap.size ≤ w7.heap.size) := hide (by have h2 := HS2.out; have h3 := HS3.out; have h4 := HS4.out; have h5 := HS5.out; have h6 := HS6.out; have h7 := HS7.out; omega)
          have HC13 := hide (OwnsB.grown HC12.out hG (fun g hg => HL.out g (Nat.le_trans HS17.out (OwnsB.blk_ge HC8.out g hg).1)))
          have HTA := hide (three_apart HA13.out HX13.out HC13.out HS3.out (by have h4 := HS4.out; have h5 := HS5.out; have h6 := HS6.out; have h7 := HS7.out; omega) (fun g hg => (OwnsB.blk_ge HO3.out g hg).2) (fun g hg => by have h := (OwnsB.blk_ge HO4.out g hg).2; have h5 := HS5.out; have h6 := HS6.out; have h7 := HS7.out; omega))
          obtain ⟨w13, hw13⟩ : ∃ w13, w13 = wr := ⟨_, rfl⟩
          rw [← hw13] at HTA HZ13 HG13 HA13 HX13 HC13 ⊢
          clear hw13 hZ hG
          have HSB : Hid (w2.heap.size ≤ w13.heap.size) := hide (by have h3 := HS3.out; have h4 := HS4.out; have h5 := HS5.out; have h6 := HS6.out; have h7 := HG12.out.size; have h8 := HG13.out.size; omega)
          have HOW := hide (OA.out (w13.alloc (.cells #[.slice av (packR xs).length cv, .slice ax (packR xs).length cx, .slice ac (packR ys).length cc] 22)) w2.heap.size w13.heap.size 3 (some ⟨w13.heap.size, 0, none⟩) 3 _ _ (fun i => (threeL (packR xs) (packR xs) (packR ys) i).length) (fun i hi => rfl) HTA.out.1 HTA.out.2 (by rw [World.size_alloc]; have := HSB.out; omega) (by omega) (fun i _ => by
            have h1 := packR_len xs
            have h2 := packR_len ys
            unfold threeL
            split
            · omega
            · split <;> omega))
          have HGW : Hid (w.grownBy w13 (some z)) := hide (by
            have h6 := HB6.out
            have g12 := HG12.out
            have g13 := HG13.out
            have hs6 := h6.size
            have hs12 := g12.size
            exact ⟨(g13.os.trans g12.os).trans h6.os, (g13.tape.trans g12.tape).trans h6.tape, (g13.output.trans g12.output).trans h6.output, by have := g13.size; omega, fun k hk hne => ((g13.block k (by omega) hne).trans (g12.block k (by omega) hne)).trans (h6.block k hk)⟩)
          go_wp2_with fail
          refine HOW.out.mono ?_
          rintro e w14 ⟨rfl, hb14⟩
          have HB14 : Hid (Below w.heap.size w w14) := hide (by
            have hb := grownBy.back HGW.out HBZ.out HZ13.out
            exact (hb.alloc hb.size _).trans (hb14.mono (Nat.le_trans HB1.out.size HS2.out)))
          clear hb14
          go_wp2
          go_ret
          exact ⟨rfl, HB14.out⟩
end Go.Proofs.Ytbnedlcldfpfdaa
