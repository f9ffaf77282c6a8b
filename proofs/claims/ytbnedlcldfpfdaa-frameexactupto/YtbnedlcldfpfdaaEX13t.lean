/- FrameExact: reads. -/
import Derived.Test.YtbnedlcldfpfdaaEX11
namespace Go.Proofs.Ytbnedlcldfpfdaa
set_option linter.unusedVariables false
set_option linter.unusedSimpArgs false
open Go.RowKit Go.Sort

def OwnC (w : World) (B : Nat) (e : Ending) (w' : World) : Prop := e = .returned (.bool true) ∧ Below B w w'
theorem upk_blen (b : List UInt8) : (upk b).1.length ≤ 65535 := by
  have := lenN_lt b
  unfold upk
  split
  · simp
  · split
    · simp
    · split
      · simp
      · split
        · simp
        · simp only [List.length_take]; omega
theorem unpk_blen (b : List UInt8) (i : Int) : (unpk b i).1.length ≤ 65535 := by
  unfold unpk
  split
  · simp
  · exact upk_blen _
theorem OwnsB.blk_ge {W : World} {B : Nat} {v : Value} {xs : List UInt8} (h : OwnsB W B v xs) (g : Nat) (hg : v.ownBlock = some g) : B ≤ g ∧ g < W.heap.size := owns_lt h g hg
/-- Two lists of new memory, one behind the other. -/
theorem two_apart {W : World} {B M : Nat} {va vb : Value} {xs ys : List UInt8} (ha : OwnsB W B va xs) (hb : OwnsB W M vb ys) (hB : B ≤ M) (hM : ∀ g, va.ownBlock = some g → g < M) :
    Ls (W.alloc (.cells #[va, vb] 22)) B 2 (fun i => if i = 0 then va else vb) (fun i => if i = 0 then xs else ys) ∧ LRow (W.alloc (.cells #[va, vb] 22)) W.heap.size 2 (some ⟨W.heap.size, 0, none⟩) (fun i => if i = 0 then va else vb) := by
  have hal : Below W.heap.size W (W.alloc (.cells #[va, vb] 22)) := (Below.refl _ _).alloc (Nat.le_refl _) _
  have hk := Blk.made W #[va, vb] 22
  have two : ∀ i, i < 2 → i = 0 ∨ i = 1 := fun i h => by omega
  refine ⟨⟨fun i hi => ?_, fun i j hi hj hne g h1 h2 => ?_⟩, ⟨fun _ _ => rfl, fun i hi => ?_, fun i hi e => ?_⟩⟩
  · rcases two i hi with rfl | rfl
    · exact ha.below hal
    · exact own_lower (hb.below hal) hB
  · rcases two i hi with rfl | rfl <;> rcases two j hj with rfl | rfl
    · exact hne rfl
    · have k1 := hM g h1
      have k2 := (hb.blk_ge g h2).1
      omega
    · have k1 := hM g h2
      have k2 := (hb.blk_ge g h1).1
      omega
    · exact hne rfl
  · rcases two i hi with rfl | rfl
    · exact hk.cell 0
    · exact hk.cell 1
  · rcases two i hi with rfl | rfl
    · have := (ha.blk_ge _ e).2; omega
    · have := (hb.blk_ge _ e).2; omega
set_option maxRecDepth 40000 in
set_option maxHeartbeats 4000000 in
theorem reads_any (own_any : ∀ (w : World) (B R n : Nat) (ao : Option Addr) (c : Nat) (vs : Nat → Value) (xs : Nat → List UInt8) (len : Nat → Nat) (hlen : ∀ i, i < n → (xs i).length = len i) (hL : Ls w B n vs xs) (hR : LRow w R n ao vs) (hB : B ≤ w.heap.size) (hn : n ≤ 4194304) (hl : ∀ i, i < n → len i ≤ 4194304), Calls Try.prog 26 #[.slice ao n c] w (OwnC w B)) (w : World) (vb vr : Value) (at' : Int) (hat : -9223372036854775808 ≤ at' ∧ at' ≤ 9223372036854775807) (s : Nat) (u : Value) (xs : List UInt8) (hr : RdA w vr xs) (hu : RdA w u xs) : Calls Try.prog 12 #[.agg (askC vb vr at' s), u] w (TrueC w) := by
  have OA := hide own_any
  clear own_any
  have HR := hide hr
  have HU := hide hu
  obtain ⟨ao, c, rfl, -⟩ := hr.slice
  obtain ⟨ao2, c2, rfl, -⟩ := hu.slice
  unfold askC
  clear hr hu
  obtain ⟨w1, hw1⟩ : ∃ w1, w1 = w.alloc (.cells #[vb, .slice ao xs.length c, .int .i64 at', .int .u32 (s : Int)] 25) := ⟨_, rfl⟩
  have HK1 : Hid (Blk w1 w.heap.size #[vb, .slice ao xs.length c, .int .i64 at', .int .u32 (s : Int)] 25) := hide (by rw [hw1]; exact Blk.made w _ _)
  have HB1 : Hid (Below w.heap.size w w1) := hide (by rw [hw1]; exact (Below.refl _ _).alloc (Nat.le_refl _) _)
  have hw1' := hw1.symm
  have g1 : w1.cell? ⟨w.heap.size, 1, none⟩ = some (.slice ao xs.length c) := HK1.out.cell 1
  have g2 : w1.cell? ⟨w.heap.size, 2, none⟩ = some (.int .i64 at') := HK1.out.cell 2
  have HBL := hide (unpk_blen xs at')
  clear hw1
  have HQ1 := hide (runpack_any w1 _ xs (HR.out.below HB1.out) at' hat)
  obtain ⟨r, hrr⟩ : ∃ r, r = unpk xs at' := ⟨_, rfl⟩
  have HRR := hide hrr
  rw [← hrr] at HQ1 HBL
  obtain ⟨rb, rn, re⟩ := r
  dsimp only at HQ1 HBL
  clear hrr
  go_enter Try.func12, Try.ntmps12
  go_wp2_with fail
  refine HQ1.out.mono ?_
  rintro e w2 ⟨v2, rfl, hO2, hb2⟩
  dsimp only at hO2 ⊢
  have HB2 := hide (Below.step HB1.out hb2)
  have HK2 := hide (HK1.out.below hb2 HK1.out.lt)
  have g2' : w2.cell? ⟨w.heap.size, 2, none⟩ = some (.int .i64 at') := HK2.out.cell 2
  have HO2 := hide hO2.rd
  have HZ2 : Hid (w1.heap.size ≤ w2.heap.size) := hide hb2.size
  obtain ⟨aw, cw, rfl, -, -⟩ := hO2.slice
  clear hO2 hb2 g1 g2 HQ1 hw1'
  go_wp2_with fail
  refine (unpack_any w2 _ xs (HU.out.below HB2.out) at' hat).mono ?_
  rw [← HRR.out]
  rintro e w3 ⟨v3, rfl, hO3, hb3⟩
  dsimp only at hO3 ⊢
  have HB3 := hide (Below.step HB2.out hb3)
  have HK3 := hide (HK2.out.below hb3 HK2.out.lt)
  have g3' : w3.cell? ⟨w.heap.size, 2, none⟩ = some (.int .i64 at') := HK3.out.cell 2
  have HO3 := hide hO3
  have HW3 := hide (HO2.out.below hb3)
  have HZ3 : Hid (w2.heap.size ≤ w3.heap.size) := hide hb3.size
  obtain ⟨av, cv, rfl, -, -⟩ := hO3.slice
  clear hO3 hb3 g2'
  go_wp2_with fail
  refine (unpack_any w3 _ xs (HU.out.below HB3.out) at' hat).mono ?_
  rw [← HRR.out]
  rintro e w4 ⟨v4, rfl, hO4, hb4⟩
  dsimp only at hO4 ⊢
  have HB4 := hide (Below.step HB3.out hb4)
  have HK4 := hide (HK3.out.below hb4 HK3.out.lt)
  have HO4 := hide hO4
  have HO34 := hide (OwnsB.below HO3.out hb4)
  have HZ4 : Hid (w2.heap.size ≤ w4.heap.size) := hide (Nat.le_trans HZ3.out hb4.size)
  have HW4 := hide (HW3.out.below hb4)
  obtain ⟨ax, cx, rfl, -, -⟩ := hO4.slice
  clear hO4 hb4 g3'
  go_wp2_with fail
  refine (same_any w4 _ _ rb (OwnsB.rd HO34.out) HW4.out).mono ?_
  rintro e w5 ⟨rfl, hb5⟩
  have HB5 := hide (Below.step HB4.out hb5)
  have HK5 := hide (HK4.out.below hb5 HK4.out.lt)
  have HZ5 : Hid (w2.heap.size ≤ w5.heap.size) := hide (Nat.le_trans HZ4.out hb5.size)
  have HA5 := hide (OwnsB.below HO34.out hb5)
  have HX5 := hide (OwnsB.below HO4.out hb5)
  have HW5 := hide (HW4.out.below hb5)
  clear hb5
  go_wp2_with fail
  refine (same_any w5 _ _ rb (OwnsB.rd HX5.out) HW5.out).mono ?_
  rintro e w6 ⟨rfl, hb6⟩
  have HB6 := hide (Below.step HB5.out hb6)
  have HK6 := hide (HK5.out.below hb6 HK5.out.lt)
  have HZ6 : Hid (w2.heap.size ≤ w6.heap.size) := hide (Nat.le_trans HZ5.out hb6.size)
  have HA6 := hide (OwnsB.below HA5.out hb6)
  have HX6 := hide (OwnsB.below HX5.out hb6)
  clear hb6
  have HTA := hide (two_apart HA6.out HX6.out HZ3.out (fun g hg => (OwnsB.blk_ge HO3.out g hg).2))
  have HLT : Hid (w.heap.size < w2.heap.size) := hide HK2.out.lt
  have HOW := hide (OA.out (w6.alloc (.cells #[.slice av rb.length cv, .slice ax rb.length cx] 22)) w2.heap.size w6.heap.size 2 (some ⟨w6.heap.size, 0, none⟩) 2 _ _ (fun _ => rb.length) (fun i hi => by split <;> rfl) HTA.out.1 HTA.out.2 (by rw [World.size_alloc]; have := HZ6.out; omega) (by omega) (fun i _ => by have := HBL.out; omega))
  go_wp2_with fail
  refine HOW.out.mono ?_
  rintro e w7 ⟨rfl, hb7⟩
  have HB7 : Hid (Below w.heap.size w w7) := hide ((HB6.out.alloc HB6.out.size _).trans (hb7.mono (Nat.le_of_lt HLT.out)))
  have HK7 := hide ((HK6.out.alloc (.cells #[.slice av rb.length cv, .slice ax rb.length cx] 22)).below hb7 HLT.out)
  have g7 : w7.cell? ⟨w.heap.size, 1, none⟩ = some (.slice ao xs.length c) := HK7.out.cell 1
  clear hb7
  go_wp2_with fail
  refine (same_any w7 _ _ xs (HU.out.below HB7.out) (HR.out.below HB7.out)).mono ?_
  rintro e w8 ⟨rfl, hb8⟩
  have HB8 := hide (Below.step HB7.out hb8)
  clear hb8
  go_wp2
  go_ret
  exact ⟨rfl, HB8.out⟩
end Go.Proofs.Ytbnedlcldfpfdaa
