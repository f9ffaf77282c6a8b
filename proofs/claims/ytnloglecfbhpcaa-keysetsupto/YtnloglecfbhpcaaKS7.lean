/- The document's set: Short. -/
import Derived.Test.YtnloglecfbhpcaaKS6
import Derived.Test.YtnloglecfbhpcaaKB4
namespace Go.Proofs.Ytnloglecfbhpcaa
set_option linter.unusedVariables false
set_option linter.unusedSimpArgs false
open Go.RowKit Go.Sort Go.Shelf
set_option maxRecDepth 100000
set_option maxHeartbeats 8000000

/-- As few digits as tell a key apart. -/
def ShM (R : List (List UInt8)) (k : List UInt8) (m : Nat) : Prop := 4 ≤ m ∧ m ≤ 64 ∧ (∀ x ∈ R, x ≠ k → (hexOf x).take m ≠ (hexOf k).take m) ∧ (4 < m → ∃ x ∈ R, x ≠ k ∧ (hexOf x).take (m - 1) = (hexOf k).take (m - 1))
theorem take_down {a b : List UInt8} {m n : Nat} (h : a.take n = b.take n) (hm : m ≤ n) : a.take m = b.take m := by
  have := congrArg (List.take m) h
  rwa [List.take_take, List.take_take, Nat.min_eq_left hm] at this
theorem ShM.same {R : List (List UInt8)} {k : List UInt8} {m m' : Nat} (h : ShM R k m) (h' : ShM R k m') : m = m' := by
  obtain ⟨a1, a2, a3, a4⟩ := h
  obtain ⟨b1, b2, b3, b4⟩ := h'
  rcases Nat.lt_trichotomy m m' with g | g | g
  · obtain ⟨x, hx, hne, e⟩ := b4 (by omega)
    exact absurd (take_down e (by omega)) (a3 x hx hne)
  · exact g
  · obtain ⟨x, hx, hne, e⟩ := a4 (by omega)
    exact absurd (take_down e (by omega)) (b3 x hx hne)
theorem ShM.congr {R S : List (List UInt8)} {k : List UInt8} {m : Nat} (h : ShM S k m) (he : ∀ x, x ∈ S ↔ x ∈ R) : ShM R k m := by
  obtain ⟨a1, a2, a3, a4⟩ := h
  exact ⟨a1, a2, fun x hx => a3 x ((he x).2 hx), fun h => by
    obtain ⟨x, hx, q⟩ := a4 h
    exact ⟨x, (he x).1 hx, q⟩⟩
/-- What Short answers. -/
def ShortA (w : World) (R : List (List UInt8)) (k : List UInt8) (e : Ending) (w' : World) : Prop := Below w.heap.size w w' ∧ ((k ∉ R ∧ e = .returned (.tuple #[.string ⟨#[]⟩, .int .i64 31])) ∨ (k ∈ R ∧ ∃ m, ShM R k m ∧ e = .returned (.tuple #[.string ⟨((hexOf k).take m).toArray⟩, .int .i64 0])))
theorem hex_take {x k : List UInt8} (hx : x.length = 32) (hk : k.length = 32) (hne : x ≠ k) : (hexOf x).take 64 ≠ (hexOf k).take 64 := fun h => by
  rw [List.take_of_length_le (by rw [hexOf_len, hx]; decide), List.take_of_length_le (by rw [hexOf_len, hk]; decide)] at h
  exact hne (hex_inj h)
/-- One prefix was asked. -/
theorem ask_short {R : List (List UInt8)} {k k' : List UInt8} {m' : Int} {j : Nat} (hk : k.length = 32) (hin : k ∈ R) (hj : 4 ≤ j) (hj2 : j ≤ 64) (hp : 4 < j → ∃ x ∈ R, x ≠ k ∧ (hexOf x).take (j - 1) = (hexOf k).take (j - 1)) (h : FindP R ((hexOf k).take j) k' m') : (m' = 0 ∧ ShM R k j) ∨ (m' = 32 ∧ ∃ x ∈ R, x ≠ k ∧ (hexOf x).take j = (hexOf k).take j) := by
  have hkk : begK k ((hexOf k).take j) = true := (begK_take hk hj2 k).2 rfl
  rcases h with ⟨h1, h2, h3, h4⟩ | ⟨h1, h2, h3⟩ | ⟨h1, h2, x, hx, y, hy, hne, hbx, hby⟩
  · have e := h4 k hin hkk
    exact .inl ⟨h1, hj, hj2, fun x hx hne he => hne ((h4 x hx ((begK_take hk hj2 x).2 he)).trans e.symm), hp⟩
  · rw [h3 k hin] at hkk; cases hkk
  · by_cases e : x = k
    · exact .inr ⟨h1, y, hy, fun e2 => hne (e.trans e2.symm), (begK_take hk hj2 y).1 hby⟩
    · exact .inr ⟨h1, x, hx, e, (begK_take hk hj2 x).1 hbx⟩
theorem rshort_any (w : World) (z : Nat) (R : List (List UInt8)) (k : List UInt8) (hk : k.length = 32) (h : RsB w z R) (h32 : ∀ x ∈ R, x.length = 32) (hl : R.length ≤ 4398046511104) (hnd : R.Nodup) : Calls Try.prog 24 #[.pointer (some ⟨z, 0, none⟩), keyV k] w (ShortA w R k) := by
  have hzk := zero_key
  have hB : Below w.heap.size w (w.alloc (.cells (k.map u8c).toArray 38)) := (Below.refl _ _).alloc (Nat.le_refl _) _
  have HKX : Hid (KeyAt (w.alloc (.cells (k.map u8c).toArray 38)) w.heap.size k) := hide ⟨Blk.made w _ _, hk⟩
  have HRS := hide (h.below hB)
  have HB := hide hB
  have HK := hide hk
  have H32 := hide h32
  have HNd := hide hnd
  have hlen : (hexOf k).length = 64 := by rw [hexOf_len, hk]
  have HDg := hide (allDig_hexOf k)
  have HHs := hide (rhasB _ z R k hk HRS.out hl)
  have HHx := hide (fun w => rhex_any k hk w)
  have HLR := hide hl
  clear h hB h32 hnd hl
  by_cases hin : k ∈ R
  · rw [decide_eq_true hin] at HHs
    have HIn := hide hin
    clear hin
    show Calls Try.prog 24 #[.pointer (some ⟨z, 0, none⟩), .agg (k.map u8c).toArray] w _
    go_enter Try.func24, Try.ntmps24
    go_upto_region 3 with (first | ((with_reducible refine wpList_key (.tmp 3) w.heap.size k HKX.out ?_ ?_ ?_ ?_); rfl; rfl; rfl) | (go_at_call 18; (with_reducible refine HHs.out.mono ?_); rintro e w1 ⟨rfl, hb1⟩; have HB1 := hide hb1; clear hb1))
    have HKX1 := hide (HKX.out.below HB1.out)
    have HRS1 := hide (HRS.out.below HB1.out)
    have HBB1 := hide (HB.out.trans (HB1.out.mono HB.out.size))
    clear HHs HB1 HB HRS HKX
    go_upto_region 5 with (first | ((with_reducible refine wpList_key (.tmp 3) w.heap.size k HKX1.out ?_ ?_ ?_ ?_); rfl; rfl; rfl) | (go_at_call 45; (with_reducible refine (HHx.out _).mono ?_); rintro e w2 ⟨rfl, hb2⟩; have HB2 := hide hb2; clear hb2))
    have HRS2 := hide (HRS1.out.below HB2.out)
    have HBB2 := hide (HBB1.out.trans (HB2.out.mono HBB1.out.size))
    clear HKX1 HRS1 HBB1 HB2 HHx
    obtain ⟨X, hX⟩ : ∃ X, X = hexOf k := ⟨_, rfl⟩
    rw [← hX] at hlen ⊢
    have HX := hide hX
    clear hX
    go_loopw [7] (fun t wr => ∃ j : Nat, t = .int .i64 j ∧ 4 ≤ j ∧ j ≤ 64 ∧ (4 < j → ∃ x ∈ R, x ≠ k ∧ (hexOf x).take (j - 1) = (hexOf k).take (j - 1)) ∧ RsB wr z R ∧ Below w.heap.size w wr) (fun t _ => 64 - (intOf t).toNat)
    case atStart => exact ⟨4, rfl, by omega, by omega, fun h => by omega, HRS2.out, HBB2.out⟩
    case round =>
      clear HRS2 HBB2
      obtain ⟨j, rfl, hj4, hj, hp, hrs, hbb⟩ := hrel
      have HP := hide hp
      have HRS := hide hrs
      have HBB := hide hbb
      clear hp hrs hbb
      by_cases hlt : j < 64
      · have hji : (j : Int) < 64 := by omega
        have HF := hide (rfind_any wr z R (X.take j) (by rw [List.length_take]; omega) HRS.out HLR.out HNd.out)
        have HGo : Hid (goodP (X.take j) = true) := hide (goodP_yes (by rw [List.length_take]; omega) (by rw [HX.out]; exact allDig_take j HDg.out))
        have HAsk : Hid (∀ k' m', FindP R (X.take j) k' m' → (m' = 0 ∧ ShM R k j) ∨ (m' = 32 ∧ ∃ x ∈ R, x ≠ k ∧ (hexOf x).take j = (hexOf k).take j)) := hide (fun k' m' h => ask_short HK.out HIn.out hj4 hj HP.out (by rw [← HX.out]; exact h))
        have HCut : Hid (j ≤ X.length) := hide (by omega)
        have hzs : (⟨X.toArray⟩ : ByteArray).size = X.length := rfl
        go_upto_region 8 with (first | ((with_reducible refine wpList_val (.string ⟨(X.take j).toArray⟩) ?_ (run_cut (x := .tmp 22) (y := .tmp 23) X j HCut.out ?_ ?_ ?_) ?_); rfl; rfl; rfl; rfl) | (go_at_call 22; (with_reducible refine HF.out.mono ?_); rintro e w1 ⟨k', m', rfl, hk', hb1, hans⟩; have HK' := hide hk'; have HB1 := hide hb1; have HA := hide hans; have HZB : Hid (KeyAt (w1.alloc (.cells keyZ 38)) w1.heap.size zK) := hide ⟨Blk.made w1 _ _, rfl⟩; clear hk' hb1 hans) | ((with_reducible refine wpList_store_keyK ?_ (.tmp 8) (.tmp 26) ?_ w1.heap.size ?_ zK k' HZB.out HK'.out ?_ ?_); rfl; rfl; rfl; rfl; intro w4 HK4 HG4; generalize hG : wpList _ _ _ _ _ _ = G))
        subst hG
        have HB4 : Hid (Below wr.heap.size wr w4) := hide (by
          have b2 : Below w1.heap.size w1 w4 := below_grownBy (grownBy_trans (World.grownBy_alloc w1 _ _) HG4.out) (Nat.le_refl _) (Nat.le_refl _)
          exact HB1.out.trans (b2.mono HB1.out.size))
        have HRS4 := hide (HRS.out.below HB4.out)
        have HBB4 := hide (HBB.out.trans (HB4.out.mono HBB.out.size))
        clear HF HZB HK4 HG4 HB1 HB4 HRS HBB
        rcases HA.out with ⟨g1, _, _⟩ | ⟨_, g2⟩
        · rw [HGo.out] at g1; cases g1
        · rcases HAsk.out k' m' g2 with ⟨rfl, hm⟩ | ⟨rfl, hex⟩
          · have HM := hide hm
            clear g2 hm HA HAsk
            go_wp2_with ((with_reducible refine wpList_val (.string ⟨(X.take j).toArray⟩) ?_ (run_cut (x := .tmp 30) (y := .tmp 31) X j HCut.out ?_ ?_ ?_) ?_); rfl; rfl; rfl; rfl)
            go_ret2
            exact ⟨HBB4.out, .inr ⟨HIn.out, j, HM.out, by rw [← HX.out]; rfl⟩⟩
          · have HEx := hide hex
            clear g2 hex HA HAsk
            go_wp2
            go_roundw
            case rel => exact ⟨j + 1, by go_num, by omega, by omega, fun _ => by rw [Nat.add_sub_cancel]; exact HEx.out, HRS4.out, HBB4.out⟩
            case measure => simp [intOf]; omega
      · have hji : ¬ (j : Int) < 64 := by omega
        obtain rfl : j = 64 := by omega
        have HM : Hid (ShM R k 64) := hide ⟨by omega, by omega, fun x hx hne => hex_take (H32.out x hx) HK.out hne, HP.out⟩
        have HXT : Hid (X = (hexOf k).take 64) := hide (by rw [← HX.out, List.take_of_length_le (by omega)])
        go_wp2
        go_ret2
        exact ⟨HBB.out, .inr ⟨HIn.out, 64, HM.out, by rw [← HXT.out]; rfl⟩⟩
  · rw [decide_eq_false hin] at HHs
    have HIn := hide hin
    clear hin
    show Calls Try.prog 24 #[.pointer (some ⟨z, 0, none⟩), .agg (k.map u8c).toArray] w _
    go_enter Try.func24, Try.ntmps24
    go_wp2_with (first | ((with_reducible refine wpList_key (.tmp 3) w.heap.size k HKX.out ?_ ?_ ?_ ?_); rfl; rfl; rfl) | (go_at_call 18; (with_reducible refine HHs.out.mono ?_); rintro e w1 ⟨rfl, hb1⟩; have HB1 := hide hb1; clear hb1))
    go_ret2
    exact ⟨HB.out.trans (HB1.out.mono HB.out.size), .inl ⟨HIn.out, rfl⟩⟩
end Go.Proofs.Ytnloglecfbhpcaa
