/- The document's record. -/
import Derived.Test.YtbnedlcldfpfdaaEX2
namespace Go.Proofs.Ytbnedlcldfpfdaa
set_option linter.unusedVariables false
set_option linter.unusedSimpArgs false
open Go.RowKit Go.Sort

theorem uand255 (n : Nat) (h : n < 4294967296) : bits .and .u32 (n : Int) 255 = ((n % 256 : Nat) : Int) := by
  rw [show (255 : Int) = ((255 : Nat) : Int) from rfl, u32_and_nat n 255 h (by decide), show (255 : Nat) = 2 ^ 8 - 1 from rfl, Nat.and_two_pow_sub_one_eq_mod]
theorem le4_snoc (s k : Nat) (h : k < 4) : (le4 s).take (k + 1) = (le4 s).take k ++ [UInt8.ofNat (s / 256 ^ k)] := by
  rcases k with _ | _ | _ | _ | k
  · rw [Nat.pow_zero, Nat.div_one]; rfl
  · rfl
  · rfl
  · rfl
  · omega
theorem div256 (s k : Nat) : s / 256 ^ k / 256 = s / 256 ^ (k + 1) := by rw [Nat.div_div_eq_div_mul, Nat.pow_succ]
set_option maxRecDepth 20000 in
set_option maxHeartbeats 1600000 in
theorem rpack_any (w : World) (v : Value) (xs : List UInt8) (hv : RdA w v xs) : Calls Try.prog 25 #[v] w (PackC w xs) := by
  have HV := hide hv
  obtain ⟨ao, c, rfl, hl63⟩ := hv.slice
  clear hv
  by_cases hbig : 65526 < xs.length
  · have hbi : (65526 : Int) < xs.length := by omega
    have HE : Hid (packE xs = 60) := hide (by unfold packE; rw [if_neg (by omega)])
    have HP : Hid (packR xs = []) := hide (by unfold packR; rw [if_neg (by omega)])
    go_enter Try.func25, Try.ntmps25
    go_wp2
    go_ret2
    exact ⟨_, by rw [HE.out]; rfl, by rw [HP.out]; exact World.ownsRow_nil _ _ _ _, Below.refl _ _⟩
  have hbi : ¬ (65526 : Int) < xs.length := by omega
  have HE : Hid (packE xs = 0) := hide (by unfold packE; rw [if_pos (by omega)])
  have HP : Hid (packR xs = openL xs.length ++ sealL (openL xs.length) xs ++ xs) := hide (by unfold packR; rw [if_pos (by omega)]; rfl)
  go_enter Try.func25, Try.ntmps25
  go_wp2_with fail
  refine (rhead_any w xs.length (by omega)).mono ?_
  rintro e w1 ⟨v1, rfl, hO1, hb1⟩
  have hl6 := openL_len xs.length
  obtain ⟨o6, ho6⟩ : ∃ o6, o6 = openL xs.length := ⟨_, rfl⟩
  rw [← ho6] at hO1 HP hl6
  have HL6 := hide hl6
  have HR1 := hide hO1.rd
  have HO1 := hide hO1
  have HB1 := hide hb1
  have HV1 := hide (HV.out.below hb1)
  obtain ⟨ao1, c1, rfl, -, -⟩ := hO1.slice
  rw [hl6] at HR1 HO1 ⊢
  clear ho6 hO1 hb1 hl6
  go_wp2_with fail
  refine (rcrc_any w1 _ o6 HR1.out).mono ?_
  rintro e w' ⟨rfl, rfl⟩
  go_wp2_with fail
  refine (rmore_any _ _ (moreN_lt 0 o6) _ xs HV1.out).mono ?_
  rintro e w'' ⟨rfl, rfl⟩
  rw [moreN_append]
  have hsl := moreN_lt 0 (o6 ++ xs)
  obtain ⟨s, hs⟩ : ∃ s, s = moreN 0 (o6 ++ xs) := ⟨_, rfl⟩
  rw [← hs] at hsl ⊢
  have HS : Hid (sealL o6 xs = le4 s) := hide (by rw [hs]; rfl)
  rw [HS.out] at HP
  clear hs HR1
  go_wp2
  go_loopw [4, 5, 6] (fun v sm i wr => ∃ (vo : Value) (k : Nat), vo = v ∧ sm = .int .u32 ((s / 256 ^ k : Nat) : Int) ∧ i = .int .i64 k ∧ k ≤ 4 ∧ OwnsB wr w.heap.size vo (o6 ++ (le4 s).take k) ∧ Below w.heap.size w wr) (fun _ _ i _ => 4 - (intOf i).toNat)
  case atStart => exact ⟨_, 0, rfl, by rw [Nat.pow_zero, Nat.div_one], rfl, by omega, by rw [List.take_zero, List.append_nil]; exact HO1.out, HB1.out⟩
  case round =>
    obtain ⟨vo, k, rfl, rfl, rfl, hk, hown, hbel⟩ := hrel
    clear HO1 HB1 HV1
    have HO := hide hown
    have hsz : w.heap.size ≤ wr.heap.size := hbel.size
    have hln : (o6 ++ (le4 s).take k).length = 6 + k := by rw [List.length_append, HL6.out, List.length_take]; show 6 + min k 4 = _; omega
    by_cases hlt : k < 4
    · have hki : (k : Int) < 4 := by omega
      have HT := hide (le4_snoc s k hlt)
      have HD := hide (div256 s k)
      have htl : s / 256 ^ k < 4294967296 := Nat.lt_of_le_of_lt (Nat.div_le_self _ _) hsl
      obtain ⟨t, ht⟩ : ∃ t, t = s / 256 ^ k := ⟨_, rfl⟩
      rw [← ht] at HT HD htl ⊢
      have q1 := uand255 t htl
      have q2 := wrap8m t
      have q3 : (t : Int) / 256 = ((t / 256 : Nat) : Int) := by omega
      obtain ⟨t', ht'⟩ : ∃ t', t' = t / 256 := ⟨_, rfl⟩
      obtain ⟨u, hu⟩ : ∃ u, u = t % 256 := ⟨_, rfl⟩
      obtain ⟨x, hx⟩ : ∃ x, x = UInt8.ofNat t := ⟨_, rfl⟩
      rw [← ht'] at q3 HD
      rw [← hu] at q1 q2
      rw [← hx] at q2 HT
      obtain ⟨ao2, cap, rfl, -, -⟩ := hown.slice
      rw [hln] at HO ⊢
      have HLN := hide hln
      clear hown hx ht ht' hu hln
      go_wp2_with (at_builtin; refine wpList_append_byteW rfl _ _ rfl w.heap.size _ (o6 ++ (le4 s).take k) rfl ?c1 wr.heap.size 1 rfl x x.toNat rfl ?c2 ?c3 ?c4 ?_)
      case c1 => exact owns_below HO.out ((Below.refl _ _).alloc (Nat.le_refl _) _)
      case c2 => exact (Blk.made wr _ _).cell 0
      case c3 => rw [HLN.out]; omega
      case c4 => simp; omega
      intro v' w1 HO' HG
      go_wp2
      refine ⟨⟨_, k + 1, rfl, by rw [← HD.out], by go_num, by omega, ?_, own_below (hbel.alloc hsz _) (owns_below HO.out ((Below.refl _ _).alloc (Nat.le_refl _) _)) (by simp; omega) HG.out⟩, by simp [intOf]; omega⟩
      rw [HT.out]; exact HO'.out
    · obtain rfl : k = 4 := by omega
      rw [show (le4 s).take 4 = le4 s from rfl] at HO
      clear hown hln
      rw [show o6 ++ le4 s ++ xs = (o6 ++ le4 s) ++ xs from rfl] at HP
      have hl10 : (o6 ++ le4 s).length = 10 := by rw [List.length_append, HL6.out]; rfl
      obtain ⟨ps, hps⟩ : ∃ ps, ps = o6 ++ le4 s := ⟨_, rfl⟩
      rw [← hps] at HO HP hl10
      have HL10 := hide hl10
      clear hps HS hl10 HL6
      obtain ⟨t, ht⟩ : ∃ t, t = s / 256 ^ 4 := ⟨_, rfl⟩
      rw [← ht, show (((4 : Nat) : Int)) = 4 from rfl]
      clear ht
      go_wp2
      obtain ⟨wp, hwp⟩ : ∃ wp, wp = wr := ⟨_, rfl⟩
      rw [← hwp] at HO hbel
      have HBp := hide hbel
      go_loopw [4, 7] (fun v i wr => ∃ (vo : Value) (k : Nat), vo = v ∧ i = .int .i64 k ∧ k ≤ xs.length ∧ OwnsB wr w.heap.size vo (ps ++ xs.take k) ∧ Below w.heap.size w wr) (fun _ i _ => xs.length - (intOf i).toNat)
      case atStart => exact ⟨_, 0, rfl, rfl, by omega, by rw [List.take_zero, List.append_nil, ← hwp]; exact HO.out, by rw [← hwp]; exact HBp.out⟩
      case round =>
        clear HO HBp hbel hwp
        obtain ⟨vo, k, rfl, rfl, hk, hown, hbel⟩ := hrel
        have HO := hide hown
        have hsz : w.heap.size ≤ wr.heap.size := hbel.size
        by_cases hlt : k < xs.length
        · have hki : (k : Int) < xs.length := by omega
          obtain ⟨bz, bo', cc, he, hcell⟩ := (HV.out.below hbel).at k hlt
          cases he
          have HT : Hid (ps ++ xs.take (k + 1) = ps ++ xs.take k ++ [xs[k]]) := hide (by rw [List.take_succ_eq_append_getElem hlt, List.append_assoc])
          obtain ⟨x, hx⟩ : ∃ x, x = xs[k] := ⟨_, rfl⟩
          rw [← hx] at hcell HT
          obtain ⟨ao2, cap, rfl, -, -⟩ := hown.slice
          have htl : (ps ++ xs.take k).length = 10 + k := by rw [List.length_append, HL10.out, List.length_take]; omega
          rw [htl] at HO ⊢
          have HTL := hide htl
          clear hown hx htl
          go_wp2_with (at_builtin; refine wpList_append_byteW rfl _ _ rfl w.heap.size _ (ps ++ xs.take k) rfl ?c1 wr.heap.size 1 rfl x x.toNat rfl ?c2 ?c3 ?c4 ?_)
          case c1 => exact owns_below HO.out ((Below.refl _ _).alloc (Nat.le_refl _) _)
          case c2 => exact (Blk.made wr _ _).cell 0
          case c3 => rw [HTL.out]; omega
          case c4 => simp; omega
          intro v' w1 HO' HG
          go_wp2
          refine ⟨⟨_, k + 1, rfl, by go_num, by omega, ?_, own_below (hbel.alloc hsz _) (owns_below HO.out ((Below.refl _ _).alloc (Nat.le_refl _) _)) (by simp; omega) HG.out⟩, by simp [intOf]; omega⟩
          rw [HT.out, List.append_assoc]; exact HO'.out
        · have hk2 : ¬ (k : Int) < xs.length := by omega
          obtain rfl : k = xs.length := by omega
          rw [List.take_length] at HO
          clear hown
          go_wp2
          go_ret2
          exact ⟨_, by rw [HE.out]; rfl, by rw [HP.out]; exact HO.out, hbel⟩
end Go.Proofs.Ytbnedlcldfpfdaa
