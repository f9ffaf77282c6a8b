/- The document's set: Find. -/
import Derived.Test.YtnloglecfbhpcaaKS5
namespace Go.Proofs.Ytnloglecfbhpcaa
set_option linter.unusedVariables false
set_option linter.unusedSimpArgs false
open Go.RowKit Go.Sort
set_option maxRecDepth 100000
set_option maxHeartbeats 8000000

/-- What Find tells of a list of keys. -/
def FindP (R : List (List UInt8)) (p k : List UInt8) (m : Int) : Prop :=
  (m = 0 ∧ k ∈ R ∧ begK k p = true ∧ ∀ x ∈ R, begK x p = true → x = k) ∨ (m = 31 ∧ k = zK ∧ ∀ x ∈ R, begK x p = false) ∨ (m = 32 ∧ k = zK ∧ ∃ x ∈ R, ∃ y ∈ R, x ≠ y ∧ begK x p = true ∧ begK y p = true)
theorem FindP.same {R : List (List UInt8)} {p k k' : List UInt8} {m m' : Int} (h : FindP R p k m) (h' : FindP R p k' m') : k = k' ∧ m = m' := by
  rcases h with ⟨h1, h2, h3, h4⟩ | ⟨h1, h2, h3⟩ | ⟨h1, h2, x, hx, y, hy, hne, hbx, hby⟩
  · rcases h' with ⟨g1, g2, g3, g4⟩ | ⟨g1, g2, g3⟩ | ⟨g1, g2, x, hx, y, hy, hne, hbx, hby⟩
    · exact ⟨g4 k h2 h3, by rw [h1, g1]⟩
    · rw [g3 k h2] at h3; cases h3
    · exact absurd ((h4 x hx hbx).trans (h4 y hy hby).symm) hne
  · rcases h' with ⟨g1, g2, g3, g4⟩ | ⟨g1, g2, g3⟩ | ⟨g1, g2, x, hx, y, hy, hne, hbx, hby⟩
    · rw [h3 k' g2] at g3; cases g3
    · exact ⟨h2.trans g2.symm, by rw [h1, g1]⟩
    · rw [h3 x hx] at hbx; cases hbx
  · rcases h' with ⟨g1, g2, g3, g4⟩ | ⟨g1, g2, g3⟩ | ⟨g1, g2, _⟩
    · exact absurd ((g4 x hx hbx).trans (g4 y hy hby).symm) hne
    · rw [g3 x hx] at hbx; cases hbx
    · exact ⟨h2.trans g2.symm, by rw [h1, g1]⟩
theorem FindP.congr {R S : List (List UInt8)} {p k : List UInt8} {m : Int} (h : FindP S p k m) (he : ∀ x, x ∈ S ↔ x ∈ R) : FindP R p k m := by
  rcases h with ⟨h1, h2, h3, h4⟩ | ⟨h1, h2, h3⟩ | ⟨h1, h2, x, hx, y, hy, h3⟩
  · exact .inl ⟨h1, (he k).1 h2, h3, fun x hx => h4 x ((he x).2 hx)⟩
  · exact .inr (.inl ⟨h1, h2, fun x hx => h3 x ((he x).2 hx)⟩)
  · exact .inr (.inr ⟨h1, h2, x, (he x).1 hx, y, (he y).1 hy, h3⟩)
/-- A prefix that Find takes. -/
def goodP (p : List UInt8) : Bool := decide (p.length ≤ 64) && allDig p
/-- What Find answers. -/
def FindA (w : World) (R : List (List UInt8)) (p : List UInt8) (e : Ending) (w' : World) : Prop := ∃ (k : List UInt8) (m : Int), e = .returned (.tuple #[keyV k, .int .i64 m]) ∧ k.length = 32 ∧ Below w.heap.size w w' ∧ ((goodP p = false ∧ k = zK ∧ m = 30) ∨ (goodP p = true ∧ FindP R p k m))
theorem goodP_long {p : List UInt8} (h : ¬ p.length ≤ 64) : goodP p = false := by unfold goodP; rw [decide_eq_false h]; rfl
theorem goodP_bad {p : List UInt8} (h : allDig p = false) : goodP p = false := by unfold goodP; rw [h, Bool.and_false]
theorem goodP_yes {p : List UInt8} (h : p.length ≤ 64) (h2 : allDig p = true) : goodP p = true := by unfold goodP; rw [decide_eq_true h, h2]; rfl
/-- Those of some keys whose digits begin so. -/
def begL (R : List (List UInt8)) (p : List UInt8) : List (List UInt8) := R.filter fun x => begK x p
def lastL (l : List (List UInt8)) : List UInt8 := l.getLast?.getD zK
theorem lastL_snoc (l : List (List UInt8)) (y : List UInt8) : lastL (l ++ [y]) = y := by simp [lastL]
theorem begL_in {R : List (List UInt8)} {p y : List UInt8} {i : Nat} (hi : i < R.length) (hy : y = R[i]) (h : begK y p = true) : begL (R.take (i + 1)) p = begL (R.take i) p ++ [y] := by
  unfold begL
  rw [take_snoc hi hy, List.filter_append, show List.filter (fun x => begK x p) [y] = [y] by simp [h]]
theorem begL_out {R : List (List UInt8)} {p y : List UInt8} {i : Nat} (hi : i < R.length) (hy : y = R[i]) (h : begK y p = false) : begL (R.take (i + 1)) p = begL (R.take i) p := by
  unfold begL
  rw [take_snoc hi hy, List.filter_append, show List.filter (fun x => begK x p) [y] = [] by simp [h], List.append_nil]
theorem begL_len (R : List (List UInt8)) (p : List UInt8) : (begL R p).length ≤ R.length := List.length_filter_le _ _
theorem find_none {R : List (List UInt8)} {p : List UInt8} (h : (begL R p).length = 0) : FindP R p zK 31 := .inr (.inl ⟨rfl, rfl, fun x hx => by
  cases hb : begK x p with
  | false => rfl
  | true =>
    have : x ∈ begL R p := List.mem_filter.2 ⟨hx, hb⟩
    rw [List.eq_nil_of_length_eq_zero h] at this
    cases this⟩)
theorem find_one {R : List (List UInt8)} {p : List UInt8} (h : (begL R p).length = 1) : FindP R p (lastL (begL R p)) 0 := by
  obtain ⟨k, hk⟩ := List.length_eq_one_iff.1 h
  have hm : k ∈ begL R p := by rw [hk]; simp
  obtain ⟨h1, h2⟩ := List.mem_filter.1 hm
  rw [hk]
  refine .inl ⟨rfl, h1, h2, fun x hx hb => ?_⟩
  have : x ∈ begL R p := List.mem_filter.2 ⟨hx, hb⟩
  rw [hk] at this
  simpa [lastL] using this
theorem find_two {R : List (List UInt8)} {p : List UInt8} (hn : R.Nodup) (h : 1 < (begL R p).length) : FindP R p zK 32 := by
  have hnd : (begL R p).Nodup := hn.sublist List.filter_sublist
  obtain ⟨x, y, l, e⟩ : ∃ x y l, begL R p = x :: y :: l := by
    match hb : begL R p, h with
    | x :: y :: l, _ => exact ⟨x, y, l, rfl⟩
  have hx : x ∈ begL R p := by rw [e]; simp
  have hy : y ∈ begL R p := by rw [e]; simp
  rw [e] at hnd
  have hne : x ≠ y := fun e => by
    rw [List.nodup_cons] at hnd
    exact hnd.1 (by rw [e]; simp)
  exact .inr (.inr ⟨rfl, rfl, x, (List.mem_filter.1 hx).1, y, (List.mem_filter.1 hy).1, hne, (List.mem_filter.1 hx).2, (List.mem_filter.1 hy).2⟩)
theorem lastL_len {R : List (List UInt8)} {p : List UInt8} (h : ∀ x ∈ R, x.length = 32) : (lastL (begL R p)).length = 32 := by
  unfold lastL
  cases hg : (begL R p).getLast? with
  | none => rfl
  | some y => exact h y (List.mem_filter.1 (List.mem_of_getLast? hg)).1
/-- While Find goes through the keys. -/
structure FdS (w : World) (z N nf : Nat) (ao : Option Addr) (n c : Nat) (R : List (List UInt8)) (f : List UInt8) (W : World) : Prop where
  rs : RsAt W z ao n c R
  k0 : KeyAt W N zK
  kf : KeyAt W nf f
  bel : Below N w W
  ne : N < nf
theorem FdS.below {w W W' : World} {z N nf : Nat} {ao : Option Addr} {n c : Nat} {R : List (List UInt8)} {f : List UInt8} (h : FdS w z N nf ao n c R f W) (hb : Below W.heap.size W W') : FdS w z N nf ao n c R f W' := ⟨h.rs.below hb, h.k0.below hb, h.kf.below hb, h.bel.trans (hb.mono (by have := h.k0.1.lt; omega)), h.ne⟩
theorem FdS.found {w W W' : World} {z N nf : Nat} {ao : Option Addr} {n c : Nat} {R : List (List UInt8)} {f y : List UInt8} (h : FdS w z N nf ao n c R f W) (hz : z < N) (hy : KeyAt W' nf y) (hg : W.grownBy W' (some nf)) (hr : KRow W' ao R) : FdS w z N nf ao n c R y W' := by
  have hne := h.ne
  exact ⟨⟨h.rs.blk.grown hg (fun e => by have := Option.some.inj e; omega), h.rs.len, hr⟩, h.k0.grown hg (fun e => by have := Option.some.inj e; omega), hy, h.bel.grown hg (by have := h.k0.1.lt; omega) (fun j hj => by cases hj; omega), hne⟩
theorem krow_below {w W W' : World} {N nf : Nat} {ao : Option Addr} {R : List (List UInt8)} (h0 : KRow w ao R) (hN : w.heap.size ≤ N) (hb : Below N w W) (hg : W.grownBy W' (some nf)) (hs : N ≤ W.heap.size) (hn : N ≤ nf) : KRow W' ao R := by
  have h1 : Below N w W' := hb.grown hg hs (fun j hj => by cases hj; exact hn)
  exact h0.below ⟨h1.os, h1.tape, h1.output, h1.size, fun k hk => h1.block k (by omega)⟩
theorem rfind_any (w : World) (z : Nat) (R : List (List UInt8)) (p : List UInt8) (hpl : p.length ≤ 9223372036854775807) (h : RsB w z R) (hl : R.length ≤ 4398046511104) (hnd : R.Nodup) : Calls Try.prog 22 #[.pointer (some ⟨z, 0, none⟩), .string ⟨p.toArray⟩] w (FindA w R p) := by
  obtain ⟨ao, n, c, h⟩ := h
  have hzk := zero_key
  obtain ⟨N, hN⟩ : ∃ N, N = w.heap.size := ⟨_, rfl⟩
  have hB : Below w.heap.size w (w.alloc (.cells keyZ 38)) := (Below.refl _ _).alloc (Nat.le_refl _) _
  have HRS := hide h
  have HKZ : Hid (KeyAt (w.alloc (.cells keyZ 38)) N zK) := hide (by rw [hN]; exact ⟨Blk.made w _ _, rfl⟩)
  have HBE := hide hB
  have HN := hide hN
  have HNd := hide hnd
  have HZN : Hid (z < N) := hide (by rw [hN]; exact h.blk.lt)
  have HNl := hide h.len
  have H32 := hide h.row.len
  have hnl : n ≤ 4398046511104 := by have := h.len; omega
  have HZS : Hid (keyZ.size = 32) := hide rfl
  have HU1 : Hid (keyZ.all (·.oneCell') = true) := hide (all_oneCell_toArray (u8c_one _))
  have hps : (⟨p.toArray⟩ : ByteArray).size = p.length := rfl
  clear h hB hnd hl
  go_enter Try.func22, Try.ntmps22
  go_upto_region 1 with fail
  rw [← hN]
  clear hN
  obtain ⟨W0, hW0⟩ : ∃ W0, W0 = w.alloc (.cells keyZ 38) := ⟨_, rfl⟩
  rw [← hW0] at HKZ HBE ⊢
  by_cases hp : p.length ≤ 64
  · have hpi : ¬ (64 : Int) < (p.length : Int) := by omega
    have HP := hide hp
    clear hW0
    go_upto_region 4 with fail
    go_loopw [6] (fun t wr => ∃ i : Nat, t = .int .i64 i ∧ i ≤ p.length ∧ allDig (p.take i) = true ∧ wr = W0) (fun t _ => p.length - (intOf t).toNat)
    case atStart => exact ⟨0, rfl, by omega, rfl, rfl⟩
    case round =>
      obtain ⟨i, rfl, hi, hd, rfl⟩ := hrel
      have HD := hide hd
      clear hd
      by_cases hlt : i < p.length
      · have hii : (i : Int) < (p.length : Int) := by omega
        obtain ⟨ch, hch⟩ : ∃ ch, ch = p[i] := ⟨_, rfl⟩
        have hat : p[i]? = some ch := by rw [hch]; exact List.getElem?_eq_getElem hlt
        have HC := hide hch
        have HV : Hid (∀ v : Int, v = (ch.toNat : Int) → Calls Try.prog 42 #[.int .u8 v] wr fun e w' => e = .returned (.int .i64 (sgn ch)) ∧ w' = wr) := hide (fun v hv => by rw [hv]; exact rvalue_any ch wr)
        have HNx : Hid (0 ≤ sgn ch → allDig (p.take (i + 1)) = true) := hide (fun h => by
          unfold allDig
          rw [List.take_succ_eq_append_getElem hlt, List.all_append, ← hch]
          have := HD.out
          unfold allDig at this
          rw [this]
          simpa using h)
        have HBad : Hid (¬ 0 ≤ sgn ch → allDig p = false) := hide (fun h => by
          cases hb : allDig p with
          | false => rfl
          | true =>
            have := List.all_eq_true.1 hb p[i] (List.getElem_mem _)
            rw [← hch] at this
            exact absurd (of_decide_eq_true this) h)
        clear hch
        by_cases hs : 0 ≤ sgn ch
        · have hs2 : ¬ sgn ch < 0 := by omega
          have HE := hide (HNx.out hs)
          clear hat
          go_wp2_with (go_at_call 42; refine (HV.out _ (by rw [HC.out]; rfl)).mono ?_; rintro e w' ⟨rfl, hw⟩; rw [hw]; clear hw)
          exact ⟨⟨i + 1, by go_num, by omega, HE.out, by trivial⟩, by simp [intOf]; omega⟩
        · have hs2 : sgn ch < 0 := by omega
          have HE := hide (goodP_bad (HBad.out hs))
          have HK0 : Hid (Blk wr N keyZ 38) := hide HKZ.out.1
          clear hat
          go_wp2_with (first | (go_at_call 42; refine (HV.out _ (by rw [HC.out]; rfl)).mono ?_; rintro e w' ⟨rfl, hw⟩; rw [hw]; clear hw) | ((with_reducible refine wpList_store_blk ?_ 38 (.tmp 4) (.tmp 25) ?_ N 32 keyZ keyZ 38 HZS.out HZS.out ?_ ?_ HK0.out infoKey HU1.out ?_); rfl; rfl; rfl; rfl; intro w9 hk9 hg9; have HK9 := hide hk9; have HG9 := hide hg9; clear hk9 hg9))
          refine bodyPost_ret (results_cell2 rfl _ _ _ rfl _ (loadBlkT HK9.out 38 _ Try.underlying38 rfl 32 infoKey HZS.out)) rfl ?_
          exact ⟨zK, 30, rfl, rfl, HBE.out.trans (below_grownBy HG9.out (by rw [← HN.out]; exact Nat.le_refl _) HBE.out.size), .inl ⟨HE.out, rfl, rfl⟩⟩
      · have hii : ¬ (i : Int) < (p.length : Int) := by omega
        have HG : Hid (goodP p = true) := hide (goodP_yes HP.out (by have := HD.out; rwa [List.take_of_length_le (by omega)] at this))
        clear HD
        obtain ⟨nf, hnf⟩ : ∃ nf, nf = wr.heap.size := ⟨_, rfl⟩
        have HFS : Hid (FdS w z N nf ao n c R (lastL (begL (R.take 0) p)) (wr.alloc (.cells keyZ 38))) := hide (by
          have b1 : Below wr.heap.size wr (wr.alloc (.cells keyZ 38)) := (Below.refl _ _).alloc (Nat.le_refl _) _
          have h0 := HKZ.out.1.lt
          rw [hnf]
          exact ⟨(HRS.out.below HBE.out).below b1, HKZ.out.below b1, ⟨Blk.made wr _ _, rfl⟩, by rw [HN.out]; exact HBE.out.trans (b1.mono HBE.out.size), h0⟩)
        go_upto_region 11 with fail
        rw [← hnf]
        clear hnf HKZ HBE
        refine name_worldR (fun W => FdS w z N nf ao n c R (lastL (begL (R.take 0) p)) W) HFS.out ?_
        rintro W1 hW1
        have HS1 := hide hW1
        clear hW1 HFS
        go_loopw [8, 9] (fun t u wk => ∃ (i m : Nat), t = .int .i64 m ∧ u = .int .i64 i ∧ i ≤ n ∧ m = (begL (R.take i) p).length ∧ FdS w z N nf ao n c R (lastL (begL (R.take i) p)) wk) (fun _ u _ => n - (intOf u).toNat)
        case atStart => exact ⟨0, 0, rfl, rfl, by omega, rfl, HS1.out⟩
        case round =>
          clear HS1
          obtain ⟨i, m, rfl, rfl, hi, hm, hS⟩ := hrel
          have HS := hide hS
          have HM := hide hm
          have hmn : m ≤ n := by have h1 := begL_len (R.take i) p; have h2 := take_len_le (R := R) i; have := HNl.out; omega
          have cz : wr.cell? ⟨z, 0, none⟩ = some (.slice ao n c) := by rw [hS.rs.blk.cell]; rfl
          clear hS hm
          by_cases hlt : i < n
          · have hii : (i : Int) < (n : Int) := by omega
            have hil : i < R.length := by rw [← HNl.out]; exact hlt
            obtain ⟨y, hy⟩ : ∃ y, y = R[i] := ⟨_, rfl⟩
            obtain ⟨g, o, rfl, hrd⟩ := HS.out.rs.row.at' i hil
            have hyl : y.length = 32 := by rw [hy]; exact H32.out _ (List.getElem_mem _)
            rw [← hy] at hrd
            have HRY := hide hrd
            have HY := hide hyl
            have HRD : Hid (∀ w', Below wr.heap.size wr w' → w'.rangeAt g (o + i * 32) (y.map u8c) ∧ w'.cell? ⟨z, 0, none⟩ = some (.slice (some ⟨g, o, none⟩) n c)) := hide (fun w' hb => by
              have h1 := (HS.out.below hb).rs
              obtain ⟨g', o', e', h2⟩ := h1.row.at' i hil
              cases e'
              exact ⟨by rw [hy]; exact h2, by rw [h1.blk.cell]; rfl⟩)
            have HIn : Hid (begK y p = true → begL (R.take (i + 1)) p = begL (R.take i) p ++ [y]) := hide (fun h => begL_in hil hy h)
            have HOut : Hid (begK y p = false → begL (R.take (i + 1)) p = begL (R.take i) p) := hide (fun h => begL_out hil hy h)
            have HBg := hide (rbegins_any y hyl p HP.out wr)
            clear hrd hyl hy hil
            cases hb : begK y p with
            | true =>
              have HE := hide (HIn.out hb)
              rw [hb] at HBg
              clear hb
              go_upto_region 14 with (first | ((with_reducible refine wpList_load_keyAt (.tmp 40) g (o + i * 32) y HY.out HRY.out ?_ ?_ ?_ ?_); rfl; rfl; rfl) | (go_at_call 43; (with_reducible refine HBg.out.mono ?_); rintro e w1 ⟨rfl, hb1⟩; have HB1 := hide hb1; clear hb1))
              have HS1 := hide (HS.out.below HB1.out)
              have HRY := hide (HRD.out w1 HB1.out).1
              have cz := (HRD.out w1 HB1.out).2
              have HKF := hide HS1.out.kf
              clear HBg HRD HB1 HS
              go_upto_region 15 with (first | ((with_reducible refine wpList_load_keyAt (.tmp 49) g (o + i * 32) y HY.out HRY.out ?_ ?_ ?_ ?_); rfl; rfl; rfl) | ((with_reducible refine wpList_store_keyK ?_ (.tmp 7) (.tmp 50) ?_ nf ?_ (lastL (begL (R.take i) p)) y HKF.out HY.out ?_ ?_); rfl; rfl; rfl; rfl; intro w4 HK4 HG4; generalize hG : wpList _ _ _ _ _ _ = G))
              subst hG
              have HS2 : Hid (FdS w z N nf (some ⟨g, o, none⟩) n c R y w4) := hide (HS1.out.found HZN.out HK4.out HG4.out (krow_below HRS.out.row (by rw [HN.out]; exact Nat.le_refl _) HS1.out.bel HG4.out (by have := HS1.out.k0.1.lt; omega) (by have := HS1.out.ne; omega)))
              clear HS1 HKF HK4 HG4 HRY cz
              go_wp2
              go_roundw
              case rel => exact ⟨i + 1, m + 1, by go_num, by go_num, by omega, by rw [HE.out, List.length_append, List.length_singleton, HM.out], by rw [HE.out, lastL_snoc]; exact HS2.out⟩
              case measure => simp [intOf]; omega
            | false =>
              have HE := hide (HOut.out hb)
              rw [hb] at HBg
              clear hb
              go_upto_region 12 with (first | ((with_reducible refine wpList_load_keyAt (.tmp 40) g (o + i * 32) y HY.out HRY.out ?_ ?_ ?_ ?_); rfl; rfl; rfl) | (go_at_call 43; (with_reducible refine HBg.out.mono ?_); rintro e w1 ⟨rfl, hb1⟩; have HB1 := hide hb1; clear hb1))
              have HS1 := hide (HS.out.below HB1.out)
              clear HBg HRD HB1 HS cz HRY
              go_wp2
              go_roundw
              case rel => exact ⟨i + 1, m, rfl, by go_num, by omega, by rw [HE.out]; exact HM.out, by rw [HE.out]; exact HS1.out⟩
              case measure => simp [intOf]; omega
          · have hii : ¬ (i : Int) < (n : Int) := by omega
            have HT : Hid (R.take i = R) := hide (List.take_of_length_le (by have := HNl.out; omega))
            rw [HT.out] at HS HM
            have HKZ := hide HS.out.k0
            have HBE : Hid (Below w.heap.size w wr) := hide (by rw [← HN.out]; exact HS.out.bel)
            have HKF := hide HS.out.kf
            have HLl := hide (lastL_len (p := p) H32.out)
            by_cases hm0 : m = 0
            · have HF := hide (find_none (R := R) (p := p) (by rw [← HM.out]; exact hm0))
              subst hm0
              have HK0 : Hid (Blk wr N keyZ 38) := hide HKZ.out.1
              go_wp2_with (first | ((with_reducible refine wpList_store_blk ?_ 38 (.tmp 4) (.tmp 55) ?_ N 32 keyZ keyZ 38 HZS.out HZS.out ?_ ?_ HK0.out infoKey HU1.out ?_); rfl; rfl; rfl; rfl; intro w9 hk9 hg9; have HK9 := hide hk9; have HG9 := hide hg9; clear hk9 hg9))
              refine bodyPost_ret (results_cell2 rfl _ _ _ rfl _ (loadBlkT HK9.out 38 _ Try.underlying38 rfl 32 infoKey HZS.out)) rfl ?_
              exact ⟨zK, 31, rfl, rfl, HBE.out.trans (below_grownBy HG9.out (by rw [← HN.out]; exact Nat.le_refl _) HBE.out.size), .inr ⟨HG.out, HF.out⟩⟩
            · by_cases hm1 : 1 < m
              · have hmi : (1 : Int) < (m : Int) := by omega
                have hmz : ((m : Int) == 0) = false := by simp; omega
                have hmz2 : ¬ (m : Int) = 0 := by omega
                have HF := hide (find_two (p := p) HNd.out (by rw [← HM.out]; exact hm1))
                have HK0 : Hid (Blk wr N keyZ 38) := hide HKZ.out.1
                go_wp2_with (first | ((with_reducible refine wpList_store_blk ?_ 38 (.tmp 4) (.tmp 58) ?_ N 32 keyZ keyZ 38 HZS.out HZS.out ?_ ?_ HK0.out infoKey HU1.out ?_); rfl; rfl; rfl; rfl; intro w9 hk9 hg9; have HK9 := hide hk9; have HG9 := hide hg9; clear hk9 hg9))
                refine bodyPost_ret (results_cell2 rfl _ _ _ rfl _ (loadBlkT HK9.out 38 _ Try.underlying38 rfl 32 infoKey HZS.out)) rfl ?_
                exact ⟨zK, 32, rfl, rfl, HBE.out.trans (below_grownBy HG9.out (by rw [← HN.out]; exact Nat.le_refl _) HBE.out.size), .inr ⟨HG.out, HF.out⟩⟩
              · obtain rfl : m = 1 := by omega
                have HF := hide (find_one (R := R) (p := p) HM.out.symm)
                obtain ⟨f, hf⟩ : ∃ f, f = lastL (begL R p) := ⟨_, rfl⟩
                rw [← hf] at HKF HF HLl
                clear hf HM
                go_wp2_with (first | ((with_reducible refine wpList_key (.tmp 7) nf f HKF.out ?_ ?_ ?_ ?_); rfl; rfl; rfl) | ((with_reducible refine wpList_store_keyK ?_ (.tmp 4) (.tmp 59) ?_ N ?_ zK f HKZ.out HLl.out ?_ ?_); rfl; rfl; rfl; rfl; intro w4 HK4 HG4; generalize hG : wpList _ _ _ _ _ _ = G))
                subst hG
                go_wp2
                refine bodyPost_ret (results_cell2 rfl _ _ _ rfl _ (loadBlkT HK4.out.1 38 _ Try.underlying38 rfl 32 infoKey (by simp [HLl.out]))) rfl ?_
                exact ⟨f, 0, rfl, HLl.out, HBE.out.trans (below_grownBy HG4.out (by rw [← HN.out]; exact Nat.le_refl _) HBE.out.size), .inr ⟨HG.out, HF.out⟩⟩
  · have hpi : (64 : Int) < (p.length : Int) := by omega
    have HG := hide (goodP_long hp)
    clear hW0 hp
    have HK0 : Hid (Blk W0 N keyZ 38) := hide HKZ.out.1
    go_wp2_with (first | ((with_reducible refine wpList_store_blk ?_ 38 (.tmp 4) (.tmp 13) ?_ N 32 keyZ keyZ 38 HZS.out HZS.out ?_ ?_ HK0.out infoKey HU1.out ?_); rfl; rfl; rfl; rfl; intro w9 hk9 hg9; have HK9 := hide hk9; have HG9 := hide hg9; clear hk9 hg9))
    refine bodyPost_ret (results_cell2 rfl _ _ _ rfl _ (loadBlkT HK9.out 38 _ Try.underlying38 rfl 32 infoKey HZS.out)) rfl ?_
    exact ⟨zK, 30, rfl, rfl, HBE.out.trans (below_grownBy HG9.out (by rw [← HN.out]; exact Nat.le_refl _) HBE.out.size), .inl ⟨HG.out, rfl, rfl⟩⟩
end Go.Proofs.Ytnloglecfbhpcaa
