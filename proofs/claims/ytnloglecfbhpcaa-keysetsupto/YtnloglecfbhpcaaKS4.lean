/- The document's set: NewSet, Union, Both, Minus. -/
import Derived.Test.YtnloglecfbhpcaaKS3
namespace Go.Proofs.Ytnloglecfbhpcaa
set_option linter.unusedVariables false
set_option linter.unusedSimpArgs false
open Go.RowKit Go.Sort
set_option maxRecDepth 100000
set_option maxHeartbeats 8000000

def foldAdd (S ks : List (List UInt8)) : List (List UInt8) := ks.foldl (fun S k => addK k S) S
theorem foldAdd_snoc (S ks : List (List UInt8)) (y : List UInt8) : foldAdd S (ks ++ [y]) = addK y (foldAdd S ks) := by simp [foldAdd]
theorem foldAdd_next {S ks : List (List UInt8)} {i : Nat} {y : List UInt8} (hi : i < ks.length) (hy : y = ks[i]) : foldAdd S (ks.take (i + 1)) = addK y (foldAdd S (ks.take i)) := by rw [take_snoc hi hy, foldAdd_snoc]
theorem foldAdd_len (S : List (List UInt8)) : ∀ ks : List (List UInt8), (foldAdd S ks).length ≤ S.length + ks.length := by
  intro ks
  induction ks generalizing S with
  | nil => exact Nat.le_refl _
  | cons k ks ih =>
    have h1 := ih (addK k S)
    have h2 := addK_len k S
    show (foldAdd (addK k S) ks).length ≤ _
    rw [List.length_cons]
    omega
theorem mem_foldAdd (S : List (List UInt8)) : ∀ (ks : List (List UInt8)) (x : List UInt8), x ∈ foldAdd S ks ↔ x ∈ S ∨ x ∈ ks := by
  intro ks
  induction ks generalizing S with
  | nil => intro x; simp [foldAdd]
  | cons k ks ih =>
    intro x
    show x ∈ foldAdd (addK k S) ks ↔ _
    rw [ih, mem_addK, List.mem_cons]
    constructor
    · rintro ((h | h) | h)
      · exact .inr (.inl h)
      · exact .inl h
      · exact .inr (.inr h)
    · rintro (h | h | h)
      · exact .inl (.inr h)
      · exact .inl (.inl h)
      · exact .inr h
def selD (B : List (List UInt8)) (yes : Bool) (A : List (List UInt8)) : List (List UInt8) := A.filter fun y => decide (y ∈ B) == yes
theorem selD_in {A B : List (List UInt8)} {yes : Bool} {i : Nat} {y : List UInt8} (hi : i < A.length) (hy : y = A[i]) (h : decide (y ∈ B) = yes) : foldAdd [] (selD B yes (A.take (i + 1))) = addK y (foldAdd [] (selD B yes (A.take i))) := by
  unfold selD
  rw [take_snoc hi hy, List.filter_append, show List.filter (fun z => decide (z ∈ B) == yes) [y] = [y] by simp [h], foldAdd_snoc]
theorem selD_out {A B : List (List UInt8)} {yes : Bool} {i : Nat} {y : List UInt8} (hi : i < A.length) (hy : y = A[i]) (h : decide (y ∈ B) = !yes) : selD B yes (A.take (i + 1)) = selD B yes (A.take i) := by
  unfold selD
  rw [take_snoc hi hy, List.filter_append, show List.filter (fun z => decide (z ∈ B) == yes) [y] = [] by simp [h], List.append_nil]
theorem selD_len {A B : List (List UInt8)} {yes : Bool} : (selD B yes A).length ≤ A.length := List.length_filter_le _ _
def RnewC (w : World) (R : List (List UInt8)) (e : Ending) (w' : World) : Prop := ∃ z, e = .returned (.pointer (some ⟨z, 0, none⟩)) ∧ w.heap.size ≤ z ∧ RsB w' z R ∧ Below w.heap.size w w'
/-- A new set is filled. -/
structure NwS (w : World) (z : Nat) (S : List (List UInt8)) (W : World) : Prop where
  rs : RsB W z S
  bel : Below w.heap.size w W
theorem NwS.below {w W W' : World} {z : Nat} {S : List (List UInt8)} (h : NwS w z S W) (hb : Below W.heap.size W W') : NwS w z S W' := ⟨h.rs.below hb, h.bel.trans (hb.mono h.bel.size)⟩
theorem NwS.add {w W W' : World} {z : Nat} {S S' : List (List UInt8)} (h : NwS w z S W) (hz : w.heap.size ≤ z) (hs : RsB W' z S') (hg : W.grownBy W' (some z)) : NwS w z S' W' := ⟨hs, h.bel.grown hg h.bel.size (fun j hj => by cases hj; exact hz)⟩
theorem rs_new (w : World) : NwS w w.heap.size [] (w.alloc (.cells #[.slice none 0 0] 48)) := ⟨⟨none, 0, 0, Blk.made w _ _, rfl, ⟨fun i hi => absurd hi (Nat.not_lt_zero _), fun k hk => by cases hk⟩⟩, (Below.refl _ _).alloc (Nat.le_refl _) _⟩
theorem name_worldR {P : Program} {c : Code} {Q : Exit → Act → World → Prop} {a : Act} {w : World} (R : World → Prop) (h : R w) (k : ∀ W, R W → c.wp P Q a W) : c.wp P Q a w := k w h
theorem rnewset_any (w : World) (ao : Option Addr) (n c : Nat) (ks : List (List UInt8)) (hn : n = ks.length) (hr : KRow w ao ks) (hl : n ≤ 4398046510976) : Calls Try.prog 7 #[.slice ao n c] w (RnewC w (foldAdd [] ks)) := by
  have HN := hide hn
  have HR : Hid (∀ w', Below w.heap.size w w' → KRow w' ao ks) := hide (fun w' hb => hr.below hb)
  have HS := hide (rs_new w)
  clear hr hn
  go_enter Try.func7, Try.ntmps7
  go_upto_region 3 with fail
  refine name_worldR (fun W => NwS w w.heap.size [] W) HS.out ?_
  rintro W0 hW0
  have HS0 := hide hW0
  clear hW0 HS
  obtain ⟨z, hz⟩ : ∃ z, z = w.heap.size := ⟨_, rfl⟩
  rw [← hz] at HS0 ⊢
  have HZ := hide hz
  clear hz
  go_loopw [4] (fun t wr => ∃ i : Nat, t = .int .i64 i ∧ i ≤ n ∧ NwS w z (foldAdd [] (ks.take i)) wr) (fun t _ => n - (intOf t).toNat)
  case atStart => exact ⟨0, rfl, by omega, HS0.out⟩
  case round =>
    clear HS0
    obtain ⟨i, rfl, hi, hS⟩ := hrel
    have HS := hide hS
    clear hS
    by_cases hlt : i < n
    · have hii : (i : Int) < (n : Int) := by omega
      have hil : i < ks.length := by rw [← HN.out]; exact hlt
      obtain ⟨y, hy⟩ : ∃ y, y = ks[i] := ⟨_, rfl⟩
      obtain ⟨g, o, rfl, hrd⟩ := (HR.out wr HS.out.bel).at' i hil
      have hyl : y.length = 32 := by rw [hy]; exact (HR.out wr HS.out.bel).len _ (List.getElem_mem _)
      rw [← hy] at hrd
      have HRY := hide hrd
      have HY := hide hyl
      have HE := hide (foldAdd_next (S := []) hil hy)
      have HAd := hide (radd_any wr z (foldAdd [] (ks.take i)) y hyl HS.out.rs (by have h1 := foldAdd_len [] (ks.take i); have h2 := take_len_le (R := ks) i; have := HN.out; simp only [List.length_nil] at h1; omega))
      clear hrd hyl hy hil
      go_upto_region 4 with (first | ((with_reducible refine wpList_load_keyAt (.tmp 16) g (o + i * 32) y HY.out HRY.out ?_ ?_ ?_ ?_); rfl; rfl; rfl) | (go_at_call 16; (with_reducible refine HAd.out.mono ?_); rintro e w1 ⟨rfl, hs1, hg1⟩; have HS1 := hide (HS.out.add (by rw [← HZ.out]; exact Nat.le_refl _) hs1 hg1); clear hs1 hg1))
      rw [← HE.out] at HS1
      clear HAd HRY HS
      go_wp2
      go_roundw
      case rel => exact ⟨i + 1, by go_num, by omega, HS1.out⟩
      case measure => simp [intOf]; omega
    · have hii : ¬ (i : Int) < (n : Int) := by omega
      have HE : Hid (ks.take i = ks) := hide (List.take_of_length_le (by have := HN.out; omega))
      rw [HE.out] at HS
      go_wp2
      go_ret
      exact ⟨z, rfl, by rw [← HZ.out]; exact Nat.le_refl _, HS.out.rs, HS.out.bel⟩
theorem runion_any (w : World) (za zb : Nat) (A B : List (List UInt8)) (hA : RsB w za A) (hB : RsB w zb B) (hn : A.length + B.length ≤ 4398046510976) : Calls Try.prog 30 #[.pointer (some ⟨za, 0, none⟩), .pointer (some ⟨zb, 0, none⟩)] w (RnewC w (foldAdd (foldAdd [] A) B)) := by
  obtain ⟨aa, na, ca, hA⟩ := hA
  obtain ⟨ab, nb, cb, hB⟩ := hB
  have HNA := hide hA.len
  have HNB := hide hB.len
  have ca0 : w.cell? ⟨za, 0, none⟩ = some (.slice aa na ca) := by rw [hA.blk.cell]; rfl
  have HNew := hide (rnewset_any w aa na ca A hA.len hA.row (by have := hA.len; omega))
  have HB : Hid (∀ w', Below w.heap.size w w' → RsAt w' zb ab nb cb B) := hide (fun w' hb => hB.below hb)
  have HLn := hide hn
  have la := hA.blk.lt
  clear hA hB hn
  go_enter Try.func30, Try.ntmps30
  go_upto_region 3 with (go_at_call 7; (with_reducible refine HNew.out.mono ?_); rintro e W0 ⟨z, rfl, hz, hs, hb⟩; have HZ := hide hz; have HS0 : Hid (NwS w z (foldAdd [] A) W0) := hide ⟨hs, hb⟩; clear hz hs hb)
  clear ca0 la HNew
  obtain ⟨A', hA'⟩ : ∃ A', A' = foldAdd [] A := ⟨_, rfl⟩
  rw [← hA'] at HS0 ⊢
  have HA' : Hid (A'.length ≤ A.length) := hide (by have := foldAdd_len [] A; rw [← hA'] at this; simpa using this)
  have HE2 := hide hA'
  have hnb : nb ≤ 4398046510976 := by have := HNB.out; have := HLn.out; omega
  clear hA'
  go_loopw [6] (fun t wr => ∃ i : Nat, t = .int .i64 i ∧ i ≤ nb ∧ NwS w z (foldAdd A' (B.take i)) wr) (fun t _ => nb - (intOf t).toNat)
  case atStart => exact ⟨0, rfl, by omega, HS0.out⟩
  case round =>
    clear HS0
    obtain ⟨i, rfl, hi, hS⟩ := hrel
    have HS := hide hS
    clear hS
    have cb0 : wr.cell? ⟨zb, 0, none⟩ = some (.slice ab nb cb) := by rw [(HB.out wr HS.out.bel).blk.cell]; rfl
    by_cases hlt : i < nb
    · have hii : (i : Int) < (nb : Int) := by omega
      have hil : i < B.length := by rw [← HNB.out]; exact hlt
      obtain ⟨y, hy⟩ : ∃ y, y = B[i] := ⟨_, rfl⟩
      obtain ⟨g, o, rfl, hrd⟩ := (HB.out wr HS.out.bel).row.at' i hil
      have hyl : y.length = 32 := by rw [hy]; exact (HB.out wr HS.out.bel).row.len _ (List.getElem_mem _)
      rw [← hy] at hrd
      have HRY := hide hrd
      have HY := hide hyl
      have HE := hide (foldAdd_next (S := A') hil hy)
      have HAd := hide (radd_any wr z (foldAdd A' (B.take i)) y hyl HS.out.rs (by have h1 := foldAdd_len A' (B.take i); have h2 := take_len_le (R := B) i; have := HA'.out; have := HLn.out; omega))
      clear hrd hyl hy hil
      go_upto_region 4 with (first | ((with_reducible refine wpList_load_keyAt (.tmp 27) g (o + i * 32) y HY.out HRY.out ?_ ?_ ?_ ?_); rfl; rfl; rfl) | (go_at_call 16; (with_reducible refine HAd.out.mono ?_); rintro e w1 ⟨rfl, hs1, hg1⟩; have HS1 := hide (HS.out.add HZ.out hs1 hg1); clear hs1 hg1))
      rw [← HE.out] at HS1
      clear HAd HRY HS cb0
      go_wp2
      go_roundw
      case rel => exact ⟨i + 1, by go_num, by omega, HS1.out⟩
      case measure => simp [intOf]; omega
    · have hii : ¬ (i : Int) < (nb : Int) := by omega
      have HE : Hid (B.take i = B) := hide (List.take_of_length_le (by have := HNB.out; omega))
      rw [HE.out] at HS
      go_wp2
      go_ret
      exact ⟨z, rfl, HZ.out, by rw [← HE2.out]; exact HS.out.rs, HS.out.bel⟩
theorem rboth_any (w : World) (za zb : Nat) (A B : List (List UInt8)) (hA : RsB w za A) (hB : RsB w zb B) (hn : A.length ≤ 4398046510976 ∧ B.length ≤ 4398046510976) : Calls Try.prog 32 #[.pointer (some ⟨za, 0, none⟩), .pointer (some ⟨zb, 0, none⟩)] w (RnewC w (foldAdd [] (selD B true A))) := by
  obtain ⟨aa, na, ca, hA⟩ := hA
  have HNA := hide hA.len
  have HA : Hid (∀ w', Below w.heap.size w w' → RsAt w' za aa na ca A) := hide (fun w' hb => hA.below hb)
  have HB : Hid (∀ w', Below w.heap.size w w' → RsB w' zb B) := hide (fun w' hb => hB.below hb)
  have HLn := hide hn
  have HS := hide (rs_new w)
  clear hA hB hn
  go_enter Try.func32, Try.ntmps32
  go_upto_region 3 with fail
  refine name_worldR (fun W => NwS w w.heap.size [] W) HS.out ?_
  rintro W0 hW0
  have HS0 := hide hW0
  clear hW0 HS
  obtain ⟨z, hz⟩ : ∃ z, z = w.heap.size := ⟨_, rfl⟩
  rw [← hz] at HS0 ⊢
  have HZ : Hid (w.heap.size ≤ z) := hide (by rw [hz]; exact Nat.le_refl _)
  have hna : na ≤ 4398046510976 := by have := HNA.out; have := HLn.out; omega
  clear hz
  go_loopw [6] (fun t wr => ∃ i : Nat, t = .int .i64 i ∧ i ≤ na ∧ NwS w z (foldAdd [] (selD B true (A.take i))) wr) (fun t _ => na - (intOf t).toNat)
  case atStart => exact ⟨0, rfl, by omega, HS0.out⟩
  case round =>
    clear HS0
    obtain ⟨i, rfl, hi, hS⟩ := hrel
    have HS := hide hS
    clear hS
    have ca0 : wr.cell? ⟨za, 0, none⟩ = some (.slice aa na ca) := by rw [(HA.out wr HS.out.bel).blk.cell]; rfl
    by_cases hlt : i < na
    · have hii : (i : Int) < (na : Int) := by omega
      have hil : i < A.length := by rw [← HNA.out]; exact hlt
      obtain ⟨y, hy⟩ : ∃ y, y = A[i] := ⟨_, rfl⟩
      obtain ⟨g, o, rfl, hrd⟩ := (HA.out wr HS.out.bel).row.at' i hil
      have hyl : y.length = 32 := by rw [hy]; exact (HA.out wr HS.out.bel).row.len _ (List.getElem_mem _)
      rw [← hy] at hrd
      have HRD : Hid (∀ w', Below wr.heap.size wr w' → w'.rangeAt g (o + i * 32) (y.map u8c) ∧ w'.cell? ⟨za, 0, none⟩ = some (.slice (some ⟨g, o, none⟩) na ca)) := hide (fun w' hb => by
        have h1 := (HA.out w' (HS.out.below hb).bel)
        obtain ⟨g', o', e', h2⟩ := h1.row.at' i hil
        cases e'
        exact ⟨by rw [hy]; exact h2, by rw [h1.blk.cell]; rfl⟩)
      have HRY := hide hrd
      have HY := hide hyl
      have HIn : Hid (decide (y ∈ B) = true → foldAdd [] (selD B true (A.take (i + 1))) = addK y (foldAdd [] (selD B true (A.take i)))) := hide (fun h => selD_in hil hy h)
      have HOut : Hid (decide (y ∈ B) = !true → selD B true (A.take (i + 1)) = selD B true (A.take i)) := hide (fun h => selD_out hil hy h)
      have HHs := hide (rhasB wr zb B y hyl (HB.out wr HS.out.bel) (by have := HLn.out; omega))
      clear hrd hyl hy hil
      cases hin : decide (y ∈ B) with
      | true =>
        have HE := hide (HIn.out hin)
        rw [hin] at HHs
        clear hin
        go_upto_region 6 with (first | ((with_reducible refine wpList_load_keyAt (.tmp 24) g (o + i * 32) y HY.out HRY.out ?_ ?_ ?_ ?_); rfl; rfl; rfl) | (go_at_call 18; (with_reducible refine HHs.out.mono ?_); rintro e w1 ⟨rfl, hb1⟩; have HB1 := hide hb1; clear hb1))
        have HS1 := hide (HS.out.below HB1.out)
        have HRY := hide (HRD.out w1 HB1.out).1
        have ca0 := (HRD.out w1 HB1.out).2
        have HAd := hide (radd_any w1 z (foldAdd [] (selD B true (A.take i))) y HY.out HS1.out.rs (by have h1 := foldAdd_len [] (selD B true (A.take i)); have h2 := take_len_le (R := A) i; have h3 := selD_len (A := A.take i) (B := B) (yes := true); have := HLn.out; simp only [List.length_nil] at h1; omega))
        clear HHs HRD HB1 HS
        go_upto_region 4 with (first | ((with_reducible refine wpList_load_keyAt (.tmp 33) g (o + i * 32) y HY.out HRY.out ?_ ?_ ?_ ?_); rfl; rfl; rfl) | (go_at_call 16; (with_reducible refine HAd.out.mono ?_); rintro e w2 ⟨rfl, hs1, hg1⟩; have HS2 := hide (HS1.out.add HZ.out hs1 hg1); clear hs1 hg1))
        rw [← HE.out] at HS2
        clear HAd HRY HS1 ca0
        go_wp2
        go_roundw
        case rel => exact ⟨i + 1, by go_num, by omega, HS2.out⟩
        case measure => simp [intOf]; omega
      | false =>
        have HE := hide (HOut.out hin)
        rw [hin] at HHs
        clear hin
        go_upto_region 4 with (first | ((with_reducible refine wpList_load_keyAt (.tmp 24) g (o + i * 32) y HY.out HRY.out ?_ ?_ ?_ ?_); rfl; rfl; rfl) | (go_at_call 18; (with_reducible refine HHs.out.mono ?_); rintro e w1 ⟨rfl, hb1⟩; have HB1 := hide hb1; clear hb1))
        have HS1 := hide (HS.out.below HB1.out)
        clear HHs HRD HB1 HS ca0
        go_wp2
        go_roundw
        case rel => exact ⟨i + 1, by go_num, by omega, by rw [HE.out]; exact HS1.out⟩
        case measure => simp [intOf]; omega
    · have hii : ¬ (i : Int) < (na : Int) := by omega
      have HE : Hid (A.take i = A) := hide (List.take_of_length_le (by have := HNA.out; omega))
      rw [HE.out] at HS
      go_wp2
      go_ret
      exact ⟨z, rfl, HZ.out, HS.out.rs, HS.out.bel⟩
theorem rminus_any (w : World) (za zb : Nat) (A B : List (List UInt8)) (hA : RsB w za A) (hB : RsB w zb B) (hn : A.length ≤ 4398046510976 ∧ B.length ≤ 4398046510976) : Calls Try.prog 34 #[.pointer (some ⟨za, 0, none⟩), .pointer (some ⟨zb, 0, none⟩)] w (RnewC w (foldAdd [] (selD B false A))) := by
  obtain ⟨aa, na, ca, hA⟩ := hA
  have HNA := hide hA.len
  have HA : Hid (∀ w', Below w.heap.size w w' → RsAt w' za aa na ca A) := hide (fun w' hb => hA.below hb)
  have HB : Hid (∀ w', Below w.heap.size w w' → RsB w' zb B) := hide (fun w' hb => hB.below hb)
  have HLn := hide hn
  have HS := hide (rs_new w)
  clear hA hB hn
  go_enter Try.func34, Try.ntmps34
  go_upto_region 3 with fail
  refine name_worldR (fun W => NwS w w.heap.size [] W) HS.out ?_
  rintro W0 hW0
  have HS0 := hide hW0
  clear hW0 HS
  obtain ⟨z, hz⟩ : ∃ z, z = w.heap.size := ⟨_, rfl⟩
  rw [← hz] at HS0 ⊢
  have HZ : Hid (w.heap.size ≤ z) := hide (by rw [hz]; exact Nat.le_refl _)
  have hna : na ≤ 4398046510976 := by have := HNA.out; have := HLn.out; omega
  clear hz
  go_loopw [6] (fun t wr => ∃ i : Nat, t = .int .i64 i ∧ i ≤ na ∧ NwS w z (foldAdd [] (selD B false (A.take i))) wr) (fun t _ => na - (intOf t).toNat)
  case atStart => exact ⟨0, rfl, by omega, HS0.out⟩
  case round =>
    clear HS0
    obtain ⟨i, rfl, hi, hS⟩ := hrel
    have HS := hide hS
    clear hS
    have ca0 : wr.cell? ⟨za, 0, none⟩ = some (.slice aa na ca) := by rw [(HA.out wr HS.out.bel).blk.cell]; rfl
    by_cases hlt : i < na
    · have hii : (i : Int) < (na : Int) := by omega
      have hil : i < A.length := by rw [← HNA.out]; exact hlt
      obtain ⟨y, hy⟩ : ∃ y, y = A[i] := ⟨_, rfl⟩
      obtain ⟨g, o, rfl, hrd⟩ := (HA.out wr HS.out.bel).row.at' i hil
      have hyl : y.length = 32 := by rw [hy]; exact (HA.out wr HS.out.bel).row.len _ (List.getElem_mem _)
      rw [← hy] at hrd
      have HRD : Hid (∀ w', Below wr.heap.size wr w' → w'.rangeAt g (o + i * 32) (y.map u8c) ∧ w'.cell? ⟨za, 0, none⟩ = some (.slice (some ⟨g, o, none⟩) na ca)) := hide (fun w' hb => by
        have h1 := (HA.out w' (HS.out.below hb).bel)
        obtain ⟨g', o', e', h2⟩ := h1.row.at' i hil
        cases e'
        exact ⟨by rw [hy]; exact h2, by rw [h1.blk.cell]; rfl⟩)
      have HRY := hide hrd
      have HY := hide hyl
      have HIn : Hid (decide (y ∈ B) = false → foldAdd [] (selD B false (A.take (i + 1))) = addK y (foldAdd [] (selD B false (A.take i)))) := hide (fun h => selD_in hil hy h)
      have HOut : Hid (decide (y ∈ B) = !false → selD B false (A.take (i + 1)) = selD B false (A.take i)) := hide (fun h => selD_out hil hy h)
      have HHs := hide (rhasB wr zb B y hyl (HB.out wr HS.out.bel) (by have := HLn.out; omega))
      clear hrd hyl hy hil
      cases hin : decide (y ∈ B) with
      | false =>
        have HE := hide (HIn.out hin)
        rw [hin] at HHs
        clear hin
        go_upto_region 6 with (first | ((with_reducible refine wpList_load_keyAt (.tmp 24) g (o + i * 32) y HY.out HRY.out ?_ ?_ ?_ ?_); rfl; rfl; rfl) | (go_at_call 18; (with_reducible refine HHs.out.mono ?_); rintro e w1 ⟨rfl, hb1⟩; have HB1 := hide hb1; clear hb1))
        have HS1 := hide (HS.out.below HB1.out)
        have HRY := hide (HRD.out w1 HB1.out).1
        have ca0 := (HRD.out w1 HB1.out).2
        have HAd := hide (radd_any w1 z (foldAdd [] (selD B false (A.take i))) y HY.out HS1.out.rs (by have h1 := foldAdd_len [] (selD B false (A.take i)); have h2 := take_len_le (R := A) i; have h3 := selD_len (A := A.take i) (B := B) (yes := false); have := HLn.out; simp only [List.length_nil] at h1; omega))
        clear HHs HRD HB1 HS
        go_upto_region 4 with (first | ((with_reducible refine wpList_load_keyAt (.tmp 34) g (o + i * 32) y HY.out HRY.out ?_ ?_ ?_ ?_); rfl; rfl; rfl) | (go_at_call 16; (with_reducible refine HAd.out.mono ?_); rintro e w2 ⟨rfl, hs1, hg1⟩; have HS2 := hide (HS1.out.add HZ.out hs1 hg1); clear hs1 hg1))
        rw [← HE.out] at HS2
        clear HAd HRY HS1 ca0
        go_wp2
        go_roundw
        case rel => exact ⟨i + 1, by go_num, by omega, HS2.out⟩
        case measure => simp [intOf]; omega
      | true =>
        have HE := hide (HOut.out hin)
        rw [hin] at HHs
        clear hin
        go_upto_region 4 with (first | ((with_reducible refine wpList_load_keyAt (.tmp 24) g (o + i * 32) y HY.out HRY.out ?_ ?_ ?_ ?_); rfl; rfl; rfl) | (go_at_call 18; (with_reducible refine HHs.out.mono ?_); rintro e w1 ⟨rfl, hb1⟩; have HB1 := hide hb1; clear hb1))
        have HS1 := hide (HS.out.below HB1.out)
        clear HHs HRD HB1 HS ca0
        go_wp2
        go_roundw
        case rel => exact ⟨i + 1, by go_num, by omega, by rw [HE.out]; exact HS1.out⟩
        case measure => simp [intOf]; omega
    · have hii : ¬ (i : Int) < (na : Int) := by omega
      have HE : Hid (A.take i = A) := hide (List.take_of_length_le (by have := HNA.out; omega))
      rw [HE.out] at HS
      go_wp2
      go_ret
      exact ⟨z, rfl, HZ.out, HS.out.rs, HS.out.bel⟩
end Go.Proofs.Ytnloglecfbhpcaa
