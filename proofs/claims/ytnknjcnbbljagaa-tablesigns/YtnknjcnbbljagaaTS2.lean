/- The document's table in memory: Tags. -/
import Derived.Test.YtnknjcnbbljagaaTRA
namespace Go.Proofs.Ytnknjcnbbljagaa
set_option linter.unusedVariables false
set_option linter.unusedSimpArgs false
namespace RR
set_option maxRecDepth 100000
open Go.RowKit

/-- The tags of some slots. -/
def tgs (L : List SR) : List Int := (prs L).map (fun x => x.1.2)
theorem tgs_take (L : List SR) (j : Nat) (h : j < L.length) : tgs (L.take (j + 1)) = tgs (L.take j) ++ tgs [sat L j] := by
  unfold tgs
  rw [List.take_add_one, sat_get h]
  show List.map _ (prs (L.take j ++ [sat L j])) = _
  rw [prs_snoc, List.map_append]
theorem tgs_le (L : List SR) (j : Nat) : (tgs (L.take j)).length ≤ (tgs L).length := by
  have e : tgs L = tgs (L.take j) ++ tgs (L.drop j) := by
    unfold tgs
    rw [← List.map_append]
    congr 1
    have h : ∀ A B : List SR, prs (A ++ B) = prs A ++ prs B := by
      intro A B
      induction A with
      | nil => rfl
      | cons x A ih => cases x <;> simp [prs, ih]
    rw [← h, List.take_append_drop]
  rw [e, List.length_append]
  omega
section
variable {z gy ge : Nat} {ti ma : Int} {T : TR}
set_option maxHeartbeats 8000000 in
theorem tags_any (w : World) (H : TbR w z gy ge ti ma T) (hlen : (tgs T.e ++ tgs T.y).length ≤ 8796093022208) : Calls Try.prog 48 #[.pointer (some ⟨z, 0, none⟩)] w (PrsC w (tgs T.e ++ tgs T.y)) := by
  have HH := hide H
  have b1 := H.by'
  have b2 := H.be
  rw [List.length_append] at hlen
  have HL := hide hlen
  obtain ⟨ne, hne⟩ : ∃ n, n = T.e.length := ⟨_, rfl⟩
  obtain ⟨ny, hny⟩ : ∃ n, n = T.y.length := ⟨_, rfl⟩
  rw [← hny] at b1
  rw [← hne] at b2
  have HNE := hide hne
  have HNY := hide hny
  have HC3 : Hid (∃ ao, ∀ W, Below w.heap.size w W → W.cell? ⟨z, 3, none⟩ = some (.slice ao ne ne) ∧ W.cell? ⟨z, 2, none⟩ = some (.slice (some ⟨gy, 0, none⟩) ny ny) ∧ z < W.heap.size ∧ (ne ≠ 0 → ao = some ⟨ge, 0, none⟩)) := hide (by
    obtain ⟨ao, c3, hao⟩ := H.c3
    refine ⟨ao, fun W hb => ?_⟩
    have hz := H.blk.lt
    have h2 := H.c2
    rw [← hne] at c3 hao
    rw [← hny] at h2
    exact ⟨(hb.cell (p := ⟨z, 3, none⟩) hz).trans c3, (hb.cell (p := ⟨z, 2, none⟩) hz).trans h2, Nat.lt_of_lt_of_le hz hb.size, hao⟩)
  obtain ⟨ao, hC⟩ := HC3.out
  have HC := hide hC
  clear H hlen hne hny HC3 hC
  go_enter Try.func48, Try.ntmps48
  go_upto_region 3 with fail
  go_loopw [3, 4] (fun a t wr => ∃ (va : Value) (j : Nat), va = a ∧ t = .int .i64 j ∧ j ≤ ne ∧ OwnsI wr w.heap.size va (tgs (T.e.take j)) ∧ Below w.heap.size w wr) (fun _ t _ => ne - (intOf t).toNat)
  case atStart => exact ⟨_, 0, rfl, rfl, Nat.zero_le _, World.ownsRow_nil _ _ _ _, Below.refl _ _⟩
  case round =>
    obtain ⟨va, j, rfl, rfl, hj, hown, hbel⟩ := hrel
    obtain ⟨c3, c2, hz, hao⟩ := HC.out wr hbel
    by_cases hlt : j < ne
    · have hji : (j : Int) < (ne : Int) := by omega
      obtain rfl := hao (by omega)
      have hjl : j < T.e.length := by rw [← HNE.out]; exact hlt
      have hr : RowR wr ge T.e := (HH.out.below hbel).re (by omega)
      have hg := hr.lt
      have d0 := hr.c0 j hjl
      have d2 := hr.c2 j hjl
      have HU := hide (tgs_take T.e j hjl)
      have hul : (tgs (T.e.take j)).length ≤ 8796093022208 := by have := tgs_le T.e j; have := HL.out; omega
      have hbl : (tgs (T.e.take j)).length + 1 ≤ 8796093022208 ∨ tgs [sat T.e j] = [] := by
        have h1 := tgs_le T.e (j + 1)
        have h2 := HL.out
        rw [HU.out, List.length_append] at h1
        rcases Nat.eq_zero_or_pos (tgs [sat T.e j]).length with h | h
        · exact .inr (List.eq_nil_of_length_eq_zero h)
        · left; omega
      have HBL := hide hbl
      have HOW := hide hown
      have HBE := hide hbel
      clear hr hjl hown hbel hbl hao
      cases hs : sat T.e j with
      | emp =>
        rw [hs] at d0 HU
        have e0 : (((Slt.emp : SR).st : Nat) : Int) = 0 := rfl
        rw [e0] at d0
        have HF : Hid (tgs (T.e.take (j + 1)) = tgs (T.e.take j)) := hide (by rw [HU.out]; simp [tgs, prs])
        clear hs d2
        go_wp2
        go_roundw
        case rel => exact ⟨_, j + 1, rfl, by go_num, by omega, by rw [HF.out]; exact HOW.out, HBE.out⟩
        case measure => simp [intOf]; omega
      | tmb =>
        rw [hs] at d0 HU
        have e0 : (((Slt.tmb : SR).st : Nat) : Int) = 2 := rfl
        rw [e0] at d0
        have HF : Hid (tgs (T.e.take (j + 1)) = tgs (T.e.take j)) := hide (by rw [HU.out]; simp [tgs, prs])
        clear hs d2
        go_wp2
        go_roundw
        case rel => exact ⟨_, j + 1, rfl, by go_num, by omega, by rw [HF.out]; exact HOW.out, HBE.out⟩
        case measure => simp [intOf]; omega
      | ful k' v' =>
        obtain ⟨kx, tx⟩ := k'
        rw [hs] at d0 d2 HU HBL
        have e0 : (((Slt.ful (kx, tx) v' : SR).st : Nat) : Int) = 1 := rfl
        have e2 : tR (Slt.ful (kx, tx) v') = tx := rfl
        rw [e0] at d0
        rw [e2] at d2
        have HF : Hid (tgs (T.e.take (j + 1)) = tgs (T.e.take j) ++ [tx]) := hide (by rw [HU.out]; simp [tgs, prs])
        have HB2 : Hid ((tgs (T.e.take j)).length + 1 ≤ 8796093022208) := hide (by
          rcases HBL.out with h | h
          · exact h
          · simp [tgs, prs] at h)
        obtain ⟨xs, hxs⟩ : ∃ xs, xs = tgs (T.e.take j) := ⟨_, rfl⟩
        rw [← hxs] at HF HOW HB2 hul
        obtain ⟨aa, ca, hfa, _⟩ := HOW.out.form
        subst hfa
        clear hs HU HBL hxs
        clear e0 e2
        have HC1 : Hid (OwnsI (wr.alloc (.cells #[.int .i64 tx] 3)) w.heap.size (.slice aa xs.length ca) xs) := hide (HOW.out.below (below_alloc _ _))
        have HC2 : Hid ((wr.alloc (.cells #[.int .i64 tx] 3)).cell? ⟨wr.heap.size, 0, none⟩ = some (.int .i64 tx)) := hide (by rw [(Blk.made wr _ _).cell]; rfl)
        have HC3 : Hid (xs.length + 1 ≤ 17592186044416) := hide (by have := HB2.out; omega)
        have HC4 : Hid (w.heap.size ≤ (wr.alloc (.cells #[.int .i64 tx] 3)).heap.size) := hide (by have := HBE.out.size; simp; omega)
        have HB3 : Hid (Below w.heap.size w (wr.alloc (.cells #[.int .i64 tx] 3))) := hide (HBE.out.trans ((below_alloc wr _).mono HBE.out.size))
        go_wp2_with (at_builtin; refine wpList_append_int rfl _ _ rfl w.heap.size _ xs rfl HC1.out wr.heap.size 1 rfl tx HC2.out HC3.out HC4.out ?_; intro v3 w3 HO3 HG3 HL3; generalize hG : wpList _ _ _ _ _ _ = G)
        have HB4 : Hid (Below w.heap.size w w3) := hide (own_below HB3.out HC1.out HC4.out HG3.out)
        obtain ⟨aa3, ca3, hfa, _⟩ := HO3.out.form
        subst hfa
        generalize (xs ++ [tx]).length = l3 at *
        subst hG
        clear HC1 HC2 HC3 HC4 HG3 HB3 HL3
        go_wp2
        go_roundw
        case rel => exact ⟨_, j + 1, rfl, by go_num, by omega, by rw [HF.out]; exact HO3.out, HB4.out⟩
        case measure => simp [intOf]; omega
    · have hji : ¬ (j : Int) < (ne : Int) := by omega
      obtain rfl : j = ne := by omega
      have HO : Hid (OwnsI wr w.heap.size va (tgs T.e)) := hide (by
        rw [HNE.out, List.take_length] at hown
        exact hown)
      obtain ⟨aa, ca, hfa, _⟩ := HO.out.form
      subst hfa
      generalize hl0 : (tgs T.e).length = l0 at *
      have HLE := hide hl0
      clear hl0
      have HBE := hide hbel
      clear hown hbel hao
      go_upto_region 8 with fail
      obtain ⟨wp, rfl⟩ : ∃ w0, w0 = wr := ⟨_, rfl⟩
      clear c3 c2 hz
      go_loopw [3, 5] (fun a t wr => ∃ (va : Value) (j : Nat), va = a ∧ t = .int .i64 j ∧ j ≤ ny ∧ OwnsI wr w.heap.size va (tgs T.e ++ tgs (T.y.take j)) ∧ Below w.heap.size w wr) (fun _ t _ => ny - (intOf t).toNat)
      case atStart => exact ⟨_, 0, rfl, rfl, Nat.zero_le _, by simpa [tgs, prs] using HO.out, HBE.out⟩
      case round =>
        clear HO HBE hji hj
        obtain ⟨va, j, rfl, rfl, hj, hown, hbel⟩ := hrel
        obtain ⟨c3, c2, hz, hao⟩ := HC.out wr hbel
        clear hao
        by_cases hlt : j < ny
        · have hji : (j : Int) < (ny : Int) := by omega
          have hjl : j < T.y.length := by rw [← HNY.out]; exact hlt
          have hr : RowR wr gy T.y := (HH.out.below hbel).ry
          have hg := hr.lt
          have d0 := hr.c0 j hjl
          have d2 := hr.c2 j hjl
          have HU := hide (tgs_take T.y j hjl)
          have hul : (tgs T.e ++ tgs (T.y.take j)).length ≤ 8796093022208 := by rw [List.length_append]; have := tgs_le T.y j; have := HL.out; have := HLE.out; omega
          have hbl : (tgs T.e ++ tgs (T.y.take j)).length + 1 ≤ 8796093022208 ∨ tgs [sat T.y j] = [] := by
            have h1 := tgs_le T.y (j + 1)
            have h2 := HL.out
            rw [HU.out, List.length_append] at h1
            rcases Nat.eq_zero_or_pos (tgs [sat T.y j]).length with h | h
            · exact .inr (List.eq_nil_of_length_eq_zero h)
            · left; rw [List.length_append]; have := HLE.out; omega
          have HBL := hide hbl
          have HOW := hide hown
          have HBE := hide hbel
          clear hr hjl hown hbel hbl
          cases hs : sat T.y j with
          | emp =>
            rw [hs] at d0 HU
            have e0 : (((Slt.emp : SR).st : Nat) : Int) = 0 := rfl
            rw [e0] at d0
            have HF : Hid (tgs (T.y.take (j + 1)) = tgs (T.y.take j)) := hide (by rw [HU.out]; simp [tgs, prs])
            clear hs d2
            go_wp2
            go_roundw
            case rel => exact ⟨_, j + 1, rfl, by go_num, by omega, by rw [HF.out]; exact HOW.out, HBE.out⟩
            case measure => simp [intOf]; omega
          | tmb =>
            rw [hs] at d0 HU
            have e0 : (((Slt.tmb : SR).st : Nat) : Int) = 2 := rfl
            rw [e0] at d0
            have HF : Hid (tgs (T.y.take (j + 1)) = tgs (T.y.take j)) := hide (by rw [HU.out]; simp [tgs, prs])
            clear hs d2
            go_wp2
            go_roundw
            case rel => exact ⟨_, j + 1, rfl, by go_num, by omega, by rw [HF.out]; exact HOW.out, HBE.out⟩
            case measure => simp [intOf]; omega
          | ful k' v' =>
            obtain ⟨kx, tx⟩ := k'
            rw [hs] at d0 d2 HU HBL
            have e0 : (((Slt.ful (kx, tx) v' : SR).st : Nat) : Int) = 1 := rfl
            have e2 : tR (Slt.ful (kx, tx) v') = tx := rfl
            rw [e0] at d0
            rw [e2] at d2
            have HF : Hid (tgs T.e ++ tgs (T.y.take (j + 1)) = tgs T.e ++ tgs (T.y.take j) ++ [tx]) := hide (by rw [HU.out, ← List.append_assoc]; simp [tgs, prs])
            have HB2 : Hid ((tgs T.e ++ tgs (T.y.take j)).length + 1 ≤ 8796093022208) := hide (by
              rcases HBL.out with h | h
              · exact h
              · simp [tgs, prs] at h)
            obtain ⟨xs, hxs⟩ : ∃ xs, xs = tgs T.e ++ tgs (T.y.take j) := ⟨_, rfl⟩
            rw [← hxs] at HF HOW HB2 hul
            obtain ⟨aa, ca, hfa, _⟩ := HOW.out.form
            subst hfa
            clear hs HU HBL hxs
            clear e0 e2
            have HC1 : Hid (OwnsI (wr.alloc (.cells #[.int .i64 tx] 3)) w.heap.size (.slice aa xs.length ca) xs) := hide (HOW.out.below (below_alloc _ _))
            have HC2 : Hid ((wr.alloc (.cells #[.int .i64 tx] 3)).cell? ⟨wr.heap.size, 0, none⟩ = some (.int .i64 tx)) := hide (by rw [(Blk.made wr _ _).cell]; rfl)
            have HC3 : Hid (xs.length + 1 ≤ 17592186044416) := hide (by have := HB2.out; omega)
            have HC4 : Hid (w.heap.size ≤ (wr.alloc (.cells #[.int .i64 tx] 3)).heap.size) := hide (by have := HBE.out.size; simp; omega)
            have HB3 : Hid (Below w.heap.size w (wr.alloc (.cells #[.int .i64 tx] 3))) := hide (HBE.out.trans ((below_alloc wr _).mono HBE.out.size))
            go_wp2_with (at_builtin; refine wpList_append_int rfl _ _ rfl w.heap.size _ xs rfl HC1.out wr.heap.size 1 rfl tx HC2.out HC3.out HC4.out ?_; intro v3 w3 HO3 HG3 HL3; generalize hG : wpList _ _ _ _ _ _ = G)
            have HB4 : Hid (Below w.heap.size w w3) := hide (own_below HB3.out HC1.out HC4.out HG3.out)
            obtain ⟨aa3, ca3, hfa, _⟩ := HO3.out.form
            subst hfa
            generalize (xs ++ [tx]).length = l3 at *
            subst hG
            clear HC1 HC2 HC3 HC4 HG3 HB3 HL3
            go_wp2
            go_roundw
            case rel => exact ⟨_, j + 1, rfl, by go_num, by omega, by rw [HF.out]; exact HO3.out, HB4.out⟩
            case measure => simp [intOf]; omega
        · have hji : ¬ (j : Int) < (ny : Int) := by omega
          have HO : Hid (OwnsI wr w.heap.size va (tgs T.e ++ tgs T.y)) := hide (by
            rw [show j = T.y.length by have := HNY.out; omega, List.take_length] at hown
            exact hown)
          have HBE := hide hbel
          obtain ⟨aa, ca, hfa, _⟩ := HO.out.form
          subst hfa
          generalize (tgs T.e ++ tgs T.y).length = l0 at *
          clear hown hbel
          go_wp2
          go_returns
          exact ⟨_, rfl, HO.out, HBE.out⟩
end
end RR
end Go.Proofs.Ytnknjcnbbljagaa
