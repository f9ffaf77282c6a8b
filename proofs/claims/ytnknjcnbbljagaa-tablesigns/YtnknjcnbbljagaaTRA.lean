/- The document's table in memory: All. -/
import Derived.Test.YtnknjcnbbljagaaTR9
import Derived.Test.YtnknjcnbbljagaaTN5
namespace Go.Proofs.Ytnknjcnbbljagaa
set_option linter.unusedVariables false
set_option linter.unusedSimpArgs false
namespace RR
set_option maxRecDepth 100000
open Go.RowKit

/-- A list of ints appended to a row of one's own. -/
theorem wpList_append_ints {ops : Array Oper} {rest : List Oper} {o : Oper} {a : Act} {w : World} {Q : Exit → Act → World → Prop} (hgd : o.guard = none) (s x : Operand) (ho : o.op = .call { callee := .builtin .append, args := #[s, x], argTypes := #[40, 40] })
    (base : Nat) (v : Value) (xs : List Int) (hs : a.eval s = v) (hown : OwnsI w base v xs) (z m c : Nat) (hx : a.eval x = .slice (some ⟨z, 0, none⟩) m c) (ys : List Int) (hm : ys.length = m) (hc : Blk w z (ys.map i64c).toArray 3) (hlen : xs.length + m ≤ 17592186044416) (hbase : base ≤ w.heap.size)
    (h : ∀ v' w', Hid (OwnsI w' base v' (xs ++ ys)) → Hid (w.grownBy w' v.ownBlock) → Hid (v'.ownBlock = v.ownBlock ∨ v'.ownBlock = some w.heap.size) → wpList Try.prog ops Q rest (a.put o.dst v') w') : wpList Try.prog ops Q (o :: rest) a w := by
  obtain ⟨i0, hi, hz0, hz1, hz2⟩ := info_parts infoI64
  refine wpList_append_own_at w hgd s x 40 ho base 3 i0 (.int .i64 0) 1 8 Try.underlying40 hi hz0 hz1 hz2 rfl (by decide) v xs.length (xs.map i64c) hs hown ⟨z, 0, none⟩ m c (ys.map i64c) hx (by simp [hm]) ?_ ?_ (by unfold maxLen; omega) (by omega) hbase ?_
  · intro j u hj
    rw [Addr.add_mid, hc.cell]
    simpa using hj
  · intro u hu
    obtain ⟨q, _, rfl⟩ := List.mem_map.1 hu
    rfl
  · intro v' w' h1 h2 _ h4
    exact h v' w' (hide (by unfold OwnsI; rw [List.length_append, List.map_append, hm]; exact h1)) (hide h2) (hide h4)
/-- Two ints appended, in a region that draws its order. -/
theorem step_append_two {ops : Array Oper} {o : Oper} {a : Act} {w : World} {K : Act → World → Prop} {Q : Exit → Act → World → Prop} {E : Prop} (hgd : o.guard = none) (s x : Operand) (ho : o.op = .call { callee := .builtin .append, args := #[s, x], argTypes := #[40, 40] })
    (base : Nat) (v : Value) (xs : List Int) (hs : a.eval s = v) (hown : OwnsI w base v xs) (z c : Nat) (hx : a.eval x = .slice (some ⟨z, 0, none⟩) 2 c) (y1 y2 : Int) (hc : Blk w z #[.int .i64 y1, .int .i64 y2] 3) (hlen : xs.length + 2 ≤ 17592186044416) (hbase : base ≤ w.heap.size)
    (h : ∀ g cap w', Hid (OwnsI w' base (.slice (some ⟨g, 0, none⟩) (xs.length + 2) cap) (xs ++ [y1, y2])) → Hid (w.grownBy w' v.ownBlock) → K (a.put o.dst (.slice (some ⟨g, 0, none⟩) (xs.length + 2) cap)) w') :
    if Region.wanted o (yielded ops a.tmps) = true then Oper.wp Try.prog o a w K Q else E := by
  obtain ⟨i0, hi, hz0, hz1, hz2⟩ := info_parts infoI64
  refine step_append_lies w hgd s x 40 ho base 3 i0 (.int .i64 0) 1 8 Try.underlying40 hi hz0 hz1 hz2 rfl (by decide) v xs.length (xs.map i64c) hs hown ⟨z, 0, none⟩ 2 c [.int .i64 y1, .int .i64 y2] hx rfl ?_ (by intro v hv; simp at hv; rcases hv with rfl | rfl <;> rfl) (by decide) (by unfold maxLen; omega) (by omega) hbase w.heap.size rfl ?_
  · intro j u hj
    rw [Addr.add_mid, hc.cell]
    simpa using hj
  · intro g cap w' h1 h2 h3 _
    exact h g cap w' (hide (by unfold OwnsI; rw [List.length_append, List.map_append]; exact h1)) (hide h2)
/-- The pairs of some slots, without their tags. -/
def unt (L : List SR) : List (Int × Int) := (prs L).map (fun x => (x.1.1, x.2))
theorem prs_snoc (L : List SR) (s : SR) : prs (L ++ [s]) = prs L ++ prs [s] := by
  induction L with
  | nil => rfl
  | cons x L ih => cases x <;> simp [prs, ih]
theorem unt_take (L : List SR) (j : Nat) (h : j < L.length) : unt (L.take (j + 1)) = unt (L.take j) ++ unt [sat L j] := by
  unfold unt
  rw [List.take_add_one, sat_get h]
  show List.map _ (prs (L.take j ++ [sat L j])) = _
  rw [prs_snoc, List.map_append]
theorem unt_le (L : List SR) (j : Nat) : (unt (L.take j)).length ≤ (unt L).length := by
  have e : unt L = unt (L.take j) ++ unt (L.drop j) := by
    unfold unt
    rw [← List.map_append]
    congr 1
    have h : ∀ A B : List SR, prs (A ++ B) = prs A ++ prs B := by
      intro A B
      induction A with
      | nil => rfl
      | cons x A ih => cases x <;> simp [prs, ih]
    rw [← h, List.take_append_drop]
  rw [e, List.length_append]
  omega
theorem flat_append (a b : List (Int × Int)) : flat (a ++ b) = flat a ++ flat b := by simp [flat]
section
variable {z gy ge : Nat} {ti ma : Int} {T : TR}
set_option maxHeartbeats 8000000 in
theorem all_any (w : World) (H : TbR w z gy ge ti ma T) (hlen : (unt T.e ++ unt T.y).length ≤ 8796093022208) : Calls Try.prog 47 #[.pointer (some ⟨z, 0, none⟩)] w (PrsC w (flat (unt T.e ++ unt T.y))) := by
  have HH := hide H
  have b1 := H.by'
  have b2 := H.be
  rw [List.length_append] at hlen
  have HL := hide hlen
  obtain ⟨ne, hne⟩ : ∃ n, n = T.e.length := ⟨_, rfl⟩
  obtain ⟨ny, hny⟩ : ∃ n, n = T.y.length := ⟨_, rfl⟩
  rw [← hny] at b1
  rw [← hne] at b2
  have HNE := hide hne
  have HNY := hide hny
  have HC3 : Hid (∃ ao, ∀ W, Below w.heap.size w W → W.cell? ⟨z, 3, none⟩ = some (.slice ao ne ne) ∧ W.cell? ⟨z, 2, none⟩ = some (.slice (some ⟨gy, 0, none⟩) ny ny) ∧ z < W.heap.size ∧ (ne ≠ 0 → ao = some ⟨ge, 0, none⟩)) := hide (by
    obtain ⟨ao, c3, hao⟩ := H.c3
    refine ⟨ao, fun W hb => ?_⟩
    have hz := H.blk.lt
    have h2 := H.c2
    rw [← hne] at c3 hao
    rw [← hny] at h2
    exact ⟨(hb.cell (p := ⟨z, 3, none⟩) hz).trans c3, (hb.cell (p := ⟨z, 2, none⟩) hz).trans h2, Nat.lt_of_lt_of_le hz hb.size, hao⟩)
  obtain ⟨ao, hC⟩ := HC3.out
  have HC := hide hC
  clear H hlen hne hny HC3 hC
  go_enter Try.func47, Try.ntmps47
  go_upto_region 3 with fail
  go_loopw [3, 4] (fun a t wr => ∃ (va : Value) (j : Nat), va = a ∧ t = .int .i64 j ∧ j ≤ ne ∧ OwnsI wr w.heap.size va (flat (unt (T.e.take j))) ∧ Below w.heap.size w wr) (fun _ t _ => ne - (intOf t).toNat)
  case atStart => exact ⟨_, 0, rfl, rfl, Nat.zero_le _, World.ownsRow_nil _ _ _ _, Below.refl _ _⟩
  case round =>
    obtain ⟨va, j, rfl, rfl, hj, hown, hbel⟩ := hrel
    obtain ⟨c3, c2, hz, hao⟩ := HC.out wr hbel
    by_cases hlt : j < ne
    · have hji : (j : Int) < (ne : Int) := by omega
      obtain rfl := hao (by omega)
      have hjl : j < T.e.length := by rw [← HNE.out]; exact hlt
      have hr : RowR wr ge T.e := (HH.out.below hbel).re (by omega)
      have hg := hr.lt
      have d0 := hr.c0 j hjl
      have d1 := hr.c1 j hjl
      have d3 := hr.c3 j hjl
      have HU := hide (unt_take T.e j hjl)
      have hul : (unt (T.e.take j)).length ≤ 8796093022208 := by have := unt_le T.e j; have := HL.out; omega
      have hbl : (unt (T.e.take j)).length + 1 ≤ 8796093022208 ∨ unt [sat T.e j] = [] := by
        have h1 := unt_le T.e (j + 1)
        have h2 := HL.out
        rw [HU.out, List.length_append] at h1
        rcases Nat.eq_zero_or_pos (unt [sat T.e j]).length with h | h
        · exact .inr (List.eq_nil_of_length_eq_zero h)
        · left; omega
      have HBL := hide hbl
      have HOW := hide hown
      have HBE := hide hbel
      clear hr hjl hown hbel hbl hao
      cases hs : sat T.e j with
      | emp =>
        rw [hs] at d0 HU
        have e0 : (((Slt.emp : SR).st : Nat) : Int) = 0 := rfl
        rw [e0] at d0
        have HF : Hid (unt (T.e.take (j + 1)) = unt (T.e.take j)) := hide (by rw [HU.out]; simp [unt, prs])
        clear hs d1 d3
        go_wp2
        go_roundw
        case rel => exact ⟨_, j + 1, rfl, by go_num, by omega, by rw [HF.out]; exact HOW.out, HBE.out⟩
        case measure => simp [intOf]; omega
      | tmb =>
        rw [hs] at d0 HU
        have e0 : (((Slt.tmb : SR).st : Nat) : Int) = 2 := rfl
        rw [e0] at d0
        have HF : Hid (unt (T.e.take (j + 1)) = unt (T.e.take j)) := hide (by rw [HU.out]; simp [unt, prs])
        clear hs d1 d3
        go_wp2
        go_roundw
        case rel => exact ⟨_, j + 1, rfl, by go_num, by omega, by rw [HF.out]; exact HOW.out, HBE.out⟩
        case measure => simp [intOf]; omega
      | ful k' v' =>
        obtain ⟨kx, tx⟩ := k'
        rw [hs] at d0 d1 d3 HU HBL
        have e0 : (((Slt.ful (kx, tx) v' : SR).st : Nat) : Int) = 1 := rfl
        have e1 : kR (Slt.ful (kx, tx) v') = kx := rfl
        have e3 : vR (Slt.ful (kx, tx) v') = v' := rfl
        rw [e0] at d0
        rw [e1] at d1
        rw [e3] at d3
        have HF : Hid (flat (unt (T.e.take (j + 1))) = flat (unt (T.e.take j)) ++ [kx, v']) := hide (by rw [HU.out, flat_append]; simp [unt, prs, flat])
        have HB2 : Hid ((unt (T.e.take j)).length + 1 ≤ 8796093022208) := hide (by
          rcases HBL.out with h | h
          · exact h
          · simp [unt, prs] at h)
        obtain ⟨xs, hxs⟩ : ∃ xs, xs = unt (T.e.take j) := ⟨_, rfl⟩
        rw [← hxs] at HF HOW HB2 hul
        obtain ⟨aa, ca, hfa, _⟩ := HOW.out.form
        rw [flat_len] at hfa
        subst hfa
        clear hs HU HBL hxs
        clear e0 e1 e3
        go_upto_region 6 with fail
        have hba : Below wr.heap.size wr (wr.drew.alloc (.cells #[.int .i64 kx, .int .i64 v'] 3)) := below_undrew (below_alloc wr.drew _)
        have HC1 : Hid (OwnsI (wr.drew.alloc (.cells #[.int .i64 kx, .int .i64 v'] 3)) w.heap.size (.slice aa (2 * xs.length) ca) (flat xs)) := hide (HOW.out.below hba)
        have HC2 : Hid (Blk (wr.drew.alloc (.cells #[.int .i64 kx, .int .i64 v'] 3)) wr.heap.size ([kx, v'].map i64c).toArray 3) := hide (Blk.made wr.drew _ _)
        have HC3 : Hid ((flat xs).length + 2 ≤ 17592186044416) := hide (by rw [flat_len]; have := HB2.out; omega)
        have HC4 : Hid (w.heap.size ≤ (wr.drew.alloc (.cells #[.int .i64 kx, .int .i64 v'] 3)).heap.size) := hide (Nat.le_trans HBE.out.size hba.size)
        have HB3 : Hid (Below w.heap.size w (wr.drew.alloc (.cells #[.int .i64 kx, .int .i64 v'] 3))) := hide (HBE.out.trans (hba.mono HBE.out.size))
        clear hba
        apply cutP
        · intro hP
          go_region_law (refine step_append_two rfl (.tmp 24) (.tmp 41) rfl w.heap.size (.slice aa (2 * xs.length) ca) (flat xs) (by simp [Act.eval, Act.put]) HC1.out wr.heap.size 2 (by simp [Act.eval, Act.put]) kx v' HC2.out HC3.out HC4.out ?_; intro g3 cap3 w3 HO3 HG3)
          all_goals
            revert HG3 HO3
            revert w3 cap3 g3
            exact hP
        intro g3 cap3 w3 HO3 HG3
        have HB4 : Hid (Below w.heap.size w w3) := hide (own_below HB3.out HC1.out HC4.out HG3.out)
        generalize (flat xs).length + 2 = l3 at *
        clear HC1 HC2 HC3 HC4 HG3 HB3
        go_wp2
        go_roundw
        case rel => exact ⟨_, j + 1, rfl, by go_num, by omega, by rw [HF.out]; exact HO3.out, HB4.out⟩
        case measure => simp [intOf]; omega
    · have hji : ¬ (j : Int) < (ne : Int) := by omega
      obtain rfl : j = ne := by omega
      have HO : Hid (OwnsI wr w.heap.size va (flat (unt T.e))) := hide (by
        rw [HNE.out, List.take_length] at hown
        exact hown)
      obtain ⟨aa, ca, hfa, _⟩ := HO.out.form
      subst hfa
      generalize (flat (unt T.e)).length = l0 at *
      have HBE := hide hbel
      clear hown hbel hao
      go_upto_region 8 with fail
      obtain ⟨wp, rfl⟩ : ∃ w0, w0 = wr := ⟨_, rfl⟩
      clear c3 c2 hz
      go_loopw [3, 5] (fun a t wr => ∃ (va : Value) (j : Nat), va = a ∧ t = .int .i64 j ∧ j ≤ ny ∧ OwnsI wr w.heap.size va (flat (unt T.e ++ unt (T.y.take j))) ∧ Below w.heap.size w wr) (fun _ t _ => ny - (intOf t).toNat)
      case atStart => exact ⟨_, 0, rfl, rfl, Nat.zero_le _, by simpa [unt, prs] using HO.out, HBE.out⟩
      case round =>
        clear HO HBE hji hj
        obtain ⟨va, j, rfl, rfl, hj, hown, hbel⟩ := hrel
        obtain ⟨c3, c2, hz, hao⟩ := HC.out wr hbel
        clear hao
        by_cases hlt : j < ny
        · have hji : (j : Int) < (ny : Int) := by omega
          have hjl : j < T.y.length := by rw [← HNY.out]; exact hlt
          have hr : RowR wr gy T.y := (HH.out.below hbel).ry
          have hg := hr.lt
          have d0 := hr.c0 j hjl
          have d1 := hr.c1 j hjl
          have d3 := hr.c3 j hjl
          have HU := hide (unt_take T.y j hjl)
          have hul : (unt T.e ++ unt (T.y.take j)).length ≤ 8796093022208 := by rw [List.length_append]; have := unt_le T.y j; have := HL.out; omega
          have hbl : (unt T.e ++ unt (T.y.take j)).length + 1 ≤ 8796093022208 ∨ unt [sat T.y j] = [] := by
            have h1 := unt_le T.y (j + 1)
            have h2 := HL.out
            rw [HU.out, List.length_append] at h1
            rcases Nat.eq_zero_or_pos (unt [sat T.y j]).length with h | h
            · exact .inr (List.eq_nil_of_length_eq_zero h)
            · left; rw [List.length_append]; omega
          have HBL := hide hbl
          have HOW := hide hown
          have HBE := hide hbel
          clear hr hjl hown hbel hbl
          cases hs : sat T.y j with
          | emp =>
            rw [hs] at d0 HU
            have e0 : (((Slt.emp : SR).st : Nat) : Int) = 0 := rfl
            rw [e0] at d0
            have HF : Hid (unt (T.y.take (j + 1)) = unt (T.y.take j)) := hide (by rw [HU.out]; simp [unt, prs])
            clear hs d1 d3
            go_wp2
            go_roundw
            case rel => exact ⟨_, j + 1, rfl, by go_num, by omega, by rw [HF.out]; exact HOW.out, HBE.out⟩
            case measure => simp [intOf]; omega
          | tmb =>
            rw [hs] at d0 HU
            have e0 : (((Slt.tmb : SR).st : Nat) : Int) = 2 := rfl
            rw [e0] at d0
            have HF : Hid (unt (T.y.take (j + 1)) = unt (T.y.take j)) := hide (by rw [HU.out]; simp [unt, prs])
            clear hs d1 d3
            go_wp2
            go_roundw
            case rel => exact ⟨_, j + 1, rfl, by go_num, by omega, by rw [HF.out]; exact HOW.out, HBE.out⟩
            case measure => simp [intOf]; omega
          | ful k' v' =>
            obtain ⟨kx, tx⟩ := k'
            rw [hs] at d0 d1 d3 HU HBL
            have e0 : (((Slt.ful (kx, tx) v' : SR).st : Nat) : Int) = 1 := rfl
            have e1 : kR (Slt.ful (kx, tx) v') = kx := rfl
            have e3 : vR (Slt.ful (kx, tx) v') = v' := rfl
            rw [e0] at d0
            rw [e1] at d1
            rw [e3] at d3
            have HF : Hid (flat (unt T.e ++ unt (T.y.take (j + 1))) = flat (unt T.e ++ unt (T.y.take j)) ++ [kx, v']) := hide (by rw [HU.out, ← List.append_assoc, flat_append]; simp [unt, prs, flat])
            have HB2 : Hid ((unt T.e ++ unt (T.y.take j)).length + 1 ≤ 8796093022208) := hide (by
              rcases HBL.out with h | h
              · exact h
              · simp [unt, prs] at h)
            obtain ⟨xs, hxs⟩ : ∃ xs, xs = unt T.e ++ unt (T.y.take j) := ⟨_, rfl⟩
            rw [← hxs] at HF HOW HB2 hul
            obtain ⟨aa, ca, hfa, _⟩ := HOW.out.form
            rw [flat_len] at hfa
            subst hfa
            clear hs HU HBL hxs
            clear e0 e1 e3
            go_upto_region 11 with fail
            have hba : Below wr.heap.size wr (wr.drew.alloc (.cells #[.int .i64 kx, .int .i64 v'] 3)) := below_undrew (below_alloc wr.drew _)
            have HC1 : Hid (OwnsI (wr.drew.alloc (.cells #[.int .i64 kx, .int .i64 v'] 3)) w.heap.size (.slice aa (2 * xs.length) ca) (flat xs)) := hide (HOW.out.below hba)
            have HC2 : Hid (Blk (wr.drew.alloc (.cells #[.int .i64 kx, .int .i64 v'] 3)) wr.heap.size ([kx, v'].map i64c).toArray 3) := hide (Blk.made wr.drew _ _)
            have HC3 : Hid ((flat xs).length + 2 ≤ 17592186044416) := hide (by rw [flat_len]; have := HB2.out; omega)
            have HC4 : Hid (w.heap.size ≤ (wr.drew.alloc (.cells #[.int .i64 kx, .int .i64 v'] 3)).heap.size) := hide (Nat.le_trans HBE.out.size hba.size)
            have HB3 : Hid (Below w.heap.size w (wr.drew.alloc (.cells #[.int .i64 kx, .int .i64 v'] 3))) := hide (HBE.out.trans (hba.mono HBE.out.size))
            clear hba
            apply cutP
            · intro hP
              go_region_law (refine step_append_two rfl (.tmp 61) (.tmp 78) rfl w.heap.size (.slice aa (2 * xs.length) ca) (flat xs) (by simp [Act.eval, Act.put]) HC1.out wr.heap.size 2 (by simp [Act.eval, Act.put]) kx v' HC2.out HC3.out HC4.out ?_; intro g3 cap3 w3 HO3 HG3)
              all_goals
                revert HG3 HO3
                revert w3 cap3 g3
                exact hP
            intro g3 cap3 w3 HO3 HG3
            have HB4 : Hid (Below w.heap.size w w3) := hide (own_below HB3.out HC1.out HC4.out HG3.out)
            generalize (flat xs).length + 2 = l3 at *
            clear HC1 HC2 HC3 HC4 HG3 HB3
            go_wp2
            go_roundw
            case rel => exact ⟨_, j + 1, rfl, by go_num, by omega, by rw [HF.out]; exact HO3.out, HB4.out⟩
            case measure => simp [intOf]; omega
        · have hji : ¬ (j : Int) < (ny : Int) := by omega
          have HO : Hid (OwnsI wr w.heap.size va (flat (unt T.e ++ unt T.y))) := hide (by
            rw [show j = T.y.length by have := HNY.out; omega, List.take_length] at hown
            exact hown)
          have HBE := hide hbel
          obtain ⟨aa, ca, hfa, _⟩ := HO.out.form
          subst hfa
          generalize (flat (unt T.e ++ unt T.y)).length = l0 at *
          clear hown hbel
          go_wp2
          go_returns
          exact ⟨_, rfl, HO.out, HBE.out⟩
end
end RR
end Go.Proofs.Ytnknjcnbbljagaa
