/- Finding; the small questions; the hash; seek. -/
import Derived.Test.YtjhbebaephmcgaaVXE
import Derived.Deep.RegionWith
namespace Go.Proofs.Ytjhbebaephmcgaa
set_option linter.unusedVariables false
set_option linter.unusedSimpArgs false
namespace TX
set_option maxRecDepth 100000
set_option maxHeartbeats 8000000
open Go.RowKit Go.Sort

theorem below_of {W w : World} (h : ∃ p : Regrown, w = grow (redrawn W p.d) p.os) : Below W.heap.size W w := by
  obtain ⟨p, rfl⟩ := h
  exact below_regrown W p.d p.os
section
variable {z gy ge : Nat} {hv : Value} {T : TB}
theorem findY_any (w : World) (H : TbAt w z gy ge hv T) (h : Nat) (k : KY) (hh : h < 18446744073709551616) :
    Calls Try.prog 20 #[.pointer (some ⟨z, 1, none⟩), .int .u64 (h : Int), kV k] w fun e w' => e = .returned (fndV (find eqK T.y h k)) ∧ Below w.heap.size w w' := by
  obtain ⟨a, ha, hn⟩ := H.ly
  exact find_any w z 1 T.y.length gy T.y h k (H.cellY rfl) rfl H.ry a ha hn hh
theorem find_nil (w : World) (z o : Nat) (h : Nat) (k : KY) (c0 : w.cell? ⟨z, o, none⟩ = some (.slice none 0 0)) :
    Calls Try.prog 20 #[.pointer (some ⟨z, o, none⟩), .int .u64 (h : Int), kV k] w fun e w' => e = .returned (fndV (none, 0)) ∧ Below w.heap.size w w' := by
  have HC0 := hide c0
  clear c0
  go_enter Try.func20, Try.ntmps20
  go_upto_region 1 with fail
  refine name_world (fun W => Below w.heap.size w W) (below_alloc w _) ?_
  rintro W hB
  have c0 : W.cell? ⟨z, o, none⟩ = some (.slice none 0 0) := cell_below hB HC0.out
  have hzW := World.block_lt_of_cell? W _ c0
  have HB := hide hB
  obtain ⟨kb, hkb⟩ : ∃ kb, kb = w.heap.size := ⟨_, rfl⟩
  rw [← hkb]
  clear hB HC0 hkb
  go_wp2
  go_loop [15] (fun t => t = .int .i64 0) (fun t => 0)
  case atStart => rfl
  case round =>
    obtain rfl := hrel
    go_upto_region 12 with fail
    go_quiet (fail)
    go_wp2
    go_ret3
    exact ⟨rfl, below_dN HB.out _⟩
theorem findE_any (w : World) (H : TbAt w z gy ge hv T) (h : Nat) (k : KY) (hh : h < 18446744073709551616) :
    Calls Try.prog 20 #[.pointer (some ⟨z, 4, none⟩), .int .u64 (h : Int), kV k] w fun e w' => e = .returned (fndV (find eqK T.e h k)) ∧ Below w.heap.size w w' := by
  by_cases h0 : T.e.length = 0
  · have e : find eqK T.e h k = (none, 0) := by unfold find; rw [h0]; rfl
    rw [e]
    exact find_nil w z 4 h k (H.cellE0 h0)
  · obtain ⟨a, ha, hn⟩ := H.le h0
    exact find_any w z 4 T.e.length ge T.e h k (H.cellE h0 rfl) rfl (H.re h0) a ha hn hh
variable {F : Nat}
def hvF (F : Nat) : Value := .func (.func F) #[] #[]
theorem notnil_f (F : Nat) (w : World) : (binOp BinOp.eql 31 (.func (.func F) #[] #[]) .nilFunc).run Try.prog w = .ok (.bool false) w := by kernel_rfl
theorem none_no (w : World) (H : TbAt w z gy ge (hvF F) T) : Calls Try.prog 16 #[.pointer (some ⟨z, 0, none⟩)] w fun e w' => e = .returned (.bool false) ∧ w' = w := by
  have c0 : w.cell? ⟨z, 0, none⟩ = some (.func (.func F) #[] #[]) := H.c0
  have hz := H.blk.lt
  have hnf := notnil_f F w
  clear H
  go_enter Try.func16, Try.ntmps16
  go_wp2
  go_ret
  exact ⟨rfl, rfl⟩
theorem left_any (w : World) (H : TbAt w z gy ge (hvF F) T) : Calls Try.prog 13 #[.pointer (some ⟨z, 0, none⟩)] w fun e w' => e = .returned (.int .i64 (T.left : Int)) ∧ ∃ q, w' = w.drewN q := by
  have HN := hide (none_no w H)
  have hz := H.blk.lt
  have hmm := H.mm
  have b := H.b43.2
  have c7 : w.cell? ⟨z, 7, none⟩ = some (.int .i64 (T.m : Int)) := H.c7
  have c4 : ∃ ao, w.cell? ⟨z, 4, none⟩ = some (.slice ao T.e.length T.e.length) := by
    by_cases h0 : T.e.length = 0
    · exact ⟨_, by rw [h0]; exact H.cellE0 h0⟩
    · exact ⟨_, H.cellE h0 rfl⟩
  obtain ⟨ao, c4⟩ := c4
  have HS : Hid ((T.e.length : Int) - (T.m : Int) = (T.left : Int)) := hide (by unfold Tb.left; omega)
  clear H
  generalize T.e.length = n at *
  generalize T.m = m at *
  have hmi : (m : Int) ≤ (n : Int) := by omega
  go_enter Try.func13, Try.ntmps13
  go_upto_region 3 with (go_at_call 16; refine HN.out.mono ?_; rintro e w' ⟨rfl, hw⟩; rw [hw]; clear hw)
  go_quiet (fail)
  go_wp2
  rw [HS.out]
  go_ret
  exact ⟨rfl, _, rfl⟩
theorem len_any (w : World) (H : TbAt w z gy ge (hvF F) T) : Calls Try.prog 10 #[.pointer (some ⟨z, 0, none⟩)] w fun e w' => e = .returned (.int .i64 (T.len : Int)) ∧ ∃ q, w' = w.drewN q := by
  have HN := hide (none_no w H)
  have hz := H.blk.lt
  have b := H.b43
  have b1 := cnt_le T.y 1
  have b2 := cnt_le T.e 1
  have c2 : w.cell? ⟨z, 2, none⟩ = some (.int .i64 (cnt T.y 1 : Int)) := H.c2
  have c5 : w.cell? ⟨z, 5, none⟩ = some (.int .i64 (cnt T.e 1 : Int)) := H.c5
  have HS : Hid ((cnt T.y 1 : Int) + (cnt T.e 1 : Int) = (T.len : Int)) := hide (by unfold Tb.len; omega)
  clear H
  generalize cnt T.y 1 = x at *
  generalize cnt T.e 1 = y at *
  have hx : x ≤ 8796093022208 := by omega
  have hy : y ≤ 8796093022208 := by omega
  clear b b1 b2
  go_enter Try.func10, Try.ntmps10
  go_upto_region 3 with (go_at_call 16; refine HN.out.mono ?_; rintro e w' ⟨rfl, hw⟩; rw [hw]; clear hw)
  go_quiet (fail)
  go_wp2
  rw [HS.out]
  go_ret
  exact ⟨rfl, _, rfl⟩
theorem cap_any (w : World) (H : TbAt w z gy ge (hvF F) T) : Calls Try.prog 11 #[.pointer (some ⟨z, 0, none⟩)] w fun e w' => e = .returned (.int .i64 (T.y.length : Int)) ∧ w' = w := by
  have HN := hide (none_no w H)
  have hz := H.blk.lt
  have c1 : w.cell? ⟨z, 1, none⟩ = some (.slice (some ⟨gy, 0, none⟩) T.y.length T.y.length) := H.cellY rfl
  clear H
  generalize T.y.length = n at *
  go_enter Try.func11, Try.ntmps11
  go_wp2_with (go_at_call 16; refine HN.out.mono ?_; rintro e w' ⟨rfl, hw⟩; rw [hw]; clear hw)
  go_ret
  exact ⟨rfl, rfl⟩
/-- A hash: what it tells of a key. -/
structure HsAt (F : Nat) (hf : KY → Nat) : Prop where
  call : ∀ (w : World) (k : KY), Calls Try.prog F #[kV k] w fun e w' => e = .returned (.int .u64 (hf k : Int)) ∧ Below w.heap.size w w'
  lt : ∀ k, hf k < 18446744073709551616
  ent : ∀ args W, (callFunc F args).run Try.prog W = .ok (.enter F args) W
def seekV (z : Nat) (r : Option (Bool × Nat) × Nat) : Value := match r with
  | (some (false, p), n) => .tuple #[.pointer (some ⟨z, 1, none⟩), .int .i64 (p : Int), .int .i64 (n : Int)]
  | (some (true, p), n) => .tuple #[.pointer (some ⟨z, 4, none⟩), .int .i64 (p : Int), .int .i64 (n : Int)]
  | (none, n) => .tuple #[.pointer none, .int .i64 0, .int .i64 (n : Int)]
theorem fnd_le {K V : Type} (eq : K → K → Bool) (L : List (Slt K V)) (h : Nat) (k : K) (f i : Nat) : (fnd eq L h k f i).2 ≤ i + f := by
  induction f generalizing i with
  | zero => simp [fnd]
  | succ f ih =>
    unfold fnd
    split
    · show i + 1 ≤ _; omega
    · split
      · show i + 1 ≤ _; omega
      · have := ih (i + 1); omega
    · have := ih (i + 1); omega
theorem find_le {K V : Type} (eq : K → K → Bool) (L : List (Slt K V)) (h : Nat) (k : K) : (find eq L h k).2 ≤ L.length := by have := fnd_le eq L h k L.length 0; unfold find; omega
/-- What a find in a class of worlds tells: its five values. -/
theorem seek_any (w : World) (H : TbAt w z gy ge hv T) (hs : KY → Nat) (k : KY) (hh : hs k < 18446744073709551616) :
    Calls Try.prog 18 #[.pointer (some ⟨z, 0, none⟩), .int .u64 (hs k : Int), kV k] w fun e w' => e = .returned (seekV z (seek eqK hs T k)) ∧ Below w.heap.size w w' := by
  have l1 := find_le eqK T.y (hs k) k
  have l2 := find_le eqK T.e (hs k) k
  have b := H.b43
  have hz := H.blk.lt
  have HH := hide H
  have HHH := hide hh
  clear H hh
  go_enter Try.func18, Try.ntmps18
  go_upto_region 1 with fail
  refine name_world (fun W => Below w.heap.size w W ∧ KB W w.heap.size k) ⟨below_alloc w _, KB.made w k⟩ ?_
  rintro W ⟨hB, hK⟩
  obtain ⟨kb, hkb⟩ : ∃ kb, kb = w.heap.size := ⟨_, rfl⟩
  rw [← hkb] at hK ⊢
  have HB := hide hB
  have HX : Hid (TbAt W z gy ge hv T) := hide (HH.out.below hB)
  have hzW := HX.out.blk.lt
  have HK : Hid (∀ d os, (grow (redrawn W d) os).rangeAt kb 0 (kC k)) := hide (range_regrown hK.rng)
  have HFY : Hid (∀ d os, Calls Try.prog 20 #[.pointer (some ⟨z, 1, none⟩), .int .u64 (hs k : Int), kV k] (grow (redrawn W d) os) fun e w' => e = .returned (fndV (find eqK T.y (hs k) k)) ∧ Below (grow (redrawn W d) os).heap.size (grow (redrawn W d) os) w') := hide (fun d os => findY_any _ (HX.out.below (below_regrown W d os)) (hs k) k HHH.out)
  have HKB := hide hK
  clear hB hK hkb HH
  refine wp_region_quiet_below (by kernel_rfl) (by kernel_rfl) ?_
  iterate 4 quiet_step (fail)
  refine wpQuiet_val (kV k) rfl (fun w0 hw => ?_) ?_
  · obtain ⟨p0, rfl⟩ := hw
    exact run_loadO rfl rfl (run_ldK (HK.out _ _))
  quiet_step (exact Calls.regrown_of (HFY.out _ _))
  cases hy : find eqK T.y (hs k) k with
  | mk oy ny =>
    rw [hy] at l1
    unfold fndV
    iterate 7 quiet_step (fail)
    refine wpQuiet_nil ?_
    intro W1 hw1
    have hB1 : Below W.heap.size W W1 := below_of hw1
    clear hw1
    have hzW1 := Nat.lt_of_lt_of_le hzW hB1.size
    have HB1 := hide hB1
    cases oy with
    | some p =>
      have HS : Hid (seek eqK hs T k = (some (false, p), ny)) := hide (by unfold seek; rw [hy])
      clear hy l1 l2 b hB1 HK HFY
      go_wp2
      go_ret3
      exact ⟨by rw [HS.out]; rfl, HB.out.trans (HB1.out.mono HB.out.size)⟩
    | none =>
      have HK1 : Hid (∀ d os, (grow (redrawn W1 d) os).rangeAt kb 0 (kC k)) := hide (range_regrown (Blk.range (Blk.below HKB.out hB1 (Blk.lt HKB.out))))
      have HFE : Hid (∀ d os, Calls Try.prog 20 #[.pointer (some ⟨z, 4, none⟩), .int .u64 (hs k : Int), kV k] (grow (redrawn W1 d) os) fun e w' => e = .returned (fndV (find eqK T.e (hs k) k)) ∧ Below (grow (redrawn W1 d) os).heap.size (grow (redrawn W1 d) os) w') := hide (fun d os => findE_any _ ((HX.out.below hB1).below (below_regrown W1 d os)) (hs k) k HHH.out)
      have HYY := hide hy
      clear hy hB1 HK HFY
      go_upto_region 4 with fail
      refine wp_region_quiet_below (by kernel_rfl) (by kernel_rfl) ?_
      iterate 4 quiet_step (fail)
      refine wpQuiet_val (kV k) rfl (fun w0 hw => ?_) ?_
      · obtain ⟨p0, rfl⟩ := hw
        exact run_loadO rfl rfl (run_ldK (HK1.out _ _))
      quiet_step (exact Calls.regrown_of (HFE.out _ _))
      cases he : find eqK T.e (hs k) k with
      | mk oe ne =>
        rw [he] at l2
        have hny : ny ≤ 8796093022208 := by have : ny ≤ T.y.length := l1; omega
        have hne : ne ≤ 8796093022208 := by have : ne ≤ T.e.length := l2; omega
        unfold fndV
        iterate 7 quiet_step (fail)
        refine wpQuiet_nil ?_
        intro W2 hw2
        have hB2 : Below W1.heap.size W1 W2 := below_of hw2
        clear hw2
        have HB2 := hide hB2
        have HBA : Hid (Below w.heap.size w W2) := hide ((HB.out.trans (HB1.out.mono HB.out.size)).trans (hB2.mono (Nat.le_trans HB.out.size HB1.out.size)))
        cases oe with
        | some p =>
          have HS : Hid (seek eqK hs T k = (some (true, p), ny + ne)) := hide (by unfold seek; rw [HYY.out]; simp only []; rw [he])
          clear he l1 l2 b hB2 HYY HK1 HFE
          go_wp2
          go_ret3
          exact ⟨by rw [HS.out]; unfold seekV; simp, HBA.out⟩
        | none =>
          have HS : Hid (seek eqK hs T k = (none, ny + ne)) := hide (by unfold seek; rw [HYY.out]; simp only []; rw [he])
          clear he l1 l2 b hB2 HYY HK1 HFE
          go_wp2
          go_ret3
          exact ⟨by rw [HS.out]; unfold seekV; simp, HBA.out⟩
end
end TX
end Go.Proofs.Ytjhbebaephmcgaa
