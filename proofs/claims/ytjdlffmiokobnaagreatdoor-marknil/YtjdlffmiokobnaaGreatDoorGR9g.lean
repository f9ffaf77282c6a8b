/- A ring made of some values. -/
import Derived.Test.YtjdlffmiokobnaaGreatDoorGR5g
namespace Go.Proofs.YtjdlffmiokobnaaGreatDoor
set_option linter.unusedVariables false
set_option linter.unusedSimpArgs false
namespace RG
open Go.RowKit
set_option maxRecDepth 100000

/-- A row of values that came in. -/
def RowR (w : World) (v : Value) (L : List EL) : Prop := ∃ ao c, v = .slice ao L.length c ∧ (0 < L.length → ∃ h so, ao = some ⟨h, so, none⟩ ∧ ∀ j x, L[j]? = some x → w.rangeAt h (so + ofs j) (elC x))
theorem RowR.nil (w : World) : RowR w (.slice none 0 0) [] := ⟨none, 0, rfl, fun h => absurd h (by decide)⟩
theorem RowR.below {w w' : World} {v : Value} {L : List EL} (h : RowR w v L) (hb : Below w.heap.size w w') : RowR w' v L := by
  obtain ⟨ao, c, h1, h2⟩ := h
  refine ⟨ao, c, h1, fun hp => ?_⟩
  obtain ⟨b, so, h3, h4⟩ := h2 hp
  exact ⟨b, so, h3, fun j x hx q u hu => (hb.cell (World.block_lt_of_cell? w _ (h4 j x hx q u hu))).trans (h4 j x hx q u hu)⟩
theorem wpList_cp {ops : Array Oper} {rest : List Oper} {o : Oper} {a : Act} {w w' : World} {Q : Exit → Act → World → Prop} {r u v : Value} (hgd : o.guard = none) (x y : Operand) (ho : o.op = .call { callee := .builtin .copy, args := #[x, y], argTypes := #[slT, slT] }) (hx : a.eval x = u) (hy : a.eval y = v) (h : ∀ ty, (Builtin.copy_ #[slT, slT] ty #[u, v]).run Tryz.prog w = .ok r w')
    (hk : wpList Tryz.prog ops Q rest (a.put o.dst r) w') : wpList Tryz.prog ops Q (o :: rest) a w := by
  refine wpList_plain hgd fun K hK => ?_
  unfold Oper.wp
  rw [run_cpO ho hx hy h]
  exact hK _ _ hk
def NewRC (w : World) (L : List EL) (e : Ending) (w' : World) : Prop := ∃ g, e = .returned (.agg (rgL g L.length 0 L.length)) ∧ RowEl w' g L ∧ w.heap.size ≤ g ∧ Below w.heap.size w w'
theorem newRow_any (w : World) (v : Value) (L : List EL) (h : RowR w v L) (hn : EB * L.length ≤ 281474976710656) : Calls Tryz.prog 47 #[v] w (NewRC w L) := by
  obtain ⟨ao, c, rfl, hao⟩ := h
  obtain ⟨n, hnl⟩ : ∃ n, n = L.length := ⟨_, rfl⟩
  have HN := hide hnl
  have HAO := hide hao
  rw [← hnl] at hn ⊢
  have hmk := fun W => run_mk n hn W
  have hEB : 1 ≤ EB := by decide
  have hn48 : n ≤ 281474976710656 := Nat.le_trans (Nat.le_mul_of_pos_left _ hEB) hn
  obtain ⟨Z, hZ⟩ : ∃ Z, Z = (rowC (List.replicate n elZ)).toArray := ⟨_, rfl⟩
  rw [← hZ] at hmk
  have HZ := hide hZ
  clear hnl hao hn hZ hEB
  go_enter Tryz.func47, Tryz.ntmps47
  go_upto_region 2 with fail
  obtain ⟨z, hz⟩ : ∃ z, z = w.heap.size := ⟨_, rfl⟩
  refine name_world (fun W => Blk W w.heap.size #[.slice none 0 0, .int .i64 0, .int .i64 0] 117 ∧ RowEl W (w.heap.size + 1) (List.replicate n elZ) ∧ Blk W (w.heap.size + 1 + 1) (rgL (w.heap.size + 1) n 0 n) 117 ∧ Below w.heap.size w W) ⟨((Blk.made w _ _).alloc _).alloc _, ?_, ?_, ?_⟩ ?_
  · have := (Blk.made (w.alloc (.cells #[.slice none 0 0, .int .i64 0, .int .i64 0] 117)) Z elT).alloc (.cells (rgL (w.heap.size + 1) n 0 n) 117)
    have e : (w.alloc (.cells #[.slice none 0 0, .int .i64 0, .int .i64 0] 117)).heap.size = w.heap.size + 1 := by simp
    rw [e] at this
    unfold RowEl
    rw [← HZ.out]
    exact this
  · have := Blk.made ((w.alloc (.cells #[.slice none 0 0, .int .i64 0, .int .i64 0] 117)).alloc (.cells Z elT)) (rgL (w.heap.size + 1) n 0 n) 117
    have e : ((w.alloc (.cells #[.slice none 0 0, .int .i64 0, .int .i64 0] 117)).alloc (.cells Z elT)).heap.size = w.heap.size + 1 + 1 := by simp
    rw [e] at this
    exact this
  · exact (((Below.refl _ _).alloc (Nat.le_refl _) _).alloc (by simp) _).alloc (by simp; omega) _
  rw [← hz]
  rintro W ⟨b0, bg, b3, hb⟩
  obtain ⟨w', r1, r2, r3⟩ : ∃ w', (∀ ty, (Builtin.copy_ #[slT, slT] ty #[.slice (some ⟨z + 1, 0, none⟩) n n, .slice ao n c]).run Tryz.prog W = .ok (.int .i64 (n : Int)) w') ∧ RowEl w' (z + 1) L ∧ W.grownBy w' (some (z + 1)) := by
    have hR : RowR W (.slice ao L.length c) L := RowR.below ⟨ao, c, rfl, HAO.out⟩ (by rw [← hz]; exact hb)
    have q : ∀ ty, ∃ w', (Builtin.copy_ #[slT, slT] ty #[.slice (some ⟨z + 1, 0, none⟩) n n, .slice ao n c]).run Tryz.prog W = .ok (.int .i64 (L.length : Int)) w' ∧ RowEl w' (z + 1) ((List.replicate n elZ).take 0 ++ L ++ (List.replicate n elZ).drop (0 + L.length)) ∧ W.grownBy w' (some (z + 1)) := fun ty => by
      obtain ⟨ao', c', e1, e2⟩ := hR
      cases e1
      by_cases hp : 0 < L.length
      · obtain ⟨h, so, rfl, hx⟩ := e2 hp
        exact run_cpR (w := W) (g := z + 1) (h := h) (so := so) (o := 0) bg (by rw [← HN.out]; exact (Nat.min_self n).symm) (by rw [List.length_replicate, ← HN.out]; omega) (fun _ => ⟨by rw [ofs_is, Nat.zero_mul], rfl, hx⟩)
      · exact run_cpR (w := W) (g := z + 1) (h := 0) (so := 0) (o := 0) bg (by rw [← HN.out]; exact (Nat.min_self n).symm) (by rw [List.length_replicate, ← HN.out]; omega) (fun q => absurd q hp)
    obtain ⟨w', a1, a2, a3⟩ := q 0
    refine ⟨w', fun ty => ?_, ?_, a3⟩
    · have e : ∀ ty, Builtin.copy_ #[slT, slT] ty #[Value.slice (some ⟨z + 1, 0, none⟩) n n, .slice ao n c] = Builtin.copy_ #[slT, slT] 0 #[Value.slice (some ⟨z + 1, 0, none⟩) n n, .slice ao n c] := fun ty => rfl
      rw [e, a1, HN.out]
    · rw [List.take_zero, List.nil_append, Nat.zero_add, ← HN.out, List.drop_of_length_le (by rw [List.length_replicate]; exact Nat.le_refl _), List.append_nil] at a2
      exact a2
  have HCP := hide r1
  have B0 : Hid (Blk w' z #[.slice none 0 0, .int .i64 0, .int .i64 0] 117) := hide (b0.grown r3 (by simp))
  have B3 : Hid (Blk w' (z + 1 + 1) (rgL (z + 1) n 0 n) 117) := hide (b3.grown r3 (by simp))
  have BG := hide r2
  have HBW := hide (hb.trans (below_grownBy (B := z) r3 (by omega) (by have := hb.size; rw [← hz] at this; exact this)))
  have d0 : W.cell? ⟨z + 1 + 1, 0, none⟩ = some (.slice (some ⟨z + 1, 0, none⟩) n n) := by rw [b3.cell]; rfl
  have hl3 := b3.lt
  have HZW := hide hz
  clear r1 r2 r3 b0 bg b3 hb hmk hz
  go_upto_region 3 with (first | ((with_reducible refine wpList_cp ?_ (.tmp 11) (.tmp 12) ?_ ?_ ?_ HCP.out ?_); rfl; rfl; rfl; rfl))
  have HL3 : Hid ((Tryz.prog.info? 117).map (·.size) = some 3) := hide (by kernel_rfl)
  have HOC : Hid ((rgL (z + 1) n 0 n).all (·.oneCell') = true) := hide (by kernel_rfl)
  clear d0 hl3
  go_upto_region 4 with (first | ((with_reducible refine wpList_load_blk ?_ 117 _ Tryz.underlying117 ?_ 3 HL3.out (.tmp 3) ?_ (z + 1 + 1) ?_ (rgL (z + 1) n 0 n) 117 B3.out ?_ ?_); rfl; rfl; rfl; rfl; rfl) | ((with_reducible refine wpList_store_blk ?_ 117 (.tmp 2) (.tmp 14) ?_ z 3 #[.slice none 0 0, .int .i64 0, .int .i64 0] (rgL (z + 1) n 0 n) 117 ?_ ?_ ?_ ?_ B0.out HL3.out HOC.out ?_); rfl; rfl; rfl; rfl; rfl; rfl; intro w5 hk5 hg5))
  simp only [Act.put, List.setIfInBounds_toArray, List.set_cons_zero, List.set_cons_succ]
  refine ⟨rfl, _, results_cell (p := 2) (ty := 117) rfl _ _ ⟨z, 0, none⟩ rfl _ (loadBlkT hk5 117 _ Tryz.underlying117 rfl 3 HL3.out rfl), ?_⟩
  have hzw := HZW.out
  have hb : Below z w w5 := HBW.out.trans (below_grownBy (B := z) hg5 (Nat.le_refl _) (by have := HBW.out.size; omega))
  refine ⟨z + 1, by rw [← HN.out], BG.out.grown hg5 (by simp), by omega, by rw [← hzw]; exact hb⟩
/-- What New leaves: a ring of its own. -/
def NewC (w : World) (zT : TypeId) (M : Nat) (L : List EL) (e : Ending) (w' : World) : Prop := ∃ z g, e = .returned (.pointer (some ⟨z, 0, none⟩)) ∧ RgAt w' z g zT M L ∧ w.heap.size ≤ z ∧ w.heap.size ≤ g ∧ Below w.heap.size w w'
end RG
end Go.Proofs.YtjdlffmiokobnaaGreatDoor
