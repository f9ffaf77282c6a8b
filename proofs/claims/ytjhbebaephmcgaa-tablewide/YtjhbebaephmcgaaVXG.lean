/- A new array, a new table; grow. -/
import Derived.Test.YtjhbebaephmcgaaVXF
import Derived.WideMake
namespace Go.Proofs.Ytjhbebaephmcgaa
set_option linter.unusedVariables false
set_option linter.unusedSimpArgs false
namespace TX
set_option maxRecDepth 100000
set_option maxHeartbeats 8000000
open Go.RowKit Go.Sort

theorem infoSl : (Try.prog.info? ST).map (fun i => (i.zero, i.size, i.bytes)) = some (some (.agg (slA .emp)), 6, 56) := by kernel_rfl
theorem run_make_wide {P : Program} (w : World) (t e : TypeId) (z : Array Value) (size bytes : Nat) (ht : P.underlying t = some (.slice e)) (hinfo : (P.info? e).map (fun i => (i.zero, i.size, i.bytes)) = some (some (.agg z), size, bytes)) (kl kc : IntKind) (m : Nat) (hb : bytes * m ≤ 281474976710656) (h63 : m ≤ 9223372036854775807) :
    (Instr.makeSlice t (.int kl (m : Int)) (.int kc (m : Int))).run P w = .ok (.slice (some ⟨w.heap.size, 0, none⟩) m m) (w.alloc (.cells (madeCells (Value.cells (.agg z)) (m * size)) e)) := by
  obtain ⟨i, hi, hzz⟩ := Option.map_eq_some_iff.1 hinfo
  simp only [Prod.mk.injEq] at hzz
  obtain ⟨hz, hs, hbb⟩ := hzz
  subst hs
  subst hbb
  have h1 : ((i.bytes * m : Nat) : Int) ≤ 281474976710656 := by omega
  rw [Int.natCast_mul] at h1
  have := run_make (P := P) w t e i (.agg z) ht hi hz kl kc (m : Int) (m : Int) (by omega) (Int.le_refl _) h1 (by omega)
  simpa using this
theorem make_sl (m : Nat) (hm : m ≤ 4398046511104) (w : World) : (Instr.makeSlice SST (.int .i64 (m : Int)) (.int .i64 (m : Int))).run Try.prog w = .ok (.slice (some ⟨w.heap.size, 0, none⟩) m m) (w.alloc (.cells (madeCells (Value.cells (slV .emp)) (m * 6)) ST)) :=
  run_make_wide w _ _ (slA .emp) 6 56 Try.underlying43 infoSl .i64 .i64 m (by omega) (by omega)
theorem newArray_any (w : World) (n : Nat) (hn : n ≤ 4398046511104) : Calls Try.prog 15 #[.int .i64 (n : Int)] w fun e w' => e = .returned (.agg #[.slice (some ⟨w.heap.size + 1, 0, none⟩) n n, .int .i64 0, .int .i64 0]) ∧ RowAt w' (w.heap.size + 1) (List.replicate n .emp) ∧ Below w.heap.size w w' := by
  have hmk := make_sl n hn
  go_enter Try.func15, Try.ntmps15
  go_wp2
  refine bodyPost_ret (v := .agg #[.slice (some ⟨w.heap.size + 1, 0, none⟩) n n, .int .i64 0, .int .i64 0]) (by simp [results, Try.results15, go_sem]) rfl ⟨rfl, ?_, (below_alloc w _).alloc (by simp) _⟩
  have := row_made (w.alloc (.cells #[.slice (some ⟨w.heap.size + 1, 0, none⟩) n n, .int .i64 0, .int .i64 0] 45)) n
  have e : (slV (Slt.emp : SL)).cells = slA .emp := rfl
  rw [e] at this
  simpa using this
def newT : TB := ⟨List.replicate 8 .emp, [], 0⟩
theorem new_any (w : World) (F : Nat) : Calls Try.prog 4 #[hvF F] w fun e w' => ∃ z g, e = .returned (.pointer (some ⟨z, 0, none⟩)) ∧ TbAt w' z g g (hvF F) newT ∧ w.heap.size ≤ z ∧ w.heap.size ≤ g ∧ Below w.heap.size w w' := by
  have HN := hide (newArray_any w 8 (by decide))
  have hnf := notnil_f F w
  unfold hvF
  go_enter Try.func4, Try.ntmps4
  go_wp2_with (go_at_call 15; refine HN.out.mono ?_; rintro e w1 ⟨rfl, hr, hb⟩)
  go_ret
  have hrl := hr.lt
  refine ⟨w1.heap.size, w.heap.size + 1, rfl, ⟨Blk.made w1 _ _, hr.same (Below.heap_alloc w1 _ _ hrl), fun h => absurd rfl h, fun h => absurd rfl h, fun _ => rfl, ⟨3, by decide, rfl⟩, fun h => absurd rfl h, Nat.le_refl _⟩, hb.size, by omega, hb.alloc hb.size _⟩
theorem dbl_ge (l f n : Nat) : n ≤ dbl l f n := by
  induction f generalizing n with
  | zero => exact Nat.le_refl _
  | succ f ih =>
    unfold dbl
    split
    · have := ih (2 * n); omega
    · exact Nat.le_refl _
theorem dbl_no (l f n : Nat) (h : ¬ n < l) : dbl l f n = n := by
  cases f with
  | zero => rfl
  | succ f => unfold dbl; rw [if_neg h]
theorem dbl_yes (l f n : Nat) (h : n < l) : dbl l (f + 1) n = dbl l f (2 * n) := by unfold dbl; rw [if_pos h]; cases f <;> rfl
theorem dbl_pow (l f a : Nat) : ∃ b, a ≤ b ∧ dbl l f (2 ^ a) = 2 ^ b := by
  induction f generalizing a with
  | zero => exact ⟨a, Nat.le_refl _, rfl⟩
  | succ f ih =>
    unfold dbl
    split
    · obtain ⟨b, h1, h2⟩ := ih (a + 1)
      exact ⟨b, by omega, by rw [← h2, Nat.pow_succ, Nat.mul_comm]⟩
    · exact ⟨a, Nat.le_refl _, rfl⟩
theorem below_undrew {W w1 : World} (h : Below W.drew.heap.size W.drew w1) : Below W.heap.size W w1 := ⟨h.os, h.tape, h.output, h.size, h.block⟩
/-- What a call leaves of a table. -/
structure TbS (w w' : World) (z gy ge : Nat) (hv : Value) (T' : TB) : Prop where
  ex : ∃ gy' ge', TbAt w' z gy' ge' hv T' ∧ ∀ k, TbB z gy' ge' k → TbB z gy ge k ∨ w.heap.size ≤ k
  fr : Frm w w' (TbB z gy ge)
section
variable {z gy ge : Nat} {hv : Value} {T : TB} {F : Nat}
theorem TbK.s {w w' : World} {T' : TB} (h : TbK w w' z gy ge hv T') : TbS w w' z gy ge hv T' := ⟨⟨gy, ge, h.tb, fun _ hk => .inl hk⟩, h.fr⟩
theorem TbS.trans {a b c : World} {gy' ge' : Nat} {T' : TB} (hf : Frm a b (TbB z gy ge)) (hn : ∀ k, TbB z gy' ge' k → TbB z gy ge k ∨ a.heap.size ≤ k) (k : TbS b c z gy' ge' hv T') : TbS a c z gy ge hv T' := by
  obtain ⟨⟨g1, g2, ht, hk⟩, hfr⟩ := k
  refine ⟨⟨g1, g2, ht, fun q hq => ?_⟩, hf.trans hfr (fun i hi hS => ?_)⟩
  · rcases hk q hq with e | e
    · exact hn q e
    · exact .inr (Nat.le_trans hf.size e)
  · rcases hn i hS with e | e
    · exact e
    · omega
theorem TbS.grown {w W w1 : World} (hT : TbAt W z gy ge hv T) (hF : Frm w W (TbB z gy ge)) {m : Nat} (hr : RowAt w1 (W.heap.size + 1) (List.replicate m .emp)) (hb : Below W.heap.size W w1) (hm : T.m = 0) (he : T.e.length = 0) (hp : ∃ a, a ≤ 43 ∧ m = 2 ^ a) :
    TbS w ((((((w1.setCell ⟨z, 4, none⟩ (.slice (some ⟨gy, 0, none⟩) T.y.length T.y.length)).setCell ⟨z, 5, none⟩ (.int .i64 (cnt T.y 1 : Int))).setCell ⟨z, 6, none⟩ (.int .i64 (cnt T.y 2 : Int))).setCell ⟨z, 1, none⟩ (.slice (some ⟨W.heap.size + 1, 0, none⟩) m m)).setCell ⟨z, 2, none⟩ (.int .i64 0)).setCell ⟨z, 3, none⟩ (.int .i64 0)) z gy ge hv ⟨List.replicate m .emp, T.y, 0⟩ := by
  have h1 := hT.below hb
  have hzl := hT.blk.lt
  have hyl := hT.ry.lt
  have y0 : T.y.length ≠ 0 := by obtain ⟨a, _, e⟩ := hT.ly; rw [e]; exact Nat.ne_of_gt (Nat.pow_pos (by decide))
  have hk := ((((((h1.blk.set 4 (.slice (some ⟨gy, 0, none⟩) T.y.length T.y.length)).set 5 (.int .i64 (cnt T.y 1 : Int))).set 6 (.int .i64 (cnt T.y 2 : Int))).set 1 (.slice (some ⟨W.heap.size + 1, 0, none⟩) m m)).set 2 (.int .i64 0)).set 3 (.int .i64 0))
  have oth : ∀ k, k ≠ z → ((((((w1.setCell ⟨z, 4, none⟩ (.slice (some ⟨gy, 0, none⟩) T.y.length T.y.length)).setCell ⟨z, 5, none⟩ (.int .i64 (cnt T.y 1 : Int))).setCell ⟨z, 6, none⟩ (.int .i64 (cnt T.y 2 : Int))).setCell ⟨z, 1, none⟩ (.slice (some ⟨W.heap.size + 1, 0, none⟩) m m)).setCell ⟨z, 2, none⟩ (.int .i64 0)).setCell ⟨z, 3, none⟩ (.int .i64 0)).heap[k]? = w1.heap[k]? := fun k h => by
    rw [heap_setCell_other _ _ _ _ h, heap_setCell_other _ _ _ _ h, heap_setCell_other _ _ _ _ h, heap_setCell_other _ _ _ _ h, heap_setCell_other _ _ _ _ h, heap_setCell_other _ _ _ _ h]
  have e0 : evS gy T.y.length = .slice (some ⟨gy, 0, none⟩) T.y.length T.y.length := by unfold evS; rw [if_neg y0]
  have c1 : cnt (List.replicate m (Slt.emp : SL)) 1 = 0 := by unfold cnt; rw [List.countP_replicate]; rfl
  have c2 : cnt (List.replicate m (Slt.emp : SL)) 2 = 0 := by unfold cnt; rw [List.countP_replicate]; rfl
  refine ⟨⟨W.heap.size + 1, gy, ⟨?_, hr.same (oth _ (by omega)), fun _ => h1.ry.same (oth _ h1.zy.symm), fun _ => by omega, fun e => absurd e y0, by simpa using hp, fun _ => h1.ly, Nat.zero_le _⟩, fun k hk => ?_⟩, ?_⟩
  · show Blk _ z (tbL hv (W.heap.size + 1) (List.replicate m (Slt.emp : SL)).length (cnt (List.replicate m (Slt.emp : SL)) 1) (cnt (List.replicate m (Slt.emp : SL)) 2) gy T.y.length (cnt T.y 1) (cnt T.y 2) 0) _
    rw [c1, c2, List.length_replicate]
    unfold tbL
    rw [e0]
    have e7 : T.m = 0 := hm
    unfold tbL at hk
    rw [e7] at hk
    exact hk
  · rcases hk with e | e | e
    · exact .inl (.inl e)
    · right; have := hF.size; omega
    · exact .inl (.inr (.inl e))
  · refine hF.trans (S' := TbB z gy ge) ?_ (fun _ _ h => h)
    exact ((((((Frm.of_below hb).put _ _ _ (.inl rfl)).put _ _ _ (.inl rfl)).put _ _ _ (.inl rfl)).put _ _ _ (.inl rfl)).put _ _ _ (.inl rfl)).put _ _ _ (.inl rfl)
theorem grow_no (w : World) (H : TbAt w z gy ge (hvF F) T) (hg : T.left ≠ 0 ∨ 4 * (cnt T.y 1 + cnt T.y 2) ≤ 3 * T.y.length) : Calls Try.prog 22 #[.pointer (some ⟨z, 0, none⟩)] w fun e w' => e = .returned (.tuple #[]) ∧ ∃ q, w' = w.drewN q := by
  have HC := hide (cap_any w H)
  have HL := hide (fun q => left_any (w.drewN q) (H.drewN q))
  have c2 : w.cell? ⟨z, 2, none⟩ = some (.int .i64 (cnt T.y 1 : Int)) := by rw [H.blk.cell]; rfl
  have c3 : w.cell? ⟨z, 3, none⟩ = some (.int .i64 (cnt T.y 2 : Int)) := by rw [H.blk.cell]; rfl
  have hz := H.blk.lt
  have b := H.b43.1
  have b1 := cnt_le T.y 1
  have b2 := cnt_le T.y 2
  generalize cnt T.y 1 = x at *
  generalize cnt T.y 2 = y at *
  generalize T.y.length = n at *
  generalize T.left = l at *
  have hx : x ≤ 8796093022208 := by omega
  have hy : y ≤ 8796093022208 := by omega
  clear H b1 b2
  by_cases hl : 0 < l
  · clear hg
    go_enter Try.func22, Try.ntmps22
    go_upto_region 1 with (go_at_call 11; refine HC.out.mono ?_; rintro e w' ⟨rfl, hw⟩; rw [hw]; clear hw)
    go_quiet ((go_at_call 13; exact Calls.quiet_of (HL.out _)))
    go_wp2
    go_returns
    exact ⟨rfl, _, rfl⟩
  · have hg2 : 4 * (x + y) ≤ 3 * n := by omega
    have hl0 : l = 0 := by omega
    have hgi : 4 * ((x : Int) + (y : Int)) ≤ 3 * (n : Int) := by omega
    clear hg
    go_enter Try.func22, Try.ntmps22
    go_upto_region 1 with (go_at_call 11; refine HC.out.mono ?_; rintro e w' ⟨rfl, hw⟩; rw [hw]; clear hw)
    go_quiet ((go_at_call 13; exact Calls.quiet_of (HL.out _)))
    go_wp2
    go_returns
    exact ⟨rfl, _, rfl⟩
theorem grow_yes (w : World) (H : TbAt w z gy ge (hvF F) T) (hl : T.left = 0) (hm : T.m = 0) (he : T.e.length = 0) (hg : 3 * T.y.length < 4 * (cnt T.y 1 + cnt T.y 2)) (hG : growN T.y.length T.len ≤ 4398046511104) : Calls Try.prog 22 #[.pointer (some ⟨z, 0, none⟩)] w fun e w' => e = .returned (.tuple #[]) ∧ TbS w w' z gy ge (hvF F) ⟨List.replicate (growN T.y.length T.len) .emp, T.y, 0⟩ := by
  have HC := hide (cap_any w H)
  have HL := hide (fun q => left_any (w.drewN q) (H.drewN q))
  have HN := hide (fun q => len_any (w.drewN q) (H.drewN q))
  have c2 : w.cell? ⟨z, 2, none⟩ = some (.int .i64 (cnt T.y 1 : Int)) := by rw [H.blk.cell]; rfl
  have c3 : w.cell? ⟨z, 3, none⟩ = some (.int .i64 (cnt T.y 2 : Int)) := by rw [H.blk.cell]; rfl
  have hz := H.blk.lt
  have b := H.b43.1
  have b1 := cnt_le T.y 1
  have b2 := cnt_le T.y 2
  have b3 := cnt_le T.e 1
  have HT := hide H
  have hlen : T.len ≤ 8796093022208 := by unfold Tb.len; omega
  obtain ⟨a, ha, hna⟩ := H.ly
  obtain ⟨G, hGG⟩ : ∃ G, G = growN T.y.length T.len := ⟨_, rfl⟩
  have HG : Hid (G = dbl (2 * T.len + 2) 64 T.y.length) := hide hGG
  have HGP : Hid (∃ a, a ≤ 43 ∧ G = 2 ^ a) := hide (by
    obtain ⟨b, _, h2⟩ := dbl_pow (2 * T.len + 2) 64 a
    refine ⟨b, ?_, by rw [hGG]; unfold growN; rw [hna]; exact h2⟩
    rcases Nat.lt_or_ge 43 b with h | h
    · have : 2 ^ 44 ≤ 2 ^ b := Nat.pow_le_pow_right (by decide) h
      rw [hGG] at *
      unfold growN at hG
      rw [hna, h2] at hG
      omega
    · exact h)
  rw [← hGG] at hG ⊢
  obtain ⟨x, hx⟩ : ∃ x, x = cnt T.y 1 := ⟨_, rfl⟩
  obtain ⟨y, hy⟩ : ∃ x, x = cnt T.y 2 := ⟨_, rfl⟩
  obtain ⟨n, hn⟩ : ∃ x, x = T.y.length := ⟨_, rfl⟩
  obtain ⟨lt, hlt⟩ : ∃ x, x = T.len := ⟨_, rfl⟩
  have n8 : 0 < n := by rw [hn, hna]; exact Nat.pow_pos (by decide)
  rw [← hx] at c2 hg b1
  rw [← hy] at c3 hg b2
  rw [← hn] at b hg b1 b2 HC HG
  rw [hl] at HL
  rw [← hlt] at hlen HN HG
  have HX := hide hx
  have HY := hide hy
  have HNN := hide hn
  have HM := hide hm
  have HE := hide he
  have hgi : ¬ 4 * ((x : Int) + (y : Int)) ≤ 3 * (n : Int) := by omega
  have hx0 : x ≤ 8796093022208 := by omega
  have hy0 : y ≤ 8796093022208 := by omega
  clear H hl hx hy hn hlt hGG hna ha hm he b1 b2 b3
  go_enter Try.func22, Try.ntmps22
  go_upto_region 1 with (go_at_call 11; refine HC.out.mono ?_; rintro e w' ⟨rfl, hw⟩; rw [hw]; clear hw)
  go_quiet ((go_at_call 13; exact Calls.quiet_of (HL.out _)))
  go_wp2
  go_loopw [2] (fun t wr => ∃ (m f : Nat) (q : Nat), t = .int .i64 m ∧ wr = w.drewN q ∧ Hid (dbl (2 * lt + 2) f m = G) ∧ m ≤ G ∧ Hid (2 * lt + 2 ≤ m * 2 ^ f) ∧ 0 < m) (fun t _ => 17592186044420 - (intOf t).toNat)
  case atStart => exact ⟨n, 64, nq, rfl, rfl, hide HG.out.symm, by rw [HG.out]; exact dbl_ge _ _ _, hide (by omega), n8⟩
  case round =>
    obtain ⟨m, f, q, rfl, rfl, h1, h2, h3, h4⟩ := hrel
    have HNq := hide (HN.out q)
    by_cases hlt : m < 2 * lt + 2
    · have hli : (m : Int) < 2 * (lt : Int) + 2 := by omega
      have hm2 : m ≤ 8796093022208 := by omega
      have HF : Hid (∃ f', f = f' + 1) := hide (by
        cases f with
        | zero => have := h3.out; simp at this; omega
        | succ f' => exact ⟨f', rfl⟩)
      go_wp2_with (go_at_call 10; refine HNq.out.mono ?_; rintro e w' ⟨rfl, q2, hw⟩; rw [hw]; clear hw)
      go_roundw
      case rel =>
        obtain ⟨f', rfl⟩ := HF.out
        have e1 := h1.out
        rw [dbl_yes _ _ _ hlt] at e1
        have e2 : 2 * m ≤ G := by rw [← e1]; exact dbl_ge _ _ _
        have e3 : 2 * lt + 2 ≤ 2 * m * 2 ^ f' := by
          have e4 : 2 * m * 2 ^ f' = m * 2 ^ (f' + 1) := by rw [Nat.pow_succ, Nat.mul_comm 2 m, Nat.mul_assoc, Nat.mul_comm 2 (2 ^ f')]
          rw [e4]; exact h3.out
        exact ⟨.int .i64 ((m : Int) * 2), _, _, _, _, _, _, _, _, ⟨2 * m, f', _, by congr 1; omega, rfl, hide e1, e2, hide e3, by omega⟩, rfl⟩
      case measure => simp [intOf]; omega
    · have hli : ¬ (m : Int) < 2 * (lt : Int) + 2 := by omega
      have HMG : Hid (m = G) := hide (by rw [← h1.out, dbl_no _ _ _ hlt])
      go_upto_region 4 with (go_at_call 10; refine HNq.out.mono ?_; rintro e w' ⟨rfl, q2, hw⟩; rw [hw]; clear hw)
      clear HNq HC HL HN h1 h3 hli hgi
      refine name_world (fun W => TbAt W z gy ge (hvF F) T ∧ Frm w W (TbB z gy ge)) ⟨HT.out.drewN _, (Frm.refl w _).drewN _⟩ ?_
      rintro W ⟨hT, hF⟩
      have HTW := hide hT
      have HFW := hide hF
      have HNA := hide (newArray_any W.drew m (by omega))
      have d1 : W.cell? ⟨z, 1, none⟩ = some (.slice (some ⟨gy, 0, none⟩) n n) := by rw [hT.blk.cell, HNN.out]; rfl
      have d2 : W.cell? ⟨z, 2, none⟩ = some (.int .i64 (x : Int)) := by rw [hT.blk.cell, HX.out]; rfl
      have d3 : W.cell? ⟨z, 3, none⟩ = some (.int .i64 (y : Int)) := by rw [hT.blk.cell, HY.out]; rfl
      have hzW := hT.blk.lt
      clear hT hF
      have HCE : Hid (∀ w1, Below W.drew.heap.size W.drew w1 → (∀ i, w1.frozen? ⟨z, i, none⟩ = false) ∧ w1.cell? ⟨z, 1, none⟩ = some (.slice (some ⟨gy, 0, none⟩) n n) ∧ w1.cell? ⟨z, 2, none⟩ = some (.int .i64 (x : Int)) ∧ w1.cell? ⟨z, 3, none⟩ = some (.int .i64 (y : Int)) ∧ w1.cell? ⟨z, 4, none⟩ = some (.slice none 0 0) ∧ w1.cell? ⟨z, 5, none⟩ = some (.int .i64 (cnt T.e 1 : Int)) ∧ w1.cell? ⟨z, 6, none⟩ = some (.int .i64 (cnt T.e 2 : Int))) := hide (fun w1 hb => by
        have h1 := HTW.out.below (below_undrew hb)
        have hk := h1.blk
        exact ⟨hk.frozen, by rw [hk.cell, HNN.out]; rfl, by rw [hk.cell, HX.out]; rfl, by rw [hk.cell, HY.out]; rfl, h1.cellE0 HE.out, by rw [hk.cell]; rfl, by rw [hk.cell]; rfl⟩)
      go_region_with (go_at_call 15; refine HNA.out.mono ?_; rintro e w1 ⟨rfl, hr, hb⟩; obtain ⟨hfz, e1, e2, e3, e4, e5, e6⟩ := HCE.out w1 hb; have fz1 := hfz 1; have fz2 := hfz 2; have fz3 := hfz 3; have fz4 := hfz 4; have fz5 := hfz 5; have fz6 := hfz 6; have HR := hide hr; have HB := hide hb; clear hr hb hfz)
      all_goals
        go_returns
        refine ⟨rfl, ?_⟩
        have := TbS.grown HTW.out HFW.out HR.out (below_undrew HB.out) HM.out HE.out (by rw [HMG.out]; exact HGP.out)
        rw [← HX.out, ← HY.out, ← HNN.out] at this
        rw [← HMG.out]
        exact this
end
end TX
end Go.Proofs.Ytjhbebaephmcgaa
