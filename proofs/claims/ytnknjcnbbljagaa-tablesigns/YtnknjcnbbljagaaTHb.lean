/- A new array, a new table. -/
import Derived.Test.YtnknjcnbbljagaaTHa
import Derived.WideMake
import Derived.Shelf.Abstract
import Derived.StillTailTactics
import Derived.Test.YtnknjcnbbljagaaTRF2
import Derived.Shelf.RegionOpen
import Derived.WalkKit
import Derived.OwnWalkIn
import Derived.TacticsInMore
import Derived.LoopNIn
import Derived.LoopIn
namespace Go.Proofs.Ytnknjcnbbljagaa
set_option linter.unusedVariables false
set_option linter.unusedSimpArgs false
namespace GG
set_option maxRecDepth 100000
open Go.RowKit

def nilSl : Array Value := #[.int .u8 0, .float .f64 0, .int .i64 0]
theorem infoSl : (Try.prog.info? 119).map (fun i => (i.zero, i.size, i.bytes)) = some (some (.agg nilSl), 3, 24) := by kernel_rfl
def rowO (n : Nat) : Obj := .cells (madeCells (Value.cells (.agg nilSl)) (n * 3)) 119
theorem make_sl (m : Nat) (hm : m ≤ 8796093022208) (w : World) : (Instr.makeSlice 108 (.int .i64 (m : Int)) (.int .i64 (m : Int))).run Try.prog w = .ok (.slice (some ⟨w.heap.size, 0, none⟩) m m) (w.alloc (rowO m)) :=
  run_make_wide w _ _ nilSl 3 24 Try.underlying108 infoSl .i64 .i64 m (by omega) (by omega)
theorem row_made (w : World) (n : Nat) : RowAt (w.alloc (rowO n)) w.heap.size (List.replicate n .emp) := by
  have hb : Blk (w.alloc (rowO n)) w.heap.size (madeCells (Value.cells (.agg nilSl)) (n * 3)) 119 := Blk.made w _ _
  have s : ∀ p, sat (List.replicate n (Slt.emp : SL)) p = .emp := fun p => by
    simp only [sat, List.getD_eq_getElem?_getD, List.getElem?_replicate]
    split <;> rfl
  refine ⟨⟨_, hb, by rw [size_madeCells]; simp⟩, fun p hp => ?_, fun p hp => ?_, fun p hp => ?_, fun p k v _ e => by rw [s] at e; cases e⟩
  all_goals
    rw [List.length_replicate] at hp
    rw [hb.cell, s, made_at _ _ _ (by omega)]
    simp [nilSl, Slt.st, kS, vS, Value.cells, Nat.mul_add_mod_self_right]
theorem newArray_any (w : World) (n : Nat) (hn : n ≤ 8796093022208) : Calls Try.prog 65 #[.int .i64 (n : Int)] w fun e w' => e = .returned (.agg #[.slice (some ⟨w.heap.size + 1, 0, none⟩) n n, .int .i64 0, .int .i64 0]) ∧ RowAt w' (w.heap.size + 1) (List.replicate n .emp) ∧ Below w.heap.size w w' := by
  have hmk := make_sl n hn
  go_enter Try.func65, Try.ntmps65
  go_wp2
  refine bodyPost_ret (v := .agg #[.slice (some ⟨w.heap.size + 1, 0, none⟩) n n, .int .i64 0, .int .i64 0]) (by simp [results, Try.results65, go_sem]) rfl ⟨rfl, ?_, (below_alloc w _).alloc (by simp) _⟩
  have := row_made (w.alloc (.cells #[.slice (some ⟨w.heap.size + 1, 0, none⟩) n n, .int .i64 0, .int .i64 0] 110)) n
  simpa using this
def newT : TB := ⟨List.replicate 8 .emp, [], 0⟩
theorem new_any (w : World) (F bt bm : Nat) : Calls Try.prog 22 #[hvF F bt bm] w fun e w' => ∃ z g, e = .returned (.pointer (some ⟨z, 0, none⟩)) ∧ TbAt w' z g g (hvF F bt bm) newT ∧ w.heap.size ≤ z ∧ w.heap.size ≤ g ∧ Below w.heap.size w w' := by
  have HN := hide (newArray_any w 8 (by decide))
  have hnf := notnil_f F bt bm w
  unfold hvF
  go_enter Try.func22, Try.ntmps22
  go_wp2_with (go_at_call 65; refine HN.out.mono ?_; rintro e w1 ⟨rfl, hr, hb⟩)
  go_ret
  have hrl := hr.lt
  refine ⟨w1.heap.size, w.heap.size + 1, rfl, ⟨Blk.made w1 _ _, hr.same (Below.heap_alloc w1 _ _ hrl), fun h => absurd rfl h, fun h => absurd rfl h, fun _ => rfl, ⟨3, by decide, rfl⟩, fun h => absurd rfl h, Nat.le_refl _⟩, hb.size, by omega, hb.alloc hb.size _⟩
end GG
end Go.Proofs.Ytnknjcnbbljagaa

/- grow. -/
namespace Go.Proofs.Ytnknjcnbbljagaa
set_option linter.unusedVariables false
set_option linter.unusedSimpArgs false
namespace GG
set_option maxRecDepth 100000
open Go.RowKit

/-- What a call leaves of a table. -/
structure TbS (w w' : World) (z gy ge : Nat) (hv : Value) (T' : TB) : Prop where
  ex : ∃ gy' ge', TbAt w' z gy' ge' hv T' ∧ ∀ k, TbB z gy' ge' k → TbB z gy ge k ∨ w.heap.size ≤ k
  fr : Frm w w' (TbB z gy ge)
section
variable {z gy ge : Nat} {hv : Value} {T : TB} {F bt bm : Nat}
theorem TbK.s {w w' : World} {T' : TB} (h : TbK w w' z gy ge hv T') : TbS w w' z gy ge hv T' := ⟨⟨gy, ge, h.tb, fun _ hk => .inl hk⟩, h.fr⟩
theorem TbS.trans {a b c : World} {gy' ge' : Nat} {T' : TB} (hf : Frm a b (TbB z gy ge)) (hn : ∀ k, TbB z gy' ge' k → TbB z gy ge k ∨ a.heap.size ≤ k) (k : TbS b c z gy' ge' hv T') : TbS a c z gy ge hv T' := by
  obtain ⟨⟨g1, g2, ht, hk⟩, hfr⟩ := k
  refine ⟨⟨g1, g2, ht, fun q hq => ?_⟩, hf.trans hfr (fun i hi hS => ?_)⟩
  · rcases hk q hq with e | e
    · exact hn q e
    · exact .inr (Nat.le_trans hf.size e)
  · rcases hn i hS with e | e
    · exact e
    · omega
theorem TbS.grown {w W w1 : World} (hT : TbAt W z gy ge hv T) (hF : Frm w W (TbB z gy ge)) {m : Nat} (hr : RowAt w1 (W.heap.size + 1) (List.replicate m .emp)) (hb : Below W.heap.size W w1) (hm : T.m = 0) (he : T.e.length = 0) (hp : ∃ a, a ≤ 43 ∧ m = 2 ^ a) :
    TbS w ((((((w1.setCell ⟨z, 4, none⟩ (.slice (some ⟨gy, 0, none⟩) T.y.length T.y.length)).setCell ⟨z, 5, none⟩ (.int .i64 (cnt T.y 1 : Int))).setCell ⟨z, 6, none⟩ (.int .i64 (cnt T.y 2 : Int))).setCell ⟨z, 1, none⟩ (.slice (some ⟨W.heap.size + 1, 0, none⟩) m m)).setCell ⟨z, 2, none⟩ (.int .i64 0)).setCell ⟨z, 3, none⟩ (.int .i64 0)) z gy ge hv ⟨List.replicate m .emp, T.y, 0⟩ := by
  have h1 := hT.below hb
  have hzl := hT.blk.lt
  have hyl := hT.ry.lt
  have y0 : T.y.length ≠ 0 := by obtain ⟨a, _, e⟩ := hT.ly; rw [e]; exact Nat.ne_of_gt (Nat.pow_pos (by decide))
  have hk := ((((((h1.blk.set 4 (.slice (some ⟨gy, 0, none⟩) T.y.length T.y.length)).set 5 (.int .i64 (cnt T.y 1 : Int))).set 6 (.int .i64 (cnt T.y 2 : Int))).set 1 (.slice (some ⟨W.heap.size + 1, 0, none⟩) m m)).set 2 (.int .i64 0)).set 3 (.int .i64 0))
  have oth : ∀ k, k ≠ z → ((((((w1.setCell ⟨z, 4, none⟩ (.slice (some ⟨gy, 0, none⟩) T.y.length T.y.length)).setCell ⟨z, 5, none⟩ (.int .i64 (cnt T.y 1 : Int))).setCell ⟨z, 6, none⟩ (.int .i64 (cnt T.y 2 : Int))).setCell ⟨z, 1, none⟩ (.slice (some ⟨W.heap.size + 1, 0, none⟩) m m)).setCell ⟨z, 2, none⟩ (.int .i64 0)).setCell ⟨z, 3, none⟩ (.int .i64 0)).heap[k]? = w1.heap[k]? := fun k h => by
    rw [heap_setCell_other _ _ _ _ h, heap_setCell_other _ _ _ _ h, heap_setCell_other _ _ _ _ h, heap_setCell_other _ _ _ _ h, heap_setCell_other _ _ _ _ h, heap_setCell_other _ _ _ _ h]
  have e0 : evS gy T.y.length = .slice (some ⟨gy, 0, none⟩) T.y.length T.y.length := by unfold evS; rw [if_neg y0]
  have c1 : cnt (List.replicate m (Slt.emp : SL)) 1 = 0 := by unfold cnt; rw [List.countP_replicate]; rfl
  have c2 : cnt (List.replicate m (Slt.emp : SL)) 2 = 0 := by unfold cnt; rw [List.countP_replicate]; rfl
  refine ⟨⟨W.heap.size + 1, gy, ⟨?_, hr.same (oth _ (by omega)), fun _ => h1.ry.same (oth _ h1.zy.symm), fun _ => by omega, fun e => absurd e y0, by simpa using hp, fun _ => h1.ly, Nat.zero_le _⟩, fun k hk => ?_⟩, ?_⟩
  · show Blk _ z (tbL hv (W.heap.size + 1) (List.replicate m (Slt.emp : SL)).length (cnt (List.replicate m (Slt.emp : SL)) 1) (cnt (List.replicate m (Slt.emp : SL)) 2) gy T.y.length (cnt T.y 1) (cnt T.y 2) 0) _
    rw [c1, c2, List.length_replicate]
    unfold tbL
    rw [e0]
    have e7 : T.m = 0 := hm
    unfold tbL at hk
    rw [e7] at hk
    exact hk
  · rcases hk with e | e | e
    · exact .inl (.inl e)
    · right; have := hF.size; omega
    · exact .inl (.inr (.inl e))
  · refine hF.trans (S' := TbB z gy ge) ?_ (fun _ _ h => h)
    exact ((((((Frm.of_below hb).put _ _ _ (.inl rfl)).put _ _ _ (.inl rfl)).put _ _ _ (.inl rfl)).put _ _ _ (.inl rfl)).put _ _ _ (.inl rfl)).put _ _ _ (.inl rfl)
theorem grow_no (w : World) (H : TbAt w z gy ge (hvF F bt bm) T) (hg : T.left ≠ 0 ∨ 4 * (cnt T.y 1 + cnt T.y 2) ≤ 3 * T.y.length) : Calls Try.prog 72 #[.pointer (some ⟨z, 0, none⟩)] w fun e w' => e = .returned (.tuple #[]) ∧ ∃ q, w' = w.drewN q := by
  have HC := hide (cap_any w H)
  have HL := hide (fun q => left_any (w.drewN q) (H.drewN q))
  have c2 : w.cell? ⟨z, 2, none⟩ = some (.int .i64 (cnt T.y 1 : Int)) := by rw [H.blk.cell]; rfl
  have c3 : w.cell? ⟨z, 3, none⟩ = some (.int .i64 (cnt T.y 2 : Int)) := by rw [H.blk.cell]; rfl
  have hz := H.blk.lt
  have b := H.b43.1
  have b1 := cnt_le T.y 1
  have b2 := cnt_le T.y 2
  generalize cnt T.y 1 = x at *
  generalize cnt T.y 2 = y at *
  generalize T.y.length = n at *
  generalize T.left = l at *
  have hx : x ≤ 8796093022208 := by omega
  have hy : y ≤ 8796093022208 := by omega
  clear H b1 b2
  by_cases hl : 0 < l
  · clear hg
    go_enter Try.func72, Try.ntmps72
    go_upto_region 1 with (go_at_call 96; refine HC.out.mono ?_; rintro e w' ⟨rfl, hw⟩; rw [hw]; clear hw)
    go_quiet ((go_at_call 94; exact Calls.quiet_of (HL.out _)))
    go_wp2
    go_returns
    exact ⟨rfl, _, rfl⟩
  · have hg2 : 4 * (x + y) ≤ 3 * n := by omega
    have hl0 : l = 0 := by omega
    have hgi : 4 * ((x : Int) + (y : Int)) ≤ 3 * (n : Int) := by omega
    clear hg
    go_enter Try.func72, Try.ntmps72
    go_upto_region 1 with (go_at_call 96; refine HC.out.mono ?_; rintro e w' ⟨rfl, hw⟩; rw [hw]; clear hw)
    go_quiet ((go_at_call 94; exact Calls.quiet_of (HL.out _)))
    go_wp2
    go_returns
    exact ⟨rfl, _, rfl⟩
theorem grow_yes (w : World) (H : TbAt w z gy ge (hvF F bt bm) T) (hl : T.left = 0) (hm : T.m = 0) (he : T.e.length = 0) (hg : 3 * T.y.length < 4 * (cnt T.y 1 + cnt T.y 2)) (hG : growN T.y.length T.len ≤ 8796093022208) : Calls Try.prog 72 #[.pointer (some ⟨z, 0, none⟩)] w fun e w' => e = .returned (.tuple #[]) ∧ TbS w w' z gy ge (hvF F bt bm) ⟨List.replicate (growN T.y.length T.len) .emp, T.y, 0⟩ := by
  have HC := hide (cap_any w H)
  have HL := hide (fun q => left_any (w.drewN q) (H.drewN q))
  have HN := hide (fun q => len_any (w.drewN q) (H.drewN q))
  have c2 : w.cell? ⟨z, 2, none⟩ = some (.int .i64 (cnt T.y 1 : Int)) := by rw [H.blk.cell]; rfl
  have c3 : w.cell? ⟨z, 3, none⟩ = some (.int .i64 (cnt T.y 2 : Int)) := by rw [H.blk.cell]; rfl
  have hz := H.blk.lt
  have b := H.b43.1
  have b1 := cnt_le T.y 1
  have b2 := cnt_le T.y 2
  have b3 := cnt_le T.e 1
  have HT := hide H
  have hlen : T.len ≤ 8796093022208 := by unfold Tb.len; omega
  obtain ⟨a, ha, hna⟩ := H.ly
  obtain ⟨G, hGG⟩ : ∃ G, G = growN T.y.length T.len := ⟨_, rfl⟩
  have HG : Hid (G = dbl (2 * T.len + 2) 64 T.y.length) := hide hGG
  have HGP : Hid (∃ a, a ≤ 43 ∧ G = 2 ^ a) := hide (by
    obtain ⟨b, _, h2⟩ := dbl_pow (2 * T.len + 2) 64 a
    refine ⟨b, ?_, by rw [hGG]; unfold growN; rw [hna]; exact h2⟩
    rcases Nat.lt_or_ge 43 b with h | h
    · have : 2 ^ 44 ≤ 2 ^ b := Nat.pow_le_pow_right (by decide) h
      rw [hGG] at *
      unfold growN at hG
      rw [hna, h2] at hG
      omega
    · exact h)
  rw [← hGG] at hG ⊢
  obtain ⟨x, hx⟩ : ∃ x, x = cnt T.y 1 := ⟨_, rfl⟩
  obtain ⟨y, hy⟩ : ∃ x, x = cnt T.y 2 := ⟨_, rfl⟩
  obtain ⟨n, hn⟩ : ∃ x, x = T.y.length := ⟨_, rfl⟩
  obtain ⟨lt, hlt⟩ : ∃ x, x = T.len := ⟨_, rfl⟩
  have n8 : 0 < n := by rw [hn, hna]; exact Nat.pow_pos (by decide)
  rw [← hx] at c2 hg b1
  rw [← hy] at c3 hg b2
  rw [← hn] at b hg b1 b2 HC HG
  rw [hl] at HL
  rw [← hlt] at hlen HN HG
  have HX := hide hx
  have HY := hide hy
  have HNN := hide hn
  have HM := hide hm
  have HE := hide he
  have hgi : ¬ 4 * ((x : Int) + (y : Int)) ≤ 3 * (n : Int) := by omega
  have hx0 : x ≤ 8796093022208 := by omega
  have hy0 : y ≤ 8796093022208 := by omega
  clear H hl hx hy hn hlt hGG hna ha hm he b1 b2 b3
  go_enter Try.func72, Try.ntmps72
  go_upto_region 1 with (go_at_call 96; refine HC.out.mono ?_; rintro e w' ⟨rfl, hw⟩; rw [hw]; clear hw)
  go_quiet ((go_at_call 94; exact Calls.quiet_of (HL.out _)))
  go_wp2
  go_loopw [2] (fun t wr => ∃ (m f : Nat) (q : Nat), t = .int .i64 m ∧ wr = w.drewN q ∧ Hid (dbl (2 * lt + 2) f m = G) ∧ m ≤ G ∧ Hid (2 * lt + 2 ≤ m * 2 ^ f) ∧ 0 < m) (fun t _ => 17592186044420 - (intOf t).toNat)
  case atStart => exact ⟨n, 64, nq, rfl, rfl, hide HG.out.symm, by rw [HG.out]; exact dbl_ge _ _ _, hide (by omega), n8⟩
  case round =>
    obtain ⟨m, f, q, rfl, rfl, h1, h2, h3, h4⟩ := hrel
    have HNq := hide (HN.out q)
    by_cases hlt : m < 2 * lt + 2
    · have hli : (m : Int) < 2 * (lt : Int) + 2 := by omega
      have hm2 : m ≤ 8796093022208 := by omega
      have HF : Hid (∃ f', f = f' + 1) := hide (by
        cases f with
        | zero => have := h3.out; simp at this; omega
        | succ f' => exact ⟨f', rfl⟩)
      go_wp2_with (go_at_call 29; refine HNq.out.mono ?_; rintro e w' ⟨rfl, q2, hw⟩; rw [hw]; clear hw)
      go_roundw
      case rel =>
        obtain ⟨f', rfl⟩ := HF.out
        have e1 := h1.out
        rw [dbl_yes _ _ _ hlt] at e1
        have e2 : 2 * m ≤ G := by rw [← e1]; exact dbl_ge _ _ _
        have e3 : 2 * lt + 2 ≤ 2 * m * 2 ^ f' := by
          have e4 : 2 * m * 2 ^ f' = m * 2 ^ (f' + 1) := by rw [Nat.pow_succ, Nat.mul_comm 2 m, Nat.mul_assoc, Nat.mul_comm 2 (2 ^ f')]
          rw [e4]; exact h3.out
        exact ⟨.int .i64 ((m : Int) * 2), _, _, _, _, _, _, _, _, ⟨2 * m, f', _, by congr 1; omega, rfl, hide e1, e2, hide e3, by omega⟩, rfl⟩
      case measure => simp [intOf]; omega
    · have hli : ¬ (m : Int) < 2 * (lt : Int) + 2 := by omega
      have HMG : Hid (m = G) := hide (by rw [← h1.out, dbl_no _ _ _ hlt])
      go_upto_region 4 with (go_at_call 29; refine HNq.out.mono ?_; rintro e w' ⟨rfl, q2, hw⟩; rw [hw]; clear hw)
      clear HNq HC HL HN h1 h3 hli hgi
      refine name_world (fun W => TbAt W z gy ge (hvF F bt bm) T ∧ Frm w W (TbB z gy ge)) ⟨HT.out.drewN _, (Frm.refl w _).drewN _⟩ ?_
      rintro W ⟨hT, hF⟩
      have HTW := hide hT
      have HFW := hide hF
      have HNA := hide (newArray_any W.drew m (by omega))
      have d1 : W.cell? ⟨z, 1, none⟩ = some (.slice (some ⟨gy, 0, none⟩) n n) := by rw [hT.blk.cell, HNN.out]; rfl
      have d2 : W.cell? ⟨z, 2, none⟩ = some (.int .i64 (x : Int)) := by rw [hT.blk.cell, HX.out]; rfl
      have d3 : W.cell? ⟨z, 3, none⟩ = some (.int .i64 (y : Int)) := by rw [hT.blk.cell, HY.out]; rfl
      have hzW := hT.blk.lt
      clear hT hF
      have HCE : Hid (∀ w1, Below W.drew.heap.size W.drew w1 → (∀ i, w1.frozen? ⟨z, i, none⟩ = false) ∧ w1.cell? ⟨z, 1, none⟩ = some (.slice (some ⟨gy, 0, none⟩) n n) ∧ w1.cell? ⟨z, 2, none⟩ = some (.int .i64 (x : Int)) ∧ w1.cell? ⟨z, 3, none⟩ = some (.int .i64 (y : Int)) ∧ w1.cell? ⟨z, 4, none⟩ = some (.slice none 0 0) ∧ w1.cell? ⟨z, 5, none⟩ = some (.int .i64 (cnt T.e 1 : Int)) ∧ w1.cell? ⟨z, 6, none⟩ = some (.int .i64 (cnt T.e 2 : Int))) := hide (fun w1 hb => by
        have h1 := HTW.out.below (below_undrew hb)
        have hk := h1.blk
        exact ⟨hk.frozen, by rw [hk.cell, HNN.out]; rfl, by rw [hk.cell, HX.out]; rfl, by rw [hk.cell, HY.out]; rfl, h1.cellE0 HE.out, by rw [hk.cell]; rfl, by rw [hk.cell]; rfl⟩)
      go_region_with (go_at_call 65; refine HNA.out.mono ?_; rintro e w1 ⟨rfl, hr, hb⟩; obtain ⟨hfz, e1, e2, e3, e4, e5, e6⟩ := HCE.out w1 hb; have fz1 := hfz 1; have fz2 := hfz 2; have fz3 := hfz 3; have fz4 := hfz 4; have fz5 := hfz 5; have fz6 := hfz 6; have HR := hide hr; have HB := hide hb; clear hr hb hfz)
      all_goals
        go_returns
        refine ⟨rfl, ?_⟩
        have := TbS.grown HTW.out HFW.out HR.out (below_undrew HB.out) HM.out HE.out (by rw [HMG.out]; exact HGP.out)
        rw [← HX.out, ← HY.out, ← HNN.out] at this
        rw [← HMG.out]
        exact this
end
end GG
end Go.Proofs.Ytnknjcnbbljagaa

/- step. -/
namespace Go.Proofs.Ytnknjcnbbljagaa
set_option linter.unusedVariables false
set_option linter.unusedSimpArgs false
namespace GG
set_option maxRecDepth 100000
open Go.RowKit

section
variable {z gy ge : Nat} {hv : Value} {T : TB} {F bt bm : Nat} {hf : Nat → Nat}
theorem TbAt.setM {w : World} (h : TbAt w z gy ge hv T) (m : Nat) (hm : m ≤ T.e.length) : TbAt (w.setCell ⟨z, 7, none⟩ (.int .i64 (m : Int))) z gy ge hv ⟨T.y, T.e, m⟩ := by
  have hzy := h.zy
  have hze := h.ze
  exact ⟨h.blk.set 7 _, h.ry.same (heap_setCell_other _ _ _ _ hzy.symm), fun h0 => (h.re h0).same (heap_setCell_other _ _ _ _ hze.symm), h.ne, h.nil, h.ly, h.le, hm⟩
theorem kS_form (s : SL) : ∃ k, kS s = .float .f64 k := by cases s <;> exact ⟨_, rfl⟩
theorem vS_form (s : SL) : ∃ k, vS s = .int .i64 k := by cases s <;> exact ⟨_, rfl⟩
/-- Between two slots of a step. -/
structure StS (w : World) (z gy ge : Nat) (F bt bm : Nat) (hf : Nat → Nat) (W : World) (T : TB) : Prop where
  tb : TbAt W z gy ge (hvF F bt bm) T
  fr : Frm w W (TbB z gy ge)
  hs : HsAt F hf
theorem StS.drewN {w W : World} (h : StS w z gy ge F bt bm hf W T) (n : Nat) : StS w z gy ge F bt bm hf (W.drewN n) T := ⟨h.tb.drewN n, h.fr.drewN n, h.hs⟩
theorem StS.drew {w W : World} (h : StS w z gy ge F bt bm hf W T) : StS w z gy ge F bt bm hf W.drew T := h.drewN 1
theorem StS.alloc {w W : World} (h : StS w z gy ge F bt bm hf W T) (o : Obj) : StS w z gy ge F bt bm hf (W.alloc o) T :=
  ⟨h.tb.below (below_alloc _ _), h.fr.trans (Frm.of_below (S := fun _ => False) (below_alloc _ _)) (fun _ _ h => h.elim), h.hs⟩
theorem StS.k {w W W' : World} {T' : TB} (h : StS w z gy ge F bt bm hf W T) (k : TbK W W' z gy ge (hvF F bt bm) T') : StS w z gy ge F bt bm hf W' T' :=
  ⟨k.tb, h.fr.trans k.fr (fun _ _ h => h), h.hs⟩
theorem StS.setM {w W : World} (h : StS w z gy ge F bt bm hf W T) (m : Nat) (hm : m ≤ T.e.length) : StS w z gy ge F bt bm hf (W.setCell ⟨z, 7, none⟩ (.int .i64 (m : Int))) ⟨T.y, T.e, m⟩ :=
  h.k ⟨h.tb.setM m hm, Frm.set _ _ _ _ _ (.inl rfl)⟩
theorem StS.ended {w W : World} (h : StS w z gy ge F bt bm hf W T) (q : Nat) : TbS w ((((( W.drewN q).setCell ⟨z, 4, none⟩ (.slice none 0 0)).setCell ⟨z, 5, none⟩ (.int .i64 0)).setCell ⟨z, 6, none⟩ (.int .i64 0)).setCell ⟨z, 7, none⟩ (.int .i64 0)) z gy ge (hvF F bt bm) ⟨T.y, [], 0⟩ := by
  have hzy := h.tb.zy
  refine ⟨⟨gy, gy, ⟨((((h.tb.drewN q).blk.set 4 (.slice none 0 0)).set 5 (.int .i64 0)).set 6 (.int .i64 0)).set 7 (.int .i64 0), h.tb.ry.same ?_, fun h => absurd rfl h, fun h => absurd rfl h, fun _ => rfl, h.tb.ly, fun h => absurd rfl h, Nat.le_refl _⟩, fun k hk => ?_⟩, ((((h.fr.drewN q).put _ _ _ (.inl rfl)).put _ _ _ (.inl rfl)).put _ _ _ (.inl rfl)).put _ _ _ (.inl rfl)⟩
  · rw [heap_setCell_other _ _ _ _ hzy.symm, heap_setCell_other _ _ _ _ hzy.symm, heap_setCell_other _ _ _ _ hzy.symm, heap_setCell_other _ _ _ _ hzy.symm]
    rfl
  · rcases hk with e | e | e
    · exact .inl (.inl e)
    · exact .inl (.inr (.inl e))
    · exact .inl (.inr (.inl e))
theorem mv1_len (hs : Nat → Nat) (T : TB) : (mv1 hs T).e.length = T.e.length ∧ (mv1 hs T).y.length = T.y.length ∧ (mv1 hs T).m = T.m + 1 := by
  unfold mv1
  split
  · exact ⟨List.length_set, lay_length .., rfl⟩
  · exact ⟨rfl, rfl, rfl⟩
  · exact ⟨rfl, rfl, rfl⟩
theorem mvN_len (hs : Nat → Nat) (n : Nat) (T : TB) : (mvN hs n T).e.length = T.e.length ∧ (mvN hs n T).y.length = T.y.length ∧ (mvN hs n T).m = T.m + n := by
  induction n with
  | zero => exact ⟨rfl, rfl, rfl⟩
  | succ n ih =>
    have := mv1_len hs (mvN hs n T)
    exact ⟨this.1.trans ih.1, this.2.1.trans ih.2.1, by rw [mvN, this.2.2, ih.2.2]; rfl⟩
theorem step_none (w : World) (H : TbAt w z gy ge (hvF F bt bm) T) (hl : T.left = 0) : Calls Try.prog 68 #[.pointer (some ⟨z, 0, none⟩)] w fun e w' => e = .returned (.tuple #[]) ∧ ∃ q, w' = w.drewN q := by
  have HL := hide (left_any w H)
  rw [hl] at HL
  clear H hl
  go_enter Try.func68, Try.ntmps68
  go_wp2_with (go_at_call 94; refine HL.out.mono ?_; rintro e w' ⟨rfl, q, hw⟩; rw [hw]; clear hw)
  go_returns
  exact ⟨rfl, _, rfl⟩

theorem step_some (w : World) (H : StS w z gy ge F bt bm hf w T) (hl : T.m + 8 ≤ T.e.length) : Calls Try.prog 68 #[.pointer (some ⟨z, 0, none⟩)] w fun e w' => e = .returned (.tuple #[]) ∧ TbS w w' z gy ge (hvF F bt bm) (endT (mvN hf 8 T)) := by
  have HL := hide (left_any w H.tb)
  obtain ⟨l, hll⟩ : ∃ l, l = T.left := ⟨_, rfl⟩
  have l0 : 0 < l := by rw [hll]; unfold Tb.left; omega
  rw [← hll] at HL
  have hlb : ((l : Int) == 0) = false := beq_eq_false_iff_ne.2 (by omega)
  have HH := hide H
  have b := H.tb.b43.2
  have hT8 := hl
  have hzl := H.tb.blk.lt
  have hyl := H.tb.ry.lt
  have h0 : T.e.length ≠ 0 := by omega
  have hel := (H.tb.re h0).lt
  clear H hll
  go_enter Try.func68, Try.ntmps68
  go_upto_region 1 with (go_at_call 94; refine HL.out.mono ?_; rintro e w' ⟨rfl, q, hw⟩; rw [hw]; clear hw)
  go_upto_region 2 with fail
  go_loopw [6] (fun t wr => ∃ j : Nat, t = .int .i64 j ∧ j ≤ 8 ∧ StS w z gy ge F bt bm hf wr (mvN hf j T)) (fun t _ => 8 - (intOf t).toNat)
  case atStart => exact ⟨0, rfl, by omega, HH.out.drewN _⟩
  case round =>
    obtain ⟨j, rfl, hj, hst⟩ := hrel
    clear HL l0 hlb
    obtain ⟨TJ, hTJ⟩ : ∃ X, X = mvN hf j T := ⟨_, rfl⟩
    rw [← hTJ] at hst
    have hlen := mvN_len hf j T
    rw [← hTJ] at hlen
    by_cases hlt : j < 8
    · have hji : (j : Int) < 8 := by omega
      have HST := hide hst
      have hm : TJ.m < TJ.e.length := by omega
      have t0 : TJ.e.length ≠ 0 := by omega
      have c4 := hst.tb.cellE t0 rfl
      have c7 : wr.cell? ⟨z, 7, none⟩ = some (.int .i64 (TJ.m : Int)) := by rw [hst.tb.blk.cell]; rfl
      have d0 := (hst.tb.re t0).c0 TJ.m hm
      have d1 := (hst.tb.re t0).c1 TJ.m hm
      have d2 := (hst.tb.re t0).c2 TJ.m hm
      have zl := hst.tb.blk.lt
      have el := (hst.tb.re t0).lt
      have HLN := hide hlen
      have HTJ := hide hTJ
      have HM := hide hm
      have b2 : TJ.e.length ≤ 8796093022208 := by rw [hlen.1]; exact b
      obtain ⟨sl, hsl⟩ : ∃ s, s = sat TJ.e TJ.m := ⟨_, rfl⟩
      rw [← hsl] at d0 d1 d2
      obtain ⟨kx, hkx⟩ := kS_form sl
      obtain ⟨vx, hvx⟩ := vS_form sl
      rw [hkx] at d1
      rw [hvx] at d2
      obtain ⟨n, hn⟩ : ∃ n, n = TJ.e.length := ⟨_, rfl⟩
      obtain ⟨m, hmm⟩ : ∃ n, n = TJ.m := ⟨_, rfl⟩
      rw [← hn] at c4 b2 hm
      rw [← hmm] at c7 d0 d1 d2 hm
      have hmi : (m : Int) < (n : Int) := by omega
      have HMM := hide hmm
      have HNE := hide hn
      have HSL := hide hsl
      have HKX := hide hkx
      have HVX := hide hvx
      have hs2 := sl.st_le
      obtain ⟨sN, hsN⟩ : ∃ q, q = sl.st := ⟨_, rfl⟩
      rw [← hsN] at d0 hs2
      have HSN := hide hsN
      clear hst hlen hTJ t0 hsl hn hmm hkx hvx hsN
      go_upto_region 3 with fail
      go_region
      go_upto_region 4 with fail
      have HS0 : Hid (StS w z gy ge F bt bm hf (wr.alloc (.cells #[.int .u8 (sN : Int), .float .f64 kx, .int .i64 vx] 119)).drew TJ ∧ Blk (wr.alloc (.cells #[.int .u8 (sN : Int), .float .f64 kx, .int .i64 vx] 119)).drew wr.heap.size #[.int .u8 (sN : Int), .float .f64 kx, .int .i64 vx] 119) := hide ⟨(HST.out.alloc _).drew, Blk.made _ _ _⟩
      refine name_world (fun W => StS w z gy ge F bt bm hf W TJ ∧ Blk W wr.heap.size #[.int .u8 (sN : Int), .float .f64 kx, .int .i64 vx] 119) HS0.out ?_
      rintro W ⟨hS, hB⟩
      have HS := hide hS
      have s0 : W.cell? ⟨wr.heap.size, 0, none⟩ = some (.int .u8 (sN : Int)) := by rw [hB.cell]; rfl
      have s1 : W.cell? ⟨wr.heap.size, 1, none⟩ = some (.float .f64 kx) := by rw [hB.cell]; rfl
      have s2 : W.cell? ⟨wr.heap.size, 2, none⟩ = some (.int .i64 vx) := by rw [hB.cell]; rfl
      have sl0 := hB.lt
      have zW := hS.tb.blk.lt
      have cW7 : W.cell? ⟨z, 7, none⟩ = some (.int .i64 (m : Int)) := by rw [hS.tb.blk.cell, HMM.out]; rfl
      have fW7 := hS.tb.blk.frozen 7
      generalize wr.heap.size = sv at *
      clear HS0 HST hS hB c4 c7 d0 d1 d2 zl el
      cases sl with
      | emp =>
        have hsb : (((0 : Nat) : Int) == 1) = false := rfl
        obtain rfl : sN = 0 := HSN.out
        clear HKX HVX HSN
        go_wp2
        go_roundw
        case rel =>
          refine ⟨j + 1, by go_num, by omega, ?_⟩
          have h3 := HS.out.setM (m + 1) (by have := HNE.out; omega)
          rw [mvN, ← HTJ.out]
          unfold mv1
          rw [← HSL.out]
          rw [← HMM.out]
          rw [Int.natCast_add] at h3
          exact h3
        case measure => simp [intOf]; omega
      | tmb =>
        have hsb : (((2 : Nat) : Int) == 1) = false := rfl
        obtain rfl : sN = 2 := HSN.out
        clear HKX HVX HSN
        go_wp2
        go_roundw
        case rel =>
          refine ⟨j + 1, by go_num, by omega, ?_⟩
          have h3 := HS.out.setM (m + 1) (by have := HNE.out; omega)
          rw [mvN, ← HTJ.out]
          unfold mv1
          rw [← HSL.out]
          rw [← HMM.out]
          rw [Int.natCast_add] at h3
          exact h3
        case measure => simp [intOf]; omega
      | ful k' v' =>
        obtain ⟨rfl, rfl, rfl⟩ : sN = 1 ∧ kx = k' ∧ vx = v' := ⟨HSN.out, by have := HKX.out; simp [kS] at this; exact this.symm, by have := HVX.out; simp [vS] at this; exact this.symm⟩
        have HKB : Hid (Dm kx) := hide ((HS.out.tb.re (by have := HM.out; omega)).kb TJ.m kx vx HM.out HSL.out.symm)
        have HHs := hide (HS.out.hs.call W.drew kx HKB.out)
        have HLay := hide (lay_any W.drew (HS.out.drew).tb (hf kx) kx vx (HS.out.hs.lt _ HKB.out) HKB.out)
        have c0 : W.cell? ⟨z, 0, none⟩ = some (.func (.func F) #[] #[]) := by rw [HS.out.tb.blk.cell]; rfl
        have hen := HS.out.hs.ent
        clear HKX HVX HSN
        go_upto_region 5 with fail
        refine wp_region_still_tail 14 (by kernel_rfl) (by kernel_rfl) ?_
        simp only [List.take_succ_cons, List.take_zero, List.drop_succ_cons, List.drop_zero]
        iterate 9 still_step
        still_call HHs.out
        iterate 4 still_step
        refine wpStill_nil ?_
        go_upto_region 6 with (go_at_call 71; refine HLay.out.mono ?_; rintro e w1 ⟨rfl, hk1⟩; have HK1 := hide hk1; clear hk1)
        have hS1 := HS.out.drew.k HK1.out
        have HS1 := hide hS1
        have HBu := hide (buryE_any w1.drew hS1.drew.tb TJ.m HM.out kx vx HSL.out.symm)
        have k7 : w1.cell? ⟨z, 7, none⟩ = some (.int .i64 (m : Int)) := by rw [hS1.tb.blk.cell, HMM.out]; rfl
        have zl1 := hS1.tb.blk.lt
        rw [← HMM.out] at HBu
        clear hS1 HK1 HLay HHs hen c0 cW7 fW7 s0 s1 s2
        refine wp_region_still_tail 7 (by kernel_rfl) (by kernel_rfl) ?_
        simp only [List.take_succ_cons, List.take_zero, List.drop_succ_cons, List.drop_zero]
        iterate 7 still_step
        refine wpStill_nil ?_
        go_upto_region 7 with (go_at_call 69; refine HBu.out.mono ?_; rintro e w2 ⟨rfl, hk2⟩; have HK2 := hide hk2; clear hk2)
        have hS2 := HS1.out.drew.k HK2.out
        have HS2 := hide hS2
        have m7 : w2.cell? ⟨z, 7, none⟩ = some (.int .i64 (m : Int)) := by rw [hS2.tb.blk.cell, HMM.out]; rfl
        have n7 := hS2.tb.blk.frozen 7
        have zl2 := hS2.tb.blk.lt
        clear hS2 HK2 HBu HS1 k7
        go_wp2
        go_roundw
        case rel =>
          refine ⟨j + 1, by go_num, by omega, ?_⟩
          have h3 := HS2.out.setM (m + 1) (by show m + 1 ≤ (TJ.e.set m .tmb).length; rw [List.length_set]; have := HNE.out; omega)
          rw [mvN, ← HTJ.out]
          unfold mv1
          rw [← HSL.out]
          rw [← HMM.out]
          rw [Int.natCast_add] at h3
          exact h3
        case measure => simp [intOf]; omega
    · obtain rfl : j = 8 := by omega
      have HS := hide hst
      have HL2 := hide (left_any wr hst.tb)
      have HTJ := hide hTJ
      have y0 := hst.tb.blk.lt
      clear hst hTJ
      by_cases hl0 : TJ.left = 0
      · rw [hl0] at HL2
        have HE : Hid (endT (mvN hf 8 T) = ⟨TJ.y, [], 0⟩) := hide (by rw [← HTJ.out]; unfold endT; rw [if_pos hl0])
        have g4 : ∃ v, wr.cell? ⟨z, 4, none⟩ = some v := ⟨_, by rw [HS.out.tb.blk.cell]; rfl⟩
        obtain ⟨x4, g4⟩ := g4
        have g5 : wr.cell? ⟨z, 5, none⟩ = some (.int .i64 (cnt TJ.e 1 : Int)) := by rw [HS.out.tb.blk.cell]; rfl
        have g6 : wr.cell? ⟨z, 6, none⟩ = some (.int .i64 (cnt TJ.e 2 : Int)) := by rw [HS.out.tb.blk.cell]; rfl
        have g7 : wr.cell? ⟨z, 7, none⟩ = some (.int .i64 (TJ.m : Int)) := by rw [HS.out.tb.blk.cell]; rfl
        have f4 := HS.out.tb.blk.frozen 4
        have f5 := HS.out.tb.blk.frozen 5
        have f6 := HS.out.tb.blk.frozen 6
        have f7 := HS.out.tb.blk.frozen 7
        clear hl0 hlen
        generalize cnt TJ.e 1 = q1 at *
        generalize cnt TJ.e 2 = q2 at *
        go_wp2_with (go_at_call 94; refine HL2.out.mono ?_; rintro e w' ⟨rfl, q, hw⟩; rw [hw]; clear hw)
        go_returns
        exact ⟨rfl, by rw [HE.out]; exact HS.out.ended _⟩
      · have HE : Hid (endT (mvN hf 8 T) = TJ) := hide (by rw [← HTJ.out]; unfold endT; rw [if_neg hl0])
        generalize hll : TJ.left = ll at *
        have hl1 : 0 < ll := by omega
        have hl2 : ((ll : Int) == 0) = false := beq_eq_false_iff_ne.2 (by omega)
        clear hl0 hlen hll
        go_wp2_with (go_at_call 94; refine HL2.out.mono ?_; rintro e w' ⟨rfl, q, hw⟩; rw [hw]; clear hw)
        go_returns
        exact ⟨rfl, by rw [HE.out]; exact (TbK.s ⟨HS.out.tb.drewN _, HS.out.fr.drewN _⟩)⟩
end
end GG
end Go.Proofs.Ytnknjcnbbljagaa

/- Get, Probes. -/
namespace Go.Proofs.Ytnknjcnbbljagaa
set_option linter.unusedVariables false
set_option linter.unusedSimpArgs false
namespace GG
set_option maxRecDepth 100000
open Go.RowKit

section
variable {z gy ge : Nat} {hv : Value} {T : TB} {F bt bm : Nat} {hf : Nat → Nat}
theorem get_any (w : World) (H : TbAt w z gy ge (hvF F bt bm) T) (hs : HsAt F hf) (k : Nat) (hkb : Dm k) : Calls Try.prog 26 #[.pointer (some ⟨z, 0, none⟩), .float .f64 k] w fun e w' => e = .returned (.tuple #[.int .i64 (valT 0 T (seek eqK hf T k).1), .bool (seek eqK hf T k).1.isSome]) ∧ ∃ q, w' = w.drewN q := by
  have HN := hide (none_no w H)
  have HHs := hide (hs.call w k hkb)
  have HSk := hide (seek_any w H hf k (hs.lt _ hkb))
  have hen := hs.ent
  have c0 : w.cell? ⟨z, 0, none⟩ = some (.func (.func F) #[] #[]) := by rw [H.blk.cell]; rfl
  have hz := H.blk.lt
  cases hsk : seek eqK hf T k with
  | mk r n =>
    rw [hsk] at HSk
    cases r with
    | none =>
      clear H hs hsk
      go_enter Try.func26, Try.ntmps26
      go_wp2_with (first | (go_at_call 66; refine HN.out.mono ?_; rintro e w' ⟨rfl, hw⟩; rw [hw]; clear hw) | (go_at_call 67; refine HSk.out.mono ?_; rintro e w' ⟨rfl, q, hw⟩; rw [hw]; clear hw; unfold seekV) | ((with_reducible refine HHs.out.mono ?_); rintro e w2 ⟨rfl, hw⟩; rw [hw]; clear hw))
      go_ret2
      exact ⟨rfl, _, rfl⟩
    | some bp =>
      obtain ⟨b, p⟩ := bp
      rcases seek_some hsk with ⟨rfl, hp, ⟨k', v', hs', _⟩, _⟩ | ⟨rfl, hp, ⟨k', v', hs', _⟩, _⟩
      · have c1 : w.cell? ⟨z, 1, none⟩ = some (.slice (some ⟨gy, 0, none⟩) T.y.length T.y.length) := by rw [H.blk.cell]; rfl
        have d2 := H.ry.c2 p hp
        rw [hs'] at d2
        have e2 : vS (Slt.ful k' v') = .int .i64 v' := rfl
        rw [e2] at d2
        have hv' : valT 0 T (some (false, p)) = v' := by simp [valT, hs', valS]
        rw [hv']
        have b := H.b43.1
        have hg := H.ry.lt
        generalize T.y.length = n at *
        have hpi : (p : Int) < (n : Int) := by omega
        clear H hs hsk hs' hv' e2
        go_enter Try.func26, Try.ntmps26
        go_wp2_with (first | (go_at_call 66; refine HN.out.mono ?_; rintro e w' ⟨rfl, hw⟩; rw [hw]; clear hw) | (go_at_call 67; refine HSk.out.mono ?_; rintro e w' ⟨rfl, q, hw⟩; rw [hw]; clear hw; unfold seekV) | ((with_reducible refine HHs.out.mono ?_); rintro e w2 ⟨rfl, hw⟩; rw [hw]; clear hw))
        go_ret2
        exact ⟨rfl, _, rfl⟩
      · have h0 : T.e.length ≠ 0 := by omega
        have c1 := H.cellE h0 rfl
        have d2 := (H.re h0).c2 p hp
        rw [hs'] at d2
        have e2 : vS (Slt.ful k' v') = .int .i64 v' := rfl
        rw [e2] at d2
        have hv' : valT 0 T (some (true, p)) = v' := by simp [valT, hs', valS]
        rw [hv']
        have b := H.b43.2
        have hg := (H.re h0).lt
        generalize T.e.length = n at *
        have hpi : (p : Int) < (n : Int) := by omega
        clear H hs hsk hs' hv' e2 h0
        go_enter Try.func26, Try.ntmps26
        go_wp2_with (first | (go_at_call 66; refine HN.out.mono ?_; rintro e w' ⟨rfl, hw⟩; rw [hw]; clear hw) | (go_at_call 67; refine HSk.out.mono ?_; rintro e w' ⟨rfl, q, hw⟩; rw [hw]; clear hw; unfold seekV) | ((with_reducible refine HHs.out.mono ?_); rintro e w2 ⟨rfl, hw⟩; rw [hw]; clear hw))
        go_ret2
        exact ⟨rfl, _, rfl⟩
end
end GG
end Go.Proofs.Ytnknjcnbbljagaa

/- Put, Del. -/
namespace Go.Proofs.Ytnknjcnbbljagaa
set_option linter.unusedVariables false
set_option linter.unusedSimpArgs false
namespace GG
set_option maxRecDepth 100000
open Go.RowKit

section
variable {K V : Type}
theorem tok_zero {T : Tb K V} (h : TOk T) (hl : T.left = 0) : T.e.length = 0 ∧ T.m = 0 := by
  unfold Tb.left at hl
  rcases h.mv with h1 | h1
  · exact h1
  · omega
theorem tok_step {T : Tb K V} (h : TOk T) (hs : K → Nat) : TOk (stepT hs T) := by
  unfold stepT
  split
  · exact h
  · next hl =>
    have h8 := TOk.eightG h hl
    obtain ⟨l1, l2, l3⟩ := mvN_lenG (hs := hs) 8 T
    unfold endT
    split
    · exact ⟨.inl ⟨rfl, rfl⟩, ⟨0, rfl⟩, ⟨0, rfl⟩⟩
    · next h0 =>
      unfold Tb.left at h0
      exact ⟨.inr (by omega), by rw [l3]; exact Nat.dvd_add h.m8 ⟨1, rfl⟩, by rw [l1]; exact h.e8⟩
end
section
variable {z gy ge : Nat} {hv : Value} {T : TB} {F bt bm : Nat} {hf : Nat → Nat}
theorem step_any (w : World) (H : TbAt w z gy ge (hvF F bt bm) T) (hs : HsAt F hf) (ho : TOk T) : Calls Try.prog 68 #[.pointer (some ⟨z, 0, none⟩)] w fun e w' => e = .returned (.tuple #[]) ∧ TbS w w' z gy ge (hvF F bt bm) (stepT hf T) := by
  unfold stepT
  by_cases hl : T.left = 0
  · rw [if_pos hl]
    exact (step_none w H hl).mono (by
      rintro e w' ⟨rfl, q, rfl⟩
      exact ⟨rfl, TbK.s ⟨H.drewN q, (Frm.refl w _).drewN q⟩⟩)
  · rw [if_neg hl]
    exact step_some w ⟨H, Frm.refl _ _, hs⟩ (TOk.eightG ho hl)
theorem grow_any (w : World) (H : TbAt w z gy ge (hvF F bt bm) T) (ho : TOk T) (hG : GrowOk T) : Calls Try.prog 72 #[.pointer (some ⟨z, 0, none⟩)] w fun e w' => e = .returned (.tuple #[]) ∧ TbS w w' z gy ge (hvF F bt bm) (growT T) := by
  unfold growT
  by_cases h : T.left ≠ 0 ∨ 4 * (cnt T.y 1 + cnt T.y 2) ≤ 3 * T.y.length
  · rw [if_pos h]
    exact (grow_no w H h).mono (by
      rintro e w' ⟨rfl, q, rfl⟩
      exact ⟨rfl, TbK.s ⟨H.drewN q, (Frm.refl w _).drewN q⟩⟩)
  · rw [if_neg h]
    have hl : T.left = 0 := by omega
    have := grow_yes w H hl (tok_zero ho hl).2 (tok_zero ho hl).1 (by omega) (hG hl (by omega))
    rw [(tok_zero ho hl).2]
    exact this
/-- What Put and Del tell. -/
def ansV (T : TB) (r : Option (Bool × Nat)) : Value := .tuple #[.int .i64 (valT 0 T r), .bool r.isSome]
/-- Del, behind its step. -/
def DelC (w : World) (z gy ge F bt bm : Nat) (hf : Nat → Nat) (T : TB) (k : Nat) (e : Ending) (w' : World) : Prop := e = .returned (ansV (stepT hf T) (seek eqK hf (stepT hf T) k).1) ∧ TbS w w' z gy ge (hvF F bt bm) (delT eqK hf T k)
theorem del_any (w : World) (H : TbAt w z gy ge (hvF F bt bm) T) (hs : HsAt F hf) (ho : TOk T) (k : Nat) (hkb : Dm k) : Calls Try.prog 27 #[.pointer (some ⟨z, 0, none⟩), .float .f64 k] w (DelC w z gy ge F bt bm hf T k) := by
  have HN := hide (none_no w H)
  have HStep := hide (step_any w H hs ho)
  have HH := hide H
  have HHS := hide hs
  clear H hs ho
  go_enter Try.func27, Try.ntmps27
  go_upto_region 5 with (first | (go_at_call 66; refine HN.out.mono ?_; rintro e w' ⟨rfl, hw⟩; rw [hw]; clear hw) | (go_at_call 68; refine HStep.out.mono ?_; rintro e w1 ⟨rfl, hst⟩; have HST := hide hst; clear hst))
  obtain ⟨⟨gy1, ge1, ht, hnw⟩, hfr⟩ := HST.out
  have hs1 := HHS.out
  obtain ⟨T1, hT1⟩ : ∃ X, X = stepT hf T := ⟨_, rfl⟩
  have HC : Hid (∀ e w', e = Ending.returned (ansV T1 (seek eqK hf T1 k).1) → TbS w1 w' z gy1 ge1 (hvF F bt bm) (delG eqK hf T1 k) → DelC w z gy ge F bt bm hf T k e w') := hide (by
    intro e w' h1 h2
    rw [hT1] at h1 h2
    exact ⟨h1, TbS.trans hfr hnw h2⟩)
  rw [← hT1] at ht
  clear hT1 HST HStep HN hfr hnw HH HHS
  have HHs := hide (hs1.call w1 k hkb)
  have HSk := hide (seek_any w1 ht hf k (hs1.lt _ hkb))
  have hen := hs1.ent
  have c0 : w1.cell? ⟨z, 0, none⟩ = some (.func (.func F) #[] #[]) := by rw [ht.blk.cell]; rfl
  have hz := ht.blk.lt
  have HT := hide ht
  unfold delG at HC
  cases hsk : seek eqK hf T1 k with
  | mk r n =>
    rw [hsk] at HSk HC
    cases r with
    | none =>
      clear hs1 ht hsk
      go_wp2_with (first | (go_at_call 67; refine HSk.out.mono ?_; rintro e w' ⟨rfl, q, hw⟩; rw [hw]; clear hw; unfold seekV) | ((with_reducible refine HHs.out.mono ?_); rintro e w2 ⟨rfl, hw⟩; rw [hw]; clear hw))
      go_ret2
      exact HC.out _ _ rfl (TbK.s ⟨HT.out.drewN _, (Frm.refl _ _).drewN _⟩)
    | some bp =>
      obtain ⟨b, p⟩ := bp
      rcases seek_some hsk with ⟨rfl, hp, ⟨k', v', hs', _⟩, _⟩ | ⟨rfl, hp, ⟨k', v', hs', _⟩, _⟩
      · have HB := hide (fun q => buryY_any (w1.drewN q) (ht.drewN q) p hp k' v' hs')
        have HV : Hid (valT 0 T1 (some (false, p)) = v') := hide (by simp [valT, hs', valS])
        clear hs1 ht hsk hs' hp
        go_upto_region 6 with (first | (go_at_call 67; refine HSk.out.mono ?_; rintro e w' ⟨rfl, q, hw⟩; rw [hw]; clear hw; unfold seekV) | ((with_reducible refine HHs.out.mono ?_); rintro e w2 ⟨rfl, hw⟩; rw [hw]; clear hw))
        have HBq := hide (HB.out q)
        clear HB HSk HHs hen
        go_wp2_with (go_at_call 69; refine HBq.out.mono ?_; rintro e w2 ⟨rfl, hk2⟩; have HK2 := hide hk2; clear hk2)
        go_ret2
        exact HC.out _ _ (by unfold ansV; rw [HV.out]; rfl) (TbK.s ⟨HK2.out.tb, ((Frm.refl w1 _).drewN q).trans HK2.out.fr (fun _ _ h => h)⟩)
      · have HB := hide (fun q => buryE_any (w1.drewN q) (ht.drewN q) p hp k' v' hs')
        have HV : Hid (valT 0 T1 (some (true, p)) = v') := hide (by simp [valT, hs', valS])
        clear hs1 ht hsk hs' hp
        go_upto_region 6 with (first | (go_at_call 67; refine HSk.out.mono ?_; rintro e w' ⟨rfl, q, hw⟩; rw [hw]; clear hw; unfold seekV) | ((with_reducible refine HHs.out.mono ?_); rintro e w2 ⟨rfl, hw⟩; rw [hw]; clear hw))
        have HBq := hide (HB.out q)
        clear HB HSk HHs hen
        go_wp2_with (go_at_call 69; refine HBq.out.mono ?_; rintro e w2 ⟨rfl, hk2⟩; have HK2 := hide hk2; clear hk2)
        go_ret2
        exact HC.out _ _ (by unfold ansV; rw [HV.out]; rfl) (TbK.s ⟨HK2.out.tb, ((Frm.refl w1 _).drewN q).trans HK2.out.fr (fun _ _ h => h)⟩)
end
end GG
end Go.Proofs.Ytnknjcnbbljagaa

/- Put. -/
namespace Go.Proofs.Ytnknjcnbbljagaa
set_option linter.unusedVariables false
set_option linter.unusedSimpArgs false
namespace GG
set_option maxRecDepth 100000
open Go.RowKit

theorem RowAt.setV {w : World} {g : Nat} {L : List SL} (h : RowAt w g L) (p : Nat) (hp : p < L.length) {k' : Nat} {v' : Int} (hs : sat L p = .ful k' v') (v : Int) : RowAt (w.setCell ⟨g, p * 3 + 2, none⟩ (.int .i64 v)) g (L.set p (.ful k' v)) := by
  obtain ⟨cur, hb, hc⟩ := h.row
  have h3 := hb.set (p * 3 + 2) (.int .i64 v)
  have old : ∀ o, w.cell? ⟨g, o, none⟩ = cur[o]? := fun o => hb.cell o
  refine ⟨⟨_, h3, by simpa using hc⟩, fun q hq => ?_, fun q hq => ?_, fun q hq => ?_, fun q a b hq e => by
    rw [List.length_set] at hq
    rw [sat_set hp] at e
    split at e
    · cases e; exact h.kb p _ _ hp hs
    · exact h.kb q a b hq e⟩
  · rw [List.length_set] at hq
    rw [h3.cell, sat_set hp, Array.getElem?_setIfInBounds_ne (by omega), ← old, h.c0 q hq]
    by_cases e : q = p
    · subst e; rw [if_pos rfl, hs]; rfl
    · rw [if_neg e]
  · rw [List.length_set] at hq
    rw [h3.cell, sat_set hp, Array.getElem?_setIfInBounds_ne (by omega), ← old, h.c1 q hq]
    by_cases e : q = p
    · subst e; rw [if_pos rfl, hs]; rfl
    · rw [if_neg e]
  · rw [List.length_set] at hq
    rw [h3.cell, sat_set hp]
    by_cases e : q = p
    · subst e; rw [if_pos rfl, Array.getElem?_setIfInBounds_self_of_lt (by omega)]; rfl
    · rw [if_neg e, Array.getElem?_setIfInBounds_ne (by omega), ← old, h.c2 q hq]
section
variable {z gy ge : Nat} {hv : Value} {T : TB} {F bt bm : Nat} {hf : Nat → Nat}
theorem TbK.setV {w : World} (h : TbAt w z gy ge hv T) (p : Nat) (hp : p < T.y.length) {k' : Nat} {v' : Int} (hs : sat T.y p = .ful k' v') (v : Int) : TbK w (w.setCell ⟨gy, p * 3 + 2, none⟩ (.int .i64 v)) z gy ge hv ⟨T.y.set p (.ful k' v), T.e, T.m⟩ := by
  have hzy := h.zy
  have k1 : cnt (T.y.set p (.ful k' v)) 1 = cnt T.y 1 := by simpa [hs, Slt.st] using cnt_set T.y p hp (.ful k' v) 1
  have k2 : cnt (T.y.set p (.ful k' v)) 2 = cnt T.y 2 := by simpa [hs, Slt.st] using cnt_set T.y p hp (.ful k' v) 2
  refine ⟨h.mkY List.length_set ?_ (h.ry.setV p hp hs v) (fun k h1 h2 => heap_setCell_other _ _ _ _ h2), Frm.set _ _ _ _ _ (.inr (.inl rfl))⟩
  rw [k1, k2]
  exact h.blk.setOther _ _ hzy
def PutC (w : World) (z gy ge F bt bm : Nat) (hf : Nat → Nat) (T : TB) (k : Nat) (v : Int) (e : Ending) (w' : World) : Prop := e = .returned (ansV (stepT hf T) (seek eqK hf (stepT hf T) k).1) ∧ TbS w w' z gy ge (hvF F bt bm) (putT eqK hf T k v)
theorem put_any (w : World) (H : TbAt w z gy ge (hvF F bt bm) T) (hs : HsAt F hf) (ho : TOk T) (k : Nat) (v : Int) (hkb : Dm k) (hG : GrowOk (⟨lay (stepT hf T).y (hf k) k v, (stepT hf T).e, (stepT hf T).m⟩ : TB)) : Calls Try.prog 28 #[.pointer (some ⟨z, 0, none⟩), .float .f64 k, .int .i64 v] w (PutC w z gy ge F bt bm hf T k v) := by
  have HN := hide (none_no w H)
  have HStep := hide (step_any w H hs ho)
  have HH := hide H
  have HHS := hide hs
  have HO := hide (tok_step ho hf)
  have HG := hide hG
  clear H hs ho hG
  go_enter Try.func28, Try.ntmps28
  go_upto_region 5 with (first | (go_at_call 66; refine HN.out.mono ?_; rintro e w' ⟨rfl, hw⟩; rw [hw]; clear hw) | (go_at_call 68; refine HStep.out.mono ?_; rintro e w1 ⟨rfl, hst⟩; have HST := hide hst; clear hst))
  obtain ⟨⟨gy1, ge1, ht, hnw⟩, hfr⟩ := HST.out
  have hs1 := HHS.out
  obtain ⟨T1, hT1⟩ : ∃ X, X = stepT hf T := ⟨_, rfl⟩
  have HC : Hid (∀ e w', e = Ending.returned (ansV T1 (seek eqK hf T1 k).1) → TbS w1 w' z gy1 ge1 (hvF F bt bm) (putG eqK hf T1 k v) → PutC w z gy ge F bt bm hf T k v e w') := hide (by
    intro e w' h1 h2
    rw [hT1] at h1 h2
    exact ⟨h1, TbS.trans hfr hnw h2⟩)
  rw [← hT1] at ht HO HG
  clear hT1 HST HStep HN hfr hnw HH HHS
  have HHs := hide (hs1.call w1 k hkb)
  have HFY := hide (findY_any w1 ht (hf k) k (hs1.lt _ hkb))
  have HFE := hide (fun q => findE_any (w1.drewN q) (ht.drewN q) (hf k) k (hs1.lt _ hkb))
  have hen := hs1.ent
  have c0 : w1.cell? ⟨z, 0, none⟩ = some (.func (.func F) #[] #[]) := by rw [ht.blk.cell]; rfl
  have hz := ht.blk.lt
  have HT := hide ht
  unfold putG at HC
  cases hy : find eqK T1.y (hf k) k with
  | mk oy ny =>
    rw [hy] at HFY
    cases oy with
    | some p =>
      have hsk : seek eqK hf T1 k = (some (false, p), ny) := by unfold seek; rw [hy]
      obtain ⟨hp, k', v', hs', _⟩ := find_some hy
      rw [hsk] at HC
      have c1 : w1.cell? ⟨z, 1, none⟩ = some (.slice (some ⟨gy1, 0, none⟩) T1.y.length T1.y.length) := by rw [ht.blk.cell]; rfl
      have d2 := ht.ry.c2 p hp
      rw [hs'] at d2
      have e2 : vS (Slt.ful k' v') = .int .i64 v' := rfl
      rw [e2] at d2
      obtain ⟨cur, hbk, _⟩ := ht.ry.row
      have g2 := hbk.frozen (p * 3 + 2)
      have HV : Hid (valT 0 T1 (some (false, p)) = v') := hide (by simp [valT, hs', valS])
      have HK := hide (fun q => TbK.setV (ht.drewN q) p hp hs' v)
      have HR : Hid (repS v (sat T1.y p) = .ful k' v) := hide (by rw [hs']; rfl)
      have b := ht.b43.1
      have hg := ht.ry.lt
      generalize T1.y.length = n at *
      have hpi : (p : Int) < (n : Int) := by omega
      clear hs1 ht hsk hs' e2 hbk hy hp
      go_wp2_with (first | (go_at_call 70; refine HFY.out.mono ?_; rintro e w' ⟨rfl, q, hw⟩; rw [hw]; clear hw; unfold fndV) | ((with_reducible refine HHs.out.mono ?_); rintro e w2 ⟨rfl, hw⟩; rw [hw]; clear hw))
      go_ret2
      refine HC.out _ _ (by unfold ansV; rw [HV.out]; rfl) ?_
      show TbS w1 _ z gy1 ge1 _ ⟨T1.y.set p (repS v (sat T1.y p)), T1.e, T1.m⟩
      rw [HR.out]
      exact (TbK.s ⟨(HK.out _).tb, ((Frm.refl w1 _).drewN _).trans (HK.out _).fr (fun _ _ h => h)⟩)
    | none =>
      cases he : find eqK T1.e (hf k) k with
      | mk oe ne =>
        rw [he] at HFE
        cases oe with
        | some p =>
          have hsk : seek eqK hf T1 k = (some (true, p), ny + ne) := by unfold seek; rw [hy]; simp only []; rw [he]
          obtain ⟨hp, k', v', hs', _⟩ := find_some he
          rw [hsk] at HC
          have HB := hide (fun q => buryE_any (w1.drewN q) (ht.drewN q) p hp k' v' hs')
          have HV : Hid (valT 0 T1 (some (true, p)) = v') := hide (by simp [valT, hs', valS])
          have HLy : Hid (∀ w2, TbAt w2 z gy1 ge1 (hvF F bt bm) ⟨T1.y, T1.e.set p .tmb, T1.m⟩ → Calls Try.prog 71 #[.pointer (some ⟨z, 1, none⟩), .int .u64 (hf k : Int), .float .f64 k, .int .i64 v] w2 fun e w' => e = .returned (.tuple #[]) ∧ TbK w2 w' z gy1 ge1 (hvF F bt bm) ⟨lay T1.y (hf k) k v, T1.e.set p .tmb, T1.m⟩) := hide (fun w2 h2 => lay_any w2 h2 (hf k) k v (hs1.lt _ hkb) hkb)
          clear hs1 ht hsk hs' hy he hp
          go_upto_region 7 with (first | (go_at_call 70; refine HFY.out.mono ?_; rintro e w' ⟨rfl, q, hw⟩; rw [hw]; clear hw; unfold fndV) | ((with_reducible refine HHs.out.mono ?_); rintro e w2 ⟨rfl, hw⟩; rw [hw]; clear hw))
          have HFq := hide (HFE.out q)
          clear HFE HFY HHs
          go_upto_region 12 with (go_at_call 70; refine HFq.out.mono ?_; rintro e w' ⟨rfl, q2, hw⟩; rw [hw]; clear hw; unfold fndV)
          have HBq := hide (HB.out (q + q2))
          clear HB HFq
          go_upto_region 14 with (go_at_call 69; refine HBq.out.mono ?_; rintro e w2 ⟨rfl, hk2⟩; have HK2 := hide hk2; clear hk2)
          have HLq := hide (HLy.out w2 HK2.out.tb)
          have hz2 := HK2.out.tb.blk.lt
          clear HLy HBq
          go_wp2_with (go_at_call 71; refine HLq.out.mono ?_; rintro e w3 ⟨rfl, hk3⟩; have HK3 := hide hk3; clear hk3)
          go_ret2
          exact HC.out _ _ (by unfold ansV; rw [HV.out]; rfl) (TbK.s ⟨HK3.out.tb, (((Frm.refl w1 _).drewN _).trans HK2.out.fr (fun _ _ h => h)).trans HK3.out.fr (fun _ _ h => h)⟩)
        | none =>
          have hsk : seek eqK hf T1 k = (none, ny + ne) := by unfold seek; rw [hy]; simp only []; rw [he]
          rw [hsk] at HC
          have HLy := hide (fun q => lay_any (w1.drewN q) (ht.drewN q) (hf k) k v (hs1.lt _ hkb) hkb)
          have HGr : Hid (∀ w2, TbAt w2 z gy1 ge1 (hvF F bt bm) ⟨lay T1.y (hf k) k v, T1.e, T1.m⟩ → Calls Try.prog 72 #[.pointer (some ⟨z, 0, none⟩)] w2 fun e w' => e = .returned (.tuple #[]) ∧ TbS w2 w' z gy1 ge1 (hvF F bt bm) (growT ⟨lay T1.y (hf k) k v, T1.e, T1.m⟩)) := hide (fun w2 h2 => grow_any w2 h2 ⟨HO.out.mv, HO.out.m8, HO.out.e8⟩ HG.out)
          clear hs1 ht hsk hy he
          go_upto_region 7 with (first | (go_at_call 70; refine HFY.out.mono ?_; rintro e w' ⟨rfl, q, hw⟩; rw [hw]; clear hw; unfold fndV) | ((with_reducible refine HHs.out.mono ?_); rintro e w2 ⟨rfl, hw⟩; rw [hw]; clear hw))
          have HFq := hide (HFE.out q)
          clear HFE HFY HHs
          go_upto_region 12 with (go_at_call 70; refine HFq.out.mono ?_; rintro e w' ⟨rfl, q2, hw⟩; rw [hw]; clear hw; unfold fndV)
          have HLq := hide (HLy.out (q + q2))
          clear HLy HFq
          go_upto_region 17 with (go_at_call 71; refine HLq.out.mono ?_; rintro e w2 ⟨rfl, hk2⟩; have HK2 := hide hk2; clear hk2)
          have HGq := hide (HGr.out w2 HK2.out.tb)
          clear HGr HLq
          go_wp2_with (go_at_call 72; refine HGq.out.mono ?_; rintro e w3 ⟨rfl, hk3⟩; have HK3 := hide hk3; clear hk3)
          go_ret2
          exact HC.out _ _ rfl (TbS.trans (((Frm.refl w1 _).drewN _).trans HK2.out.fr (fun _ _ h => h)) (fun _ h => .inl h) HK3.out)
end
end GG
end Go.Proofs.Ytnknjcnbbljagaa

/- All: its walk. -/
namespace Go.Proofs.Ytnknjcnbbljagaa
set_option linter.unusedVariables false
set_option linter.unusedSimpArgs false
namespace GG
set_option maxRecDepth 100000
open Go.RowKit
attribute [local go_sem] Oper.semAt_some

/-- The types of a table's blocks. -/
def tys : List TypeId := [113, 119, 108, 49]
theorem RowAt.keepT {w w' : World} {g : Nat} {L : List SL} (h : RowAt w g L) (hk : KeepT tys w w') : RowAt w' g L := by
  obtain ⟨cur, hb, hc⟩ := h.row
  exact h.same (hk.same g _ _ _ hb (by decide))
theorem blkKeep {w w' : World} {b : Nat} {cs : Array Value} {t : TypeId} (h : Blk w b cs t) (hk : KeepT tys w w') (ht : t ∈ tys) : Blk w' b cs t := (hk.same b _ _ _ h ht).trans h
section
variable {z gy ge : Nat} {hv : Value} {T : TB} {F bt bm : Nat}
theorem TbAt.keepT {w w' : World} (h : TbAt w z gy ge hv T) (hk : KeepT tys w w') : TbAt w' z gy ge hv T :=
  ⟨blkKeep h.blk hk (by decide), h.ry.keepT hk, fun h0 => (h.re h0).keepT hk, h.ne, h.nil, h.ly, h.le, h.mm⟩
def allV (b : Nat) : Value := .func (.func 73) #[] #[.pointer (some ⟨b, 0, none⟩)]
theorem all_any (w : World) (z : Nat) : Calls Try.prog 30 #[.pointer (some ⟨z, 0, none⟩)] w fun e w' => e = .returned (allV w.heap.size) ∧ w' = w.alloc (.cells #[.pointer (some ⟨z, 0, none⟩)] 49) := by
  go_enter Try.func30, Try.ntmps30
  go_wp2
  go_ret
  exact ⟨rfl, rfl⟩
def prV (x : Nat × Int) : Array Value := #[.float .f64 x.1, .int .i64 x.2]
def alS (T : TB) (xs : List (Nat × Int)) : Prop := xs = T.prs
def alFit (T : TB) (pre : List (Nat × Int)) (x : Nat × Int) (_ _ : World) : Prop := (pre ++ [x]) <+: T.prs
/-- What has been told ahead of array i. -/
def tld (T : TB) (i : Nat) : List (Nat × Int) := if i = 0 then [] else if i = 1 then prs T.e else T.prs
theorem all_fit (n : Nat) (w : World) (H : TbAt w z gy ge (hvF F bt bm) T) (b : Nat) (hb : Blk w b #[.pointer (some ⟨z, 0, none⟩)] 49) :
    SeqKp Fence.wide n Try.prog 73 #[.pointer (some ⟨b, 0, none⟩)] prV (KeepT tys) (alS T) (alFit T) w := by
  intro l J Jx W hW hJ hJx hY h0
  refine callsIn_of_wp Try.func73 rfl trivial ?_ rfl
  simp only [Try.ntmps73, List.size_toArray, List.length_cons, List.length_nil, Nat.reduceAdd, Nat.reduceSub, Array.replicate_succ, Array.replicate_zero, List.push_toArray, List.append_toArray, List.nil_append, List.cons_append]
  have HY := hide hY
  have HJ := hide hJ
  have HT := hide (H.below hW)
  have HB := hide (hb.below hW hb.lt)
  have HN := hide (none_no W HT.out)
  have cb : W.cell? ⟨b, 0, none⟩ = some (.pointer (some ⟨z, 0, none⟩)) := by rw [HB.out.cell]; rfl
  have c1 : W.cell? ⟨z, 1, none⟩ = some (.slice (some ⟨gy, 0, none⟩) T.y.length T.y.length) := by rw [HT.out.blk.cell]; rfl
  have c4 : ∃ ao, W.cell? ⟨z, 4, none⟩ = some (.slice ao T.e.length T.e.length) ∧ (T.e.length ≠ 0 → ao = some ⟨ge, 0, none⟩) := by
    by_cases h0 : T.e.length = 0
    · exact ⟨none, by rw [h0]; exact HT.out.cellE0 h0, fun h => absurd h0 h⟩
    · exact ⟨_, HT.out.cellE h0 rfl, fun _ => rfl⟩
  obtain ⟨ao, c4, hao⟩ := c4
  have HAO := hide hao
  have hzW := HT.out.blk.lt
  have hbW := HB.out.lt
  have HJ0 := hide h0
  have b43 := HT.out.b43
  have HB43 := hide b43
  clear hY H hb hJ hJx hW h0 hao b43
  gi_wp2
  refine ⟨trivial, fun h => (by cases h), ?_⟩
  refine (callsIn_wide.2 HN.out).mono ?_
  rintro e w' ⟨rfl, hw⟩
  subst hw
  generalize hne : T.e.length = ne at c4
  generalize hny : T.y.length = ny at c1
  gi_wp2
  refine wpIn_wide.2 ?_
  go_region
  have hb2 : Below w'.heap.size w' (w'.alloc (.cells #[.slice ao ne ne, .slice (some ⟨gy, 0, none⟩) ny ny] 108)).drew := below_dN (below_alloc w' _) 1
  have HS0 : Hid (TbAt (w'.alloc (.cells #[.slice ao ne ne, .slice (some ⟨gy, 0, none⟩) ny ny] 108)).drew z gy ge (hvF F bt bm) T ∧ Blk (w'.alloc (.cells #[.slice ao ne ne, .slice (some ⟨gy, 0, none⟩) ny ny] 108)).drew w'.heap.size #[.slice ao ne ne, .slice (some ⟨gy, 0, none⟩) ny ny] 108 ∧ J [] (w'.alloc (.cells #[.slice ao ne ne, .slice (some ⟨gy, 0, none⟩) ny ny] 108)).drew) := hide ⟨HT.out.below hb2, Blk.made w' _ _, HJ.out _ _ _ HJ0.out hb2⟩
  clear hb2
  have HNE := hide hne
  have HNY := hide hny
  gi_wp2
  refine name_worldIn (fun W => TbAt W z gy ge (hvF F bt bm) T ∧ Blk W w'.heap.size #[.slice ao ne ne, .slice (some ⟨gy, 0, none⟩) ny ny] 108 ∧ J [] W) HS0.out ?_
  rintro W1 ⟨hT1, hB1, hJ1⟩
  have HT1 := hide hT1
  have HB1 := hide hB1
  have HJ1 := hide hJ1
  generalize w'.heap.size = sb at *
  clear HS0 hT1 hB1 hJ1 HT HB HJ0 HN hne hny c1 c4 cb hzW hbW
  gi_loopw [21] (fun t wr => ∃ (i : Nat) (pre : List (Nat × Int)), t = .int .i64 i ∧ i ≤ 2 ∧ Hid (pre = tld T i) ∧ J pre wr ∧ KeepT tys W1 wr) (fun t _ => 2 - (intOf t).toNat)
  case atStart => exact ⟨0, [], rfl, by omega, hide rfl, HJ1.out, KeepT.refl _ _⟩
  case round =>
    obtain ⟨i, pre, rfl, hi, hpre, hJp, hKp⟩ := hrel
    by_cases hlt : i < 2
    · have hii : (i : Int) < 2 := by omega
      have HL : ∃ (L : List SL) (g : Nat) (av : Option Addr), wr.cell? ⟨sb, i, none⟩ = some (.slice av L.length L.length) ∧ (L.length ≠ 0 → av = some ⟨g, 0, none⟩ ∧ RowAt W1 g L) ∧ tld T (i + 1) = tld T i ++ prs L ∧ L.length ≤ 8796093022208 := by
        have hB := blkKeep HB1.out hKp (by decide)
        have h01 : i = 0 ∨ i = 1 := by omega
        rcases h01 with rfl | rfl
        · exact ⟨T.e, ge, ao, by rw [hB.cell, HNE.out]; rfl, fun h => ⟨HAO.out h, HT1.out.re h⟩, rfl, HB43.out.2⟩
        · exact ⟨T.y, gy, _, by rw [hB.cell, HNY.out]; rfl, fun _ => ⟨rfl, HT1.out.ry⟩, rfl, HB43.out.1⟩
      obtain ⟨L, g, av, hc, hrow, htl, hL43⟩ := HL
      obtain ⟨m, hm⟩ : ∃ m, m = L.length := ⟨_, rfl⟩
      rw [← hm] at hc hrow hL43
      have hsl := World.block_lt_of_cell? wr _ hc
      have HM := hide hm
      have HRW := hide hrow
      have HTL := hide htl
      have HPF : Hid (tld T (i + 1) <+: T.prs) := hide (by
        have h01 : i = 0 ∨ i = 1 := by omega
        rcases h01 with rfl | rfl
        · exact ⟨prs T.y, rfl⟩
        · exact ⟨[], List.append_nil _⟩)
      have HJp := hide hJp
      have HKp := hide hKp
      clear hm hrow htl hJp hKp
      gi_wp2
      gi_loopw [27] (fun t wr => ∃ (j : Nat) (pre : List (Nat × Int)), t = .int .i64 j ∧ j ≤ m ∧ Hid (pre = tld T i ++ prs (L.take j)) ∧ J pre wr ∧ KeepT tys W1 wr) (fun t _ => m - (intOf t).toNat)
      case atStart => exact ⟨0, pre, rfl, Nat.zero_le _, hide (by rw [hpre.out]; simp [prs]), HJp.out, HKp.out⟩
      case round =>
        clear HJp HKp hsl hc
        obtain ⟨j, pre2, rfl, hj, hpr, hJq, hKq⟩ := hrel
        by_cases hjl : j < m
        · have hji : (j : Int) < (m : Int) := by omega
          obtain ⟨rfl, hr⟩ := HRW.out (by omega)
          have hr2 := hr.keepT hKq
          have hjL : j < L.length := by rw [← HM.out]; exact hjl
          have d0 := hr2.c0 j hjL
          have d1 := hr2.c1 j hjL
          have d2 := hr2.c2 j hjL
          have hgl := hr2.lt
          have HPT := hide (prs_take L j hjL)
          obtain ⟨sl, hsl⟩ : ∃ s, s = sat L j := ⟨_, rfl⟩
          rw [← hsl] at d0 d1 d2 HPT
          obtain ⟨kx, hkx⟩ := kS_form sl
          obtain ⟨vx, hvx⟩ := vS_form sl
          rw [hkx] at d1
          rw [hvx] at d2
          have HKX := hide hkx
          have HVX := hide hvx
          have HSN := hide (rfl : sl.st = sl.st)
          have hs2 := sl.st_le
          have HKq := hide hKq
          have HJq := hide hJq
          cases sl with
          | emp =>
            have e0 : (((Slt.emp : SL).st : Nat) : Int) = 0 := rfl
            rw [e0] at d0
            clear hr hr2 hsl hkx hvx hKq hJq e0 hs2
            gi_wp2
            refine ⟨fun f h => (by cases h), ?_⟩
            apply_assumption
            gi_wp2
            go_roundw
            case rel => exact ⟨j + 1, pre2, by go_num, by omega, hide (by rw [hpr.out, HPT.out]; simp [prS]), HJ.out _ _ _ HJq.out (below_alloc wr _), HKq.out.trans (KeepT.below (below_alloc wr _))⟩
            case measure => simp [intOf]; omega
          | tmb =>
            have e0 : (((Slt.tmb : SL).st : Nat) : Int) = 2 := rfl
            rw [e0] at d0
            clear hr hr2 hsl hkx hvx hKq hJq e0 hs2
            gi_wp2
            refine ⟨fun f h => (by cases h), ?_⟩
            apply_assumption
            gi_wp2
            go_roundw
            case rel => exact ⟨j + 1, pre2, by go_num, by omega, hide (by rw [hpr.out, HPT.out]; simp [prS]), HJ.out _ _ _ HJq.out (below_alloc wr _), HKq.out.trans (KeepT.below (below_alloc wr _))⟩
            case measure => simp [intOf]; omega
          | ful k v =>
            have e0 : (((Slt.ful k v : SL).st : Nat) : Int) = 1 := rfl
            rw [e0] at d0
            obtain ⟨rfl, rfl⟩ : kx = k ∧ vx = v := ⟨by have := hkx; simp [kS] at this; exact this.symm, by have := hvx; simp [vS] at this; exact this.symm⟩
            have HPT2 : Hid (pre2 ++ [(kx, vx)] = tld T i ++ prs (L.take (j + 1))) := hide (by rw [hpr.out, HPT.out]; simp [prS])
            have hFit : alFit T pre2 (kx, vx) wr (wr.alloc (.cells #[.int .u8 1, .float .f64 kx, .int .i64 vx] 119)) := by
              unfold alFit
              rw [HPT2.out]
              refine List.IsPrefix.trans ?_ HPF.out
              rw [HTL.out]
              refine (List.prefix_append_right_inj _).2 ?_
              refine ⟨prs (L.drop (j + 1)), ?_⟩
              rw [← prs_append, List.take_append_drop]
            obtain ⟨fn, tmps, assign, bod, hy, hR⟩ := HY.out pre2 (kx, vx) wr _ hJq (below_alloc wr _) hFit
            unfold prV at hy
            dsimp only at hy
            have HR := hide hR
            clear hr hr2 hsl hkx hvx hKq hJq e0 hs2 hFit hR
            gi_wp2
            refine ⟨fun h => (by cases h), ?_⟩
            refine HR.out.mono ?_
            rintro e W3 (⟨rfl, hJ3, hk3⟩ | ⟨rfl, hJx3⟩)
            · have HJ3 := hide hJ3
              have HK3 := hide ((HKq.out.trans (KeepT.below (below_alloc wr _))).trans hk3)
              clear hJ3 hk3 HR hy
              gi_wp2
              go_roundw
              case rel => exact ⟨j + 1, pre2 ++ [(kx, vx)], by go_num, by omega, HPT2, HJ3.out, HK3.out⟩
              case measure => simp [intOf]; omega
            · have HX3 := hide hJx3
              clear hJx3 HR hy
              gi_wp2
              refine bodyPost_ret (results_none rfl _ _ _) rfl ?_
              exact ⟨⟨_, rfl⟩, .inr ⟨_, HX3.out⟩⟩
        · have hji : ¬ (j : Int) < (m : Int) := by omega
          have HE : Hid (pre2 = tld T (i + 1)) := hide (by rw [hpr.out, HTL.out, List.take_of_length_le (by rw [← HM.out]; omega)])
          have HJq := hide hJq
          have HKq := hide hKq
          clear hJq hKq
          gi_wp2
          go_roundw
          case rel => exact ⟨i + 1, pre2, by go_num, by omega, HE, HJq.out, HKq.out⟩
          case measure => simp [intOf]; omega
    · have hii : ¬ (i : Int) < 2 := by omega
      have HE : Hid (alS T pre) := hide (by rw [alS, hpre.out]; unfold tld; rw [if_neg (by omega), if_neg (by omega)])
      have HJp := hide hJp
      clear hJp hKp
      gi_wp2
      refine bodyPost_end (results_none rfl _ _ _) rfl ?_
      exact ⟨⟨_, rfl⟩, .inl ⟨pre, HE.out, HJp.out⟩⟩
end
end GG
end Go.Proofs.Ytnknjcnbbljagaa
