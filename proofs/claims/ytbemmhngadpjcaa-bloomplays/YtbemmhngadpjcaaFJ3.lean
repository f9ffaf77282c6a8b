/- Meet and Join, walked. -/
import Derived.Test.YtbemmhngadpjcaaFJ2
namespace Go.Proofs.Ytbemmhngadpjcaa
set_option linter.unusedVariables false
set_option linter.unusedSimpArgs false
open Go.RowKit

def WithC (w : World) (z g h : Nat) (us : List Nat) (e : Ending) (w' : World) : Prop := e = .returned (.int .i64 0) ∧ FilAt w' z g h us ∧ w.grownBy w' (some g)
def NoWC (w : World) (r : Int) (e : Ending) (w' : World) : Prop := e = .returned (.int .i64 r) ∧ Below w.heap.size w w'
set_option maxRecDepth 20000 in
set_option maxHeartbeats 8000000 in
theorem meet_no (w : World) (z g h z2 g2 h2 : Nat) (us vs : List Nat) (f : FilAt w z g h us) (f2 : FilAt w z2 g2 h2 vs) (hno : ¬ (h = h2 ∧ us.length = vs.length)) : Calls Try.prog 24 #[.pointer (some ⟨z, 0, none⟩), .pointer (some ⟨z2, 0, none⟩)] w (NoWC w 70) := by
  have CP := hide (pair_any w z g h z2 g2 h2 us vs f f2)
  have hp : pairE h h2 us.length vs.length = 70 := by unfold pairE; rw [if_neg hno]
  rw [hp] at CP
  clear hp f f2 hno
  go_enter Try.func24, Try.ntmps24
  go_wp2_with fail
  refine CP.out.mono ?_
  rintro e w1 ⟨rfl, nd, rfl⟩
  go_wp2
  go_ret
  exact ⟨rfl, below_drewN' (Below.refl _ _) nd⟩
set_option maxRecDepth 20000 in
set_option maxHeartbeats 8000000 in
theorem meet_any (w : World) (z g h z2 g2 : Nat) (us vs : List Nat) (f : FilAt w z g h us) (f2 : FilAt w z2 g2 h vs) (hl : us.length = vs.length) (hg : g ≠ g2) : Calls Try.prog 24 #[.pointer (some ⟨z, 0, none⟩), .pointer (some ⟨z2, 0, none⟩)] w (WithC w z g h (List.zipWith (fun x y => x &&& y) us vs)) := by
  have CP := hide (pair_any w z g h z2 g2 h us vs f f2)
  have hp : pairE h h us.length vs.length = 0 := by unfold pairE; rw [if_pos ⟨rfl, hl⟩]
  rw [hp] at CP
  obtain ⟨L, hL⟩ : ∃ L, L = us.length := ⟨_, rfl⟩
  have HLe := hide hL
  have HLv : Hid (vs.length = L) := hide (by omega)
  have hL2 : L ≤ 16384 := by rw [hL]; exact f.hn.2
  have HF := hide f
  have HF2 := hide f2
  have HL := hide hl
  have c1 : ∀ n, (w.drewN n).cell? ⟨z, 1, none⟩ = some (.slice (some ⟨g, 0, none⟩) L L) := fun n => by rw [hL]; exact f.zb.cell 1
  have hz2g : z2 ≠ g := fun e => by
    have h1 := f2.zb
    have h2 := f.gb
    unfold Blk at h1 h2
    rw [e, h2] at h1
    have := Obj.cells.inj (Option.some.inj h1)
    exact absurd this.2.1 (by decide)
  clear f f2 hp hL hl
  go_enter Try.func24, Try.ntmps24
  go_wp2_with fail
  refine CP.out.mono ?_
  rintro e w1 ⟨rfl, nd, rfl⟩
  have c1' := c1 nd
  have HGd : Hid (w.grownBy (w.drewN nd) (some g)) := hide (grownBy_drewN w nd _)
  have HFd := hide (HF.out.drewN nd)
  have HF2d := hide (HF2.out.drewN nd)
  clear c1 CP
  go_wp2
  go_loopw [18] (fun s18 wr => ∃ k : Nat, s18 = .int .i64 k ∧ k ≤ L ∧ FilAt wr z g h (zipK (fun x y => x &&& y) us vs k) ∧ FilAt wr z2 g2 h vs ∧ w.grownBy wr (some g)) (fun s18 _ => L - (intOf s18).toNat)
  case atStart => exact ⟨0, rfl, by omega, by rw [zipK_zero]; exact HFd.out, HF2d.out, HGd.out⟩
  case round =>
    obtain ⟨k, rfl, hk, hf, hf2, hgr⟩ := hrel
    have Hf := hide hf
    have Hf2 := hide hf2
    have Hgr := hide hgr
    clear hf hf2 hgr HFd HF2d HGd
    by_cases hlt : k < L
    · have hki : (k : Int) < L := by omega
      have hku : k < us.length := by have := HLe.out; omega
      have hkv : k < vs.length := by have := HLv.out; omega
      have cz : wr.cell? ⟨z, 1, none⟩ = some (.slice (some ⟨g, 0, none⟩) L L) := by
        have := Hf.out.zb.cell 1
        rw [zipK_len _ us vs HL.out k (by omega), ← HLe.out] at this
        exact this
      have cz2 : wr.cell? ⟨z2, 1, none⟩ = some (.slice (some ⟨g2, 0, none⟩) L L) := by rw [← HLv.out]; exact Hf2.out.zb.cell 1
      obtain ⟨x, hx⟩ : ∃ x, x = us[k] := ⟨_, rfl⟩
      obtain ⟨y, hy⟩ : ∃ y, y = vs[k] := ⟨_, rfl⟩
      have hxb : x < 18446744073709551616 := by rw [hx]; exact HF.out.ok _ (List.getElem_mem hku)
      have hyb : y < 18446744073709551616 := by rw [hy]; exact HF2.out.ok _ (List.getElem_mem hkv)
      have cx : wr.cell? ⟨g, k, none⟩ = some (.int .u64 x) := by
        rw [Hf.out.gb.cell]
        have := zipK_at (fun x y => x &&& y) us vs HL.out k hku
        simp [this, u64c, hx]
      have cy : wr.cell? ⟨g2, k, none⟩ = some (.int .u64 y) := by rw [hy]; exact Hf2.out.cellW k hkv
      have fx : wr.frozen? ⟨g, k, none⟩ = false := Hf.out.gb.frozen k
      have hbit : bits .and .u64 (x : Int) (y : Int) = ((x &&& y : Nat) : Int) := u64_and_nat x y hxb hyb
      have hob : x &&& y < 18446744073709551616 := Nat.lt_of_le_of_lt Nat.and_le_left hxb
      obtain ⟨o, ho⟩ : ∃ o, o = x &&& y := ⟨_, rfl⟩
      have HSt : Hid ((zipK (fun x y => x &&& y) us vs k).set k o = zipK (fun x y => x &&& y) us vs (k + 1)) := hide (by
        have := zipK_set (fun x y => x &&& y) us vs HL.out k hku
        rw [← hx, ← hy] at this
        rw [ho]
        exact this)
      rw [← ho] at hbit hob
      have HF7 := hide (Hf.out.setG k o hob)
      rw [HSt.out] at HF7
      have HF27 := hide (Hf2.out.grown (grownBy_set wr g k (.int .u64 (o : Int))) (fun e => hz2g (Option.some.inj e)) (fun e => hg (Option.some.inj e).symm))
      have HG7 := hide (grownBy_trans Hgr.out (grownBy_set wr g k (.int .u64 (o : Int))))
      clear hx hy ho
      go_wp2
      refine wp_region_still_tail 16 (by kernel_rfl) (by kernel_rfl) ?_
      simp only [List.take_succ_cons, List.take_zero, List.drop_succ_cons, List.drop_zero]
      repeat still_step
      refine wpStill_nil ?_
      go_wp2
      exact ⟨⟨k + 1, by go_num, by omega, ⟨HF7.out.zb, HF7.out.gb, HF7.out.hh, HF7.out.hn, HF7.out.ok⟩, ⟨HF27.out.zb, HF27.out.gb, HF27.out.hh, HF27.out.hn, HF27.out.ok⟩, ⟨HG7.out.os, HG7.out.tape, HG7.out.output, HG7.out.size, HG7.out.block⟩⟩, by simp [intOf]; omega⟩
    · have hki : ¬ (k : Int) < L := by omega
      have hkL : k = L := by omega
      have HFe := hide Hf.out
      rw [hkL, HLe.out, zipK_all _ us vs HL.out] at HFe
      clear hkL
      go_wp2
      go_ret
      exact ⟨rfl, HFe.out, Hgr.out⟩
set_option maxRecDepth 20000 in
set_option maxHeartbeats 8000000 in
theorem join_no (w : World) (z g h z2 g2 h2 : Nat) (us vs : List Nat) (f : FilAt w z g h us) (f2 : FilAt w z2 g2 h2 vs) (hno : ¬ (h = h2 ∧ us.length = vs.length)) : Calls Try.prog 25 #[.pointer (some ⟨z, 0, none⟩), .pointer (some ⟨z2, 0, none⟩)] w (NoWC w 70) := by
  have CP := hide (pair_any w z g h z2 g2 h2 us vs f f2)
  have hp : pairE h h2 us.length vs.length = 70 := by unfold pairE; rw [if_neg hno]
  rw [hp] at CP
  clear hp f f2 hno
  go_enter Try.func25, Try.ntmps25
  go_wp2_with fail
  refine CP.out.mono ?_
  rintro e w1 ⟨rfl, nd, rfl⟩
  go_wp2
  go_ret
  exact ⟨rfl, below_drewN' (Below.refl _ _) nd⟩
set_option maxRecDepth 20000 in
set_option maxHeartbeats 8000000 in
theorem join_any (w : World) (z g h z2 g2 : Nat) (us vs : List Nat) (f : FilAt w z g h us) (f2 : FilAt w z2 g2 h vs) (hl : us.length = vs.length) (hg : g ≠ g2) : Calls Try.prog 25 #[.pointer (some ⟨z, 0, none⟩), .pointer (some ⟨z2, 0, none⟩)] w (WithC w z g h (List.zipWith (fun x y => x ||| y) us vs)) := by
  have CP := hide (pair_any w z g h z2 g2 h us vs f f2)
  have hp : pairE h h us.length vs.length = 0 := by unfold pairE; rw [if_pos ⟨rfl, hl⟩]
  rw [hp] at CP
  obtain ⟨L, hL⟩ : ∃ L, L = us.length := ⟨_, rfl⟩
  have HLe := hide hL
  have HLv : Hid (vs.length = L) := hide (by omega)
  have hL2 : L ≤ 16384 := by rw [hL]; exact f.hn.2
  have HF := hide f
  have HF2 := hide f2
  have HL := hide hl
  have c1 : ∀ n, (w.drewN n).cell? ⟨z, 1, none⟩ = some (.slice (some ⟨g, 0, none⟩) L L) := fun n => by rw [hL]; exact f.zb.cell 1
  have hz2g : z2 ≠ g := fun e => by
    have h1 := f2.zb
    have h2 := f.gb
    unfold Blk at h1 h2
    rw [e, h2] at h1
    have := Obj.cells.inj (Option.some.inj h1)
    exact absurd this.2.1 (by decide)
  clear f f2 hp hL hl
  go_enter Try.func25, Try.ntmps25
  go_wp2_with fail
  refine CP.out.mono ?_
  rintro e w1 ⟨rfl, nd, rfl⟩
  have c1' := c1 nd
  have HGd : Hid (w.grownBy (w.drewN nd) (some g)) := hide (grownBy_drewN w nd _)
  have HFd := hide (HF.out.drewN nd)
  have HF2d := hide (HF2.out.drewN nd)
  clear c1 CP
  go_wp2
  go_loopw [18] (fun s18 wr => ∃ k : Nat, s18 = .int .i64 k ∧ k ≤ L ∧ FilAt wr z g h (zipK (fun x y => x ||| y) us vs k) ∧ FilAt wr z2 g2 h vs ∧ w.grownBy wr (some g)) (fun s18 _ => L - (intOf s18).toNat)
  case atStart => exact ⟨0, rfl, by omega, by rw [zipK_zero]; exact HFd.out, HF2d.out, HGd.out⟩
  case round =>
    obtain ⟨k, rfl, hk, hf, hf2, hgr⟩ := hrel
    have Hf := hide hf
    have Hf2 := hide hf2
    have Hgr := hide hgr
    clear hf hf2 hgr HFd HF2d HGd
    by_cases hlt : k < L
    · have hki : (k : Int) < L := by omega
      have hku : k < us.length := by have := HLe.out; omega
      have hkv : k < vs.length := by have := HLv.out; omega
      have cz : wr.cell? ⟨z, 1, none⟩ = some (.slice (some ⟨g, 0, none⟩) L L) := by
        have := Hf.out.zb.cell 1
        rw [zipK_len _ us vs HL.out k (by omega), ← HLe.out] at this
        exact this
      have cz2 : wr.cell? ⟨z2, 1, none⟩ = some (.slice (some ⟨g2, 0, none⟩) L L) := by rw [← HLv.out]; exact Hf2.out.zb.cell 1
      obtain ⟨x, hx⟩ : ∃ x, x = us[k] := ⟨_, rfl⟩
      obtain ⟨y, hy⟩ : ∃ y, y = vs[k] := ⟨_, rfl⟩
      have hxb : x < 18446744073709551616 := by rw [hx]; exact HF.out.ok _ (List.getElem_mem hku)
      have hyb : y < 18446744073709551616 := by rw [hy]; exact HF2.out.ok _ (List.getElem_mem hkv)
      have cx : wr.cell? ⟨g, k, none⟩ = some (.int .u64 x) := by
        rw [Hf.out.gb.cell]
        have := zipK_at (fun x y => x ||| y) us vs HL.out k hku
        simp [this, u64c, hx]
      have cy : wr.cell? ⟨g2, k, none⟩ = some (.int .u64 y) := by rw [hy]; exact Hf2.out.cellW k hkv
      have fx : wr.frozen? ⟨g, k, none⟩ = false := Hf.out.gb.frozen k
      have hbit : bits .or .u64 (x : Int) (y : Int) = ((x ||| y : Nat) : Int) := u64_or_nat x y hxb hyb
      have hob : x ||| y < 18446744073709551616 := Nat.or_lt_two_pow (n := 64) hxb hyb
      obtain ⟨o, ho⟩ : ∃ o, o = x ||| y := ⟨_, rfl⟩
      have HSt : Hid ((zipK (fun x y => x ||| y) us vs k).set k o = zipK (fun x y => x ||| y) us vs (k + 1)) := hide (by
        have := zipK_set (fun x y => x ||| y) us vs HL.out k hku
        rw [← hx, ← hy] at this
        rw [ho]
        exact this)
      rw [← ho] at hbit hob
      have HF7 := hide (Hf.out.setG k o hob)
      rw [HSt.out] at HF7
      have HF27 := hide (Hf2.out.grown (grownBy_set wr g k (.int .u64 (o : Int))) (fun e => hz2g (Option.some.inj e)) (fun e => hg (Option.some.inj e).symm))
      have HG7 := hide (grownBy_trans Hgr.out (grownBy_set wr g k (.int .u64 (o : Int))))
      clear hx hy ho
      go_wp2
      refine wp_region_still_tail 16 (by kernel_rfl) (by kernel_rfl) ?_
      simp only [List.take_succ_cons, List.take_zero, List.drop_succ_cons, List.drop_zero]
      repeat still_step
      refine wpStill_nil ?_
      go_wp2
      exact ⟨⟨k + 1, by go_num, by omega, ⟨HF7.out.zb, HF7.out.gb, HF7.out.hh, HF7.out.hn, HF7.out.ok⟩, ⟨HF27.out.zb, HF27.out.gb, HF27.out.hh, HF27.out.hn, HF27.out.ok⟩, ⟨HG7.out.os, HG7.out.tape, HG7.out.output, HG7.out.size, HG7.out.block⟩⟩, by simp [intOf]; omega⟩
    · have hki : ¬ (k : Int) < L := by omega
      have hkL : k = L := by omega
      have HFe := hide Hf.out
      rw [hkL, HLe.out, zipK_all _ us vs HL.out] at HFe
      clear hkL
      go_wp2
      go_ret
      exact ⟨rfl, HFe.out, Hgr.out⟩
end Go.Proofs.Ytbemmhngadpjcaa
