/- BloomPlays: a new pair; two pairs joined or met. -/
import Derived.Test.YtbemmhngadpjcaaFQ1
namespace Go.Proofs.Ytbemmhngadpjcaa
set_option linter.unusedVariables false
set_option linter.unusedSimpArgs false
open Go.RowKit

/-- Both are made alike, or both refused. -/
def MadeC (w : World) (e : Ending) (w' : World) : Prop :=
  ∃ n : Option Sl, e = .returned (.tuple #[.agg #[slF n, slR n], .bool true]) ∧ okO w' n ∧ syO n ∧ loO w.heap.size n ∧ Below w.heap.size w w'
theorem eqNilF (w : World) : (binOp .eql 27 (.pointer none) (.pointer none)).run Try.prog w = .ok (.bool true) w := by kernel_rfl
theorem eqSomeF (z : Nat) (w : World) : (binOp .eql 27 (.pointer (some ⟨z, 0, none⟩)) (.pointer none)).run Try.prog w = .ok (.bool false) w := by kernel_rfl
theorem neSomeF (z : Nat) (w : World) : (binOp .neq 27 (.pointer (some ⟨z, 0, none⟩)) (.pointer none)).run Try.prog w = .ok (.bool true) w := by kernel_rfl
theorem eqNilR (w : World) : (binOp .eql 28 (.pointer none) (.pointer none)).run Try.prog w = .ok (.bool true) w := by kernel_rfl
theorem eqSomeR (z : Nat) (w : World) : (binOp .eql 28 (.pointer (some ⟨z, 0, none⟩)) (.pointer none)).run Try.prog w = .ok (.bool false) w := by kernel_rfl
theorem infoPair : (Try.prog.info? 30).map (·.size) = some 2 := by kernel_rfl
theorem results_cell_tmp {fn : Func} {p q : Tmp} {ty : TypeId} (h : fn.results = #[.cell p ty, .tmp q]) (tmps : Array Value) (w : World) (a : Addr) (ha : tmps.getD p undef = .pointer (some a)) (v u : Value) (hu : tmps.getD q undef = u) (hl : (loadVar ty a).run Try.prog w = .ok v w) :
    (results fn tmps).run Try.prog w = .ok (.tuple #[v, u]) w := by
  simp only [results, h]
  have ha' : tmps[p]?.getD undef = .pointer (some a) := by simpa using ha
  have hu' : tmps[q]?.getD undef = u := by simpa using hu
  simp [Sem.run_bind, Result.andThen, ha', hu', asAddr, hl]
theorem set2 {w : World} {b : Nat} {x y u v : Value} {t : TypeId} (hk : Blk w b #[x, y] t) : Blk ((w.setCell ⟨b, 0, none⟩ u).setCell ⟨b, 1, none⟩ v) b #[u, v] t := (hk.set 0 u).set 1 v
theorem below_set2 {w0 w : World} {b : Nat} {u v : Value} (h : Below w0.heap.size w0 w) (hb : w0.heap.size ≤ b) : Below w0.heap.size w0 ((w.setCell ⟨b, 0, none⟩ u).setCell ⟨b, 1, none⟩ v) :=
  (h.setCell (p := ⟨b, 0, none⟩) hb u).setCell (p := ⟨b, 1, none⟩) hb v
set_option maxRecDepth 20000 in
set_option maxHeartbeats 4000000 in
theorem made_any (w : World) (b h : Int) : Calls Try.prog 10 #[.int .i64 b, .int .i64 h] w (MadeC w) := by
  obtain ⟨W1, hW1⟩ : ∃ W1, W1 = w.alloc (.cells #[.pointer none, .pointer none] 30) := ⟨_, rfl⟩
  have hb1 : Below w.heap.size w W1 := by rw [hW1]; exact (Below.refl _ _).alloc (Nat.le_refl _) _
  have hk1 : Blk W1 w.heap.size #[.pointer none, .pointer none] 30 := by rw [hW1]; exact Blk.made w _ _
  have HB1 := hide hb1
  have HK1 := hide hk1
  have n1 := eqNilF
  have n2 := eqSomeF
  have n3 := neSomeF
  have n4 := eqNilR
  have n5 := eqSomeR
  clear hb1 hk1
  go_enter Try.func10, Try.ntmps10
  by_cases hok : NewOk b h
  · obtain ⟨k, rfl⟩ : ∃ k : Nat, b = (k : Int) := ⟨b.toNat, by unfold NewOk at hok; omega⟩
    obtain ⟨m, rfl⟩ : ∃ m : Nat, h = (m : Int) := ⟨h.toNat, by unfold NewOk at hok; omega⟩
    obtain ⟨n, hn⟩ : ∃ n, n = k / 64 := ⟨_, rfl⟩
    have hkn : k = 64 * n := by unfold NewOk at hok; omega
    have hnb : 1 ≤ n ∧ n ≤ 16384 := by unfold NewOk at hok; omega
    have hmb : 1 ≤ m ∧ m ≤ 16 := by unfold NewOk at hok; omega
    have C1 := hide (fun W => new_in W k n m hkn hnb hmb)
    have C2 := hide (fun W => rnew_in W k m hok)
    have HKn := hide hkn
    clear hok hn hkn
    go_wp2_with fail
    rw [← hW1]
    refine (C1.out _).mono ?_
    rintro e w2 ⟨rfl, hf, hb2, hs2⟩
    obtain ⟨zf, hzf⟩ : ∃ x, x = W1.heap.size + 1 := ⟨_, rfl⟩
    obtain ⟨gf, hgf⟩ : ∃ x, x = W1.heap.size := ⟨_, rfl⟩
    rw [← hzf, ← hgf] at hf
    rw [← hzf]
    have hlf : w.heap.size ≤ gf := by rw [hgf]; exact HB1.out.size
    have HF := hide hf
    have HB2 := hide (HB1.out.trans (hb2.mono HB1.out.size))
    have HK2 := hide (HK1.out.below hb2 HK1.out.lt)
    clear hf hb2 hs2 hzf hgf HK1 HB1 hW1 C1
    go_wp2_with fail
    refine (C2.out _).mono ?_
    rintro e w3 ⟨rfl, hr, hb3, hs3⟩
    obtain ⟨zr, hzr⟩ : ∃ x, x = w2.heap.size + 1 := ⟨_, rfl⟩
    obtain ⟨gr, hgr⟩ : ∃ x, x = w2.heap.size := ⟨_, rfl⟩
    rw [← hzr, ← hgr] at hr
    rw [← hzr]
    have hlr : w.heap.size ≤ zr ∧ w.heap.size ≤ gr := by have := HB2.out.size; omega
    have HF3 := hide (HF.out.below hb3)
    have HR3 : Hid (RB w3 zr gr k m (bitsL (List.replicate n 0))) := hide (by
      rw [bitsL_zero, ← HKn.out]
      have := hr.rb (by rw [List.length_replicate]; have := HKn.out; omega) hmb
      rw [List.length_replicate] at this
      exact this)
    have HB3 := hide (HB2.out.trans (hb3.mono HB2.out.size))
    have HK3 := hide (HK2.out.below hb3 HK2.out.lt)
    clear hr hb3 hs3 hzr hgr HK2 HB2 HF C2
    have c0 := HK3.out.cell 0
    have c1 := HK3.out.cell 1
    have f0 := HK3.out.frozen 0
    have f1 := HK3.out.frozen 1
    go_wp2
    have hk4 := set2 (u := .pointer (some ⟨zf, 0, none⟩)) (v := .pointer (some ⟨zr, 0, none⟩)) HK3.out
    have hg4 : w3.grownBy ((w3.setCell ⟨w.heap.size, 0, none⟩ (.pointer (some ⟨zf, 0, none⟩))).setCell ⟨w.heap.size, 1, none⟩ (.pointer (some ⟨zr, 0, none⟩))) (some w.heap.size) := grownBy_trans (grownBy_set _ _ _ _) (grownBy_set _ _ _ _)
    obtain ⟨cur, hcur⟩ := HR3.out.gb'
    refine bodyPost_ret (results_cell_tmp rfl _ _ _ rfl _ _ rfl (loadBlkT hk4 30 _ Try.underlying30 rfl 2 infoPair rfl)) rfl ?_
    refine ⟨some ⟨zf, gf, zr, gr, k, m, List.replicate n 0, List.replicate n 0⟩, rfl, ⟨?_, ?_⟩, rfl, ⟨hlf, hlr.1, hlr.2⟩, below_set2 HB3.out (Nat.le_refl _)⟩
    · exact HF3.out.grown hg4 (snn (blk_ne HF3.out.zb HK3.out (by decide))) (snn (blk_ne HF3.out.gb HK3.out (by decide)))
    · exact HR3.out.grown hg4 (snn (blk_ne HR3.out.zb HK3.out (by decide))) (snn (blk_ne hcur HK3.out (by decide)))
  · have C1 := hide (fun W => new_out W b h hok)
    have C2 := hide (fun W => rnew_out W b h hok)
    clear hok
    go_wp2_with fail
    rw [← hW1]
    refine (C1.out _).mono ?_
    rintro e w2 ⟨rfl, hb2⟩
    have HB2 := hide (HB1.out.trans (hb2.mono HB1.out.size))
    have HK2 := hide (HK1.out.below hb2 HK1.out.lt)
    clear hb2 HK1 HB1 hW1 C1
    go_wp2_with fail
    refine (C2.out _).mono ?_
    rintro e w3 ⟨rfl, hw3⟩
    subst hw3
    have c0 := HK2.out.cell 0
    have c1 := HK2.out.cell 1
    have f0 := HK2.out.frozen 0
    have f1 := HK2.out.frozen 1
    go_wp2
    have hk4 := set2 (u := .pointer none) (v := .pointer none) HK2.out
    refine bodyPost_ret (results_cell_tmp rfl _ _ _ rfl _ _ rfl (loadBlkT hk4 30 _ Try.underlying30 rfl 2 infoPair rfl)) rfl ?_
    exact ⟨none, rfl, trivial, trivial, trivial, below_set2 HB2.out (Nat.le_refl _)⟩
end Go.Proofs.Ytbemmhngadpjcaa
