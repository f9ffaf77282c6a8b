/- The arguments opened: a slice of bytes, a slice of takes. -/
import Derived.Test.YtinjcefekbpabaaK3
import Derived.ProofKit
import Derived.OpenShut
import Derived.ChangeOld
import Derived.SizedLaws
import Derived.Deep.Slices
import Derived.Deep.Strs
namespace Go.Proofs.Ytinjcefekbpabaa
set_option linter.unusedVariables false
set_option linter.unusedSimpArgs false
open Go.ChangeShapes Go.WideShapes Go.ChangeAt Go.RowKit Go.Deep

theorem own : ownKnob Try.prog.godebug = none := by kernel_rfl
theorem laidOut : laidOutB Try.prog = true := by kernel_rfl
theorem cellsTake : Try.prog.cellsOf 53 = 3 := by kernel_rfl
theorem cellsU8 : Try.prog.cellsOf 5 = 1 := by kernel_rfl
theorem cellsInt : Try.prog.cellsOf 3 = 1 := by kernel_rfl
theorem cellsU64 : Try.prog.cellsOf 33 = 1 := by kernel_rfl
theorem bytesU8 : Try.prog.bytesOf 5 = 1 := by kernel_rfl

theorem spot_none {w : World} {x : Addr} {v : Value} (h : w.cell? (x.add 0) = some v) : ∃ b o, x = ⟨b, o, none⟩ := by
  obtain ⟨b, o, spot⟩ := x
  have hs : spot = none := by simpa [Addr.add] using World.cell?_spot h
  exact ⟨b, o, by rw [hs]⟩

theorem open_bytes {H : Type} {enc : TypeId × Value → H} {W : World} {v : Value} {d : DataW H} {p : List MemPlace} {a : Option Addr} {len cap : Nat} (hv : v = .slice a len cap)
    (h : DataW.Trod enc Try.prog W 0 (fun _ => true) true 28 v d p) :
    ∃ bs : List UInt8, RdA W v bs ∧ ((bs.length = 0) ∨ ∃ elems spare, d = .slice elems spare ∧ bs.length = elems.length) := by
  subst hv
  obtain ⟨fuel, hf⟩ := h
  rcases open_ints Try.underlying28 Try.underlying5 cellsU8 hf with ⟨hcs, _⟩ | ⟨x, l, c, zs, hcs, _, hl, hm, hz, hx, hcell, hwz⟩
  · simp [Value.cells] at hcs
    obtain ⟨rfl, rfl, rfl⟩ := hcs
    exact ⟨[], .inl (Rd_none W), .inl rfl⟩
  · simp [Value.cells] at hcs
    obtain ⟨rfl, rfl, rfl⟩ := hcs
    have hz' : zs.length = cap := by simpa using hz
    refine ⟨(zs.take len).map fun z => UInt8.ofNat z.toNat, ?_, .inr ⟨_, _, (Prod.mk.inj hx).1, by simp [lits]⟩⟩
    rcases Nat.eq_zero_or_pos cap with h0 | hpos
    · obtain rfl : zs = [] := List.eq_nil_of_length_eq_zero (by omega)
      obtain rfl : len = 0 := by omega
      obtain rfl : cap = 0 := h0
      exact .inr ⟨x, rfl, rfl⟩
    · obtain ⟨b, o, rfl⟩ := spot_none (hcell 0 (by omega))
      left
      have hlen : ((zs.take len).map fun z => UInt8.ofNat z.toNat).length = len := by simp; omega
      refine ⟨some ⟨b, o, none⟩, cap, by rw [hlen], by rw [hlen]; exact hl, hm, .inr ⟨b, o, rfl, fun i hi => ?_⟩⟩
      rw [hlen] at hi
      have := hcell i (by omega)
      rw [Addr.add_mid] at this
      rw [this]
      have hw := hwz (zs.getD i 0) (by rw [List.getD_eq_getElem?_getD, List.getElem?_eq_getElem (by omega)]; exact List.getElem_mem _)
      have hb : 0 ≤ zs.getD i 0 ∧ zs.getD i 0 ≤ 255 := by simpa [Lit.wf, IntKind.min, IntKind.max, IntKind.signed, IntKind.bits] using hw
      unfold u8c
      congr 2
      rw [List.getD_eq_getElem?_getD, List.getElem?_eq_getElem (by omega)] at hb ⊢
      simp only [Option.getD_some] at hb ⊢
      simp only [List.getElem_map, List.getElem_take, UInt8.toNat_ofNat']
      omega

set_option maxRecDepth 20000 in
theorem open_takes {H : Type} {enc : TypeId × Value → H} {W : World} {v : Value} {d : DataW H} {p : List MemPlace} {a : Option Addr} {len cap : Nat} (hv : v = .slice a len cap)
    (h : DataW.Trod enc Try.prog W 0 (fun _ => true) true 43 v d p) : TakesAt W a len := by
  subst hv
  obtain ⟨fuel, hf⟩ := h
  rcases open_slice Try.underlying43 hf with ⟨hcs, _⟩ | ⟨x, l, c, m, n, D, Pl, hcs, _, hl, hm, hmm, _, hel⟩
  · simp [Value.cells] at hcs
    obtain ⟨rfl, rfl, rfl⟩ := hcs
    exact ⟨Nat.zero_le _, .inl rfl⟩
  · simp [Value.cells] at hcs
    obtain ⟨rfl, rfl, rfl⟩ := hcs
    refine ⟨by omega, ?_⟩
    rcases Nat.eq_zero_or_pos len with h0 | hpos
    · exact .inl h0
    · right
      have hmc : m = cap := by simpa using hmm
      rw [cellsTake] at hel
      have key : ∀ i, i < len → ∃ c0 c1 c2 : Value, W.cell? (x.add (i * 3)) = some c0 ∧ W.cell? (x.add (i * 3 + 1)) = some c1 ∧ W.cell? (x.add (i * 3 + 2)) = some c2 ∧
          ∃ (kd mo nn : Int), c0 = .int .i64 kd ∧ c1 = .int .u64 mo ∧ c2 = .int .i64 nn ∧ (Lit.int .i64 kd).wf = true ∧ (Lit.int .u64 mo).wf = true ∧ (Lit.int .i64 nn).wf = true := by
        intro i hi
        obtain ⟨cs', h1, h2⟩ := hel i (by omega)
        obtain ⟨_, hlen, hc⟩ := World.cells?_some h1
        obtain ⟨y0, y1, y2, k, _, _, t0, t1, t2⟩ := trod_struct3 Try.underlying53 h2
        match cs', hlen with
        | [c0, c1, c2], _ =>
          have e0 := hc 0 (by omega)
          have e1 := hc 1 (by omega)
          have e2 := hc 2 (by omega)
          rw [add_add] at e0 e1 e2
          simp [cellsInt, cellsU64] at t0 t1 t2
          obtain ⟨kd, f0, _, w0⟩ := DataW.trod_int Try.underlying3 t0
          obtain ⟨mo, f1, _, w1⟩ := DataW.trod_int Try.underlying33 t1
          obtain ⟨nn, f2, _, w2⟩ := DataW.trod_int Try.underlying3 t2
          simp at f0 f1 f2
          exact ⟨c0, c1, c2, by simpa using e0, by simpa using e1, by simpa using e2, kd, mo, nn, f0, f1, f2, w0, w1, w2⟩
      obtain ⟨c0, _, _, hc0, _⟩ := key 0 hpos
      obtain ⟨b, o, rfl⟩ := spot_none (by simpa using hc0)
      refine ⟨b, o, rfl, ?_, fun i hi => ?_⟩
      · rw [Addr.add_mid] at hc0
        exact World.block_lt_of_cell? W _ hc0
      · obtain ⟨c0, c1, c2, e0, e1, e2, kd, mo, nn, rfl, rfl, rfl, w0, w1, w2⟩ := key i hi
        rw [Addr.add_mid] at e0 e1 e2
        have b0 : -9223372036854775808 ≤ kd ∧ kd ≤ 9223372036854775807 := by simpa [Lit.wf, IntKind.min, IntKind.max, IntKind.signed, IntKind.bits] using w0
        have b1 : 0 ≤ mo ∧ mo ≤ 18446744073709551615 := by simpa [Lit.wf, IntKind.min, IntKind.max, IntKind.signed, IntKind.bits] using w1
        have b2 : -9223372036854775808 ≤ nn ∧ nn ≤ 9223372036854775807 := by simpa [Lit.wf, IntKind.min, IntKind.max, IntKind.signed, IntKind.bits] using w2
        obtain ⟨mq, rfl⟩ := Int.eq_ofNat_of_zero_le b1.1
        exact ⟨kd, mq, nn, b0.1, b0.2, by omega, b2.1, b2.2, e0, e1, e2⟩
end Go.Proofs.Ytinjcefekbpabaa
