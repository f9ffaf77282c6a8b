/- The arguments opened: a slice of adds, and how much it may hold. -/
import Derived.Test.YtinjcefekbpabaaH3
import Derived.ProofKit
import Derived.OpenShut
import Derived.ChangeOld
import Derived.SizedLaws
import Derived.JoinedCond
import Derived.Deep.CondSized
import Derived.Deep.Slices
import Derived.Deep.Strs
namespace Go.Proofs.Ytinjcefekbpabaa
set_option linter.unusedVariables false
set_option linter.unusedSimpArgs false
open Go.ChangeShapes Go.WideShapes Go.ChangeAt Go.RowKit Go.Deep

theorem own : ownKnob Try.prog.godebug = none := by kernel_rfl
theorem laidOut : laidOutB Try.prog = true := by kernel_rfl
theorem cellsU8 : Try.prog.cellsOf 5 = 1 := by kernel_rfl
theorem cellsInt : Try.prog.cellsOf 3 = 1 := by kernel_rfl
theorem cellsU64 : Try.prog.cellsOf 33 = 1 := by kernel_rfl
theorem cellsAdd : Try.prog.cellsOf 37 = 36 := by kernel_rfl
theorem cellsStr : Try.prog.cellsOf 9 = 1 := by kernel_rfl
theorem cellsSl : Try.prog.cellsOf 28 = 1 := by kernel_rfl
theorem cellsKey : Try.prog.cellsOf 35 = 32 := by kernel_rfl

theorem spot_none {w : World} {x : Addr} {v : Value} (h : w.cell? (x.add 0) = some v) : ∃ b o, x = ⟨b, o, none⟩ := by
  obtain ⟨b, o, spot⟩ := x
  have hs : spot = none := by simpa [Addr.add] using World.cell?_spot h
  exact ⟨b, o, by rw [hs]⟩

theorem bulk_pos {H : Type} (d : DataW H) : 1 ≤ Rows.uptoBulk d := by
  cases d with
  | lit l => cases l <;> simp [Rows.uptoBulk]
  | _ => simp [Rows.uptoBulk]
theorem bulk_len {H : Type} : ∀ l : List (DataW H), l.length ≤ Rows.uptoBulkAll l
  | [] => by simp
  | d :: l => by
    have h1 := bulk_pos d
    have h2 := bulk_len l
    simp only [Rows.uptoBulkAll, List.length_cons]
    omega

/-- A slice of bytes that came in: where it lies, what it holds, and how much it counts. -/
theorem open_bulk {H : Type} {enc : TypeId × Value → H} {W : World} {fuel : Nat} {cs : List Value} {d : DataW H} {p : List MemPlace}
    (h : DataW.trod enc Try.prog W 0 (fun _ => true) true fuel 28 cs = some (d, p)) :
    ∃ (v : Value) (bs : List UInt8), cs = [v] ∧ RdA W v bs ∧ (∀ b o l c, v = .slice (some ⟨b, o, none⟩) l c → 0 < c → b < W.heap.size) ∧ bs.length + 1 ≤ Rows.uptoBulk d := by
  rcases open_ints Try.underlying28 Try.underlying5 cellsU8 h with ⟨hcs, hx⟩ | ⟨x, len, cap, zs, hcs, _, hl, hm, hz, hx, hcell, hwz⟩
  · refine ⟨_, [], hcs, .inl (Rd_none W), (fun b o l c e => by cases e), ?_⟩
    exact bulk_pos d
  · have hz' : zs.length = cap := by simpa using hz
    have hd : d = .slice (lits .u8 (zs.take len)) (lits .u8 (zs.drop len)) := (Prod.mk.inj hx).1
    have hlen : ((zs.take len).map fun z => UInt8.ofNat z.toNat).length = len := by simp; omega
    refine ⟨_, (zs.take len).map fun z => UInt8.ofNat z.toNat, hcs, ?_, ?_, ?_⟩
    · rcases Nat.eq_zero_or_pos cap with h0 | hpos
      · obtain rfl : zs = [] := List.eq_nil_of_length_eq_zero (by omega)
        obtain rfl : len = 0 := by omega
        obtain rfl : cap = 0 := h0
        exact .inr ⟨x, rfl, rfl⟩
      · obtain ⟨b, o, rfl⟩ := spot_none (hcell 0 (by omega))
        left
        refine ⟨some ⟨b, o, none⟩, cap, by rw [hlen], by rw [hlen]; exact hl, hm, .inr ⟨b, o, rfl, fun i hi => ?_⟩⟩
        rw [hlen] at hi
        have := hcell i (by omega)
        rw [Addr.add_mid] at this
        rw [this]
        have hw := hwz (zs.getD i 0) (by rw [List.getD_eq_getElem?_getD, List.getElem?_eq_getElem (by omega)]; exact List.getElem_mem _)
        have hb : 0 ≤ zs.getD i 0 ∧ zs.getD i 0 ≤ 255 := by simpa [Lit.wf, IntKind.min, IntKind.max, IntKind.signed, IntKind.bits] using hw
        unfold u8c
        congr 2
        rw [List.getD_eq_getElem?_getD, List.getElem?_eq_getElem (by omega)] at hb ⊢
        simp only [Option.getD_some] at hb ⊢
        simp only [List.getElem_map, List.getElem_take, UInt8.toNat_ofNat']
        omega
    · intro b o l c e hc
      cases e
      have := World.block_lt_of_cell? W _ (hcell 0 (by omega))
      simpa [Addr.add_mid] using this
    · rw [hlen, hd]
      have h1 := bulk_len (H := H) (lits .u8 (zs.take len))
      have h2 : (lits (H := H) .u8 (zs.take len)).length = len := by simp [lits]; omega
      simp only [Rows.uptoBulk]
      omega

theorem one_of {cs : List Value} {k : Nat} {v : Value} (h : (cs.drop k).take 1 = [v]) : cs[k]? = some v := by
  have h0 : ((cs.drop k).take 1)[0]? = some v := by rw [h]; rfl
  simpa using h0
theorem five {α : Type} (xs : List α) (h : xs.length = 5) : ∃ a b c d e, xs = [a, b, c, d, e] := by
  match xs, h with
  | [a, b, c, d, e], _ => exact ⟨a, b, c, d, e, rfl⟩

def byteOf : Value → UInt8
  | .int .u8 q => UInt8.ofNat q.toNat
  | _ => 0
set_option maxRecDepth 20000 in
/-- One Add. -/
theorem open_add {H : Type} {enc : TypeId × Value → H} {W : World} {fuel : Nat} {cs : List Value} {d : DataW H} {p : List MemPlace}
    (h : DataW.trod enc Try.prog W 0 (fun _ => true) true fuel 37 cs = some (d, p)) :
    ∃ (bv : Value) (a : AddR), AddIs W cs.toArray bv a ∧ (∀ b o l c, bv = .slice (some ⟨b, o, none⟩) l c → 0 < c → b < W.heap.size) ∧ a.S.length + a.B.length + 4 ≤ Rows.uptoBulk d := by
  obtain ⟨ys, k, _, hx, hlen, hyl, hfl⟩ := DataW.trod_struct Try.underlying37 h
  have hd : d = .agg (ys.map (·.1)) := (Prod.mk.inj hx).1
  have hyl5 : ys.length = 5 := hyl
  rw [cellsAdd] at hlen
  have t0 : DataW.trod enc Try.prog W 0 (fun _ => true) true k 3 ((cs.drop 0).take (Try.prog.cellsOf 3)) = ys[0]? := hfl 0 _ rfl
  have t1 : DataW.trod enc Try.prog W 0 (fun _ => true) true k 33 ((cs.drop 1).take (Try.prog.cellsOf 33)) = ys[1]? := hfl 1 _ rfl
  have t2 : DataW.trod enc Try.prog W 0 (fun _ => true) true k 9 ((cs.drop 2).take (Try.prog.cellsOf 9)) = ys[2]? := hfl 2 _ rfl
  have t3 : DataW.trod enc Try.prog W 0 (fun _ => true) true k 28 ((cs.drop 3).take (Try.prog.cellsOf 28)) = ys[3]? := hfl 3 _ rfl
  have t4 : DataW.trod enc Try.prog W 0 (fun _ => true) true k 35 ((cs.drop 4).take (Try.prog.cellsOf 35)) = ys[4]? := hfl 4 _ rfl
  obtain ⟨y0, y1, y2, y3, y4, rfl⟩ := five ys hyl5
  rw [cellsInt] at t0
  rw [cellsU64] at t1
  rw [cellsStr] at t2
  rw [cellsSl] at t3
  rw [cellsKey] at t4
  obtain ⟨kd, f0, _, w0⟩ := DataW.trod_int Try.underlying3 (x := y0) t0
  obtain ⟨mo, f1, _, w1⟩ := DataW.trod_int Try.underlying33 (x := y1) t1
  obtain ⟨s, f2, e2, w2⟩ := DataW.trod_string Try.underlying9 (x := y2) t2
  obtain ⟨y3d, y3p⟩ := y3
  obtain ⟨bv, bs, f3, hrd, hbv, hbl⟩ := open_bulk (d := y3d) (p := y3p) t3
  obtain ⟨zs, m, _, _, hkl, hzl, hzf⟩ := DataW.trod_array Try.underlying35 (x := y4) t4
  have b1 : 0 ≤ mo ∧ mo ≤ 18446744073709551615 := by simpa [Lit.wf, IntKind.min, IntKind.max, IntKind.signed, IntKind.bits] using w1
  obtain ⟨mq, rfl⟩ := Int.eq_ofNat_of_zero_le b1.1
  have hk : ∃ K : List UInt8, (cs.drop 4).take 32 = K.map u8c ∧ K.length = 32 := by
    have hl4 : ((cs.drop 4).take 32).length = 32 := by simp; omega
    have key : ∀ i, i < 32 → ∃ u : UInt8, ((cs.drop 4).take 32)[i]? = some (u8c u) := by
      intro i hi
      have hz := hzf i hi
      rw [cellsU8, List.getElem?_eq_getElem (by omega)] at hz
      obtain ⟨q, g0, _, gw⟩ := DataW.trod_int Try.underlying5 hz
      have gb : 0 ≤ q ∧ q ≤ 255 := by simpa [Lit.wf, IntKind.min, IntKind.max, IntKind.signed, IntKind.bits] using gw
      refine ⟨UInt8.ofNat q.toNat, ?_⟩
      have := one_of (cs := (cs.drop 4).take 32) (k := i) (by simpa using g0)
      rw [this]
      unfold u8c
      congr 2
      simp only [UInt8.toNat_ofNat']
      omega
    refine ⟨((cs.drop 4).take 32).map byteOf, ?_, by rw [List.length_map]; exact hl4⟩
    apply List.ext_getElem?
    intro i
    by_cases hi : i < 32
    · obtain ⟨u, hu⟩ := key i hi
      rw [List.map_map, List.getElem?_map, hu]
      simp [byteOf, u8c]
    · rw [List.getElem?_eq_none (by omega), List.getElem?_eq_none (by simp; omega)]
  obtain ⟨K, hK, hKl⟩ := hk
  have hd4 : (cs.drop 4).take 32 = cs.drop 4 := List.take_of_length_le (by simp; omega)
  refine ⟨bv, ⟨kd, mq, s.data.toList, bs, K⟩, ⟨by simpa using hlen, by simpa using one_of f0, by simpa using one_of f1, ?_, by simpa using one_of f3, hrd, ?_, hKl, ?_⟩, hbv, ?_⟩
  · have := one_of f2
    simpa using this
  · rw [← hK, hd4]
  · simp only []
    omega
  · rw [hd]
    simp only [List.map_cons, List.map_nil, Rows.uptoBulk, Rows.uptoBulkAll]
    have p0 := bulk_pos y0.1
    have p1 := bulk_pos y1.1
    have p4 := bulk_pos y4.1
    have q2 : Rows.uptoBulk y2.1 = s.data.toList.length + 1 := by rw [e2]; simp [Rows.uptoBulk]
    omega

theorem tot_bulk {H : Type} (A : Nat → AddR) (D : Nat → DataW H) : ∀ l : List Nat, (∀ i ∈ l, (A i).S.length + (A i).B.length + 4 ≤ Rows.uptoBulk (D i)) → totR (l.map A) ≤ 11 * Rows.uptoBulkAll (l.map D)
  | [], _ => by simp [totR]
  | i :: l, h => by
    have h1 := h i (by simp)
    have h2 := tot_bulk A D l (fun j hj => h j (by simp [hj]))
    simp only [totR, List.map_cons, List.sum_cons, Rows.uptoBulkAll] at h2 ⊢
    omega
set_option maxRecDepth 20000 in
theorem open_adds {H : Type} {enc : TypeId × Value → H} {W : World} {v : Value} {d : DataW H} {p : List MemPlace} {a : Option Addr} {len cap : Nat} (hv : v = .slice a len cap)
    (h : DataW.Trod enc Try.prog W 0 (fun _ => true) true 22 v d p) : ∃ rs : List AddR, rs.length = len ∧ AddsR W a rs ∧ totR rs ≤ 11 * Rows.uptoBulk d := by
  subst hv
  obtain ⟨fuel, hf⟩ := h
  rcases open_slice Try.underlying22 hf with ⟨hcs, _⟩ | ⟨x, l, c, m, n, D, Pl, hcs, _, hl, hm, hmm, hx, hel⟩
  · simp [Value.cells] at hcs
    obtain ⟨rfl, rfl, rfl⟩ := hcs
    exact ⟨[], rfl, ⟨Nat.zero_le _, .inl rfl⟩, by simp [totR]⟩
  · simp [Value.cells] at hcs
    obtain ⟨rfl, rfl, rfl⟩ := hcs
    have hmc : m = cap := by simpa using hmm
    have hd : d = .slice ((List.range len).map D) ((List.range (m - len)).map fun j => D (len + j)) := (Prod.mk.inj hx).1
    rw [cellsAdd] at hel
    have key : ∀ i, ∃ A : AddR, i < len → ∃ (cs' : List Value) (bv : Value), AddIs W cs'.toArray bv A ∧ (∀ j, j < 36 → W.cell? (x.add (i * 36 + j)) = cs'[j]?) ∧ (∀ b o l c, bv = .slice (some ⟨b, o, none⟩) l c → 0 < c → b < W.heap.size) ∧ A.S.length + A.B.length + 4 ≤ Rows.uptoBulk (D i) := by
      intro i
      by_cases hi : i < len
      · obtain ⟨cs', h1, h2⟩ := hel i (by omega)
        obtain ⟨_, hlen, hc⟩ := World.cells?_some h1
        obtain ⟨bv, A, g1, g2, g3⟩ := open_add h2
        exact ⟨A, fun _ => ⟨cs', bv, g1, fun j hj => by have := hc j hj; rwa [add_add] at this, g2, g3⟩⟩
      · exact ⟨⟨0, 0, [], [], []⟩, fun h => absurd h hi⟩
    have hA : ∃ A : Nat → AddR, ∀ i, i < len → ∃ (cs' : List Value) (bv : Value), AddIs W cs'.toArray bv (A i) ∧ (∀ j, j < 36 → W.cell? (x.add (i * 36 + j)) = cs'[j]?) ∧ (∀ b o l c, bv = .slice (some ⟨b, o, none⟩) l c → 0 < c → b < W.heap.size) ∧ (A i).S.length + (A i).B.length + 4 ≤ Rows.uptoBulk (D i) :=
      ⟨fun i => Classical.choose (key i), fun i => Classical.choose_spec (key i)⟩
    obtain ⟨A, hA⟩ := hA
    refine ⟨(List.range len).map A, by simp, ⟨by simp; omega, ?_⟩, ?_⟩
    · rcases Nat.eq_zero_or_pos len with h0 | hpos
      · left; subst h0; rfl
      · right
        obtain ⟨cs0, _, g1, hc0, _⟩ := hA 0 hpos
        have hc00 := hc0 0 (by omega)
        have hs0 : cs0.length = 36 := by simpa using g1.size
        rw [List.getElem?_eq_getElem (by omega)] at hc00
        obtain ⟨b, o, rfl⟩ := spot_none (by simpa using hc00)
        refine ⟨b, o, rfl, ?_, fun i hi => ?_⟩
        · rw [Addr.add_mid] at hc00
          exact World.block_lt_of_cell? W _ hc00
        · have hi' : i < len := by simpa using hi
          obtain ⟨cs', bv, g1, hc', g2, _⟩ := hA i hi'
          refine ⟨cs'.toArray, bv, by simpa using g1, fun j v hj => ?_, g2⟩
          have hj' : cs'[j]? = some v := by simpa using hj
          have hlt : j < cs'.length := by
            rcases List.getElem?_eq_some_iff.mp hj' with ⟨h, _⟩; exact h
          have hs' : cs'.length = 36 := by simpa using g1.size
          have := hc' j (by omega)
          rw [Addr.add_mid, hj', ← Nat.add_assoc] at this
          exact this
    · have := tot_bulk A D (List.range len) (fun i hi => by
        obtain ⟨_, _, _, _, _, g⟩ := hA i (by simpa using hi)
        exact g)
      rw [hd]
      simp only [Rows.uptoBulk]
      omega
end Go.Proofs.Ytinjcefekbpabaa
