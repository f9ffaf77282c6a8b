/- The listed variables: the two tables as they start; the arguments opened. -/
import Derived.Test.YtamajnaeladehaaDoorGF1
import Derived.Test.YtamajnaeladehaaDoorRows
import Derived.Test.YtamajnaeladehaaDoorCards
import Derived.Test.YtamajnaeladehaaDoorTie
import Derived.ChangeSame
import Derived.ChangeVars
import Derived.JoinedOf
import Derived.RowKit
import Derived.RowKitTokens
import Derived.LaidLaws
import Derived.LaidHandle
import Derived.Stop.Joined
import Derived.Stop.LaidErr
import Derived.Lib.LaidTab
import Derived.ProofKit
import Derived.OpenShut
import Derived.SevenTiedAt
import Derived.ChangeOld
import Derived.SizedLaws
import Derived.Deep.Slices
import Derived.Deep.Strs
import Derived.Deep.DeepHandedRow
namespace Go.Proofs.YtamajnaeladehaaDoor
set_option linter.unusedVariables false
set_option linter.unusedSimpArgs false
open Go.ChangeShapes Go.WideShapes Go.ChangeAt Go.RowKit Go.Deep

theorem own : ownKnob Tryd.prog.godebug = none := by kernel_rfl
theorem laidOut : laidOutB Tryd.prog = true := by kernel_rfl
theorem cellsU8 : Tryd.prog.cellsOf 5 = 1 := by kernel_rfl
def deB32 : List Int := [0, 1, 28, 2, 29, 14, 24, 3, 30, 22, 20, 15, 25, 17, 4, 8, 31, 27, 13, 23, 21, 19, 16, 7, 26, 12, 18, 6, 11, 5, 10, 9]
def deB64 : List Int := deB.map fun x : Nat => (x : Int)
theorem d0 : (Rows.laid_math_bits_deBruijn32tab : DataW Unit) = Lib.tabData .u8 deB32 := by kernel_rfl
theorem d1 : (Rows.laid_math_bits_deBruijn64tab : DataW Unit) = Lib.tabData .u8 deB64 := by kernel_rfl
theorem laid_met {W : World} (h : laidMetH Tryd.prog Rows.gearBackUptoRow.laid W) : laidMet Tryd.prog [("math/bits.deBruijn32tab", Lib.tabData .u8 deB32), ("math/bits.deBruijn64tab", Lib.tabData .u8 deB64)] W := by
  rw [← d0, ← d1]
  exact h
theorem g1 : Tryd.prog.globalNamed "math/bits.deBruijn64tab" = some 1 := by kernel_rfl
theorem tab1 {W : World} (h : laidMetH Tryd.prog Rows.gearBackUptoRow.laid W) : Lib.TabIs Tryd.prog W "math/bits.deBruijn64tab" .u8 deB64 :=
  Lib.tabIs_of_head (g := 1) (t := 89) (e := 5) (n := 64) (by kernel_rfl) (by kernel_rfl) Tryd.underlying89 Tryd.underlying5 (by kernel_rfl) (by kernel_rfl) (laidMet.tail (laid_met h))
theorem ints_at (l : List Nat) (k : IntKind) (t : Nat) (ht : t < l.length) : ((l.map fun x : Nat => (x : Int)).map fun z => Value.int k z).toArray[t]? = some (.int k ((l[t]?.getD 0 : Nat) : Int)) := by
  rw [List.getElem?_toArray, List.getElem?_map, List.getElem?_map, List.getElem?_eq_getElem ht]; rfl
theorem tabs_of_laid {W : World} (h : laidMetH Tryd.prog Rows.gearBackUptoRow.laid W) : Tabs W := by
  have c1 : ∀ t, t < 64 → W.cell? ⟨1, t, none⟩ = some (.int .u8 ((deB[t]?.getD 0 : Nat) : Int)) := fun t ht => (World.var?_cell g1 (tab1 h) t).trans (ints_at deB .u8 t ht)
  exact ⟨World.block_lt_of_cell? W _ (c1 0 (by decide)), c1⟩
def laidCells (cs : Array Value) : Obj → Obj
  | .cells _ t frozen => .cells cs t frozen
  | o => o
/-- A world that meets the condition: the settled one, the two variables laid. -/
noncomputable def laidWorld (os : Os) : World :=
  let w0 := World.holding Tryd.prog os ⟨#[], #[], []⟩
  { w0 with heap := (w0.heap.modify 0 (laidCells (deB32.map fun z => Value.int .u8 z).toArray)).modify 1 (laidCells (deB64.map fun z => Value.int .u8 z).toArray) }
theorem spot_none {w : World} {x : Addr} {v : Value} (h : w.cell? (x.add 0) = some v) : ∃ b o, x = ⟨b, o, none⟩ := by
  obtain ⟨b, o, spot⟩ := x
  have hs : spot = none := by simpa [Addr.add] using World.cell?_spot h
  exact ⟨b, o, by rw [hs]⟩
theorem open_bytesC {H : Type} {enc : TypeId × Value → H} {W : World} {fuel : Nat} {cs : List Value} {d : DataW H} {p : List MemPlace}
    (h : DataW.trod enc Tryd.prog W 0 (fun _ => true) true fuel 24 cs = some (d, p)) :
    ∃ (v : Value) (bs : List UInt8), cs = [v] ∧ RdA W v bs ∧ ((bs.length = 0) ∨ ∃ elems spare, d = .slice elems spare ∧ bs.length = elems.length) := by
  rcases open_ints Tryd.underlying24 Tryd.underlying5 cellsU8 h with ⟨hcs, hx⟩ | ⟨x, len, cap, zs, hcs, _, hl, hm, hz, hx, hcell, hwz⟩
  · exact ⟨_, [], hcs, .inl (Rd_none W), .inl rfl⟩
  · have hz' : zs.length = cap := by simpa using hz
    have hd : d = .slice (lits .u8 (zs.take len)) (lits .u8 (zs.drop len)) := (Prod.mk.inj hx).1
    have hlen : ((zs.take len).map fun z => UInt8.ofNat z.toNat).length = len := by simp; omega
    refine ⟨_, (zs.take len).map fun z => UInt8.ofNat z.toNat, hcs, ?_, .inr ⟨_, _, hd, by simp [lits]⟩⟩
    rcases Nat.eq_zero_or_pos cap with h0 | hpos
    · obtain rfl : zs = [] := List.eq_nil_of_length_eq_zero (by omega)
      obtain rfl : len = 0 := by omega
      obtain rfl : cap = 0 := h0
      exact .inr ⟨x, rfl, rfl⟩
    · obtain ⟨b, o, rfl⟩ := spot_none (hcell 0 (by omega))
      left
      refine ⟨some ⟨b, o, none⟩, cap, by rw [hlen], by rw [hlen]; exact hl, hm, .inr ⟨b, o, rfl, fun i hi => ?_⟩⟩
      rw [hlen] at hi
      have := hcell i (by omega)
      rw [Addr.add_mid] at this
      rw [this]
      have hw := hwz (zs.getD i 0) (by rw [List.getD_eq_getElem?_getD, List.getElem?_eq_getElem (by omega)]; exact List.getElem_mem _)
      have hb : 0 ≤ zs.getD i 0 ∧ zs.getD i 0 ≤ 255 := by simpa [Lit.wf, IntKind.min, IntKind.max, IntKind.signed, IntKind.bits] using hw
      unfold u8c
      congr 2
      rw [List.getD_eq_getElem?_getD, List.getElem?_eq_getElem (by omega)] at hb ⊢
      simp only [Option.getD_some] at hb ⊢
      simp only [List.getElem_map, List.getElem_take, UInt8.toNat_ofNat']
      omega
theorem cellsInt : Tryd.prog.cellsOf 3 = 1 := by kernel_rfl
theorem cellsCut : Tryd.prog.cellsOf 23 = 3 := by kernel_rfl
theorem cellsSl : Tryd.prog.cellsOf 24 = 1 := by kernel_rfl
theorem cellsAsk : Tryd.prog.cellsOf 26 = 4 := by kernel_rfl
theorem open_intC {H : Type} {enc : TypeId × Value → H} {W : World} {base : Nat} {spare : Nat → Bool} {held : Bool} {fuel : Nat} {cs : List Value} {x : DataW H × List MemPlace}
    (h : DataW.trod enc Tryd.prog W base spare held fuel 3 cs = some x) : ∃ n : Int, cs = [.int .i64 n] ∧ I64 n := by
  obtain ⟨n, hn, _, hw⟩ := DataW.trod_int Tryd.underlying3 h
  exact ⟨n, hn, by simpa [I64, Lit.wf, IntKind.min, IntKind.max, IntKind.signed, IntKind.bits] using hw⟩
theorem open_cut {H : Type} {enc : TypeId × Value → H} {W : World} {base : Nat} {spare : Nat → Bool} {held : Bool} {fuel : Nat} {cs : List Value} {x : DataW H × List MemPlace}
    (h : DataW.trod enc Tryd.prog W base spare held fuel 23 cs = some x) : ∃ mn me mx : Int, cs = [.int .i64 mn, .int .i64 me, .int .i64 mx] ∧ I64 mn ∧ I64 me ∧ I64 mx := by
  obtain ⟨xs, n, _, rfl, hl, hlen, hf⟩ := DataW.trod_struct Tryd.underlying23 h
  rw [cellsCut] at hl
  match cs, hl with
  | [a, b, c], _ =>
    match xs, hlen with
    | [y0, y1, y2], _ =>
      have g0 : DataW.trod enc Tryd.prog W base spare held n 3 (([a, b, c].drop 0).take (Tryd.prog.cellsOf 3)) = some y0 := hf 0 _ rfl
      have g1 : DataW.trod enc Tryd.prog W base spare held n 3 (([a, b, c].drop 1).take (Tryd.prog.cellsOf 3)) = some y1 := hf 1 _ rfl
      have g2 : DataW.trod enc Tryd.prog W base spare held n 3 (([a, b, c].drop 2).take (Tryd.prog.cellsOf 3)) = some y2 := hf 2 _ rfl
      rw [cellsInt] at g0 g1 g2
      obtain ⟨mn, e0, h0⟩ := open_intC g0
      obtain ⟨me, e1, h1⟩ := open_intC g1
      obtain ⟨mx, e2, h2⟩ := open_intC g2
      have e0' : a = .int .i64 mn := (List.cons.inj e0).1
      have e1' : b = .int .i64 me := (List.cons.inj e1).1
      have e2' : c = .int .i64 mx := (List.cons.inj e2).1
      exact ⟨mn, me, mx, by rw [e0', e1', e2'], h0, h1, h2⟩
theorem len_bulk {H : Type} (l : List (DataW H)) : l.length ≤ Rows.uptoBulkAll l := by
  induction l with
  | nil => simp [Rows.uptoBulkAll]
  | cons x r ih =>
    have : 1 ≤ Rows.uptoBulk x := by
      cases x with
      | lit l => cases l <;> simp [Rows.uptoBulk]
      | nil => simp [Rows.uptoBulk]
      | ptr d => simp [Rows.uptoBulk]
      | slice elems spare => simp [Rows.uptoBulk]
      | agg parts => simp [Rows.uptoBulk]
      | iface t d => simp [Rows.uptoBulk]
      | map entries => simp [Rows.uptoBulk]
      | held h => simp [Rows.uptoBulk]
    simp only [Rows.uptoBulkAll, List.length_cons]; omega
/-- Bytes, and how much they count. -/
theorem open_bytesB {H : Type} {enc : TypeId × Value → H} {W : World} {fuel : Nat} {cs : List Value} {x : DataW H × List MemPlace}
    (h : DataW.trod enc Tryd.prog W 0 (fun _ => true) true fuel 24 cs = some x) : ∃ (v : Value) (bs : List UInt8), cs = [v] ∧ RdA W v bs ∧ bs.length ≤ Rows.uptoBulk x.1 := by
  obtain ⟨d, p⟩ := x
  obtain ⟨v, bs, e, hr, hb⟩ := open_bytesC h
  refine ⟨v, bs, e, hr, ?_⟩
  rcases hb with h0 | ⟨elems, spare, rfl, hl⟩
  · omega
  · have := len_bulk elems
    simp only [Rows.uptoBulk]
    omega
theorem open_askC {H : Type} {enc : TypeId × Value → H} {W : World} {fuel : Nat} {cs : List Value} {x : DataW H × List MemPlace}
    (h : DataW.trod enc Tryd.prog W 0 (fun _ => true) true fuel 26 cs = some x) : ∃ (mn me mx : Int) (dv : Value) (X : List UInt8), cs = [.int .i64 mn, .int .i64 me, .int .i64 mx, dv] ∧ I64 mn ∧ I64 me ∧ I64 mx ∧ RdA W dv X ∧ X.length ≤ Rows.uptoBulk x.1 := by
  obtain ⟨xs, n, _, rfl, hl, hlen, hf⟩ := DataW.trod_struct Tryd.underlying26 h
  rw [cellsAsk] at hl
  match cs, hl with
  | [a, b, c, d], _ =>
    match xs, hlen with
    | [y0, y1], _ =>
      have g0 : DataW.trod enc Tryd.prog W 0 (fun _ => true) true n 23 (([a, b, c, d].drop 0).take (Tryd.prog.cellsOf 23)) = some y0 := hf 0 _ rfl
      have g1 : DataW.trod enc Tryd.prog W 0 (fun _ => true) true n 24 (([a, b, c, d].drop 3).take (Tryd.prog.cellsOf 24)) = some y1 := hf 1 _ rfl
      rw [cellsCut] at g0
      rw [cellsSl] at g1
      obtain ⟨mn, me, mx, e0, i0, i1, i2⟩ := open_cut g0
      obtain ⟨v, X, e1, hr, hb⟩ := open_bytesB g1
      have e0' : [a, b, c] = [.int .i64 mn, .int .i64 me, .int .i64 mx] := e0
      have e1' : d = v := (List.cons.inj e1).1
      simp only [List.cons.injEq, and_true] at e0'
      obtain ⟨ea, eb, ec⟩ := e0'
      refine ⟨mn, me, mx, v, X, by rw [ea, eb, ec, e1'], i0, i1, i2, hr, ?_⟩
      simp only [Rows.uptoBulk, Rows.uptoBulkAll, List.map_cons, List.map_nil]
      omega
theorem small_le {H : Type} {l : List (DataW H)} (hk : Rows.uptoSmall H l = true) : Rows.uptoBulkAll l ≤ 1048576 := of_decide_eq_true hk
end Go.Proofs.YtamajnaeladehaaDoor
