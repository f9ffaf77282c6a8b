/- A Cutter: where it lies; whether it takes anything; what it hands out; how it is made. -/
import Derived.Test.YtamajnaeladehaaDoorGK3
import Derived.Laws.EntriesVeiled
import Derived.Laws.StructEq
namespace Go.Proofs.YtamajnaeladehaaDoor
set_option linter.unusedVariables false
set_option linter.unusedSimpArgs false
open Go.RowKit

def cuL (mn me mx : Int) (fv hv : Value) (en : Bool) : Array Value := #[.int .i64 mn, .int .i64 me, .int .i64 mx, fv, hv, .bool en]
/-- A Cutter that has taken these bytes since its last piece. -/
structure CuSt (w : World) (base z : Nat) (mn me mx : Int) (hv : Value) (hs : List UInt8) (bh bn br b4 b5 : Nat) : Prop where
  blk : Blk w z (cuL mn me mx (endV bh bn br b4 b5) hv false) 76
  low : base ≤ z
  own : OwnsB w base hv hs
  es : EndSt w base bh bn br b4 b5 mn me mx (rollL hs) hs.length
  may : mayB mn me mx = true
  lt : (hs.length : Int) < mx
  apz : z ≠ bh ∧ z ≠ bn ∧ z ≠ br ∧ z ≠ b4 ∧ z ≠ b5
  aph : ∀ g, hv.ownBlock = some g → g ≠ z ∧ g ≠ bh ∧ g ≠ bn ∧ g ≠ br ∧ g ≠ b4 ∧ g ≠ b5
theorem CuSt.below {w w' : World} {base z : Nat} {mn me mx : Int} {hv : Value} {hs : List UInt8} {bh bn br b4 b5 : Nat} (h : CuSt w base z mn me mx hv hs bh bn br b4 b5) (hb : Below w.heap.size w w') : CuSt w' base z mn me mx hv hs bh bn br b4 b5 :=
  ⟨h.blk.below hb h.blk.lt, h.low, owns_below h.own hb, h.es.below hb, h.may, h.lt, h.apz, h.aph⟩
theorem EndSt.base {w : World} {B B' bh bn br b4 b5 : Nat} {mn me mx : Int} {h n : Nat} (E : EndSt w B bh bn br b4 b5 mn me mx h n) (hB : B' ≤ B) : EndSt w B' bh bn br b4 b5 mn me mx h n :=
  ⟨E.hh, E.hn, E.hr, E.h4, E.h5, E.apart, by have := E.low; omega⟩
theorem underCut : Tryd.prog.underlying 23 = some (.struct (Tryd.prog.fieldsOf 23)) := by kernel_rfl
theorem stoodCut : Tryd.prog.stoodInHeld 23 = false := by kernel_rfl
theorem guardCut : Tryd.prog.eqGuardType Tryd.prog.depth 23 = false := by kernel_rfl
theorem partI (xs : Array Value) (o : Nat) (n : Int) (h : xs[o]? = some (.int .i64 n)) (w : World) : (part 3 xs o).run Tryd.prog w = .ok (.int .i64 n) w := by
  have := Tryd.underlying3
  simp [part, go_sem, this, h]
/-- A rule that may be is not the zero one. -/
theorem cutNeq (mn me mx : Int) (h : 1 ≤ mn) (w : World) : (binOp .eql 23 (.agg #[.int .i64 mn, .int .i64 me, .int .i64 mx]) (.agg #[.int .i64 0, .int .i64 0, .int .i64 0])).run Tryd.prog w = .ok (.bool false) w := by
  rw [run_eql_struct, run_equalIn_struct w 9999 _ _ _ underCut stoodCut]
  simp only [Program.fieldsOf, Tryd.underlying23]
  have e0 := fun W => partI #[.int .i64 mn, .int .i64 me, .int .i64 mx] 0 mn rfl W
  have f0 := fun W => partI #[.int .i64 0, .int .i64 0, .int .i64 0] 0 0 rfl W
  have q0 := fun W (a b : Int) => run_equalIn_int (P := Tryd.prog) W 9998 3 .i64 .i64 a b Tryd.underlying3
  have hne : ¬ mn = 0 := by omega
  simp [Op.eqFields, Sem.run_bind, e0, f0, q0, Result.andThen, hne]
set_option maxRecDepth 20000 in
set_option maxHeartbeats 1000000 in
theorem ready_any (w : World) (base z : Nat) (mn me mx : Int) (hv : Value) (hs : List UInt8) (bh bn br b4 b5 : Nat) (h : CuSt w base z mn me mx hv hs bh bn br b4 b5) : Calls Tryd.prog 38 #[ptr z] w fun e w' => e = .returned (.int .i64 0) ∧ w' = w := by
  have hm := (may_mx h.may).1
  have c0 : w.cell? ⟨z, 0, none⟩ = some (.int .i64 mn) := h.blk.cell 0
  have c1 : w.cell? ⟨z, 1, none⟩ = some (.int .i64 me) := h.blk.cell 1
  have c2 : w.cell? ⟨z, 2, none⟩ = some (.int .i64 mx) := h.blk.cell 2
  have c5 : w.cell? ⟨z, 5, none⟩ = some (.bool false) := h.blk.cell 5
  have hq := cutNeq mn me mx hm
  have hg1 := fun (x y : Operand) (a b : Array Value) (w : World) => run_eqGuard_agg (P := Tryd.prog) w .eql 23 x y a b guardCut
  clear h hm
  unfold ptr
  go_enter Tryd.func38, Tryd.ntmps38
  go_wp2_with (simp only [hg1, hq])
  go_ret
  exact ⟨rfl, rfl⟩
set_option maxRecDepth 20000 in
set_option maxHeartbeats 1000000 in
theorem give_any (w : World) (z : Nat) (cs : Array Value) (t : TypeId) (ao : Option Addr) (n c : Nat) (hb : Blk w z cs t) (hc : cs[4]? = some (.slice ao n c)) : Calls Tryd.prog 39 #[ptr z] w fun e w' => e = .returned (.slice ao n c) ∧ w' = w.setCell ⟨z, 4, none⟩ (.slice none 0 0) := by
  have c4 : w.cell? ⟨z, 4, none⟩ = some (.slice ao n c) := (hb.cell 4).trans hc
  have f4 := hb.frozen 4
  clear hb hc
  unfold ptr
  go_enter Tryd.func39, Tryd.ntmps39
  go_wp2
  go_ret
  exact ⟨rfl, rfl⟩
def NewC (w : World) (mn me mx : Int) (e : Ending) (w' : World) : Prop := ∃ z bh bn br b4 b5, e = .returned (.tuple #[ptr z, .int .i64 0]) ∧ CuSt w' w.heap.size z mn me mx (.slice none 0 0) [] bh bn br b4 b5 ∧ Below w.heap.size w w'
set_option maxRecDepth 20000 in
set_option maxHeartbeats 1000000 in
theorem new_none (w : World) (mn me mx : Int) (hm : mayB mn me mx = false) : Calls Tryd.prog 20 #[cutV mn me mx] w fun e w' => e = .returned (.tuple #[.pointer none, .int .i64 50]) ∧ Below w.heap.size w w' := by
  have HCh := hide (fun w => check_any mn me mx w)
  have HB0 := hide ((Below.refl w.heap.size w).alloc (Nat.le_refl _) (.cells #[.int .i64 mn, .int .i64 me, .int .i64 mx] 23))
  rw [chk_mayn hm] at HCh
  clear hm
  unfold cutV
  go_enter Tryd.func20, Tryd.ntmps20
  go_wp2_with fail
  refine (HCh.out _).mono ?_
  rintro e w1 ⟨rfl, hb1⟩
  have HB1 := hide (HB0.out.trans (hb1.mono HB0.out.size))
  clear hb1
  go_wp2
  go_ret2
  exact ⟨rfl, HB1.out⟩
set_option maxRecDepth 20000 in
set_option maxHeartbeats 1000000 in
theorem new_any (w : World) (hT : Tabs w) (mn me mx : Int) (hm : mayB mn me mx = true) : Calls Tryd.prog 20 #[cutV mn me mx] w (NewC w mn me mx) := by
  have HCh := hide (fun w => check_any mn me mx w)
  have HB0 := hide ((Below.refl w.heap.size w).alloc (Nat.le_refl _) (.cells #[.int .i64 mn, .int .i64 me, .int .i64 mx] 23))
  have HL0 : Hid (CutAt (w.alloc (.cells #[.int .i64 mn, .int .i64 me, .int .i64 mx] 23)) w.heap.size mn me mx) := hide (Blk.made w _ _)
  rw [chk_may hm] at HCh
  have HM := hide hm
  have HT := hide hT
  clear hm hT
  unfold cutV
  go_enter Tryd.func20, Tryd.ntmps20
  go_wp2_with fail
  refine (HCh.out _).mono ?_
  rintro e w1 ⟨rfl, hb1⟩
  have HB1 := hide (HB0.out.trans (hb1.mono HB0.out.size))
  have HL1 := hide (HL0.out.below hb1)
  clear hb1 HB0 HL0 HCh
  have hz1 : w.heap.size ≤ w1.heap.size := HB1.out.size
  have hbd : Below w1.heap.size w1 w1.drew := ⟨rfl, rfl, rfl, Nat.le_refl _, fun _ _ => rfl⟩
  have HE := hide (ender_any mn me mx w1.drew (HT.out.below (HB1.out.trans (hbd.mono hz1)) HT.out.size) HM.out)
  have HL2 := hide (HL1.out.below hbd)
  unfold cutV at HE
  have c0 : w1.drew.cell? ⟨w.heap.size, 0, none⟩ = some (.int .i64 mn) := HL2.out.cell 0
  have c1 : w1.drew.cell? ⟨w.heap.size, 1, none⟩ = some (.int .i64 me) := HL2.out.cell 1
  have c2 : w1.drew.cell? ⟨w.heap.size, 2, none⟩ = some (.int .i64 mx) := HL2.out.cell 2
  have hnl : w.heap.size < w1.drew.heap.size := HL2.out.lt
  go_wp2
  go_region_held3 (fun W => W.cell? ⟨w.heap.size, 0, none⟩ = some (.int .i64 mn) ∧ W.cell? ⟨w.heap.size, 1, none⟩ = some (.int .i64 me) ∧ W.cell? ⟨w.heap.size, 2, none⟩ = some (.int .i64 mx)) (first | exact ⟨c0, c1, c2⟩ | exact ⟨(hb2.cell (p := ⟨w.heap.size, 0, none⟩) hnl).trans c0, (hb2.cell (p := ⟨w.heap.size, 1, none⟩) hnl).trans c1, (hb2.cell (p := ⟨w.heap.size, 2, none⟩) hnl).trans c2⟩ | go_keep) (first | (refine HE.out.mono ?_; rintro e w2 ⟨bh, bn, br, b4, b5, rfl, hE, hb2⟩; unfold endV ptr))
  have HE2 := hide hE
  have HB2 := hide (HB1.out.trans ((hbd.trans hb2).mono hz1))
  have hz2 : w1.heap.size ≤ w2.heap.size := hb2.size
  clear hE hb2 c0 c1 c2 hnl hbd HL1 HL2
  go_wp2
  go_ret2
  have hmx := may_mx HM.out
  have E := HE2.out
  refine ⟨w2.heap.size, bh, bn, br, b4, b5, rfl, ⟨Blk.made w2 _ _, by omega, World.ownsRow_nil _ _ _ _, ?_, HM.out, by simp; omega, ?_, fun g hg => by cases hg⟩, HB2.out.alloc (by omega) _⟩
  · exact (E.below ((Below.refl _ _).alloc (Nat.le_refl _) _)).base (by show w.heap.size ≤ w1.heap.size; omega)
  · have := E.hh.lt; have := E.hn.lt; have := E.hr.lt; have := E.h4.lt; have := E.h5.lt
    omega
end Go.Proofs.YtamajnaeladehaaDoor
