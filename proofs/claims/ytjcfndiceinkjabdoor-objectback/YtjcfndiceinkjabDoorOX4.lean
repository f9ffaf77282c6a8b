/- ObjectBack: for every input the call returns true, and each argument reads afterwards as it read before: the tied card. Its condition: the five listed variables start as the program's text lays them. -/
import Derived.Test.YtjcfndiceinkjabDoorOX3
import Derived.Test.YtjcfndiceinkjabDoorOMm
import Derived.Test.YtjcfndiceinkjabDoorRows
import Derived.Test.YtjcfndiceinkjabDoorCards
import Derived.Test.YtjcfndiceinkjabDoorTie
import Derived.ChangeSame
import Derived.ChangeVars
import Derived.JoinedOf
import Derived.RowKit
import Derived.RowKitTokens
import Derived.LaidLaws
import Derived.LaidHandle
import Derived.Stop.Joined
import Derived.Stop.LaidErr
import Derived.Lib.LaidTab
import Derived.Lib.LaidIn
import Derived.Lib.LaidU8T
import Derived.ProofKit
import Derived.OpenShut
import Derived.SevenTiedAt
import Derived.SizedLaws
namespace Go.Proofs.YtjcfndiceinkjabDoor
set_option linter.unusedVariables false
set_option linter.unusedSimpArgs false
open Go.ChangeShapes Go.WideShapes Go.RowKit Go.Lib Go.Deep

def laidCells (cs : Array Value) : Obj → Obj
  | .cells _ t frozen => .cells cs t frozen
  | o => o
def kInts : List Int := Kt.map fun x : Nat => (x : Int)
def bInts : List Int := begin8.nats.map fun x : Nat => (x : Int)
/-- A world that meets the condition: the settled one, the five variables laid. -/
noncomputable def laidWorld (os : Os) : World :=
  let w0 := World.holding Tryd.prog os ⟨#[], #[], []⟩
  { w0 with heap := ((((w0.heap.modify 2 (laidCells (Lib.firstTab.map fun z => Value.int .u8 z).toArray)).modify 3 (laidCells ((List.range 16).flatMap fun i => [Value.int .u8 (Lib.accLo i), Value.int .u8 (Lib.accHi i)]).toArray)).modify 1 (laidCells (kInts.map fun z => Value.int .u64 z).toArray)).modify 0 (laidCells (bInts.map fun z => Value.int .u64 z).toArray)).modify 4 (laidCells (kInts.map fun z => Value.int .u32 z).toArray) }
theorem dFirst : Rows.laid_unicode_utf8_first = Lib.firstData := by kernel_rfl
theorem dAcc : (Rows.laid_unicode_utf8_acceptRanges : DataW Unit) = Lib.acceptData := by kernel_rfl
theorem d0 : (Rows.laid_gleaner_gleanerref02_added : DataW Unit) = Lib.tabData .u64 kInts := by kernel_rfl
theorem d1 : (Rows.laid_gleaner_gleanerref02_begin : DataW Unit) = Lib.tabData .u64 bInts := by kernel_rfl
theorem d2 : (Rows.laid_gleaner_sha_added : DataW Unit) = Lib.tabData .u32 kInts := by kernel_rfl
theorem laid_met {W : World} (h : laidMetH Tryd.prog Rows.objectBackRow.laid W) : laidMet Tryd.prog [("unicode/utf8.acceptRanges", Lib.acceptData), ("gleaner/gleanerref02.added", Lib.tabData .u64 kInts), ("gleaner/gleanerref02.begin", Lib.tabData .u64 bInts), ("gleaner/sha.added", Lib.tabData .u32 kInts), ("unicode/utf8.first", Lib.firstData)] W := by
  rw [← dFirst, ← dAcc, ← d0, ← d1, ← d2]
  exact h
theorem laidWorld_met (os : Os) (args : Array Value) : laidMetH Tryd.prog Rows.objectBackRow.laid ((laidWorld os).forCall (fun _ _ => 0) ⟨#[], args, []⟩).memory :=
  show laidMet Tryd.prog [("unicode/utf8.acceptRanges", Rows.laid_unicode_utf8_acceptRanges), ("gleaner/gleanerref02.added", Rows.laid_gleaner_gleanerref02_added), ("gleaner/gleanerref02.begin", Rows.laid_gleaner_gleanerref02_begin), ("gleaner/sha.added", Rows.laid_gleaner_sha_added), ("unicode/utf8.first", Rows.laid_unicode_utf8_first)] _ from laidMet_of_run' 8 (by kernel_rfl) (by kernel_rfl)
theorem tabs8_of_laid {W : World} (h : laidMetH Tryd.prog Rows.objectBackRow.laid W) : Tabs8 W :=
  utf8Tabs_of_readsT (U8Types.of196 laysV) ⟨by kernel_rfl, by kernel_rfl, by kernel_rfl, by kernel_rfl, by kernel_rfl, by kernel_rfl, by kernel_rfl⟩ (Lib.laidMet.reads (laid_met h) (.tail _ (.tail _ (.tail _ (.tail _ (.head _)))))) (Lib.laidMet.reads (laid_met h) (.head _))
theorem g0 : Tryd.prog.globalNamed "gleaner/gleanerref02.added" = some 1 := by kernel_rfl
theorem g1 : Tryd.prog.globalNamed "gleaner/gleanerref02.begin" = some 0 := by kernel_rfl
theorem g2 : Tryd.prog.globalNamed "gleaner/sha.added" = some 4 := by kernel_rfl
theorem tab0 {W : World} (h : laidMetH Tryd.prog Rows.objectBackRow.laid W) : Lib.TabIs Tryd.prog W "gleaner/gleanerref02.added" .u64 kInts :=
  Lib.tabIs_of_head (g := 1) (t := 113) (e := 47) (n := 64) (by kernel_rfl) (by kernel_rfl) Tryd.underlying113 Tryd.underlying47 (by kernel_rfl) (by kernel_rfl) (laidMet.tail (laid_met h))
theorem tab1 {W : World} (h : laidMetH Tryd.prog Rows.objectBackRow.laid W) : Lib.TabIs Tryd.prog W "gleaner/gleanerref02.begin" .u64 bInts :=
  Lib.tabIs_of_head (g := 0) (t := 109) (e := 47) (n := 8) (by kernel_rfl) (by kernel_rfl) Tryd.underlying109 Tryd.underlying47 (by kernel_rfl) (by kernel_rfl) (laidMet.tail (laidMet.tail (laid_met h)))
theorem tab2 {W : World} (h : laidMetH Tryd.prog Rows.objectBackRow.laid W) : Lib.TabIs Tryd.prog W "gleaner/sha.added" .u32 kInts :=
  Lib.tabIs_of_head (g := 4) (t := 147) (e := 68) (n := 64) (by kernel_rfl) (by kernel_rfl) Tryd.underlying147 Tryd.underlying68 (by kernel_rfl) (by kernel_rfl) (laidMet.tail (laidMet.tail (laidMet.tail (laid_met h))))
theorem ints_at (l : List Nat) (k : IntKind) (t : Nat) (ht : t < l.length) : ((l.map fun x : Nat => (x : Int)).map fun z => Value.int k z).toArray[t]? = some (.int k ((l[t]?.getD 0 : Nat) : Int)) := by
  rw [List.getElem?_toArray, List.getElem?_map, List.getElem?_map, List.getElem?_eq_getElem ht]; rfl
theorem tabs_of_laid {W : World} (h : laidMetH Tryd.prog Rows.objectBackRow.laid W) : Tabs W := by
  have c0 : ∀ t, t < 64 → W.cell? ⟨1, t, none⟩ = some (u64c (Kt[t]?.getD 0)) := fun t ht => (World.var?_cell g0 (tab0 h) t).trans (ints_at Kt .u64 t ht)
  have c1 : ∀ t, t < 8 → W.cell? ⟨0, t, none⟩ = some (u64c (begin8.nats[t]?.getD 0)) := fun t ht => (World.var?_cell g1 (tab1 h) t).trans (ints_at begin8.nats .u64 t ht)
  have c2 : ∀ t, t < 64 → W.cell? ⟨4, t, none⟩ = some (u32c (Kt[t]?.getD 0)) := fun t ht => (World.var?_cell g2 (tab2 h) t).trans (ints_at Kt .u32 t ht)
  exact ⟨World.block_lt_of_cell? W _ (c2 0 (by decide)), c0, c1, c2⟩
set_option maxRecDepth 100000 in
theorem back_lifted (os : Os) (started : os.Started) (H : Type) (enc : TypeId × Value → H) :
    ReturnsInHanded {} Tryd.checked os 3 .any (fun w args => (Rows.objectBackSpec.pre enc Tryd.prog Tryd.f3 [] false w args ∧ laidMetH Tryd.prog Rows.objectBackRow.laid w) ∧ sizedMet enc Tryd.prog Tryd.f3 (OpenSpec.ofChange Rows.objectBackSpec) false w args)
      (Rows.objectBackSpec.post enc Tryd.prog Tryd.f3 false true false false) := by
  refine returnsInHanded_of_change_and (C := Tryd.checked) (X := fun w _ => laidMetH Tryd.prog Rows.objectBackRow.laid w) (fun _ _ _ hh h => h.of_heap hh) own started (by kernel_rfl) Tryd.func3
    (ChangeSpec.witness_at (enc := enc) (C := Tryd.checked) (os := os) (X := fun w _ => laidMetH Tryd.prog Rows.objectBackRow.laid w) false (laidWorld os) #[zeroArg, .slice none 0 0] 8 rfl (by kernel_rfl) (by kernel_rfl) (by kernel_rfl) (by kernel_rfl) (by kernel_rfl) (laidWorld_met os _)) ?_
  intro W base args ds gs before hval0 hW _ hsz0 hL _
  have hsz : (DataW.weightsEach Tryd.prog (Tryd.f3.params.toList ++ Rows.objectBackSpec.plain.varTypes Tryd.prog) (ds ++ gs)).all (· ≤ reachBytes) = true := hsz0
  have hval : ∀ (j : Nat) t v, Tryd.f3.params[j]? = some t → args[j]? = some v → Value.okWide Tryd.prog W .any base t v := hval0
  have hW' := hW
  obtain ⟨p, q, hA0, hV0, rfl, hfz, hnd⟩ := hW
  have hA : DataW.TrodAll enc Tryd.prog W 0 (fun _ => true) true Tryd.f3.params.toList args.toList ds p := hA0
  have hV : DataW.TrodVars enc Tryd.prog W (fun _ => true) [] gs q := hV0
  rw [Tryd.params3] at hA hval hsz
  obtain ⟨v0, vs0, d0, ds0, p0, q0, hargs, rfl, rfl, h0, r0⟩ := trodAll_cons hA
  obtain ⟨v1, vs1, d1, ds1, p1, q1, rfl, rfl, rfl, h1, r1⟩ := trodAll_cons r0
  obtain ⟨rfl, rfl, rfl⟩ := trodAll_nil r1
  obtain rfl : args = #[v0, v1] := by cases args; simp_all
  obtain ⟨rfl, rfl⟩ : gs = [] ∧ q = [] := by
    cases gs with
    | nil => exact ⟨rfl, hV⟩
    | cons g r => exact absurd hV (by intro h; cases h)
  have k0 := h0
  have k1 := h1
  have lt0 : ∀ x ∈ p0, x.block < W.heap.size := by obtain ⟨m, hm⟩ := k0; exact DataW.trod_lt m _ _ _ hm
  have lt1 : ∀ x ∈ p1, x.block < W.heap.size := by obtain ⟨m, hm⟩ := k1; exact DataW.trod_lt m _ _ _ hm
  obtain ⟨cs0, rfl, hcs0⟩ := okWide_struct Tryd.underlying30 (hval 0 30 v0 rfl rfl)
  obtain ⟨a1, len1, cap1, rfl⟩ := okWide_slice Tryd.underlying23 (hval 1 23 v1 rfl rfl)
  obtain ⟨fuel0, hf0⟩ := h0
  obtain ⟨fuel1, hf1⟩ := h1
  obtain ⟨x, vx, a0, a4, a6, a7, add, adp, adi, adk, hx, hrx, htx, hdx, hx1, hx2, hx3, hx4⟩ := open_objD hf0
  obtain ⟨vb, bs, hvb, hrb, hbs⟩ := open_bytesC hf1
  obtain rfl : Value.slice a1 len1 cap1 = vb := (List.cons.inj hvb).1
  have hdx' : d0 = .agg [a0, add, adp, adi, a4, adk, a6, a7] := hdx
  have sx : ObjSz x := objSz_of hsz (j := 0) rfl (by rw [hdx']; rfl) hx1 hx2 hx3 hx4
  have ex : Value.agg cs0 = .agg (objL x vx).toArray := by rw [← hx]; rfl
  clear hA0 hval0 hsz0
  have hkids : (kidsO x).length ≤ 9223372036854775807 := by
    have h1 := sx.p
    have h2 := sx.i
    have h3 := sx.k
    unfold kidsO
    split
    · simp; omega
    split
    · simp; omega
    split
    · simp; omega
    · simp
  have hlaw := back_law W (tabs8_of_laid hL) (tabs_of_laid hL) x vx hrx htx sx hkids _ bs hrb
  rw [← ex] at hlaw
  refine hlaw.mono fun e W' ⟨he, bel⟩ => ?_
  subst he
  exact ⟨_, rfl, _, _, _, [], _, [], hW', trodAll_mk1 (shut_bool Tryd.underlying4 true), (trodAll_cons_mk (Below.trod laidOut (by kernel_rfl) (of_decide_eq_true (by kernel_rfl)) k0 bel lt0) (trodAll_cons_mk (Below.trod laidOut (by kernel_rfl) (of_decide_eq_true (by kernel_rfl)) k1 bel lt1) trodAll_mk0)), rfl, bel.frame _, fun h => by cases h⟩
theorem back_holds : Rows.ObjectBackSaid :=
  OpenClaim.holds_of_wide 3 Tryd.f3 rfl rfl rfl rfl rfl rfl rfl ⟨rfl, rfl, rfl, rfl, rfl⟩ rfl rfl rfl rfl rfl (by kernel_rfl) Tryd.func3 (by kernel_rfl)
    (of_decide_eq_true (by kernel_rfl)) (by unfold Func.isWrapper; first | (rw [if_pos (by decide +kernel)]; kernel_rfl) | (rw [if_neg (by decide +kernel)]; exact ⟨rfl, rfl⟩))
    (fun os started H enc _ => back_lifted os started H enc)

theorem objectBackCard_holds : Rows.ObjectBackCardSaid :=
  Claim7.holds_tied_plain_at .later [] [.data, .data, .data, .data, .pinned] true (true, "60d735b5b01911bea0954c497b52dee0b03f3b57314d0bb9bb93c12371ab2c1d") false
    back_holds (fun _ h => by cases h) (by kernel_rfl) (fun _ h => by cases h) objectBack_row_tie rfl ⟨rfl, rfl⟩ (by kernel_rfl) rfl
    (fun f fn hf hfn => by
      obtain rfl : f = 3 := Option.some.inj ((show Tryd.prog.funcNamed "gleaner/gleanerlaw04.ObjectBack" = some 3 by kernel_rfl).symm.trans hf) |>.symm
      obtain rfl : fn = Tryd.f3 := (Option.some.inj (Tryd.func3.symm.trans hfn)).symm
      exact ⟨by kernel_rfl, fun j t ht => by
        rw [Tryd.params3] at ht
        rcases j with _ | _ | j
        · obtain rfl : t = 30 := by simpa using ht.symm
          exact (show Tryd.prog.wantsStandIn 30 = false by kernel_rfl)
        · obtain rfl : t = 23 := by simpa using ht.symm
          exact (show Tryd.prog.wantsStandIn 23 = false by kernel_rfl)
        · simp at ht⟩)
    (by kernel_rfl)
#print axioms objectBackCard_holds
end Go.Proofs.YtjcfndiceinkjabDoor
