/- maps.Keys over a set of keys: what its iterator tells. -/
import Derived.Test.YtnloglecfbhpcaaKN2
import Derived.Test.YtnloglecfbhpcaaKRF1
import Derived.Sort.MapsRangeIn
import Derived.Sort.CutIn
import Derived.LoopIn
import Derived.LoopNIn
import Derived.TacticsInMore
namespace Go.Proofs.Ytnloglecfbhpcaa
set_option linter.unusedVariables false
set_option linter.unusedSimpArgs false
open Go.RowKit
open Go.Maps (Keyed)
set_option maxRecDepth 100000

/-- Maps, and walks through them, stay as they are. -/
structure KeepM (W W' : World) : Prop where
  size : W.heap.size ≤ W'.heap.size
  map : ∀ (k : Nat) (es : Array MapEntry) (c : Nat), W.heap[k]? = some (.map es c) → W'.heap[k]? = W.heap[k]?
  itr : ∀ (k : Nat) (m : Option Nat) (s : Nat) (seen : Array Nat) (c : Nat), W.heap[k]? = some (.mapIter m s seen c) → W'.heap[k]? = W.heap[k]?
theorem KeepM.refl (W : World) : KeepM W W := ⟨Nat.le_refl _, fun _ _ _ _ => rfl, fun _ _ _ _ _ _ => rfl⟩
theorem KeepM.trans {A B C : World} (h : KeepM A B) (k : KeepM B C) : KeepM A C := ⟨Nat.le_trans h.size k.size, fun i es c h1 => (k.map i es c ((h.map i es c h1).trans h1)).trans (h.map i es c h1), fun i m s sn c h1 => (k.itr i m s sn c ((h.itr i m s sn c h1).trans h1)).trans (h.itr i m s sn c h1)⟩
theorem KeepM.below {A B : World} (h : Below A.heap.size A B) : KeepM A B := ⟨h.size, fun i _ _ h1 => h.block i (Array.getElem?_eq_some_iff.1 h1).1, fun i _ _ _ _ h1 => h.block i (Array.getElem?_eq_some_iff.1 h1).1⟩
theorem KeepM.keeping : Keeping KeepM := ⟨fun _ _ _ h k => h.trans k, fun W l q o' h => ⟨by simp, fun i es c h1 => by
  by_cases e : i = l
  · rw [e, h] at h1; cases h1
  · exact World.putObj_heap_other e, fun i m s sn c h1 => by
  by_cases e : i = l
  · rw [e, h] at h1; cases h1
  · exact World.putObj_heap_other e⟩⟩
theorem KeepM.grown {A B : World} {row : Option Nat} (h : A.grownBy B row) (hr : ∀ r, row = some r → ∃ (cs : Array Value) (t : TypeId) (fz : Nat × Nat), A.heap[r]? = some (Obj.cells cs t fz)) : KeepM A B :=
  ⟨h.size, fun i es c h1 => h.block i (Array.getElem?_eq_some_iff.1 h1).1 (fun e => by
    obtain ⟨cs, t, fz, h2⟩ := hr i e.symm
    rw [h2] at h1; cases h1), fun i m s sn c h1 => h.block i (Array.getElem?_eq_some_iff.1 h1).1 (fun e => by
    obtain ⟨cs, t, fz, h2⟩ := hr i e.symm
    rw [h2] at h1; cases h1)⟩
/-- A walk through a map goes on behind whatever keeps maps. -/
theorem ranges_keepM {W W' : World} {b r n cnt : Nat} {D : DataW Unit} {left : Lit → Bool} (h : W.ranges Try.prog 38 unitElem b r n D left cnt) (k : KeepM W W') : W'.ranges Try.prog 38 unitElem b r n D left cnt := by
  obtain ⟨es, clock, since, seen, c0, hb, F, hs, hD, hr, rest⟩ := h
  exact ⟨es, clock, since, seen, c0, (k.map _ _ _ hb).trans hb, F, hs, hD, (k.itr _ _ _ _ _ hr).trans hr, rest⟩
theorem ranges_itr {W : World} {b r n cnt : Nat} {D : DataW Unit} {left : Lit → Bool} (h : W.ranges Try.prog 38 unitElem b r n D left cnt) : ∃ o : Obj, W.heap[r]? = some o ∧ o.isCells = false := by
  obtain ⟨es, clock, since, seen, c0, hb, F, hs, hD, hr, rest⟩ := h
  exact ⟨_, hr, rfl⟩
theorem ownFrom_bel {β : Type} {B : Nat} {J : β → World → Prop} (h : OwnFrom B J) {s : β} {A C : World} (hs : J s A) (hb : Below A.heap.size A C) : J s C := h s A C none hs (grownBy_below hb) (fun r e => by cases e)
def keV (x : K32) : Array Value := #[keyV x.1]
/-- All keys of a set, each once. -/
def kyS (S : List (List UInt8)) (xs : List K32) : Prop := xs.Nodup ∧ ∀ x : K32, x ∈ xs ↔ x.1 ∈ S
def kyFit (S : List (List UInt8)) (pre : List K32) (x : K32) (_ _ : World) : Prop := x.1 ∈ S ∧ x ∉ pre ∧ pre.Nodup ∧ ∀ y ∈ pre, y.1 ∈ S
theorem name_worldInK {F : Fence} {n : Nat} {P : Program} {c : Code} {Q : Exit → Act → World → Prop} {a : Act} {w : World} (R : World → Prop) (h : R w) (k : ∀ W, R W → c.wpIn F n P Q a W) : c.wpIn F n P Q a w := k w h
theorem results_noneK {fn : Func} (h : fn.results = #[]) (tmps : Array Value) (w : World) : (results fn tmps).run Try.prog w = .ok (.tuple #[]) w := by
  simp [results, h, go_sem]
theorem wpListIn_keyK {F : Fence} {n : Nat} {ops : Array Oper} {rest : List Oper} {o : Oper} {a : Act} {w : World} {Q : Exit → Act → World → Prop} (x : Operand) (z : Nat) (bs : List UInt8) (hk : KeyAt w z bs) (ho : o.op = .load 38 x) (hx : a.eval x = .pointer (some ⟨z, 0, none⟩)) (hg : o.guard = none) (h : wpListIn F n Try.prog ops Q rest (a.put o.dst (keyV bs)) w) : wpListIn F n Try.prog ops Q (o :: rest) a w := by
  refine wpListIn_plain hg fun K' hK' => ?_
  unfold Oper.wpIn
  refine ⟨by simp [Oper.about, ho], ?_⟩
  rw [Oper.semAt_plain F _ _ (by rw [ho]; intro c hc'; cases hc'), run_load ho hx hk.load]
  exact hK' _ _ h
theorem kyS_of {S : List (List UInt8)} {pre : List K32} {left : Lit → Bool} (h1 : pre.Nodup) (h2 : ∀ x : K32, x ∈ pre ↔ (x.1 ∈ S ∧ left (.string x.1) = false)) (h3 : ∀ kl, left kl = false) : kyS S pre := ⟨h1, fun x => (h2 x).trans ⟨fun h => h.1, fun h => ⟨h, h3 _⟩⟩⟩
set_option maxHeartbeats 4000000 in
theorem keys_fit (n : Nat) (w : World) (b : Nat) (S : List (List UInt8)) (hS : KSet w b S) (bm : Nat) (hb : Blk w bm #[.map (some b)] 53) :
    SeqKp Fence.wide n Try.prog 52 #[.pointer (some ⟨bm, 0, none⟩)] keV KeepM (kyS S) (kyFit S) w := by
  intro l J Jx W hW hJ hJx hY h0
  refine callsIn_of_wp Try.func52 rfl trivial ?_ rfl
  simp only [Try.ntmps52, List.size_toArray, List.length_cons, List.length_nil, Nat.reduceAdd, Nat.reduceSub, Array.replicate_succ, Array.replicate_zero, List.push_toArray, List.append_toArray, List.nil_append, List.cons_append]
  have HY := hide hY
  have HJ := hide hJ
  have hB := hb.below hW hb.lt
  obtain ⟨D, hown, hhas, hsize⟩ := hS.below hW
  have HHas := hide hhas
  have cb : W.cell? ⟨bm, 0, none⟩ = some (.map (some b)) := by rw [hB.cell]; rfl
  have hbl := hB.lt
  have HJ0 := hide h0
  clear hY hb hJ hJx hW h0 hS hhas hB
  gi_wp2_with (refine wpListIn_range_own W rfl (.tmp 4) 53 rfl 38 71 keyedK undMapK unitElem b S.length D rfl hown ?_; intro W2 hr2 hg2 hs2; have HR2 := hide hr2; have HG2 := hide hg2; clear hr2 hg2 hs2)
  have hb2 : Below W.heap.size W W2 := ⟨HG2.out.os, HG2.out.tape, HG2.out.output, HG2.out.size, fun i hi => HG2.out.block i hi (by simp)⟩
  have HJ2 := hide (ownFrom_bel HJ.out HJ0.out hb2)
  generalize W.heap.size = r at *
  clear hb2 HG2 HJ0 hown cb hbl hsize
  simp only [Act.put, List.setIfInBounds_toArray, List.set_cons_zero, List.set_cons_succ]
  gi_loopw [7] (fun _ wr => ∃ (pre : List K32) (left : Lit → Bool) (cnt : Nat), J pre wr ∧ wr.ranges Try.prog 38 unitElem b r S.length D left cnt ∧ pre.Nodup ∧ (∀ x : K32, x ∈ pre ↔ (x.1 ∈ S ∧ left (.string x.1) = false)) ∧ (∀ x : K32, left (.string x.1) = true → x.1 ∈ S)) (fun _ wr => wr.rangeLeft b r)
  case atStart =>
    refine ⟨[], _, _, HJ2.out, HR2.out, List.nodup_nil, fun x => ?_, fun x h => ?_⟩
    · rw [HHas.out x.1 x.2]; simp
    · rw [HHas.out x.1 x.2] at h; simpa using h
  case round =>
    clear HJ2 HR2
    obtain ⟨pre, left, cnt, hJp, hrg, hnd, hmem, hlf⟩ := hrel
    have HJp := hide hJp
    have HRG := hide hrg
    have HND := hide hnd
    have HME := hide hmem
    have HLF := hide hlf
    have HCL := hide hrg.left_eq
    clear hJp hrg hnd hmem hlf
    gi_wp2_with (refine wpListIn_next_ranges wr rfl (.tmp 5) rfl 38 keyedK unitElem (fun y : K32 => keyV y.1) (fun _ : Unit => Value.agg #[]) invKey invUnit b r S.length D left cnt rfl HRG.out ?_ ?_)
    · intro h0 hall
      have HE : Hid (kyS S pre) := hide (kyS_of HND.out HME.out hall)
      clear h0 hall
      gi_wp2
      refine bodyPost_end (results_noneK rfl _ _) rfl ?_
      exact ⟨⟨_, rfl⟩, .inl ⟨pre, HE.out, HJp.out⟩⟩
    · intro x hx kl y1 y2 w1 cnt1 hkey hlk hv hat hrg hlt hg hs hen
      have hkl : kl = .string x := by
        rw [keyOf_key x hx] at hkey
        exact (Option.some.inj hkey).symm
      subst hkl
      have hxS : x ∈ S := HLF.out ⟨x, hx⟩ hlk
      have hxn : (⟨x, hx⟩ : K32) ∉ pre := fun h => by
        have h2 := ((HME.out _).1 h).2
        have h3 : left (.string x) = false := h2
        rw [hlk] at h3; cases h3
      have HJ1 : Hid (J pre w1) := hide (HJ.out pre wr w1 (some r) HJp.out hg (fun q e => by cases e; exact ⟨Nat.le_refl _, ranges_itr HRG.out⟩))
      have HR1 := hide hrg
      have HX := hide hx
      have HLT : Hid (∀ W' : World, W'.ranges Try.prog 38 unitElem b r S.length D (fun z => left z && !z.sameKey (.string x)) cnt1 → W'.rangeLeft b r < wr.rangeLeft b r) := hide (fun W' h => by rw [h.left_eq, HCL.out]; exact hlt)
      have HND1 : Hid ((pre ++ [(⟨x, hx⟩ : K32)]).Nodup) := hide (by
        rw [List.nodup_append]
        refine ⟨HND.out, by simp, fun a ha c hc e => ?_⟩
        simp at hc
        subst hc
        subst e
        exact hxn ha)
      have HME1 : Hid (∀ y : K32, y ∈ pre ++ [(⟨x, hx⟩ : K32)] ↔ (y.1 ∈ S ∧ (fun z : Lit => left z && !z.sameKey (.string x)) (.string y.1) = false)) := hide (fun y => by
        have h1 := met_next (left := left) hx hxS y.1
        unfold Met at h1
        rw [List.mem_append, HME.out y]
        have h2 : (y.1.length = 32 ∧ y.1 ∈ S ∧ (fun z : Lit => left z && !z.sameKey (.string x)) (.string y.1) = false) ↔ (y.1 ∈ S ∧ (fun z : Lit => left z && !z.sameKey (.string x)) (.string y.1) = false) := ⟨fun h => h.2, fun h => ⟨y.2, h⟩⟩
        rw [← h2, h1]
        constructor
        · rintro (h | h)
          · exact .inl ⟨y.2, h⟩
          · simp at h
            exact .inr (by rw [h])
        · rintro (h | h)
          · exact .inl h.2
          · right
            simp
            exact Subtype.ext h)
      have HLF1 : Hid (∀ y : K32, (fun z : Lit => left z && !z.sameKey (.string x)) (.string y.1) = true → y.1 ∈ S) := hide (fun y h => HLF.out y (by
        have h' : (left (.string y.1) && !(Lit.string y.1).sameKey (.string x)) = true := h
        rw [Bool.and_eq_true] at h'
        exact h'.1))
      have HFit : Hid (kyFit S pre ⟨x, hx⟩ wr wr) := hide ⟨hxS, hxn, HND.out, fun y hy => ((HME.out y).1 hy).1⟩
      obtain ⟨left1, hl1⟩ : ∃ l, l = (fun z : Lit => left z && !z.sameKey (.string x)) := ⟨_, rfl⟩
      rw [← hl1] at HR1 HLT HME1 HLF1
      clear hkey hlk hv hat hrg hlt hg hs hxS hxn hl1
      gi_upto_region 2 with fail
      refine wpIn_wide.2 ?_
      go_wp2_with ((with_reducible refine wpList_put_key ?_ (.tmp 3) (.tmp 9) ?_ w1.heap.size ?_ w1 ?_ ?_ x HX.out ?_ ?_); rfl; rfl; rfl; rfl; rfl; rfl; intro w2 HK2 hb2; have HJ3 := hide (ownFrom_bel HJ.out HJ1.out hb2); have HR3 := hide (ranges_keepM HR1.out (KeepM.below hb2)); clear hb2)
      obtain ⟨fn, tmps, assign, bod, hy, hR⟩ := HY.out pre ⟨x, hx⟩ w2 w2 HJ3.out (Below.refl _ _) HFit.out
      unfold keV at hy
      dsimp only at hy
      have HR := hide hR
      clear hR hen
      simp only [Act.put]
      gi_wp2_with ((with_reducible refine wpListIn_keyK (.tmp 3) w1.heap.size x HK2.out ?_ ?_ ?_ ?_); rfl; rfl; rfl)
      refine ⟨fun h => (by cases h), ?_⟩
      refine HR.out.mono ?_
      rintro e W3 (⟨rfl, hJ4, hk4⟩ | ⟨rfl, hJx4⟩)
      · have HJ4 := hide hJ4
        have HR4 := hide (ranges_keepM HR3.out hk4)
        clear hJ4 hk4 HR hy
        gi_wp2
        go_roundw
        case rel => exact ⟨pre ++ [⟨x, hx⟩], left1, cnt1, HJ4.out, HR4.out, HND1.out, HME1.out, HLF1.out⟩
        case measure => exact HLT.out _ HR4.out
      · have HX4 := hide hJx4
        clear hJx4 HR hy
        gi_wp2
        refine bodyPost_ret (results_noneK rfl _ _) rfl ?_
        exact ⟨⟨_, rfl⟩, .inr ⟨_, HX4.out⟩⟩
end Go.Proofs.Ytnloglecfbhpcaa
