/- Opening an object: its lists, its numbers in their ranges, its sizes. -/
import Derived.Test.YtjcfndiceinkjaaDoorOC10
import Derived.Test.YtjcfndiceinkjaaDoorOM0
import Derived.SizedLaws
namespace Go.Proofs.YtjcfndiceinkjaaDoor
set_option linter.unusedVariables false
set_option linter.unusedSimpArgs false
open Go.ChangeShapes Go.WideShapes Go.RowKit Go.Deep

def okP2 (p : PartR) : Prop := okP p ∧ p.2 ≤ 18446744073709551615
def okI2 (i : ItemR) : Prop := okI i ∧ i.2.1 ≤ 255 ∧ i.2.2.1 ≤ 18446744073709551615
theorem open_partD {H : Type} {enc : TypeId × Value → H} {W : World} {fuel : Nat} {cs : List Value} {x : DataW H × List MemPlace}
    (h : DataW.trod enc Tryd.prog W 0 (fun _ => true) true fuel 47 cs = some x) : ∃ p : PartR, okP2 p ∧ cs = partC p := by
  obtain ⟨y0, y1, n, hx, hlen, f0, f1⟩ := trod_struct2 Tryd.underlying47 h
  rw [cellsPart] at hlen
  simp only [cellsKey, cellsU64] at f0 f1
  obtain ⟨k, hk, ek⟩ := open_keyC f0
  obtain ⟨z, ez, _, hz⟩ := DataW.trod_int Tryd.underlying45 f1
  have hb : 0 ≤ z ∧ z ≤ 18446744073709551615 := by simpa [Lit.wf, IntKind.min, IntKind.max, IntKind.signed, IntKind.bits] using hz
  refine ⟨(k, z.toNat), ⟨hk, by show z.toNat ≤ _; omega⟩, ?_⟩
  unfold partC
  rw [show ((z.toNat : Nat) : Int) = z from Int.toNat_of_nonneg hb.1, ← ek, ← ez, List.drop_zero]
  rw [List.take_of_length_le (l := cs.drop 32) (by rw [List.length_drop]; omega), List.take_append_drop]
theorem open_itemD {H : Type} {enc : TypeId × Value → H} {W : World} {fuel : Nat} {cs : List Value} {x : DataW H × List MemPlace}
    (h : DataW.trod enc Tryd.prog W 0 (fun _ => true) true fuel 50 cs = some x) : ∃ p : ItemR, okI2 p ∧ cs = itemC p := by
  obtain ⟨y0, y1, y2, y3, n, hx, hlen, f0, f1, f2, f3⟩ := Joins.trod_struct4 Tryd.underlying50 h
  rw [cellsItem] at hlen
  simp only [cellsKey, cellsU64, cellsMode, cellsStr] at f0 f1 f2 f3
  obtain ⟨k, hk, ek⟩ := open_keyC f3
  obtain ⟨s, es, _, hs⟩ := DataW.trod_string Tryd.underlying9 f0
  obtain ⟨z, ez, _, hz⟩ := DataW.trod_int Tryd.underlying45 f2
  obtain ⟨m, em, _, hm⟩ := DataW.trod_int Tryd.underlying48 f1
  have hb : 0 ≤ z ∧ z ≤ 18446744073709551615 := by simpa [Lit.wf, IntKind.min, IntKind.max, IntKind.signed, IntKind.bits] using hz
  have hmb : 0 ≤ m ∧ m ≤ 255 := by simpa [Lit.wf, IntKind.min, IntKind.max, IntKind.signed, IntKind.bits] using hm
  refine ⟨(s.data.toList, m.toNat, z.toNat, k), ⟨hk, by show m.toNat ≤ _; omega, by show z.toNat ≤ _; omega⟩, ?_⟩
  have e := cut4i cs hlen
  rw [ek, es, ez, em] at e
  rw [e]
  unfold itemC
  rw [show ((z.toNat : Nat) : Int) = z from Int.toNat_of_nonneg hb.1, show ((m.toNat : Nat) : Int) = m from Int.toNat_of_nonneg hmb.1]
  rfl
theorem open_objD {H : Type} {enc : TypeId × Value → H} {W : World} {fuel : Nat} {cs : List Value} {x : DataW H × List MemPlace}
    (h : DataW.trod enc Tryd.prog W 0 (fun _ => true) true fuel 30 cs = some x) :
    ∃ (o : ObjR) (v : ObjV) (y0 y4 y6 y7 dd dp di dk : DataW H), cs = objL o v ∧ ObjRd W o v ∧ TxtSz o ∧ x.1 = .agg [y0, dd, dp, di, y4, dk, y6, y7] ∧
      (o.data.length = 0 ∨ ∃ e s, dd = .slice e s ∧ o.data.length = e.length) ∧ (o.parts.length = 0 ∨ ∃ e s, dp = .slice e s ∧ o.parts.length = e.length) ∧ (o.items.length = 0 ∨ ∃ e s, di = .slice e s ∧ o.items.length = e.length) ∧ (o.parents.length = 0 ∨ ∃ e s, dk = .slice e s ∧ o.parents.length = e.length) := by
  obtain ⟨y0, y1, y2, y3, y4, y5, y6, y7, n, hx, hlen, f0, f1, f2, f3, f4, f5, f6, f7⟩ := trod_struct8 Tryd.underlying30 h
  rw [cellsObj] at hlen
  simp only [cellsKind, cellsSD, cellsSP, cellsSI, cellsKey, cellsSK, cellsI64, cellsStr] at f0 f1 f2 f3 f4 f5 f6 f7
  obtain ⟨kd, ekd, _, hkd⟩ := DataW.trod_int Tryd.underlying22 f0
  have hkb : 0 ≤ kd ∧ kd ≤ 255 := by simpa [Lit.wf, IntKind.min, IntKind.max, IntKind.signed, IntKind.bits] using hkd
  obtain ⟨vd, bs, evd, hrd, hdd⟩ := open_bytesC (show DataW.trod enc Tryd.prog W 0 (fun _ => true) true n 23 _ = some (y1.1, y1.2) from f1)
  obtain ⟨vp, Lp, evp, hop, hrp, hdp⟩ := open_rowC (α := PartR) Tryd.underlying24 33 cellsPart (by decide) partC okP2 (fun _ _ _ h => open_partD h) (show DataW.trod enc Tryd.prog W 0 (fun _ => true) true n 24 _ = some (y2.1, y2.2) from f2)
  obtain ⟨vi, Li, evi, hoi, hri, hdi⟩ := open_rowC (α := ItemR) Tryd.underlying25 35 cellsItem (by decide) itemC okI2 (fun _ _ _ h => open_itemD h) (show DataW.trod enc Tryd.prog W 0 (fun _ => true) true n 25 _ = some (y3.1, y3.2) from f3)
  obtain ⟨tr, htr, etr⟩ := open_keyC f4
  obtain ⟨vk, Lk, evk, hok, hrk, hdk⟩ := open_rowC (α := List UInt8) Tryd.underlying28 32 cellsKey (by decide) keyC okK (fun _ _ _ h => by obtain ⟨bs, h1, h2⟩ := open_keyC h; exact ⟨bs, h1, h2⟩) (show DataW.trod enc Tryd.prog W 0 (fun _ => true) true n 28 _ = some (y5.1, y5.2) from f5)
  obtain ⟨tm, etm, _, htm⟩ := DataW.trod_int Tryd.underlying2 f6
  obtain ⟨s, es, _, hs⟩ := DataW.trod_string Tryd.underlying9 f7
  refine ⟨⟨kd.toNat, bs, Lp, Li, tr, Lk, tm, s.data.toList⟩, ⟨vd, vp, vi, vk⟩, y0.1, y4.1, y6.1, y7.1, y1.1, y2.1, y3.1, y5.1, ?_, ⟨⟨htr, fun x hx => (hop x hx).1, fun x hx => (hoi x hx).1, hok⟩, hrd, hrp, hri, hrk⟩,
    ⟨fun x hx => (hoi x hx).2.1, fun x hx => (hoi x hx).2.2, fun x hx => (hop x hx).2, by show kd.toNat ≤ _; omega, htm⟩, hx, hdd, hdp, hdi, hdk⟩
  have e := cut8o cs hlen
  rw [ekd, evd, evp, evi, etr, evk, etm, es] at e
  rw [e]
  unfold objL
  simp only [show ((kd.toNat : Nat) : Int) = kd from Int.toNat_of_nonneg hkb.1]
  rfl
theorem own : ownKnob Tryd.prog.godebug = none := by kernel_rfl
theorem laidOut : laidOutB Tryd.prog = true := by kernel_rfl
theorem bytesU8 : Tryd.prog.bytesOf 5 = 1 := by kernel_rfl
theorem bytesP : Tryd.prog.bytesOf 47 = 40 := by kernel_rfl
theorem bytesI : Tryd.prog.bytesOf 50 = 64 := by kernel_rfl
theorem bytesK : Tryd.prog.bytesOf 27 = 32 := by kernel_rfl
theorem objSz_of {H : Type} {ts : List TypeId} {ds : List (DataW H)} (h : (DataW.weightsEach Tryd.prog ts ds).all (· ≤ reachBytes) = true) {j : Nat} {o : ObjR} {y0 y4 y6 y7 dd dp di dk : DataW H} (ht : ts[j]? = some 30) (hd : ds[j]? = some (.agg [y0, dd, dp, di, y4, dk, y6, y7]))
    (h1 : o.data.length = 0 ∨ ∃ e s, dd = .slice e s ∧ o.data.length = e.length) (h2 : o.parts.length = 0 ∨ ∃ e s, dp = .slice e s ∧ o.parts.length = e.length) (h3 : o.items.length = 0 ∨ ∃ e s, di = .slice e s ∧ o.items.length = e.length) (h4 : o.parents.length = 0 ∨ ∃ e s, dk = .slice e s ∧ o.parents.length = e.length) : ObjSz o := by
  refine ⟨?_, ?_, ?_, ?_⟩
  · rcases h1 with h0 | ⟨e, s, rfl, hl⟩
    · omega
    · have := sized_fld h (i := 1) ht hd Tryd.underlying30 rfl rfl Tryd.underlying23
      rw [bytesU8] at this
      simp only [reachBytes] at this
      omega
  · rcases h2 with h0 | ⟨e, s, rfl, hl⟩
    · omega
    · have := sized_fld h (i := 2) ht hd Tryd.underlying30 rfl rfl Tryd.underlying24
      rw [bytesP] at this
      simp only [reachBytes] at this
      omega
  · rcases h3 with h0 | ⟨e, s, rfl, hl⟩
    · omega
    · have := sized_fld h (i := 3) ht hd Tryd.underlying30 rfl rfl Tryd.underlying25
      rw [bytesI] at this
      simp only [reachBytes] at this
      omega
  · rcases h4 with h0 | ⟨e, s, rfl, hl⟩
    · omega
    · have := sized_fld h (i := 5) ht hd Tryd.underlying30 rfl rfl Tryd.underlying28
      rw [bytesK] at this
      simp only [reachBytes] at this
      omega
def zeroArg : Value := .agg objZ
end Go.Proofs.YtjcfndiceinkjaaDoor
