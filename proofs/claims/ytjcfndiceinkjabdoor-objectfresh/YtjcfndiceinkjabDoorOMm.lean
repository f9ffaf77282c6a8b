/- An object opened as an argument. -/
import Derived.Test.YtjcfndiceinkjabDoorOBo
import Derived.Test.YtjcfndiceinkjabDoorRows
import Derived.ChangeSame
import Derived.ChangeVars
import Derived.JoinedOf
import Derived.RowKit
import Derived.ProofKit
import Derived.OpenShut
import Derived.ChangeOld
import Derived.SizedLaws
import Derived.Deep.Slices
import Derived.Deep.Strs
import Derived.Lib.SmallJoins
import Derived.Test.YtjcfndiceinkjabDoorOC10
namespace Go.Proofs.YtjcfndiceinkjabDoor
set_option linter.unusedVariables false
set_option linter.unusedSimpArgs false
open Go.ChangeShapes Go.WideShapes Go.RowKit Go.Deep

theorem cellsU8 : Tryd.prog.cellsOf 5 = 1 := by kernel_rfl
theorem cellsKey : Tryd.prog.cellsOf 27 = 32 := by kernel_rfl
theorem cellsPart : Tryd.prog.cellsOf 49 = 33 := by kernel_rfl
theorem cellsItem : Tryd.prog.cellsOf 52 = 35 := by kernel_rfl
theorem cellsObj : Tryd.prog.cellsOf 30 = 39 := by kernel_rfl
theorem cellsU64 : Tryd.prog.cellsOf 47 = 1 := by kernel_rfl
theorem cellsMode : Tryd.prog.cellsOf 50 = 1 := by kernel_rfl
theorem cellsKind : Tryd.prog.cellsOf 22 = 1 := by kernel_rfl
theorem cellsStr : Tryd.prog.cellsOf 9 = 1 := by kernel_rfl
theorem cellsI64 : Tryd.prog.cellsOf 2 = 1 := by kernel_rfl
theorem cellsSD : Tryd.prog.cellsOf 23 = 1 := by kernel_rfl
theorem cellsSP : Tryd.prog.cellsOf 24 = 1 := by kernel_rfl
theorem cellsSI : Tryd.prog.cellsOf 25 = 1 := by kernel_rfl
theorem cellsSK : Tryd.prog.cellsOf 28 = 1 := by kernel_rfl
theorem open_keyC {H : Type} {enc : TypeId × Value → H} {W : World} {base : Nat} {spare : Nat → Bool} {held : Bool} {fuel : Nat} {cs : List Value} {x : DataW H × List MemPlace}
    (h : DataW.trod enc Tryd.prog W base spare held fuel 27 cs = some x) : ∃ bs : List UInt8, bs.length = 32 ∧ cs = bs.map u8c := by
  obtain ⟨xs, m, _, _, hl, hxl, hx⟩ := DataW.trod_array Tryd.underlying27 h
  rw [cellsKey] at hl
  have each : ∀ i, i < 32 → ∃ b : UInt8, cs[i]? = some (u8c b) := by
    intro i hi
    have h1 := hx i hi
    rw [cellsU8, Nat.mul_one, List.getElem?_eq_getElem (by omega)] at h1
    obtain ⟨n, hn, _, hw⟩ := DataW.trod_int Tryd.underlying5 h1
    have hb : 0 ≤ n ∧ n ≤ 255 := by simpa [Lit.wf, IntKind.min, IntKind.max, IntKind.signed, IntKind.bits] using hw
    refine ⟨UInt8.ofNat n.toNat, ?_⟩
    rw [List.drop_eq_getElem_cons (show i < cs.length by omega)] at hn
    have h2 : cs[i]'(by omega) = .int .u8 n := (List.cons.inj hn).1
    rw [List.getElem?_eq_getElem (by omega), h2]
    unfold u8c
    rw [UInt8.toNat_ofNat']
    congr 2
    omega
  obtain ⟨f, hf⟩ := choose_lt each
  refine ⟨(List.range 32).map f, by simp, ?_⟩
  apply List.ext_getElem?
  intro i
  rcases Nat.lt_or_ge i 32 with hi | hi
  · rw [hf i hi]; simp [hi]
  · rw [List.getElem?_eq_none (by omega), List.getElem?_eq_none (by simpa using hi)]
theorem spot_none {w : World} {x : Addr} {v : Value} (h : w.cell? (x.add 0) = some v) : ∃ b o, x = ⟨b, o, none⟩ := by
  obtain ⟨b, o, spot⟩ := x
  have hs : spot = none := by simpa [Addr.add] using World.cell?_spot h
  exact ⟨b, o, by rw [hs]⟩
theorem open_bytesC {H : Type} {enc : TypeId × Value → H} {W : World} {fuel : Nat} {cs : List Value} {d : DataW H} {p : List MemPlace}
    (h : DataW.trod enc Tryd.prog W 0 (fun _ => true) true fuel 23 cs = some (d, p)) :
    ∃ (v : Value) (bs : List UInt8), cs = [v] ∧ RdA W v bs ∧ ((bs.length = 0) ∨ ∃ elems spare, d = .slice elems spare ∧ bs.length = elems.length) := by
  rcases open_ints Tryd.underlying23 Tryd.underlying5 cellsU8 h with ⟨hcs, hx⟩ | ⟨x, len, cap, zs, hcs, _, hl, hm, hz, hx, hcell, hwz⟩
  · exact ⟨_, [], hcs, .inl (Rd_none W), .inl rfl⟩
  · have hz' : zs.length = cap := by simpa using hz
    have hd : d = .slice (lits .u8 (zs.take len)) (lits .u8 (zs.drop len)) := (Prod.mk.inj hx).1
    have hlen : ((zs.take len).map fun z => UInt8.ofNat z.toNat).length = len := by simp; omega
    refine ⟨_, (zs.take len).map fun z => UInt8.ofNat z.toNat, hcs, ?_, .inr ⟨_, _, hd, by simp [lits]⟩⟩
    rcases Nat.eq_zero_or_pos cap with h0 | hpos
    · obtain rfl : zs = [] := List.eq_nil_of_length_eq_zero (by omega)
      obtain rfl : len = 0 := by omega
      obtain rfl : cap = 0 := h0
      exact .inr ⟨x, rfl, rfl⟩
    · obtain ⟨b, o, rfl⟩ := spot_none (hcell 0 (by omega))
      left
      refine ⟨some ⟨b, o, none⟩, cap, by rw [hlen], by rw [hlen]; exact hl, hm, .inr ⟨b, o, rfl, fun i hi => ?_⟩⟩
      rw [hlen] at hi
      have := hcell i (by omega)
      rw [Addr.add_mid] at this
      rw [this]
      have hw := hwz (zs.getD i 0) (by rw [List.getD_eq_getElem?_getD, List.getElem?_eq_getElem (by omega)]; exact List.getElem_mem _)
      have hb : 0 ≤ zs.getD i 0 ∧ zs.getD i 0 ≤ 255 := by simpa [Lit.wf, IntKind.min, IntKind.max, IntKind.signed, IntKind.bits] using hw
      unfold u8c
      congr 2
      rw [List.getD_eq_getElem?_getD, List.getElem?_eq_getElem (by omega)] at hb ⊢
      simp only [Option.getD_some] at hb ⊢
      simp only [List.getElem_map, List.getElem_take, UInt8.toNat_ofNat']
      omega
theorem one_of {cs : List Value} {o : Nat} {v : Value} (h : (cs.drop o).take 1 = [v]) : cs[o]? = some v := by
  have : ((cs.drop o).take 1)[0]? = some v := by rw [h]; rfl
  simpa using this
theorem open_partC {H : Type} {enc : TypeId × Value → H} {W : World} {fuel : Nat} {cs : List Value} {x : DataW H × List MemPlace}
    (h : DataW.trod enc Tryd.prog W 0 (fun _ => true) true fuel 49 cs = some x) : ∃ p : PartR, okP p ∧ cs = partC p := by
  obtain ⟨y0, y1, n, hx, hlen, f0, f1⟩ := trod_struct2 Tryd.underlying49 h
  rw [cellsPart] at hlen
  simp only [cellsKey, cellsU64] at f0 f1
  obtain ⟨k, hk, ek⟩ := open_keyC f0
  obtain ⟨z, ez, _, hz⟩ := DataW.trod_int Tryd.underlying47 f1
  have hb : 0 ≤ z := by have : 0 ≤ z ∧ z ≤ 18446744073709551615 := by simpa [Lit.wf, IntKind.min, IntKind.max, IntKind.signed, IntKind.bits] using hz
                        exact this.1
  refine ⟨(k, z.toNat), hk, ?_⟩
  unfold partC
  rw [show ((z.toNat : Nat) : Int) = z from Int.toNat_of_nonneg hb, ← ek, ← ez, List.drop_zero]
  rw [List.take_of_length_le (l := cs.drop 32) (by rw [List.length_drop]; omega), List.take_append_drop]
theorem cut4i (cs : List Value) (h : cs.length = 35) : cs = (cs.drop 0).take 1 ++ ((cs.drop 1).take 1 ++ ((cs.drop 2).take 1 ++ (cs.drop 3).take 32)) := by
  have e3 : (cs.drop 3).take 32 = cs.drop 3 := List.take_of_length_le (by rw [List.length_drop]; omega)
  have e2 : (cs.drop 2).take 1 ++ cs.drop 3 = cs.drop 2 := by
    conv => rhs; rw [← List.take_append_drop 1 (cs.drop 2)]
    rw [List.drop_drop]
  have e1 : (cs.drop 1).take 1 ++ cs.drop 2 = cs.drop 1 := by
    conv => rhs; rw [← List.take_append_drop 1 (cs.drop 1)]
    rw [List.drop_drop]
  rw [e3, e2, e1, List.drop_zero, List.take_append_drop]
theorem open_itemC {H : Type} {enc : TypeId × Value → H} {W : World} {fuel : Nat} {cs : List Value} {x : DataW H × List MemPlace}
    (h : DataW.trod enc Tryd.prog W 0 (fun _ => true) true fuel 52 cs = some x) : ∃ p : ItemR, okI p ∧ cs = itemC p := by
  obtain ⟨y0, y1, y2, y3, n, hx, hlen, f0, f1, f2, f3⟩ := Joins.trod_struct4 Tryd.underlying52 h
  rw [cellsItem] at hlen
  simp only [cellsKey, cellsU64, cellsMode, cellsStr] at f0 f1 f2 f3
  obtain ⟨k, hk, ek⟩ := open_keyC f3
  obtain ⟨s, es, _, hs⟩ := DataW.trod_string Tryd.underlying9 f0
  obtain ⟨z, ez, _, hz⟩ := DataW.trod_int Tryd.underlying47 f2
  obtain ⟨m, em, _, hm⟩ := DataW.trod_int Tryd.underlying50 f1
  have hb : 0 ≤ z ∧ z ≤ 18446744073709551615 := by simpa [Lit.wf, IntKind.min, IntKind.max, IntKind.signed, IntKind.bits] using hz
  have hmb : 0 ≤ m ∧ m ≤ 255 := by simpa [Lit.wf, IntKind.min, IntKind.max, IntKind.signed, IntKind.bits] using hm
  refine ⟨(s.data.toList, m.toNat, z.toNat, k), hk, ?_⟩
  have e := cut4i cs hlen
  rw [ek, es, ez, em] at e
  rw [e]
  unfold itemC
  rw [show ((z.toNat : Nat) : Int) = z from Int.toNat_of_nonneg hb.1, show ((m.toNat : Nat) : Int) = m from Int.toNat_of_nonneg hmb.1]
  rfl
theorem open_rowC {α : Type} [Inhabited α] {H : Type} {enc : TypeId × Value → H} {W : World} {fuel : Nat} {ts te : TypeId} (hu : Tryd.prog.underlying ts = some (.slice te)) (k : Nat) (hk : Tryd.prog.cellsOf te = k) (hk0 : 0 < k) (C : α → List Value) (ok : α → Prop)
    (hopen : ∀ (fuel : Nat) (cs : List Value) (x : DataW H × List MemPlace), DataW.trod enc Tryd.prog W 0 (fun _ => true) true fuel te cs = some x → ∃ r, ok r ∧ cs = C r) {cs : List Value} {d : DataW H} {p : List MemPlace}
    (h : DataW.trod enc Tryd.prog W 0 (fun _ => true) true fuel ts cs = some (d, p)) : ∃ (v : Value) (L : List α), cs = [v] ∧ (∀ r ∈ L, ok r) ∧ RowR W v k (L.map C) ∧ (L.length = 0 ∨ ∃ elems spare, d = .slice elems spare ∧ L.length = elems.length) := by
  rcases open_slice hu h with ⟨hcs, hx⟩ | ⟨a, len, cap, m, n, D, Pl, hcs, hb, hl, hm, hmm, hx, hxr⟩
  · exact ⟨_, [], hcs, by simp, ⟨none, 0, rfl, by simp, fun _ => rfl, .inl rfl⟩, .inl rfl⟩
  · simp only [if_true] at hmm
    rw [hk] at hxr
    have each : ∀ i, i < len → ∃ r : α, ok r ∧ ∀ b o, a = ⟨b, o, none⟩ → W.rangeAt b (o + i * k) (C r) := by
      intro i hi
      obtain ⟨cs', h1, ht⟩ := hxr i (by omega)
      obtain ⟨_, hl4, hc⟩ := World.cells?_some h1
      obtain ⟨r, hr, rfl⟩ := hopen _ _ _ ht
      refine ⟨r, hr, fun b o ha j u hj => ?_⟩
      have hjl : j < k := by rw [← hl4]; exact (List.getElem?_eq_some_iff.1 hj).1
      have h2 := hc j hjl
      rw [ha, Addr.add_mid, Addr.add_mid] at h2
      rw [h2]; exact hj
    obtain ⟨R, hR⟩ := choose_lt each
    refine ⟨_, (List.range len).map R, hcs, ?_, ⟨some a, cap, by simp, by simp; unfold maxLen at hm; omega, (fun e => nomatch e), ?_⟩, .inr ⟨_, _, (Prod.mk.inj hx).1, by simp⟩⟩
    · intro r hr
      obtain ⟨i, hi, rfl⟩ := List.mem_map.1 hr
      exact (hR i (List.mem_range.1 hi)).1
    · rcases Nat.eq_zero_or_pos len with h0 | hpos
      · left; subst h0; rfl
      · right
        obtain ⟨cs', h1, ht⟩ := hxr 0 (by omega)
        obtain ⟨_, hl4, hc⟩ := World.cells?_some h1
        have h2 := hc 0 (by omega)
        rw [List.getElem?_eq_getElem (by omega)] at h2
        obtain ⟨b, o, spot⟩ := a
        have hs : spot = none := by simpa [Addr.add] using World.cell?_spot h2
        subst hs
        refine ⟨b, o, rfl, fun i hi => ?_⟩
        have hi' : i < len := by simpa using hi
        have := (hR i hi').2 b o rfl
        simpa using this
theorem trod_struct8 {H : Type} {enc : TypeId × Value → H} {P : Program} {w : World} {base : Nat} {spare : Nat → Bool} {held : Bool} {t : TypeId} {f0 f1 f2 f3 f4 f5 f6 f7 : Field} {fuel : Nat} {cs : List Value} {x : DataW H × List MemPlace} (ht : P.underlying t = some (.struct #[f0, f1, f2, f3, f4, f5, f6, f7])) (h : DataW.trod enc P w base spare held fuel t cs = some x) :
    ∃ y0 y1 y2 y3 y4 y5 y6 y7 n, x.1 = .agg [y0.1, y1.1, y2.1, y3.1, y4.1, y5.1, y6.1, y7.1] ∧ cs.length = P.cellsOf t ∧ DataW.trod enc P w base spare held n f0.type ((cs.drop f0.offset).take (P.cellsOf f0.type)) = some y0 ∧
      DataW.trod enc P w base spare held n f1.type ((cs.drop f1.offset).take (P.cellsOf f1.type)) = some y1 ∧ DataW.trod enc P w base spare held n f2.type ((cs.drop f2.offset).take (P.cellsOf f2.type)) = some y2 ∧
      DataW.trod enc P w base spare held n f3.type ((cs.drop f3.offset).take (P.cellsOf f3.type)) = some y3 ∧ DataW.trod enc P w base spare held n f4.type ((cs.drop f4.offset).take (P.cellsOf f4.type)) = some y4 ∧
      DataW.trod enc P w base spare held n f5.type ((cs.drop f5.offset).take (P.cellsOf f5.type)) = some y5 ∧ DataW.trod enc P w base spare held n f6.type ((cs.drop f6.offset).take (P.cellsOf f6.type)) = some y6 ∧
      DataW.trod enc P w base spare held n f7.type ((cs.drop f7.offset).take (P.cellsOf f7.type)) = some y7 := by
  obtain ⟨xs, n, _, rfl, hl, hlen, hf⟩ := DataW.trod_struct ht h
  match xs, hlen with
  | [y0, y1, y2, y3, y4, y5, y6, y7], _ => exact ⟨y0, y1, y2, y3, y4, y5, y6, y7, n, by simp, hl, by simpa using hf 0 f0 rfl, by simpa using hf 1 f1 rfl, by simpa using hf 2 f2 rfl, by simpa using hf 3 f3 rfl, by simpa using hf 4 f4 rfl, by simpa using hf 5 f5 rfl, by simpa using hf 6 f6 rfl, by simpa using hf 7 f7 rfl⟩
theorem cut8o (cs : List Value) (h : cs.length = 39) : cs = (cs.drop 0).take 1 ++ ((cs.drop 1).take 1 ++ ((cs.drop 2).take 1 ++ ((cs.drop 3).take 1 ++ ((cs.drop 4).take 32 ++ ((cs.drop 36).take 1 ++ ((cs.drop 37).take 1 ++ (cs.drop 38).take 1)))))) := by
  have st : ∀ i m, (cs.drop i).take m ++ cs.drop (i + m) = cs.drop i := fun i m => by
    conv => rhs; rw [← List.take_append_drop m (cs.drop i)]
    rw [List.drop_drop]
  have e7 : (cs.drop 38).take 1 = cs.drop 38 := List.take_of_length_le (by rw [List.length_drop]; omega)
  rw [e7, st 37 1, st 36 1, st 4 32, st 3 1, st 2 1, st 1 1, st 0 1, List.drop_zero]
set_option maxRecDepth 20000 in
theorem open_obj {H : Type} {enc : TypeId × Value → H} {W : World} {fuel : Nat} {cs : List Value} {x : DataW H × List MemPlace}
    (h : DataW.trod enc Tryd.prog W 0 (fun _ => true) true fuel 30 cs = some x) :
    ∃ (o : ObjR) (v : ObjV) (y0 y4 y6 y7 dd dp di dk : DataW H), cs = objL o v ∧ ObjRd W o v ∧ x.1 = .agg [y0, dd, dp, di, y4, dk, y6, y7] ∧ o.note.length ≤ maxLen ∧
      (o.data.length = 0 ∨ ∃ e s, dd = .slice e s ∧ o.data.length = e.length) ∧ (o.parts.length = 0 ∨ ∃ e s, dp = .slice e s ∧ o.parts.length = e.length) ∧ (o.items.length = 0 ∨ ∃ e s, di = .slice e s ∧ o.items.length = e.length) ∧ (o.parents.length = 0 ∨ ∃ e s, dk = .slice e s ∧ o.parents.length = e.length) := by
  obtain ⟨y0, y1, y2, y3, y4, y5, y6, y7, n, hx, hlen, f0, f1, f2, f3, f4, f5, f6, f7⟩ := trod_struct8 Tryd.underlying30 h
  rw [cellsObj] at hlen
  simp only [cellsKind, cellsSD, cellsSP, cellsSI, cellsKey, cellsSK, cellsI64, cellsStr] at f0 f1 f2 f3 f4 f5 f6 f7
  obtain ⟨kd, ekd, _, hkd⟩ := DataW.trod_int Tryd.underlying22 f0
  have hkb : 0 ≤ kd ∧ kd ≤ 255 := by simpa [Lit.wf, IntKind.min, IntKind.max, IntKind.signed, IntKind.bits] using hkd
  obtain ⟨vd, bs, evd, hrd, hdd⟩ := open_bytesC (show DataW.trod enc Tryd.prog W 0 (fun _ => true) true n 23 _ = some (y1.1, y1.2) from f1)
  obtain ⟨vp, Lp, evp, hop, hrp, hdp⟩ := open_rowC (α := PartR) Tryd.underlying24 33 cellsPart (by decide) partC okP (fun _ _ _ h => open_partC h) (show DataW.trod enc Tryd.prog W 0 (fun _ => true) true n 24 _ = some (y2.1, y2.2) from f2)
  obtain ⟨vi, Li, evi, hoi, hri, hdi⟩ := open_rowC (α := ItemR) Tryd.underlying25 35 cellsItem (by decide) itemC okI (fun _ _ _ h => open_itemC h) (show DataW.trod enc Tryd.prog W 0 (fun _ => true) true n 25 _ = some (y3.1, y3.2) from f3)
  obtain ⟨tr, htr, etr⟩ := open_keyC f4
  obtain ⟨vk, Lk, evk, hok, hrk, hdk⟩ := open_rowC (α := List UInt8) Tryd.underlying28 32 cellsKey (by decide) keyC okK (fun _ _ _ h => by obtain ⟨bs, h1, h2⟩ := open_keyC h; exact ⟨bs, h1, h2⟩) (show DataW.trod enc Tryd.prog W 0 (fun _ => true) true n 28 _ = some (y5.1, y5.2) from f5)
  obtain ⟨tm, etm, _, _⟩ := DataW.trod_int Tryd.underlying2 f6
  obtain ⟨s, es, _, hs⟩ := DataW.trod_string Tryd.underlying9 f7
  refine ⟨⟨kd.toNat, bs, Lp, Li, tr, Lk, tm, s.data.toList⟩, ⟨vd, vp, vi, vk⟩, y0.1, y4.1, y6.1, y7.1, y1.1, y2.1, y3.1, y5.1, ?_, ⟨⟨htr, hop, hoi, hok⟩, hrd, hrp, hri, hrk⟩, hx, ?_, hdd, hdp, hdi, hdk⟩
  · have e := cut8o cs hlen
    rw [ekd, evd, evp, evi, etr, evk, etm, es] at e
    rw [e]
    unfold objL
    simp only [show ((kd.toNat : Nat) : Int) = kd from Int.toNat_of_nonneg hkb.1]
    rfl
  · exact hs
theorem sized_fld {H : Type} {P : Program} {ts : List TypeId} {ds : List (DataW H)} (h : (DataW.weightsEach P ts ds).all (· ≤ reachBytes) = true) {j i : Nat} {t q r : TypeId} {fs : Array Field} {l e' sp' : List (DataW H)}
    (ht : ts[j]? = some t) (hd : ds[j]? = some (.agg l)) (hu : P.underlying t = some (.struct fs)) (hf : (fs.toList.map (·.type))[i]? = some r) (hl : l[i]? = some (.slice e' sp')) (hu3 : P.underlying r = some (.slice q)) : (e'.length + sp'.length) * P.bytesOf q ≤ reachBytes := by
  refine of_decide_eq_true (List.all_eq_true.1 h _ (DataW.weights_mem_each ht hd _ ?_))
  simp only [DataW.weights, hu]
  refine DataW.weights_mem_each (j := i) hf hl _ ?_
  simp [DataW.weights, hu3]
end Go.Proofs.YtjcfndiceinkjabDoor

/- Opening an object: its lists, its numbers in their ranges, its sizes. -/
namespace Go.Proofs.YtjcfndiceinkjabDoor
set_option linter.unusedVariables false
set_option linter.unusedSimpArgs false
open Go.ChangeShapes Go.WideShapes Go.RowKit Go.Deep

def okP2 (p : PartR) : Prop := okP p ∧ p.2 ≤ 18446744073709551615
def okI2 (i : ItemR) : Prop := okI i ∧ i.2.1 ≤ 255 ∧ i.2.2.1 ≤ 18446744073709551615
theorem open_partD {H : Type} {enc : TypeId × Value → H} {W : World} {fuel : Nat} {cs : List Value} {x : DataW H × List MemPlace}
    (h : DataW.trod enc Tryd.prog W 0 (fun _ => true) true fuel 49 cs = some x) : ∃ p : PartR, okP2 p ∧ cs = partC p := by
  obtain ⟨y0, y1, n, hx, hlen, f0, f1⟩ := trod_struct2 Tryd.underlying49 h
  rw [cellsPart] at hlen
  simp only [cellsKey, cellsU64] at f0 f1
  obtain ⟨k, hk, ek⟩ := open_keyC f0
  obtain ⟨z, ez, _, hz⟩ := DataW.trod_int Tryd.underlying47 f1
  have hb : 0 ≤ z ∧ z ≤ 18446744073709551615 := by simpa [Lit.wf, IntKind.min, IntKind.max, IntKind.signed, IntKind.bits] using hz
  refine ⟨(k, z.toNat), ⟨hk, by show z.toNat ≤ _; omega⟩, ?_⟩
  unfold partC
  rw [show ((z.toNat : Nat) : Int) = z from Int.toNat_of_nonneg hb.1, ← ek, ← ez, List.drop_zero]
  rw [List.take_of_length_le (l := cs.drop 32) (by rw [List.length_drop]; omega), List.take_append_drop]
theorem open_itemD {H : Type} {enc : TypeId × Value → H} {W : World} {fuel : Nat} {cs : List Value} {x : DataW H × List MemPlace}
    (h : DataW.trod enc Tryd.prog W 0 (fun _ => true) true fuel 52 cs = some x) : ∃ p : ItemR, okI2 p ∧ cs = itemC p := by
  obtain ⟨y0, y1, y2, y3, n, hx, hlen, f0, f1, f2, f3⟩ := Joins.trod_struct4 Tryd.underlying52 h
  rw [cellsItem] at hlen
  simp only [cellsKey, cellsU64, cellsMode, cellsStr] at f0 f1 f2 f3
  obtain ⟨k, hk, ek⟩ := open_keyC f3
  obtain ⟨s, es, _, hs⟩ := DataW.trod_string Tryd.underlying9 f0
  obtain ⟨z, ez, _, hz⟩ := DataW.trod_int Tryd.underlying47 f2
  obtain ⟨m, em, _, hm⟩ := DataW.trod_int Tryd.underlying50 f1
  have hb : 0 ≤ z ∧ z ≤ 18446744073709551615 := by simpa [Lit.wf, IntKind.min, IntKind.max, IntKind.signed, IntKind.bits] using hz
  have hmb : 0 ≤ m ∧ m ≤ 255 := by simpa [Lit.wf, IntKind.min, IntKind.max, IntKind.signed, IntKind.bits] using hm
  refine ⟨(s.data.toList, m.toNat, z.toNat, k), ⟨hk, by show m.toNat ≤ _; omega, by show z.toNat ≤ _; omega⟩, ?_⟩
  have e := cut4i cs hlen
  rw [ek, es, ez, em] at e
  rw [e]
  unfold itemC
  rw [show ((z.toNat : Nat) : Int) = z from Int.toNat_of_nonneg hb.1, show ((m.toNat : Nat) : Int) = m from Int.toNat_of_nonneg hmb.1]
  rfl
theorem open_objD {H : Type} {enc : TypeId × Value → H} {W : World} {fuel : Nat} {cs : List Value} {x : DataW H × List MemPlace}
    (h : DataW.trod enc Tryd.prog W 0 (fun _ => true) true fuel 30 cs = some x) :
    ∃ (o : ObjR) (v : ObjV) (y0 y4 y6 y7 dd dp di dk : DataW H), cs = objL o v ∧ ObjRd W o v ∧ TxtSz o ∧ x.1 = .agg [y0, dd, dp, di, y4, dk, y6, y7] ∧
      (o.data.length = 0 ∨ ∃ e s, dd = .slice e s ∧ o.data.length = e.length) ∧ (o.parts.length = 0 ∨ ∃ e s, dp = .slice e s ∧ o.parts.length = e.length) ∧ (o.items.length = 0 ∨ ∃ e s, di = .slice e s ∧ o.items.length = e.length) ∧ (o.parents.length = 0 ∨ ∃ e s, dk = .slice e s ∧ o.parents.length = e.length) := by
  obtain ⟨y0, y1, y2, y3, y4, y5, y6, y7, n, hx, hlen, f0, f1, f2, f3, f4, f5, f6, f7⟩ := trod_struct8 Tryd.underlying30 h
  rw [cellsObj] at hlen
  simp only [cellsKind, cellsSD, cellsSP, cellsSI, cellsKey, cellsSK, cellsI64, cellsStr] at f0 f1 f2 f3 f4 f5 f6 f7
  obtain ⟨kd, ekd, _, hkd⟩ := DataW.trod_int Tryd.underlying22 f0
  have hkb : 0 ≤ kd ∧ kd ≤ 255 := by simpa [Lit.wf, IntKind.min, IntKind.max, IntKind.signed, IntKind.bits] using hkd
  obtain ⟨vd, bs, evd, hrd, hdd⟩ := open_bytesC (show DataW.trod enc Tryd.prog W 0 (fun _ => true) true n 23 _ = some (y1.1, y1.2) from f1)
  obtain ⟨vp, Lp, evp, hop, hrp, hdp⟩ := open_rowC (α := PartR) Tryd.underlying24 33 cellsPart (by decide) partC okP2 (fun _ _ _ h => open_partD h) (show DataW.trod enc Tryd.prog W 0 (fun _ => true) true n 24 _ = some (y2.1, y2.2) from f2)
  obtain ⟨vi, Li, evi, hoi, hri, hdi⟩ := open_rowC (α := ItemR) Tryd.underlying25 35 cellsItem (by decide) itemC okI2 (fun _ _ _ h => open_itemD h) (show DataW.trod enc Tryd.prog W 0 (fun _ => true) true n 25 _ = some (y3.1, y3.2) from f3)
  obtain ⟨tr, htr, etr⟩ := open_keyC f4
  obtain ⟨vk, Lk, evk, hok, hrk, hdk⟩ := open_rowC (α := List UInt8) Tryd.underlying28 32 cellsKey (by decide) keyC okK (fun _ _ _ h => by obtain ⟨bs, h1, h2⟩ := open_keyC h; exact ⟨bs, h1, h2⟩) (show DataW.trod enc Tryd.prog W 0 (fun _ => true) true n 28 _ = some (y5.1, y5.2) from f5)
  obtain ⟨tm, etm, _, htm⟩ := DataW.trod_int Tryd.underlying2 f6
  obtain ⟨s, es, _, hs⟩ := DataW.trod_string Tryd.underlying9 f7
  refine ⟨⟨kd.toNat, bs, Lp, Li, tr, Lk, tm, s.data.toList⟩, ⟨vd, vp, vi, vk⟩, y0.1, y4.1, y6.1, y7.1, y1.1, y2.1, y3.1, y5.1, ?_, ⟨⟨htr, fun x hx => (hop x hx).1, fun x hx => (hoi x hx).1, hok⟩, hrd, hrp, hri, hrk⟩,
    ⟨fun x hx => (hoi x hx).2.1, fun x hx => (hoi x hx).2.2, fun x hx => (hop x hx).2, by show kd.toNat ≤ _; omega, htm⟩, hx, hdd, hdp, hdi, hdk⟩
  have e := cut8o cs hlen
  rw [ekd, evd, evp, evi, etr, evk, etm, es] at e
  rw [e]
  unfold objL
  simp only [show ((kd.toNat : Nat) : Int) = kd from Int.toNat_of_nonneg hkb.1]
  rfl
theorem own : ownKnob Tryd.prog.godebug = none := by kernel_rfl
theorem laidOut : laidOutB Tryd.prog = true := by kernel_rfl
theorem bytesU8 : Tryd.prog.bytesOf 5 = 1 := by kernel_rfl
theorem bytesP : Tryd.prog.bytesOf 49 = 40 := by kernel_rfl
theorem bytesI : Tryd.prog.bytesOf 52 = 64 := by kernel_rfl
theorem bytesK : Tryd.prog.bytesOf 27 = 32 := by kernel_rfl
theorem objSz_of {H : Type} {ts : List TypeId} {ds : List (DataW H)} (h : (DataW.weightsEach Tryd.prog ts ds).all (· ≤ reachBytes) = true) {j : Nat} {o : ObjR} {y0 y4 y6 y7 dd dp di dk : DataW H} (ht : ts[j]? = some 30) (hd : ds[j]? = some (.agg [y0, dd, dp, di, y4, dk, y6, y7]))
    (h1 : o.data.length = 0 ∨ ∃ e s, dd = .slice e s ∧ o.data.length = e.length) (h2 : o.parts.length = 0 ∨ ∃ e s, dp = .slice e s ∧ o.parts.length = e.length) (h3 : o.items.length = 0 ∨ ∃ e s, di = .slice e s ∧ o.items.length = e.length) (h4 : o.parents.length = 0 ∨ ∃ e s, dk = .slice e s ∧ o.parents.length = e.length) : ObjSz o := by
  refine ⟨?_, ?_, ?_, ?_⟩
  · rcases h1 with h0 | ⟨e, s, rfl, hl⟩
    · omega
    · have := sized_fld h (i := 1) ht hd Tryd.underlying30 rfl rfl Tryd.underlying23
      rw [bytesU8] at this
      simp only [reachBytes] at this
      omega
  · rcases h2 with h0 | ⟨e, s, rfl, hl⟩
    · omega
    · have := sized_fld h (i := 2) ht hd Tryd.underlying30 rfl rfl Tryd.underlying24
      rw [bytesP] at this
      simp only [reachBytes] at this
      omega
  · rcases h3 with h0 | ⟨e, s, rfl, hl⟩
    · omega
    · have := sized_fld h (i := 3) ht hd Tryd.underlying30 rfl rfl Tryd.underlying25
      rw [bytesI] at this
      simp only [reachBytes] at this
      omega
  · rcases h4 with h0 | ⟨e, s, rfl, hl⟩
    · omega
    · have := sized_fld h (i := 5) ht hd Tryd.underlying30 rfl rfl Tryd.underlying28
      rw [bytesK] at this
      simp only [reachBytes] at this
      omega
def zeroArg : Value := .agg objZ
end Go.Proofs.YtjcfndiceinkjabDoor
