/- TableWide: for every input the call returns true, and the argument reads afterwards as it read before. No condition beside the form's own reach. -/
import Derived.Test.YtjhbebaephmcgaaVY3
import Derived.Test.YtjhbebaephmcgaaRows
import Derived.ChangeSame
import Derived.ChangeVars
import Derived.JoinedOf
import Derived.RowKit
import Derived.ProofKit
import Derived.OpenShut
import Derived.ChangeOld
import Derived.SizedLaws
import Derived.JoinedCond
import Derived.Deep.CondSized
import Derived.Deep.Slices
import Derived.Deep.Strs
import Derived.Lib.SmallJoins
namespace Go.Proofs.Ytjhbebaephmcgaa
set_option linter.unusedVariables false
set_option linter.unusedSimpArgs false
open Go.ChangeShapes Go.WideShapes Go.ChangeAt Go.RowKit Go.Deep

namespace TX
theorem ownA : ownKnob Try.prog.godebug = none := by kernel_rfl
theorem laidOutA : laidOutB Try.prog = true := by kernel_rfl
theorem cellsU8 : Try.prog.cellsOf 5 = 1 := by kernel_rfl
theorem cellsI8 : Try.prog.cellsOf 25 = 1 := by kernel_rfl
theorem cellsStr : Try.prog.cellsOf 9 = 1 := by kernel_rfl
theorem cellsTwo : Try.prog.cellsOf 26 = 2 := by kernel_rfl
theorem cellsWide : Try.prog.cellsOf 28 = 4 := by kernel_rfl
theorem cellsVal : Try.prog.cellsOf 29 = 1 := by kernel_rfl
theorem cellsBool : Try.prog.cellsOf 4 = 1 := by kernel_rfl
theorem cellsWides : Try.prog.cellsOf 33 = 6 := by kernel_rfl
theorem cut (cs : List Value) (o n : Nat) : cs.drop o = (cs.drop o).take n ++ cs.drop (o + n) := by
  rw [← List.drop_drop]; exact (List.take_append_drop n _).symm
theorem cut0 (cs : List Value) (n : Nat) (h : cs.length = n) : cs.drop n = [] := List.drop_of_length_le (by omega)
theorem one_byte {H : Type} {enc : TypeId × Value → H} {W : World} {base : Nat} {spare : Nat → Bool} {held : Bool} {fuel : Nat} {cs : List Value} {x : DataW H × List MemPlace}
    (h : DataW.trod enc Try.prog W base spare held fuel 5 cs = some x) : ∃ b : UInt8, cs = [u8c b] := by
  obtain ⟨n, hn, _, hw⟩ := DataW.trod_int Try.underlying5 h
  have hb : 0 ≤ n ∧ n ≤ 255 := by simpa [Lit.wf, IntKind.min, IntKind.max, IntKind.signed, IntKind.bits] using hw
  refine ⟨UInt8.ofNat n.toNat, ?_⟩
  rw [hn]
  unfold u8c
  rw [UInt8.toNat_ofNat']
  congr 2
  omega
theorem open_twoC {H : Type} {enc : TypeId × Value → H} {W : World} {base : Nat} {spare : Nat → Bool} {held : Bool} {fuel : Nat} {cs : List Value} {x : DataW H × List MemPlace}
    (h : DataW.trod enc Try.prog W base spare held fuel 26 cs = some x) : ∃ a b : UInt8, cs = [u8c a, u8c b] := by
  obtain ⟨xs, m, _, _, hl, hxl, hx⟩ := DataW.trod_array Try.underlying26 h
  rw [cellsTwo] at hl
  have h0 := hx 0 (by decide)
  have h1 := hx 1 (by decide)
  rw [cellsU8, List.getElem?_eq_getElem (by omega)] at h0 h1
  obtain ⟨a, ha⟩ := one_byte h0
  obtain ⟨b, hb⟩ := one_byte h1
  refine ⟨a, b, ?_⟩
  rw [show cs = cs.drop (0 * 1) from rfl, cut cs (0 * 1) 1, ha, show (0 * 1 + 1) = 1 * 1 from rfl, cut cs (1 * 1) 1, hb, cut0 cs _ hl]
  rfl
theorem open_wideC {H : Type} {enc : TypeId × Value → H} {W : World} {base : Nat} {spare : Nat → Bool} {held : Bool} {fuel : Nat} {cs : List Value} {x : DataW H × List MemPlace}
    (h : DataW.trod enc Try.prog W base spare held fuel 28 cs = some x) : ∃ k : KY, cs = kC k := by
  obtain ⟨ys, m, _, _, hl, hyl, hf⟩ := DataW.trod_struct Try.underlying28 h
  rw [cellsWide] at hl
  have hyl2 : ys.length = 3 := hyl
  have g0 : DataW.trod enc Try.prog W base spare held m 25 ((cs.drop 0).take (Try.prog.cellsOf 25)) = ys[0]? := hf 0 _ rfl
  have g1 : DataW.trod enc Try.prog W base spare held m 26 ((cs.drop 1).take (Try.prog.cellsOf 26)) = ys[1]? := hf 1 _ rfl
  have g2 : DataW.trod enc Try.prog W base spare held m 9 ((cs.drop 3).take (Try.prog.cellsOf 9)) = ys[2]? := hf 2 _ rfl
  rw [cellsI8, List.getElem?_eq_getElem (by omega)] at g0
  rw [cellsTwo, List.getElem?_eq_getElem (by omega)] at g1
  rw [cellsStr, List.getElem?_eq_getElem (by omega)] at g2
  obtain ⟨n, f0, _, _⟩ := DataW.trod_int Try.underlying25 g0
  obtain ⟨a, b, f1⟩ := open_twoC g1
  obtain ⟨s, f2, _, _⟩ := DataW.trod_string Try.underlying9 g2
  refine ⟨⟨n, a, b, s.data.toList⟩, ?_⟩
  rw [show cs = cs.drop 0 from rfl, cut cs 0 1, f0, cut cs 1 2, f1, cut cs 3 1, f2, cut0 cs 4 hl]
  simp only [kC, List.append_assoc, List.cons_append, List.nil_append, List.append_nil, Array.toArray_toList]
theorem spot_none {w : World} {x : Addr} {v : Value} (h : w.cell? (x.add 0) = some v) : ∃ b o, x = ⟨b, o, none⟩ := by
  obtain ⟨b, o, spot⟩ := x
  have hs : spot = none := by simpa [Addr.add] using World.cell?_spot h
  exact ⟨b, o, by rw [hs]⟩
theorem open_valC {H : Type} {enc : TypeId × Value → H} {W : World} {fuel : Nat} {cs : List Value} {x : DataW H × List MemPlace}
    (h : DataW.trod enc Try.prog W 0 (fun _ => true) true fuel 29 cs = some x) : ∃ e : EN, cs = eC e ∧ ValR W e := by
  rcases open_ints Try.underlying29 Try.underlying5 cellsU8 h with ⟨hcs, hx⟩ | ⟨x, len, cap, zs, hcs, _, hl, hm, hz, hx, hcell, hwz⟩
  · exact ⟨eZ, hcs, by show (0 : Nat) ≤ _; omega, fun i hi => absurd hi (Nat.not_lt_zero _)⟩
  · have hz' : zs.length = cap := by simpa using hz
    refine ⟨⟨some x, len, cap⟩, hcs, by unfold maxLen at hm; show len ≤ _; omega, fun i hi => ?_⟩
    have hi' : i < len := hi
    obtain ⟨b, o, rfl⟩ := spot_none (hcell 0 (by omega))
    refine ⟨b, o, UInt8.ofNat (zs.getD i 0).toNat, rfl, ?_⟩
    have := hcell i (by omega)
    rw [Addr.add_mid] at this
    rw [this]
    have hw := hwz (zs.getD i 0) (by rw [List.getD_eq_getElem?_getD, List.getElem?_eq_getElem (by omega)]; exact List.getElem_mem _)
    have hb : 0 ≤ zs.getD i 0 ∧ zs.getD i 0 ≤ 255 := by simpa [Lit.wf, IntKind.min, IntKind.max, IntKind.signed, IntKind.bits] using hw
    unfold u8c
    rw [UInt8.toNat_ofNat']
    congr 2
    omega
theorem open_wdC {H : Type} {enc : TypeId × Value → H} {W : World} {fuel : Nat} {cs : List Value} {x : DataW H × List MemPlace} (h : DataW.trod enc Try.prog W 0 (fun _ => true) true fuel 33 cs = some x) : ∃ s : WD, cs = wdC s ∧ ValR W s.val := by
  obtain ⟨ys, m, _, _, hl, hyl, hf⟩ := DataW.trod_struct Try.underlying33 h
  rw [cellsWides] at hl
  have hyl2 : ys.length = 3 := hyl
  have g0 : DataW.trod enc Try.prog W 0 (fun _ => true) true m 28 ((cs.drop 0).take (Try.prog.cellsOf 28)) = ys[0]? := hf 0 _ rfl
  have g1 : DataW.trod enc Try.prog W 0 (fun _ => true) true m 29 ((cs.drop 4).take (Try.prog.cellsOf 29)) = ys[1]? := hf 1 _ rfl
  have g2 : DataW.trod enc Try.prog W 0 (fun _ => true) true m 4 ((cs.drop 5).take (Try.prog.cellsOf 4)) = ys[2]? := hf 2 _ rfl
  rw [cellsWide, List.getElem?_eq_getElem (by omega)] at g0
  rw [cellsVal, List.getElem?_eq_getElem (by omega)] at g1
  rw [cellsBool, List.getElem?_eq_getElem (by omega)] at g2
  obtain ⟨k, f0⟩ := open_wideC g0
  obtain ⟨e, f1, hv⟩ := open_valC g1
  obtain ⟨b, f2, _⟩ := DataW.trod_bool Try.underlying4 g2
  refine ⟨⟨k, e, b⟩, ?_, hv⟩
  rw [show cs = cs.drop 0 from rfl, cut cs 0 4, f0, cut cs 4 1, f1, cut cs 5 1, f2, cut0 cs 6 hl]
  simp only [wdC, eC, List.append_assoc, List.cons_append, List.nil_append, List.append_nil]
/-- A script opened. -/
theorem open_wds {H : Type} {enc : TypeId × Value → H} {W : World} {fuel : Nat} {v : Value} {d : DataW H} {p : List MemPlace}
    (h : DataW.trod enc Try.prog W 0 (fun _ => true) true fuel 22 [v] = some (d, p)) : ∃ L : List WD, WpIn W v L ∧ (L.length = 0 ∨ ∃ elems spare, d = .slice elems spare ∧ L.length = elems.length) := by
  rcases open_slice Try.underlying22 h with ⟨hcs, hx⟩ | ⟨a, len, cap, m, q, D, Pl, hcs, _, hl, hm, hmm, hx, hxr⟩
  · exact ⟨[], ⟨none, 0, (List.cons.inj hcs).1, fun h => absurd h (by decide)⟩, .inl rfl⟩
  · simp only [if_true] at hmm
    rw [cellsWides] at hxr
    have each : ∀ i, i < len → ∃ x : WD, ∃ b o, a = ⟨b, o, none⟩ ∧ W.rangeAt b (o + i * 6) (wdC x) ∧ ValR W x.val := by
      intro i hi
      obtain ⟨cs', h1, ht⟩ := hxr i (by omega)
      obtain ⟨_, hl32, hc⟩ := World.cells?_some h1
      obtain ⟨x, rfl, hv⟩ := open_wdC ht
      obtain ⟨b, o, rfl⟩ : ∃ b o, a = ⟨b, o, none⟩ := by
        obtain ⟨cs0, h10, _⟩ := hxr 0 (by omega)
        obtain ⟨_, hl0, hc0⟩ := World.cells?_some h10
        have h2 := hc0 0 (by omega)
        rw [List.getElem?_eq_getElem (by omega)] at h2
        obtain ⟨b, o, spot⟩ := a
        have hs : spot = none := by simpa [Addr.add] using World.cell?_spot h2
        exact ⟨b, o, by rw [hs]⟩
      refine ⟨x, b, o, rfl, fun j u hj => ?_, hv⟩
      have hjl : j < 6 := by
        have := (List.getElem?_eq_some_iff.1 hj).1
        rw [wdC_len] at this
        exact this
      have h2 := hc j hjl
      rw [Addr.add_mid, Addr.add_mid] at h2
      rw [h2]; exact hj
    haveI : Inhabited WD := ⟨wdZ⟩
    obtain ⟨f, hf⟩ := choose_lt each
    refine ⟨(List.range len).map f, ⟨some a, cap, ?_, fun hp => ?_⟩, .inr ⟨_, _, (Prod.mk.inj hx).1, by simp⟩⟩
    · rw [List.length_map, List.length_range]
      exact (List.cons.inj hcs).1
    · obtain ⟨b, o, rfl, _⟩ := hf 0 (by simpa using hp)
      refine ⟨b, o, rfl, fun j x hj => ?_⟩
      obtain ⟨hj1, hj2⟩ := List.getElem?_eq_some_iff.1 hj
      have hjl : j < len := by simpa using hj1
      obtain ⟨b2, o2, e2, hr, hv⟩ := hf j hjl
      cases e2
      have e : f j = x := by rw [← hj2]; simp
      rw [← e]
      exact ⟨hr, hv⟩
theorem bytesWides : Try.prog.bytesOf 33 = 56 := by kernel_rfl
theorem sized_topA {H : Type} {P : Program} {ts : List TypeId} {ds : List (DataW H)} (h : (DataW.weightsEach P ts ds).all (· ≤ reachBytes) = true) {j : Nat} {t e : TypeId} {elems spare : List (DataW H)}
    (ht : ts[j]? = some t) (hd : ds[j]? = some (.slice elems spare)) (hu : P.underlying t = some (.slice e)) : (elems.length + spare.length) * P.bytesOf e ≤ reachBytes := by
  refine of_decide_eq_true (List.all_eq_true.1 h _ (DataW.weights_mem_each ht hd _ ?_))
  simp [DataW.weights, hu]
end TX
set_option maxRecDepth 100000 in
theorem tableWide_lifted (os : Os) (started : os.Started) (H : Type) (enc : TypeId × Value → H) :
    ReturnsInHanded {} Try.checked os 3 .any (Rows.tableWideSpec.pre6 enc Try.prog Try.f3 Rows.tableWideRow.domain false) (Rows.tableWideSpec.post enc Try.prog Try.f3 false true false false) := by
  refine returnsInHanded_of_change_sized (C := Try.checked) TX.ownA started (by kernel_rfl) Try.func3
    (ChangeSpec.witness6 (enc := enc) (C := Try.checked) false ⟨#[], #[.slice none 0 0], []⟩ 8 (by kernel_rfl) (by kernel_rfl) (by kernel_rfl) (by kernel_rfl)) ?_
  intro W base args ds gs before hval0 hW _ hsz0 _
  have hsz : (DataW.weightsEach Try.prog (Try.f3.params.toList ++ Rows.tableWideSpec.plain.varTypes Try.prog) (ds ++ gs)).all (· ≤ reachBytes) = true := hsz0
  have hval : ∀ (j : Nat) t v, Try.f3.params[j]? = some t → args[j]? = some v → Value.okWide Try.prog W .any base t v := hval0
  have hW' := hW
  obtain ⟨p, q, hA0, hV, rfl, hfz, hnd⟩ := hW
  have hA : DataW.TrodAll enc Try.prog W 0 (fun _ => true) true Try.f3.params.toList args.toList ds p := hA0
  rw [Try.params3] at hA hval hsz
  obtain ⟨v0, vs0, d0, ds0, p0, q0, hargs, rfl, rfl, h0, r0⟩ := trodAll_cons hA
  obtain ⟨rfl, rfl, rfl⟩ := trodAll_nil r0
  obtain rfl : args = #[v0] := by cases args; simp_all
  obtain ⟨rfl, rfl⟩ := trodVars_none hV
  have k0 := h0
  have lt0 : ∀ x ∈ p0, x.block < W.heap.size := by obtain ⟨m, hm⟩ := k0; exact DataW.trod_lt m _ _ _ hm
  obtain ⟨fuel0, hf0⟩ := h0
  obtain ⟨aa, n, c, rfl⟩ := okWide_slice Try.underlying22 (hval 0 22 v0 rfl rfl)
  obtain ⟨SC, hS, hd⟩ := TX.open_wds (v := .slice aa n c) hf0
  have hb : SC.length ≤ 2513169434843 := by
    rcases hd with h | ⟨elems, spare, rfl, h⟩
    · omega
    · have := TX.sized_topA hsz (j := 0) (t := 22) (e := 33) rfl rfl Try.underlying22
      rw [TX.bytesWides] at this
      unfold reachBytes at this
      omega
  clear hA0 hval0 hsz0
  refine (TX.wide_law W _ SC hS hb).mono fun e W' ⟨he, bel⟩ => ?_
  subst he
  exact ⟨_, rfl, _, _, _, [], _, [], hW', trodAll_mk1 (shut_bool Try.underlying4 _), (trodAll_cons_mk (Below.trod TX.laidOutA (by kernel_rfl) (of_decide_eq_true (by kernel_rfl)) k0 bel lt0) trodAll_mk0), rfl, bel.frame _, fun h => by cases h⟩

theorem tableWide_holds : Rows.TableWideSaid :=
  OpenClaim.holds_of_wide 3 Try.f3 rfl rfl rfl rfl rfl rfl rfl ⟨rfl, rfl, rfl, rfl, rfl⟩ rfl rfl rfl rfl rfl (by kernel_rfl) Try.func3 (by kernel_rfl)
    (of_decide_eq_true (by kernel_rfl)) (by unfold Func.isWrapper; first | (rw [if_pos (by decide +kernel)]; kernel_rfl) | (rw [if_neg (by decide +kernel)]; exact ⟨rfl, rfl⟩))
    (fun os started H enc _ => tableWide_lifted os started H enc)
#print axioms tableWide_holds
end Go.Proofs.Ytjhbebaephmcgaa
