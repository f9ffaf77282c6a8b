/- GreyList: for every input the call returns true, and each argument reads afterwards as it read before. No condition. -/
import Derived.Test.YtiogblfdchdioaaGDQ
import Derived.Test.YtiogblfdchdioaaRows
import Derived.ChangeSame
import Derived.ChangeVars
import Derived.JoinedOf
import Derived.RowKit
import Derived.ProofKit
import Derived.OpenShut
import Derived.SizedLaws
import Derived.Deep.Slices
namespace Go.Proofs.Ytiogblfdchdioaa
set_option linter.unusedVariables false
set_option linter.unusedSimpArgs false
namespace RG
open Go.ChangeShapes Go.WideShapes Go.RowKit Go.Deep

theorem own : ownKnob Try.prog.godebug = none := by kernel_rfl
theorem laidOut : laidOutB Try.prog = true := by kernel_rfl
theorem cellsU8p : Try.prog.cellsOf 5 = 1 := by kernel_rfl
theorem cellsKeyp : Try.prog.cellsOf 31 = 32 := by kernel_rfl
theorem cellsIntp : Try.prog.cellsOf 3 = 1 := by kernel_rfl
theorem cellsMoveP : Try.prog.cellsOf 33 = 35 := by kernel_rfl
theorem cellsBoolp : Try.prog.cellsOf 4 = 1 := by kernel_rfl
theorem bytesMoveP : Try.prog.bytesOf 33 = 48 := by kernel_rfl
theorem open_keyP {H : Type} {enc : TypeId × Value → H} {W : World} {base : Nat} {spare : Nat → Bool} {held : Bool} {fuel : Nat} {cs : List Value} {x : DataW H × List MemPlace}
    (h : DataW.trod enc Try.prog W base spare held fuel 31 cs = some x) : ∃ bs : List UInt8, bs.length = 32 ∧ cs = bs.map u8c := by
  obtain ⟨xs, m, _, _, hl, hxl, hx⟩ := DataW.trod_array Try.underlying31 h
  rw [cellsKeyp] at hl
  have each : ∀ i, i < 32 → ∃ b : UInt8, cs[i]? = some (u8c b) := by
    intro i hi
    have h1 := hx i hi
    rw [cellsU8p, Nat.mul_one, List.getElem?_eq_getElem (by omega)] at h1
    obtain ⟨n, hn, _, hw⟩ := DataW.trod_int Try.underlying5 h1
    have hb : 0 ≤ n ∧ n ≤ 255 := by simpa [Lit.wf, IntKind.min, IntKind.max, IntKind.signed, IntKind.bits] using hw
    refine ⟨UInt8.ofNat n.toNat, ?_⟩
    rw [List.drop_eq_getElem_cons (show i < cs.length by omega)] at hn
    have h2 : cs[i]'(by omega) = .int .u8 n := (List.cons.inj hn).1
    rw [List.getElem?_eq_getElem (by omega), h2]
    unfold u8c
    rw [UInt8.toNat_ofNat']
    congr 2
    omega
  obtain ⟨f, hf⟩ := choose_lt each
  refine ⟨(List.range 32).map f, by simp, ?_⟩
  apply List.ext_getElem?
  intro i
  rcases Nat.lt_or_ge i 32 with hi | hi
  · rw [hf i hi]; simp [hi]
  · rw [List.getElem?_eq_none (by omega), List.getElem?_eq_none (by simpa using hi)]
instance : Inhabited Mp := ⟨⟨0, false, false, List.replicate 32 0, rfl⟩⟩
theorem cut35 {cs : List Value} {a b c : Value} {k : List Value} (hl : cs.length = 35) (h0 : (cs.drop 0).take 1 = [a]) (h1 : (cs.drop 1).take 1 = [b]) (h2 : (cs.drop 2).take 1 = [c]) (h3 : (cs.drop 3).take 32 = k) : cs = a :: b :: c :: k := by
  have q3 : cs.drop 3 = k := by rw [← h3, List.take_of_length_le (by rw [List.length_drop]; omega)]
  have q2 : cs.drop 2 = c :: k := by
    rw [← q3, show cs.drop 3 = (cs.drop 2).drop 1 by rw [List.drop_drop], ← List.singleton_append, ← h2, List.take_append_drop]
  have q1 : cs.drop 1 = b :: c :: k := by
    rw [← q2, show cs.drop 2 = (cs.drop 1).drop 1 by rw [List.drop_drop], ← List.singleton_append (x := b), ← h1, List.take_append_drop]
  rw [← q1, ← List.singleton_append (x := a), ← h0, List.drop_zero, List.take_append_drop]
theorem open_moveC {H : Type} {enc : TypeId × Value → H} {W : World} {fuel : Nat} {cs : List Value} {x : DataW H × List MemPlace}
    (h : DataW.trod enc Try.prog W 0 (fun _ => true) true fuel 33 cs = some x) : ∃ p : Mp, cs = p.L := by
  obtain ⟨ys, m, _, hx, hlen, hyl, hfl⟩ := DataW.trod_struct Try.underlying33 h
  rw [cellsMoveP] at hlen
  have hyl4 : ys.length = 4 := hyl
  have t0 : DataW.trod enc Try.prog W 0 (fun _ => true) true m 3 ((cs.drop 0).take (Try.prog.cellsOf 3)) = ys[0]? := hfl 0 _ rfl
  have t1 : DataW.trod enc Try.prog W 0 (fun _ => true) true m 4 ((cs.drop 1).take (Try.prog.cellsOf 4)) = ys[1]? := hfl 1 _ rfl
  have t2 : DataW.trod enc Try.prog W 0 (fun _ => true) true m 4 ((cs.drop 2).take (Try.prog.cellsOf 4)) = ys[2]? := hfl 2 _ rfl
  have t3 : DataW.trod enc Try.prog W 0 (fun _ => true) true m 31 ((cs.drop 3).take (Try.prog.cellsOf 31)) = ys[3]? := hfl 3 _ rfl
  rw [cellsIntp, List.getElem?_eq_getElem (by omega)] at t0
  rw [cellsKeyp, List.getElem?_eq_getElem (by omega)] at t3
  rw [cellsBoolp, List.getElem?_eq_getElem (by omega)] at t1 t2
  obtain ⟨d, f0, _, _⟩ := DataW.trod_int Try.underlying3 t0
  obtain ⟨nl, f1, _⟩ := DataW.trod_bool Try.underlying4 t1
  obtain ⟨bt, f2, _⟩ := DataW.trod_bool Try.underlying4 t2
  obtain ⟨bs, hb, f3⟩ := open_keyP t3
  exact ⟨⟨d, nl, bt, bs, hb⟩, cut35 hlen f0 f1 f2 f3⟩
theorem open_steps {H : Type} {enc : TypeId × Value → H} {W : World} {fuel : Nat} {aa : Option Addr} {n c : Nat} {d : DataW H} {p : List MemPlace}
    (h : DataW.trod enc Try.prog W 0 (fun _ => true) true fuel 22 [.slice aa n c] = some (d, p)) : ∃ ps, n = ps.length ∧ MRow W aa ps ∧ (n = 0 ∨ ∃ elems spare, d = .slice elems spare ∧ n = elems.length) := by
  rcases open_slice Try.underlying22 h with ⟨hcs, hx⟩ | ⟨a, len, cap, m, q, D, Pl, hcs, _, hl, hm, hmm, hx, hxr⟩
  · obtain ⟨rfl, rfl, rfl⟩ := (Value.slice.injEq ..).mp (List.cons.inj hcs).1
    exact ⟨[], rfl, fun i p hi => (by cases hi), .inl rfl⟩
  · obtain ⟨rfl, rfl, rfl⟩ := (Value.slice.injEq ..).mp (List.cons.inj hcs).1
    simp only [if_true] at hmm
    rw [cellsMoveP] at hxr
    have each : ∀ i, i < n → ∃ p : Mp, ∃ b o, a = ⟨b, o, none⟩ ∧ W.rangeAt b (o + i * 35) p.L := by
      intro i hi
      obtain ⟨cs', h1, ht⟩ := hxr i (by omega)
      obtain ⟨_, hl36, hc⟩ := World.cells?_some h1
      obtain ⟨p, rfl⟩ := open_moveC ht
      obtain ⟨b, o, rfl⟩ : ∃ b o, a = ⟨b, o, none⟩ := by
        obtain ⟨cs0, h10, _⟩ := hxr 0 (by omega)
        obtain ⟨_, hl0, hc0⟩ := World.cells?_some h10
        have h2 := hc0 0 (by omega)
        rw [List.getElem?_eq_getElem (by omega)] at h2
        obtain ⟨b, o, spot⟩ := a
        have hs : spot = none := by simpa [Addr.add] using World.cell?_spot h2
        exact ⟨b, o, by rw [hs]⟩
      refine ⟨p, b, o, rfl, fun j u hj => ?_⟩
      have hjl : j < 35 := by
        have := (List.getElem?_eq_some_iff.1 hj).1
        rwa [p.len] at this
      have h2 := hc j hjl
      rw [Addr.add_mid, Addr.add_mid] at h2
      rw [h2]; exact hj
    obtain ⟨f, hf⟩ := choose_lt each
    refine ⟨(List.range n).map f, by simp, fun i p hi => ?_, .inr ⟨_, _, (Prod.mk.inj hx).1, by simp⟩⟩
    have hin : i < n := by simpa using (List.getElem?_eq_some_iff.1 hi).1
    obtain ⟨b, o, rfl, hr⟩ := hf i hin
    have e : p = f i := by
      rw [List.getElem?_map, List.getElem?_range hin] at hi
      exact (Option.some.inj hi).symm
    rw [e]
    exact ⟨b, o, rfl, hr⟩
set_option maxRecDepth 100000 in
theorem greyList_lifted (os : Os) (started : os.Started) (H : Type) (enc : TypeId × Value → H) :
    ReturnsInHanded {} Try.checked os 3 .any (Rows.greyListSpec.pre6 enc Try.prog Try.f3 Rows.greyListRow.domain false) (Rows.greyListSpec.post enc Try.prog Try.f3 false true false false) := by
  refine returnsInHanded_of_change_sized (C := Try.checked) own started (by kernel_rfl) Try.func3
    (ChangeSpec.witness6 (enc := enc) (C := Try.checked) false ⟨#[], #[.slice none 0 0], []⟩ 8 (by kernel_rfl) (by kernel_rfl) (by kernel_rfl) (by kernel_rfl)) ?_
  intro W base args ds gs before hval0 hW _ hsz0 _
  have hsz : (DataW.weightsEach Try.prog (Try.f3.params.toList ++ Rows.greyListSpec.plain.varTypes Try.prog) (ds ++ gs)).all (· ≤ reachBytes) = true := hsz0
  have hval : ∀ (j : Nat) t v, Try.f3.params[j]? = some t → args[j]? = some v → Value.okWide Try.prog W .any base t v := hval0
  have hW' := hW
  obtain ⟨p, q, hA0, hV, rfl, hfz, hnd⟩ := hW
  have hA : DataW.TrodAll enc Try.prog W 0 (fun _ => true) true Try.f3.params.toList args.toList ds p := hA0
  rw [Try.params3] at hA hval hsz
  obtain ⟨v0, vs0, d0, ds0, p0, q0, hargs, rfl, rfl, h0, r0⟩ := trodAll_cons hA
  obtain ⟨rfl, rfl, rfl⟩ := trodAll_nil r0
  obtain rfl : args = #[v0] := by cases args; simp_all
  obtain ⟨rfl, rfl⟩ := trodVars_none hV
  have k0 := h0
  have lt0 : ∀ x ∈ p0, x.block < W.heap.size := by obtain ⟨m, hm⟩ := k0; exact DataW.trod_lt m _ _ _ hm
  obtain ⟨a0, len0, cap0, rfl⟩ := okWide_slice Try.underlying22 (hval 0 22 v0 rfl rfl)
  obtain ⟨fuel0, hf0⟩ := h0
  obtain ⟨ps, hn, hr, hs⟩ := open_steps hf0
  have hlen : len0 ≤ 3518437207999 := by
    rcases hs with h | ⟨elems, spare, rfl, h⟩
    · omega
    · have := sized_slice hsz (j := 0) (t := 22) (e := 33) rfl rfl Try.underlying22
      rw [bytesMoveP] at this
      simp only [reachBytes] at this
      omega
  clear hA0 hval0 hsz0
  subst hn
  refine (list_any W a0 cap0 ps hr hlen).mono fun e W' ⟨he, bel⟩ => ?_
  subst he
  exact ⟨_, rfl, _, _, _, [], _, [], hW', trodAll_mk1 (shut_bool Try.underlying4 _), (trodAll_cons_mk (Below.trod laidOut (by kernel_rfl) (of_decide_eq_true (by kernel_rfl)) k0 bel lt0) trodAll_mk0), rfl, bel.frame _, fun h => by cases h⟩

theorem greyList_holds : Rows.GreyListSaid :=
  OpenClaim.holds_of_wide 3 Try.f3 rfl rfl rfl rfl rfl rfl rfl ⟨rfl, rfl, rfl, rfl, rfl⟩ rfl rfl rfl rfl rfl (by kernel_rfl) Try.func3 (by kernel_rfl)
    (of_decide_eq_true (by kernel_rfl)) (by unfold Func.isWrapper; first | (rw [if_pos (by decide +kernel)]; kernel_rfl) | (rw [if_neg (by decide +kernel)]; exact ⟨rfl, rfl⟩))
    (fun os started H enc _ => greyList_lifted os started H enc)
end RG
theorem greyList_holds : Rows.GreyListSaid := RG.greyList_holds
#print axioms greyList_holds
end Go.Proofs.Ytiogblfdchdioaa
