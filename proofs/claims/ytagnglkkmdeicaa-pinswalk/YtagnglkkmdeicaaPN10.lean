/- PinsWalk: for every input the call returns true, and each argument reads afterwards as it read before. No condition. -/
import Derived.Test.YtagnglkkmdeicaaPN9
import Derived.Test.YtagnglkkmdeicaaRows
import Derived.ChangeSame
import Derived.ChangeVars
import Derived.JoinedOf
import Derived.RowKit
import Derived.ProofKit
import Derived.OpenShut
import Derived.ChangeOld
import Derived.SizedLaws
import Derived.Deep.Slices
import Derived.Lib.SmallJoins
namespace Go.Proofs.Ytagnglkkmdeicaa
set_option linter.unusedVariables false
set_option linter.unusedSimpArgs false
open Go.ChangeShapes Go.WideShapes Go.ChangeAt Go.RowKit Go.Deep

theorem own : ownKnob Try.prog.godebug = none := by kernel_rfl
theorem laidOut : laidOutB Try.prog = true := by kernel_rfl
theorem cellsU8p : Try.prog.cellsOf 5 = 1 := by kernel_rfl
theorem cellsKeyp : Try.prog.cellsOf 30 = 32 := by kernel_rfl
theorem cellsIntp : Try.prog.cellsOf 3 = 1 := by kernel_rfl
theorem cellsPinned : Try.prog.cellsOf 41 = 33 := by kernel_rfl
theorem bytesPinned : Try.prog.bytesOf 41 = 40 := by kernel_rfl
theorem open_keyP {H : Type} {enc : TypeId × Value → H} {W : World} {base : Nat} {spare : Nat → Bool} {held : Bool} {fuel : Nat} {cs : List Value} {x : DataW H × List MemPlace}
    (h : DataW.trod enc Try.prog W base spare held fuel 30 cs = some x) : ∃ bs : List UInt8, bs.length = 32 ∧ cs = bs.map u8c := by
  obtain ⟨xs, m, _, _, hl, hxl, hx⟩ := DataW.trod_array Try.underlying30 h
  rw [cellsKeyp] at hl
  have each : ∀ i, i < 32 → ∃ b : UInt8, cs[i]? = some (u8c b) := by
    intro i hi
    have h1 := hx i hi
    rw [cellsU8p, Nat.mul_one, List.getElem?_eq_getElem (by omega)] at h1
    obtain ⟨n, hn, _, hw⟩ := DataW.trod_int Try.underlying5 h1
    have hb : 0 ≤ n ∧ n ≤ 255 := by simpa [Lit.wf, IntKind.min, IntKind.max, IntKind.signed, IntKind.bits] using hw
    refine ⟨UInt8.ofNat n.toNat, ?_⟩
    rw [List.drop_eq_getElem_cons (show i < cs.length by omega)] at hn
    have h2 : cs[i]'(by omega) = .int .u8 n := (List.cons.inj hn).1
    rw [List.getElem?_eq_getElem (by omega), h2]
    unfold u8c
    rw [UInt8.toNat_ofNat']
    congr 2
    omega
  obtain ⟨f, hf⟩ := choose_lt each
  refine ⟨(List.range 32).map f, by simp, ?_⟩
  apply List.ext_getElem?
  intro i
  rcases Nat.lt_or_ge i 32 with hi | hi
  · rw [hf i hi]; simp [hi]
  · rw [List.getElem?_eq_none (by omega), List.getElem?_eq_none (by simpa using hi)]
theorem open_pinC {H : Type} {enc : TypeId × Value → H} {W : World} {fuel : Nat} {cs : List Value} {x : DataW H × List MemPlace}
    (h : DataW.trod enc Try.prog W 0 (fun _ => true) true fuel 41 cs = some x) : ∃ p : Int × List UInt8, p.2.length = 32 ∧ cs = .int .i64 p.1 :: p.2.map u8c := by
  obtain ⟨y0, y1, _, _, hlen, f0, f1⟩ := trod_struct2 Try.underlying41 h
  rw [cellsPinned] at hlen
  simp only [cellsIntp, cellsKeyp] at f0 f1
  obtain ⟨q, e0, _, _⟩ := DataW.trod_int Try.underlying3 f0
  obtain ⟨bs, hb, e1⟩ := open_keyP f1
  refine ⟨(q, bs), hb, ?_⟩
  have e2 : (cs.drop 1).take 32 = cs.drop 1 := List.take_of_length_le (by rw [List.length_drop]; omega)
  match cs, hlen with
  | a :: r, hl =>
    have h1 : a = .int .i64 q := (List.cons.inj (show [a] = [Value.int .i64 q] from e0)).1
    have h2 : (r.take 32) = bs.map u8c := e1
    rw [List.take_of_length_le (by have := hl; rw [List.length_cons] at this; omega)] at h2
    rw [h1, h2]
/-- The row opened. -/
theorem open_pins {H : Type} {enc : TypeId × Value → H} {W : World} {fuel : Nat} {aa : Option Addr} {n c : Nat} {d : DataW H} {p : List MemPlace}
    (h : DataW.trod enc Try.prog W 0 (fun _ => true) true fuel 36 [.slice aa n c] = some (d, p)) : ∃ ps, n = ps.length ∧ PRow W aa ps ∧ (n = 0 ∨ ∃ elems spare, d = .slice elems spare ∧ n = elems.length) := by
  rcases open_slice Try.underlying36 h with ⟨hcs, hx⟩ | ⟨a, len, cap, m, q, D, Pl, hcs, _, hl, hm, hmm, hx, hxr⟩
  · obtain ⟨rfl, rfl, rfl⟩ := (Value.slice.injEq ..).mp (List.cons.inj hcs).1
    exact ⟨[], rfl, ⟨fun i hi => absurd hi (by simp), fun k hk => absurd hk (by simp)⟩, .inl rfl⟩
  · obtain ⟨rfl, rfl, rfl⟩ := (Value.slice.injEq ..).mp (List.cons.inj hcs).1
    simp only [if_true] at hmm
    rw [cellsPinned] at hxr
    have each : ∀ i, i < n → ∃ p : Int × List UInt8, p.2.length = 32 ∧ ∃ b o, a = ⟨b, o, none⟩ ∧ W.rangeAt b (o + i * 33) (.int .i64 p.1 :: p.2.map u8c) := by
      intro i hi
      obtain ⟨cs', h1, ht⟩ := hxr i (by omega)
      obtain ⟨_, hl33, hc⟩ := World.cells?_some h1
      obtain ⟨p, hp, rfl⟩ := open_pinC ht
      obtain ⟨b, o, rfl⟩ : ∃ b o, a = ⟨b, o, none⟩ := by
        obtain ⟨cs0, h10, _⟩ := hxr 0 (by omega)
        obtain ⟨_, hl0, hc0⟩ := World.cells?_some h10
        have h2 := hc0 0 (by omega)
        rw [List.getElem?_eq_getElem (by omega)] at h2
        obtain ⟨b, o, spot⟩ := a
        have hs : spot = none := by simpa [Addr.add] using World.cell?_spot h2
        exact ⟨b, o, by rw [hs]⟩
      refine ⟨p, hp, b, o, rfl, fun j u hj => ?_⟩
      have hjl : j < 33 := by
        have := (List.getElem?_eq_some_iff.1 hj).1
        simpa [hp] using this
      have h2 := hc j hjl
      rw [Addr.add_mid, Addr.add_mid] at h2
      rw [h2]; exact hj
    obtain ⟨f, hf⟩ := choose_lt each
    refine ⟨(List.range n).map f, by simp, ⟨fun i hi => ?_, fun k hk => ?_⟩, ?_⟩
    · have hin : i < n := by simpa using hi
      obtain ⟨hp, b, o, rfl, hr⟩ := hf i hin
      have e : ((List.range n).map f)[i]'hi = f i := by simp
      rw [e]
      refine ⟨b, o, rfl, hr 0 _ rfl, fun j u hj => ?_⟩
      rw [show o + i * 33 + 1 + j = o + i * 33 + (j + 1) by omega]
      exact hr (j + 1) u (by rw [List.getElem?_cons_succ]; exact hj)
    · obtain ⟨i, hi, rfl⟩ := List.mem_map.1 hk
      exact (hf i (List.mem_range.1 hi)).1
    · exact .inr ⟨_, _, (Prod.mk.inj hx).1, by simp⟩
set_option maxRecDepth 100000 in
theorem pinsWalk_lifted (os : Os) (started : os.Started) (H : Type) (enc : TypeId × Value → H) :
    ReturnsInHanded {} Try.checked os 4 .any (Rows.pinsWalkSpec.pre6 enc Try.prog Try.f4 Rows.pinsWalkRow.domain false) (Rows.pinsWalkSpec.post enc Try.prog Try.f4 false true false false) := by
  refine returnsInHanded_of_change_sized (C := Try.checked) own started (by kernel_rfl) Try.func4
    (ChangeSpec.witness6 (enc := enc) (C := Try.checked) false ⟨#[], #[.slice none 0 0, .int .i64 0], []⟩ 8 (by kernel_rfl) (by kernel_rfl) (by kernel_rfl) (by kernel_rfl)) ?_
  intro W base args ds gs before hval0 hW _ hsz0 _
  have hsz : (DataW.weightsEach Try.prog (Try.f4.params.toList ++ Rows.pinsWalkSpec.plain.varTypes Try.prog) (ds ++ gs)).all (· ≤ reachBytes) = true := hsz0
  have hval : ∀ (j : Nat) t v, Try.f4.params[j]? = some t → args[j]? = some v → Value.okWide Try.prog W .any base t v := hval0
  have hW' := hW
  obtain ⟨p, q, hA0, hV, rfl, hfz, hnd⟩ := hW
  have hA : DataW.TrodAll enc Try.prog W 0 (fun _ => true) true Try.f4.params.toList args.toList ds p := hA0
  rw [Try.params4] at hA hval hsz
  obtain ⟨v0, vs0, d0, ds0, p0, q0, hargs, rfl, rfl, h0, r0⟩ := trodAll_cons hA
  obtain ⟨v1, vs1, d1, ds1, p1, q1, rfl, rfl, rfl, h1, r1⟩ := trodAll_cons r0
  obtain ⟨rfl, rfl, rfl⟩ := trodAll_nil r1
  obtain rfl : args = #[v0, v1] := by cases args; simp_all
  obtain ⟨rfl, rfl⟩ := trodVars_none hV
  have k0 := h0
  have k1 := h1
  have lt0 : ∀ x ∈ p0, x.block < W.heap.size := by obtain ⟨m, hm⟩ := k0; exact DataW.trod_lt m _ _ _ hm
  have lt1 : ∀ x ∈ p1, x.block < W.heap.size := by obtain ⟨m, hm⟩ := k1; exact DataW.trod_lt m _ _ _ hm
  obtain ⟨a0, len0, cap0, rfl⟩ := okWide_slice Try.underlying36 (hval 0 36 v0 rfl rfl)
  obtain ⟨fuel0, hf0⟩ := h0
  obtain ⟨fuel1, hf1⟩ := h1
  obtain ⟨s, es, _, _⟩ := DataW.trod_int Try.underlying3 hf1
  obtain ⟨ps, hn, hr, hs⟩ := open_pins hf0
  have hlen : len0 ≤ 3518437208882 := by
    rcases hs with h | ⟨elems, spare, rfl, h⟩
    · omega
    · have := sized_slice hsz (j := 0) (t := 36) (e := 41) rfl rfl Try.underlying36
      rw [bytesPinned] at this
      simp only [reachBytes] at this
      omega
  have e1 : v1 = .int .i64 s := by
    have := hval 1 3 v1 rfl rfl
    obtain ⟨k, rfl⟩ := okWide_int Try.underlying3 this
    exact (List.cons.inj es).1
  subst e1
  clear hA0 hval0 hsz0
  refine (walk_law W a0 len0 cap0 s ps hn hr hlen).mono fun e W' ⟨he, bel⟩ => ?_
  subst he
  exact ⟨_, rfl, _, _, _, [], _, [], hW', trodAll_mk1 (shut_bool Try.underlying4 _), (trodAll_cons_mk (Below.trod laidOut (by kernel_rfl) (of_decide_eq_true (by kernel_rfl)) k0 bel lt0) (trodAll_cons_mk (Below.trod laidOut (by kernel_rfl) (of_decide_eq_true (by kernel_rfl)) k1 bel lt1) trodAll_mk0)), rfl, bel.frame _, fun h => by cases h⟩

theorem pinsWalk_holds : Rows.PinsWalkSaid :=
  OpenClaim.holds_of_wide 4 Try.f4 rfl rfl rfl rfl rfl rfl rfl ⟨rfl, rfl, rfl, rfl, rfl⟩ rfl rfl rfl rfl rfl (by kernel_rfl) Try.func4 (by kernel_rfl)
    (of_decide_eq_true (by kernel_rfl)) (by unfold Func.isWrapper; first | (rw [if_pos (by decide +kernel)]; kernel_rfl) | (rw [if_neg (by decide +kernel)]; exact ⟨rfl, rfl⟩))
    (fun os started H enc _ => pinsWalk_lifted os started H enc)
#print axioms pinsWalk_holds
end Go.Proofs.Ytagnglkkmdeicaa
