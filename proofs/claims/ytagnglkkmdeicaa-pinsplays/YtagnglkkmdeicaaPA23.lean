/- PinsPlays (under SpoH): for every input the call returns true, and each argument reads afterwards as it read before. No condition. -/
import Derived.Test.YtagnglkkmdeicaaPA22
import Derived.Test.YtagnglkkmdeicaaRows
import Derived.ChangeSame
import Derived.ChangeVars
import Derived.JoinedOf
import Derived.RowKit
import Derived.ProofKit
import Derived.OpenShut
import Derived.ChangeOld
import Derived.SizedLaws
import Derived.Deep.Slices
import Derived.Lib.SmallJoins
namespace Go.Proofs.Ytagnglkkmdeicaa
set_option linter.unusedVariables false
set_option linter.unusedSimpArgs false
open Go.ChangeShapes Go.WideShapes Go.ChangeAt Go.RowKit Go.Deep

theorem own : ownKnob Try.prog.godebug = none := by kernel_rfl
theorem laidOut : laidOutB Try.prog = true := by kernel_rfl
theorem cellsU8p : Try.prog.cellsOf 5 = 1 := by kernel_rfl
theorem cellsKeyp : Try.prog.cellsOf 30 = 32 := by kernel_rfl
theorem cellsIntp : Try.prog.cellsOf 3 = 1 := by kernel_rfl
theorem cellsStepP : Try.prog.cellsOf 32 = 36 := by kernel_rfl
theorem cellsBoolp : Try.prog.cellsOf 4 = 1 := by kernel_rfl
theorem bytesStepP : Try.prog.bytesOf 32 = 64 := by kernel_rfl
theorem open_keyP {H : Type} {enc : TypeId × Value → H} {W : World} {base : Nat} {spare : Nat → Bool} {held : Bool} {fuel : Nat} {cs : List Value} {x : DataW H × List MemPlace}
    (h : DataW.trod enc Try.prog W base spare held fuel 30 cs = some x) : ∃ bs : List UInt8, bs.length = 32 ∧ cs = bs.map u8c := by
  obtain ⟨xs, m, _, _, hl, hxl, hx⟩ := DataW.trod_array Try.underlying30 h
  rw [cellsKeyp] at hl
  have each : ∀ i, i < 32 → ∃ b : UInt8, cs[i]? = some (u8c b) := by
    intro i hi
    have h1 := hx i hi
    rw [cellsU8p, Nat.mul_one, List.getElem?_eq_getElem (by omega)] at h1
    obtain ⟨n, hn, _, hw⟩ := DataW.trod_int Try.underlying5 h1
    have hb : 0 ≤ n ∧ n ≤ 255 := by simpa [Lit.wf, IntKind.min, IntKind.max, IntKind.signed, IntKind.bits] using hw
    refine ⟨UInt8.ofNat n.toNat, ?_⟩
    rw [List.drop_eq_getElem_cons (show i < cs.length by omega)] at hn
    have h2 : cs[i]'(by omega) = .int .u8 n := (List.cons.inj hn).1
    rw [List.getElem?_eq_getElem (by omega), h2]
    unfold u8c
    rw [UInt8.toNat_ofNat']
    congr 2
    omega
  obtain ⟨f, hf⟩ := choose_lt each
  refine ⟨(List.range 32).map f, by simp, ?_⟩
  apply List.ext_getElem?
  intro i
  rcases Nat.lt_or_ge i 32 with hi | hi
  · rw [hf i hi]; simp [hi]
  · rw [List.getElem?_eq_none (by omega), List.getElem?_eq_none (by simpa using hi)]
instance : Inhabited Sp := ⟨⟨0, false, 0, [], false⟩⟩
theorem cut36 {cs : List Value} {a b c e : Value} {k : List Value} (hl : cs.length = 36) (h0 : (cs.drop 0).take 1 = [a]) (h1 : (cs.drop 1).take 1 = [b]) (h2 : (cs.drop 2).take 1 = [c]) (h3 : (cs.drop 3).take 32 = k) (h4 : (cs.drop 35).take 1 = [e]) : cs = a :: b :: c :: (k ++ [e]) := by
  have q4 : cs.drop 35 = [e] := by rw [← h4, List.take_of_length_le (by rw [List.length_drop]; omega)]
  have q3 : cs.drop 3 = k ++ [e] := by
    rw [← h3, ← q4, show (35 : Nat) = 3 + 32 by rfl, ← List.drop_drop, List.take_append_drop]
  have q2 : cs.drop 2 = c :: (k ++ [e]) := by
    rw [← q3, show cs.drop 3 = (cs.drop 2).drop 1 by rw [List.drop_drop], ← List.singleton_append, ← h2, List.take_append_drop]
  have q1 : cs.drop 1 = b :: c :: (k ++ [e]) := by
    rw [← q2, show cs.drop 2 = (cs.drop 1).drop 1 by rw [List.drop_drop], ← List.singleton_append (x := b), ← h1, List.take_append_drop]
  rw [← q1, ← List.singleton_append (x := a), ← h0, List.drop_zero, List.take_append_drop]
theorem open_stepC {H : Type} {enc : TypeId × Value → H} {W : World} {fuel : Nat} {cs : List Value} {x : DataW H × List MemPlace}
    (h : DataW.trod enc Try.prog W 0 (fun _ => true) true fuel 32 cs = some x) : ∃ p : Sp, p.x.length = 32 ∧ cs = p.L := by
  obtain ⟨ys, m, _, hx, hlen, hyl, hfl⟩ := DataW.trod_struct Try.underlying32 h
  rw [cellsStepP] at hlen
  have hyl5 : ys.length = 5 := hyl
  have t0 : DataW.trod enc Try.prog W 0 (fun _ => true) true m 3 ((cs.drop 0).take (Try.prog.cellsOf 3)) = ys[0]? := hfl 0 _ rfl
  have t1 : DataW.trod enc Try.prog W 0 (fun _ => true) true m 4 ((cs.drop 1).take (Try.prog.cellsOf 4)) = ys[1]? := hfl 1 _ rfl
  have t2 : DataW.trod enc Try.prog W 0 (fun _ => true) true m 3 ((cs.drop 2).take (Try.prog.cellsOf 3)) = ys[2]? := hfl 2 _ rfl
  have t3 : DataW.trod enc Try.prog W 0 (fun _ => true) true m 30 ((cs.drop 3).take (Try.prog.cellsOf 30)) = ys[3]? := hfl 3 _ rfl
  have t4 : DataW.trod enc Try.prog W 0 (fun _ => true) true m 4 ((cs.drop 35).take (Try.prog.cellsOf 4)) = ys[4]? := hfl 4 _ rfl
  rw [cellsIntp, List.getElem?_eq_getElem (by omega)] at t0 t2
  rw [cellsKeyp, List.getElem?_eq_getElem (by omega)] at t3
  rw [cellsBoolp, List.getElem?_eq_getElem (by omega)] at t1 t4
  obtain ⟨d, f0, _, _⟩ := DataW.trod_int Try.underlying3 t0
  obtain ⟨ot, f1, _⟩ := DataW.trod_bool Try.underlying4 t1
  obtain ⟨sn, f2, _, _⟩ := DataW.trod_int Try.underlying3 t2
  obtain ⟨bs, hb, f3⟩ := open_keyP t3
  obtain ⟨al, f4, _⟩ := DataW.trod_bool Try.underlying4 t4
  exact ⟨⟨d, ot, sn, bs, al⟩, hb, cut36 hlen f0 f1 f2 f3 f4⟩
/-- The row opened. -/
theorem open_steps {H : Type} {enc : TypeId × Value → H} {W : World} {fuel : Nat} {aa : Option Addr} {n c : Nat} {d : DataW H} {p : List MemPlace}
    (h : DataW.trod enc Try.prog W 0 (fun _ => true) true fuel 22 [.slice aa n c] = some (d, p)) : ∃ ps, n = ps.length ∧ SRow W aa ps ∧ (n = 0 ∨ ∃ elems spare, d = .slice elems spare ∧ n = elems.length) := by
  rcases open_slice Try.underlying22 h with ⟨hcs, hx⟩ | ⟨a, len, cap, m, q, D, Pl, hcs, _, hl, hm, hmm, hx, hxr⟩
  · obtain ⟨rfl, rfl, rfl⟩ := (Value.slice.injEq ..).mp (List.cons.inj hcs).1
    exact ⟨[], rfl, ⟨fun i hi => absurd hi (by simp), fun k hk => absurd hk (by simp)⟩, .inl rfl⟩
  · obtain ⟨rfl, rfl, rfl⟩ := (Value.slice.injEq ..).mp (List.cons.inj hcs).1
    simp only [if_true] at hmm
    rw [cellsStepP] at hxr
    have each : ∀ i, i < n → ∃ p : Sp, p.x.length = 32 ∧ ∃ b o, a = ⟨b, o, none⟩ ∧ W.rangeAt b (o + i * 36) p.L := by
      intro i hi
      obtain ⟨cs', h1, ht⟩ := hxr i (by omega)
      obtain ⟨_, hl36, hc⟩ := World.cells?_some h1
      obtain ⟨p, hp, rfl⟩ := open_stepC ht
      obtain ⟨b, o, rfl⟩ : ∃ b o, a = ⟨b, o, none⟩ := by
        obtain ⟨cs0, h10, _⟩ := hxr 0 (by omega)
        obtain ⟨_, hl0, hc0⟩ := World.cells?_some h10
        have h2 := hc0 0 (by omega)
        rw [List.getElem?_eq_getElem (by omega)] at h2
        obtain ⟨b, o, spot⟩ := a
        have hs : spot = none := by simpa [Addr.add] using World.cell?_spot h2
        exact ⟨b, o, by rw [hs]⟩
      refine ⟨p, hp, b, o, rfl, fun j u hj => ?_⟩
      have hjl : j < 36 := by
        have := (List.getElem?_eq_some_iff.1 hj).1
        rwa [stL_len hp] at this
      have h2 := hc j hjl
      rw [Addr.add_mid, Addr.add_mid] at h2
      rw [h2]; exact hj
    obtain ⟨f, hf⟩ := choose_lt each
    refine ⟨(List.range n).map f, by simp, ⟨fun i hi => ?_, fun k hk => ?_⟩, ?_⟩
    · have hin : i < n := by simpa using hi
      obtain ⟨hp, b, o, rfl, hr⟩ := hf i hin
      have e : ((List.range n).map f)[i]'hi = f i := by simp
      rw [e]
      exact ⟨b, o, rfl, hr⟩
    · obtain ⟨i, hi, rfl⟩ := List.mem_map.1 hk
      exact (hf i (List.mem_range.1 hi)).1
    · exact .inr ⟨_, _, (Prod.mk.inj hx).1, by simp⟩
set_option maxRecDepth 100000 in
theorem pinsPlays_lifted (SP : SpoH) (os : Os) (started : os.Started) (H : Type) (enc : TypeId × Value → H) :
    ReturnsInHanded {} Try.checked os 3 .any (Rows.pinsPlaysSpec.pre6 enc Try.prog Try.f3 Rows.pinsPlaysRow.domain false) (Rows.pinsPlaysSpec.post enc Try.prog Try.f3 false true false false) := by
  refine returnsInHanded_of_change_sized (C := Try.checked) own started (by kernel_rfl) Try.func3
    (ChangeSpec.witness6 (enc := enc) (C := Try.checked) false ⟨#[], #[.slice none 0 0], []⟩ 8 (by kernel_rfl) (by kernel_rfl) (by kernel_rfl) (by kernel_rfl)) ?_
  intro W base args ds gs before hval0 hW _ hsz0 _
  have hsz : (DataW.weightsEach Try.prog (Try.f3.params.toList ++ Rows.pinsPlaysSpec.plain.varTypes Try.prog) (ds ++ gs)).all (· ≤ reachBytes) = true := hsz0
  have hval : ∀ (j : Nat) t v, Try.f3.params[j]? = some t → args[j]? = some v → Value.okWide Try.prog W .any base t v := hval0
  have hW' := hW
  obtain ⟨p, q, hA0, hV, rfl, hfz, hnd⟩ := hW
  have hA : DataW.TrodAll enc Try.prog W 0 (fun _ => true) true Try.f3.params.toList args.toList ds p := hA0
  rw [Try.params3] at hA hval hsz
  obtain ⟨v0, vs0, d0, ds0, p0, q0, hargs, rfl, rfl, h0, r0⟩ := trodAll_cons hA
  obtain ⟨rfl, rfl, rfl⟩ := trodAll_nil r0
  obtain rfl : args = #[v0] := by cases args; simp_all
  obtain ⟨rfl, rfl⟩ := trodVars_none hV
  have k0 := h0
  have lt0 : ∀ x ∈ p0, x.block < W.heap.size := by obtain ⟨m, hm⟩ := k0; exact DataW.trod_lt m _ _ _ hm
  obtain ⟨a0, len0, cap0, rfl⟩ := okWide_slice Try.underlying22 (hval 0 22 v0 rfl rfl)
  obtain ⟨fuel0, hf0⟩ := h0
  obtain ⟨ps, hn, hr, hs⟩ := open_steps hf0
  have hlen : len0 ≤ 2199023255552 := by
    rcases hs with h | ⟨elems, spare, rfl, h⟩
    · omega
    · have := sized_slice hsz (j := 0) (t := 22) (e := 32) rfl rfl Try.underlying22
      rw [bytesStepP] at this
      simp only [reachBytes] at this
      omega
  clear hA0 hval0 hsz0
  refine (plays_any SP W a0 len0 cap0 ps hn hr hlen).mono fun e W' ⟨he, bel⟩ => ?_
  subst he
  exact ⟨_, rfl, _, _, _, [], _, [], hW', trodAll_mk1 (shut_bool Try.underlying4 _), (trodAll_cons_mk (Below.trod laidOut (by kernel_rfl) (of_decide_eq_true (by kernel_rfl)) k0 bel lt0) trodAll_mk0), rfl, bel.frame _, fun h => by cases h⟩

theorem pinsPlays_of (SP : SpoH) : Rows.PinsPlaysSaid :=
  OpenClaim.holds_of_wide 3 Try.f3 rfl rfl rfl rfl rfl rfl rfl ⟨rfl, rfl, rfl, rfl, rfl⟩ rfl rfl rfl rfl rfl (by kernel_rfl) Try.func3 (by kernel_rfl)
    (of_decide_eq_true (by kernel_rfl)) (by unfold Func.isWrapper; first | (rw [if_pos (by decide +kernel)]; kernel_rfl) | (rw [if_neg (by decide +kernel)]; exact ⟨rfl, rfl⟩))
    (fun os started H enc _ => pinsPlays_lifted SP os started H enc)
end Go.Proofs.Ytagnglkkmdeicaa
