/- KeyAlgebra: for every input whose bulk is at most 1048576 the call returns true, and each argument reads afterwards as it read before. -/
import Derived.Test.YtjmjnecobaoofaaKN21
import Derived.Test.YtjmjnecobaoofaaKO1
import Derived.ChangeSame
import Derived.ChangeVars
import Derived.JoinedOf
import Derived.RowKit
import Derived.ProofKit
import Derived.OpenShut
import Derived.ChangeOld
import Derived.SizedLaws
import Derived.JoinedCond
import Derived.Deep.CondSized
import Derived.Deep.Slices
import Derived.Deep.Strs
import Derived.Test.YtjmjnecobaoofaaRows
namespace Go.Proofs.Ytjmjnecobaoofaa
set_option linter.unusedVariables false
set_option linter.unusedSimpArgs false
open Go.ChangeShapes Go.WideShapes Go.ChangeAt Go.RowKit Go.Deep

theorem ownA : ownKnob Try.prog.godebug = none := by kernel_rfl
theorem laidOutA : laidOutB Try.prog = true := by kernel_rfl
theorem bulk_posA {H : Type} (d : DataW H) : 1 ≤ Rows.uptoBulk d := by
  cases d with
  | lit l => cases l <;> simp [Rows.uptoBulk]
  | _ => simp [Rows.uptoBulk]
theorem bulk_lenA {H : Type} : ∀ l : List (DataW H), l.length ≤ Rows.uptoBulkAll l
  | [] => by simp
  | d :: l => by
    have h1 := bulk_posA d
    have h2 := bulk_lenA l
    simp only [Rows.uptoBulkAll, List.length_cons]
    omega
theorem small_leA {H : Type} {l : List (DataW H)} (hk : Rows.uptoSmall H l = true) : Rows.uptoBulkAll l ≤ 1048576 := of_decide_eq_true hk
/-- A row of keys opened. -/
theorem open_keysA {H : Type} {enc : TypeId × Value → H} {W : World} {fuel : Nat} {aa : Option Addr} {n c : Nat} {d : DataW H} {p : List MemPlace}
    (h : DataW.trod enc Try.prog W 0 (fun _ => true) true fuel 48 [.slice aa n c] = some (d, p)) : ∃ ks, n = ks.length ∧ KRow W aa ks ∧ n ≤ Rows.uptoBulk d := by
  rcases open_slice Try.underlying48 h with ⟨hcs, hx⟩ | ⟨a, len, cap, m, q, D, Pl, hcs, _, hl, hm, hmm, hx, hxr⟩
  · obtain ⟨rfl, rfl, rfl⟩ := (Value.slice.injEq ..).mp (List.cons.inj hcs).1
    exact ⟨[], rfl, ⟨fun i hi => absurd hi (by simp), fun k hk => absurd hk (by simp)⟩, Nat.zero_le _⟩
  · obtain ⟨rfl, rfl, rfl⟩ := (Value.slice.injEq ..).mp (List.cons.inj hcs).1
    simp only [if_true] at hmm
    rw [cellsKey] at hxr
    have each : ∀ i, i < n → ∃ x : List UInt8, x.length = 32 ∧ ∃ b o, a = ⟨b, o, none⟩ ∧ W.rangeAt b (o + i * 32) (x.map u8c) := by
      intro i hi
      obtain ⟨cs', h1, ht⟩ := hxr i (by omega)
      obtain ⟨_, hl32, hc⟩ := World.cells?_some h1
      obtain ⟨x, hp, rfl⟩ := open_keyC ht
      obtain ⟨b, o, rfl⟩ : ∃ b o, a = ⟨b, o, none⟩ := by
        obtain ⟨cs0, h10, _⟩ := hxr 0 (by omega)
        obtain ⟨_, hl0, hc0⟩ := World.cells?_some h10
        have h2 := hc0 0 (by omega)
        rw [List.getElem?_eq_getElem (by omega)] at h2
        obtain ⟨b, o, spot⟩ := a
        have hs : spot = none := by simpa [Addr.add] using World.cell?_spot h2
        exact ⟨b, o, by rw [hs]⟩
      refine ⟨x, hp, b, o, rfl, fun j u hj => ?_⟩
      have hjl : j < 32 := by
        have := (List.getElem?_eq_some_iff.1 hj).1
        simpa [hp] using this
      have h2 := hc j hjl
      rw [Addr.add_mid, Addr.add_mid] at h2
      rw [h2]; exact hj
    obtain ⟨f, hf⟩ := choose_lt each
    refine ⟨(List.range n).map f, by simp, ⟨fun i hi => ?_, fun k hk => ?_⟩, ?_⟩
    · have hin : i < n := by simpa using hi
      obtain ⟨hp, b, o, rfl, hr⟩ := hf i hin
      have e : ((List.range n).map f)[i]'hi = f i := by simp
      rw [e]
      exact ⟨b, o, rfl, hr⟩
    · obtain ⟨i, hi, rfl⟩ := List.mem_map.1 hk
      exact (hf i (List.mem_range.1 hi)).1
    · have hd := (Prod.mk.inj hx).1
      rw [hd]
      have := bulk_lenA ((List.range n).map D)
      simp only [List.length_map, List.length_range] at this
      simp only [Rows.uptoBulk]
      omega
set_option maxRecDepth 100000 in
theorem contractA (H : Type) (enc : TypeId × Value → H) (W : World) (base : Nat) (args : Array Value) (ds gs : List (DataW H)) (before : List MemPlace)
    (hval : ∀ (j : Nat) t v, Try.f5.params[j]? = some t → args[j]? = some v → Value.okWide Try.prog W .any base t v)
    (hW : DataW.Whole enc Try.prog Try.f5.params.toList Rows.keyAlgebraSpec.vars false W args.toList ds gs before) (hk : Rows.uptoSmall H (ds ++ gs) = true) :
    Calls Try.prog 5 args W fun e W' => ∃ v, e = .returned v ∧ Rows.keyAlgebraSpec.post enc Try.prog Try.f5 false true false false W args v W' := by
  have hW' := hW
  obtain ⟨p, q, hA0, hV, rfl, hfz, hnd⟩ := hW
  have hA : DataW.TrodAll enc Try.prog W 0 (fun _ => true) true Try.f5.params.toList args.toList ds p := hA0
  rw [Try.params5] at hA hval
  obtain ⟨v0, vs0, d0, ds0, p0, q0, hargs, rfl, rfl, h0, r0⟩ := trodAll_cons hA
  obtain ⟨v1, vs1, d1, ds1, p1, q1, rfl, rfl, rfl, h1, r1⟩ := trodAll_cons r0
  obtain ⟨rfl, rfl, rfl⟩ := trodAll_nil r1
  obtain rfl : args = #[v0, v1] := by cases args; simp_all
  obtain ⟨rfl, rfl⟩ := trodVars_none hV
  obtain ⟨a0, len0, cap0, rfl⟩ := okWide_slice Try.underlying48 (hval 0 48 v0 rfl rfl)
  obtain ⟨a1, len1, cap1, rfl⟩ := okWide_slice Try.underlying48 (hval 1 48 v1 rfl rfl)
  have k0 := h0
  have k1 := h1
  have lt0 : ∀ x ∈ p0, x.block < W.heap.size := by obtain ⟨m, hm⟩ := k0; exact DataW.trod_lt m _ _ _ hm
  have lt1 : ∀ x ∈ p1, x.block < W.heap.size := by obtain ⟨m, hm⟩ := k1; exact DataW.trod_lt m _ _ _ hm
  obtain ⟨m0, h0⟩ := h0
  obtain ⟨m1, h1⟩ := h1
  obtain ⟨ka, hna, hra, hba⟩ := open_keysA h0
  obtain ⟨kb, hnb, hrb, hbb⟩ := open_keysA h1
  have hkb := small_leA hk
  have hb : ka.length + kb.length ≤ 4398046510976 := by
    simp only [List.append_nil, Rows.uptoBulkAll] at hkb
    omega
  clear hA0
  refine (algebra_any W a0 a1 cap0 cap1 len0 len1 ka kb hna hnb hra hrb hb).mono fun e W' ⟨he, bel⟩ => ?_
  subst he
  exact ⟨_, rfl, _, _, _, [], _, [], hW', trodAll_mk1 (shut_bool Try.underlying4 _), (trodAll_cons_mk (Below.trod laidOutA (by kernel_rfl) (of_decide_eq_true (by kernel_rfl)) k0 bel lt0) (trodAll_cons_mk (Below.trod laidOutA (by kernel_rfl) (of_decide_eq_true (by kernel_rfl)) k1 bel lt1) trodAll_mk0)), rfl, bel.frame _, fun h => by cases h⟩

set_option maxRecDepth 100000 in
theorem keyAlgebra_lifted (os : Os) (started : os.Started) (H : Type) (enc : TypeId × Value → H) (F : Stop.Interp) :
    ReturnsInHanded {} Try.checked os 5 .any ((Rows.OpenSpec.upto Rows.keyAlgebraSpec).pre6 enc Try.prog Try.f5 Rows.keyAlgebraUptoRow.domain false) (((Rows.OpenSpec.upto Rows.keyAlgebraSpec).at F).post enc Try.prog Try.f5 false true false false) := by
  refine returnsInHanded_of_cond (C := Try.checked) (s := Rows.OpenSpec.upto Rows.keyAlgebraSpec) (k := Rows.uptoSmall) rfl ownA started (by kernel_rfl) Try.func5
    (OpenSpec.witness (enc := enc) (C := Try.checked) (s := Rows.OpenSpec.upto Rows.keyAlgebraSpec) (k := Rows.uptoSmall) rfl false ⟨#[], #[.slice none 0 0, .slice none 0 0], []⟩ 8 (by kernel_rfl) (by kernel_rfl) (by kernel_rfl)
      (x := ([.nil, .nil], [], [])) (by kernel_rfl) rfl (by kernel_rfl)) ?_
  intro W base args ds gs before hval hW _ hk _
  exact contractA H enc W base args ds gs before hval hW hk

theorem keyAlgebraUpto_holds : Rows.KeyAlgebraUptoSaid :=
  OpenClaim.holds_of_cond 5 Try.f5 rfl rfl rfl rfl rfl rfl rfl ⟨rfl, rfl, rfl, rfl, rfl⟩ rfl rfl rfl rfl rfl (by kernel_rfl) Try.func5 (by kernel_rfl)
    (of_decide_eq_true (by kernel_rfl)) (by unfold Func.isWrapper; first | (rw [if_pos (by decide +kernel)]; kernel_rfl) | (rw [if_neg (by decide +kernel)]; exact ⟨rfl, rfl⟩))
    (fun os started H enc _ F => keyAlgebra_lifted os started H enc F)
#print axioms keyAlgebraUpto_holds
end Go.Proofs.Ytjmjnecobaoofaa
