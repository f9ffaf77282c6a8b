/- A float that came in, opened. -/
import Derived.Test.YtbemmhngadpjcaaChecked
import Derived.ChangeSame
import Derived.ChangeVars
import Derived.JoinedOf
import Derived.RowKit
import Derived.ProofKit
import Derived.OpenShut
import Derived.SizedLaws
import Derived.Deep.Slices
import Derived.Deep.MidRow
import Derived.Test.YtbemmhngadpjcaaWD1
namespace Go.Proofs.Ytbemmhngadpjcaa
set_option linter.unusedVariables false
set_option linter.unusedSimpArgs false
open Go.ChangeShapes Go.WideShapes Go.RowKit

section
variable {H : Type} {enc : TypeId × Value → H} {P : Program} {w : World} {base : Nat} {spare : Nat → Bool} {held : Bool}
theorem trod_float {t : TypeId} {fuel : Nat} {cs : List Value} {x : DataW H × List MemPlace} {k : FloatKind} (ht : P.underlying t = some (.float k)) (h : DataW.trod enc P w base spare held fuel t cs = some x) : ∃ n, cs = [.float k n] ∧ x = (.lit (.float k n), []) ∧ (Lit.float k n).wf = true := by
  cases fuel with
  | zero => simp [DataW.trod] at h
  | succ n =>
    unfold DataW.trod at h
    rw [ht] at h
    split at h <;> simp_all
theorem okWide_float {r : Reach} {b0 : Nat} {t : TypeId} {v : Value} {k : FloatKind} (ht : P.underlying t = some (.float k)) (h : Value.okWide P w r b0 t v) : ∃ n, v = .float k n := by
  simp only [Value.okWide, ht, Cell.okWide] at h
  cases v <;> simp_all [Cell.ok]
theorem open_float {r : Reach} {b0 : Nat} {t : TypeId} {k : FloatKind} {v : Value} {d : DataW H} {ps : List MemPlace} (ht : P.underlying t = some (.float k)) (hval : Value.okWide P w r b0 t v) (hd : DataW.Trod enc P w base spare held t v d ps) :
    ∃ n, v = .float k n ∧ d = .lit (.float k n) ∧ ps = [] ∧ (Lit.float k n).wf = true := by
  obtain ⟨n, rfl⟩ := okWide_float ht hval
  obtain ⟨fuel, hf⟩ := hd
  obtain ⟨n', h, hx, hw⟩ := trod_float ht hf
  simp [Value.cells] at h
  subst h
  simp only [Prod.mk.injEq] at hx
  exact ⟨n, rfl, hx.1, hx.2, hw⟩
theorem shut_float {t : TypeId} {k : FloatKind} {n : Nat} (ht : P.underlying t = some (.float k)) (hw : (Lit.float k n).wf = true) : DataW.Trod enc P w base spare held t (.float k n) (.lit (.float k n)) [] :=
  ⟨1, by simp [DataW.trod, Value.cells, ht, hw]⟩
end
end Go.Proofs.Ytbemmhngadpjcaa

/- Rows of elements of one cell each that came in, opened. -/
namespace Go.Proofs.Ytbemmhngadpjcaa
set_option linter.unusedVariables false
set_option linter.unusedSimpArgs false
open Go.ChangeShapes Go.WideShapes Go.RowKit Go.Deep

theorem own : ownKnob Try.prog.godebug = none := by kernel_rfl
theorem laidOut : laidOutB Try.prog = true := by kernel_rfl
theorem spot_none {w : World} {x : Addr} {v : Value} (h : w.cell? (x.add 0) = some v) : ∃ b o, x = ⟨b, o, none⟩ := by
  obtain ⟨b, o, spot⟩ := x
  have hs : spot = none := by simpa [Addr.add] using World.cell?_spot h
  exact ⟨b, o, by rw [hs]⟩
theorem open_row1 {α : Type} [Inhabited α] {H : Type} {enc : TypeId × Value → H} {W : World} {fuel : Nat} {ts te : TypeId} (hu : Try.prog.underlying ts = some (.slice te)) (hk : Try.prog.cellsOf te = 1) (C : α → Value) (ok : α → Prop)
    (hopen : ∀ (fuel : Nat) (v : Value) (x : DataW H × List MemPlace), DataW.trod enc Try.prog W 0 (fun _ => true) true fuel te [v] = some x → ∃ r, ok r ∧ v = C r) {cs : List Value} {d : DataW H} {p : List MemPlace}
    (h : DataW.trod enc Try.prog W 0 (fun _ => true) true fuel ts cs = some (d, p)) : ∃ (ao : Option Addr) (c : Nat) (L : List α), cs = [.slice ao L.length c] ∧ (∀ r ∈ L, ok r) ∧ L.length ≤ 9223372036854775807 ∧ (0 < L.length → ∃ b o, ao = some ⟨b, o, none⟩ ∧ ∀ k (h : k < L.length), W.cell? ⟨b, o + k, none⟩ = some (C L[k])) ∧ (L.length = 0 ∨ ∃ elems spare, d = .slice elems spare ∧ L.length = elems.length) := by
  rcases open_slice1 hu hk h with ⟨hcs, hx⟩ | ⟨a, len, cap, m, n, V, D, Pl, hcs, hb, hl, hm, hmm, hx, hV⟩
  · exact ⟨none, 0, [], hcs, by simp, by simp, by simp, .inl rfl⟩
  · simp only [if_true] at hmm
    have each : ∀ i, i < len → ∃ r : α, ok r ∧ V i = C r := fun i hi => hopen _ _ _ (hV i (by omega)).2
    obtain ⟨R, hR⟩ := choose_lt each
    refine ⟨some a, cap, (List.range len).map R, by rw [hcs]; simp, ?_, by simp; unfold maxLen at hm; omega, fun h0 => ?_, .inr ⟨_, _, (Prod.mk.inj hx).1, by simp⟩⟩
    · intro r hr
      obtain ⟨i, hi, rfl⟩ := List.mem_map.1 hr
      exact (hR i (List.mem_range.1 hi)).1
    · have h0' : 0 < len := by simpa using h0
      obtain ⟨b, o, rfl⟩ := spot_none (hV 0 (by omega)).1
      refine ⟨b, o, rfl, fun k hk => ?_⟩
      have hk' : k < len := by simpa using hk
      have := (hV k (by omega)).1
      rw [Addr.add_mid] at this
      rw [this, (hR k hk').2]
      simp
end Go.Proofs.Ytbemmhngadpjcaa

/- A row of keys that came in, opened. -/
namespace Go.Proofs.Ytbemmhngadpjcaa
set_option linter.unusedVariables false
set_option linter.unusedSimpArgs false
open Go.ChangeShapes Go.WideShapes Go.RowKit Go.Deep

theorem cellsU8 : Try.prog.cellsOf 5 = 1 := by kernel_rfl
theorem cellsKey : Try.prog.cellsOf 36 = 32 := by kernel_rfl
theorem open_keyC {H : Type} {enc : TypeId × Value → H} {W : World} {base : Nat} {spare : Nat → Bool} {held : Bool} {fuel : Nat} {cs : List Value} {x : DataW H × List MemPlace}
    (h : DataW.trod enc Try.prog W base spare held fuel 36 cs = some x) : ∃ bs : List UInt8, bs.length = 32 ∧ cs = bs.map u8c := by
  obtain ⟨xs, m, _, _, hl, hxl, hx⟩ := DataW.trod_array Try.underlying36 h
  rw [cellsKey] at hl
  have each : ∀ i, i < 32 → ∃ b : UInt8, cs[i]? = some (u8c b) := by
    intro i hi
    have h1 := hx i hi
    rw [cellsU8, Nat.mul_one, List.getElem?_eq_getElem (by omega)] at h1
    obtain ⟨n, hn, _, hw⟩ := DataW.trod_int Try.underlying5 h1
    have hb : 0 ≤ n ∧ n ≤ 255 := by simpa [Lit.wf, IntKind.min, IntKind.max, IntKind.signed, IntKind.bits] using hw
    refine ⟨UInt8.ofNat n.toNat, ?_⟩
    rw [List.drop_eq_getElem_cons (show i < cs.length by omega)] at hn
    have h2 : cs[i]'(by omega) = .int .u8 n := (List.cons.inj hn).1
    rw [List.getElem?_eq_getElem (by omega), h2]
    unfold u8c
    rw [UInt8.toNat_ofNat']
    congr 2
    omega
  obtain ⟨f, hf⟩ := choose_lt each
  refine ⟨(List.range 32).map f, by simp, ?_⟩
  apply List.ext_getElem?
  intro i
  rcases Nat.lt_or_ge i 32 with hi | hi
  · rw [hf i hi]; simp [hi]
  · rw [List.getElem?_eq_none (by omega), List.getElem?_eq_none (by simpa using hi)]
theorem open_keys {H : Type} {enc : TypeId × Value → H} {W : World} {fuel : Nat} {cs : List Value} {d : DataW H} {p : List MemPlace}
    (h : DataW.trod enc Try.prog W 0 (fun _ => true) true fuel 55 cs = some (d, p)) : ∃ (ao : Option Addr) (c : Nat) (L : List (List UInt8)), cs = [.slice ao L.length c] ∧ (∀ r ∈ L, r.length = 32) ∧ L.length ≤ 9223372036854775807 ∧ (0 < L.length → ∃ b o, ao = some ⟨b, o, none⟩ ∧ ∀ k (h : k < L.length), W.rangeAt b (o + k * 32) (L[k].map u8c)) ∧ (L.length = 0 ∨ ∃ elems spare, d = .slice elems spare ∧ L.length = elems.length) := by
  rcases open_slice Try.underlying55 h with ⟨hcs, hx⟩ | ⟨a, len, cap, m, n, D, Pl, hcs, hb, hl, hm, hmm, hx, hxr⟩
  · exact ⟨none, 0, [], hcs, by simp, by simp, by simp, .inl rfl⟩
  · simp only [if_true] at hmm
    rw [cellsKey] at hxr
    have each : ∀ i, i < len → ∃ r : List UInt8, r.length = 32 ∧ ∀ b o, a = ⟨b, o, none⟩ → W.rangeAt b (o + i * 32) (r.map u8c) := by
      intro i hi
      obtain ⟨cs', h1, ht⟩ := hxr i (by omega)
      obtain ⟨_, hl4, hc⟩ := World.cells?_some h1
      obtain ⟨r, hr, rfl⟩ := open_keyC ht
      refine ⟨r, hr, fun b o ha j u hj => ?_⟩
      have hjl : j < 32 := by rw [← hl4]; exact (List.getElem?_eq_some_iff.1 hj).1
      have h2 := hc j hjl
      rw [ha, Addr.add_mid, Addr.add_mid] at h2
      rw [h2]; exact hj
    obtain ⟨R, hR⟩ := choose_lt each
    refine ⟨some a, cap, (List.range len).map R, by rw [hcs]; simp, ?_, by simp; unfold maxLen at hm; omega, fun h0 => ?_, .inr ⟨_, _, (Prod.mk.inj hx).1, by simp⟩⟩
    · intro r hr
      obtain ⟨i, hi, rfl⟩ := List.mem_map.1 hr
      exact (hR i (List.mem_range.1 hi)).1
    · have h0' : 0 < len := by simpa using h0
      obtain ⟨cs', h1, ht⟩ := hxr 0 (by omega)
      obtain ⟨_, hl4, hc⟩ := World.cells?_some h1
      have h2 := hc 0 (by omega)
      rw [List.getElem?_eq_getElem (by omega)] at h2
      obtain ⟨b, o, spot⟩ := a
      have hs : spot = none := by simpa [Addr.add] using World.cell?_spot h2
      subst hs
      refine ⟨b, o, rfl, fun i hi => ?_⟩
      have hi' : i < len := by simpa using hi
      have := (hR i hi').2 b o rfl
      simpa using this
end Go.Proofs.Ytbemmhngadpjcaa
