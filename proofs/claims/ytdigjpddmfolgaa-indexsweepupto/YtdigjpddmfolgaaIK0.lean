/- Arguments opened: keys, rows of keys; bulk. -/
import Derived.Test.YtdigjpddmfolgaaID3
import Derived.Test.YtdigjpddmfolgaaRows
import Derived.ChangeSame
import Derived.ChangeVars
import Derived.JoinedOf
import Derived.RowKit
import Derived.ProofKit
import Derived.OpenShut
import Derived.ChangeOld
import Derived.SizedLaws
import Derived.JoinedCond
import Derived.Deep.CondSized
import Derived.Deep.Slices
import Derived.Deep.Strs
namespace Go.Proofs.Ytdigjpddmfolgaa
set_option linter.unusedVariables false
set_option linter.unusedSimpArgs false
namespace TX
open Go.ChangeShapes Go.WideShapes Go.ChangeAt Go.RowKit Go.Deep

theorem ownA : ownKnob Try.prog.godebug = none := by kernel_rfl
theorem laidOutA : laidOutB Try.prog = true := by kernel_rfl
theorem bulk_posA {H : Type} (d : DataW H) : 1 ≤ Rows.uptoBulk d := by
  cases d with
  | lit l => cases l <;> simp [Rows.uptoBulk]
  | _ => simp [Rows.uptoBulk]
theorem bulk_lenA {H : Type} : ∀ l : List (DataW H), l.length ≤ Rows.uptoBulkAll l
  | [] => by simp
  | d :: l => by
    have h1 := bulk_posA d
    have h2 := bulk_lenA l
    simp only [Rows.uptoBulkAll, List.length_cons]
    omega
theorem small_leA {H : Type} {l : List (DataW H)} (hk : Rows.uptoSmall H l = true) : Rows.uptoBulkAll l ≤ 1048576 := of_decide_eq_true hk
theorem cellsU8 : Try.prog.cellsOf 5 = 1 := by kernel_rfl
theorem cellsKeyA : Try.prog.cellsOf 32 = 32 := by kernel_rfl
theorem cellsKS : Try.prog.cellsOf 51 = 1 := by kernel_rfl
theorem open_keyC {H : Type} {enc : TypeId × Value → H} {W : World} {base : Nat} {spare : Nat → Bool} {held : Bool} {fuel : Nat} {cs : List Value} {x : DataW H × List MemPlace}
    (h : DataW.trod enc Try.prog W base spare held fuel 32 cs = some x) : ∃ k : KY, cs = kC k := by
  obtain ⟨xs, m, _, _, hl, hxl, hx⟩ := DataW.trod_array Try.underlying32 h
  rw [cellsKeyA] at hl
  have each : ∀ i, i < 32 → ∃ b : UInt8, cs[i]? = some (u8c b) := by
    intro i hi
    have h1 := hx i hi
    rw [cellsU8, Nat.mul_one, List.getElem?_eq_getElem (by omega)] at h1
    obtain ⟨n, hn, _, hw⟩ := DataW.trod_int Try.underlying5 h1
    have hb : 0 ≤ n ∧ n ≤ 255 := by simpa [Lit.wf, IntKind.min, IntKind.max, IntKind.signed, IntKind.bits] using hw
    refine ⟨UInt8.ofNat n.toNat, ?_⟩
    rw [List.drop_eq_getElem_cons (show i < cs.length by omega)] at hn
    have h2 : cs[i]'(by omega) = .int .u8 n := (List.cons.inj hn).1
    rw [List.getElem?_eq_getElem (by omega), h2]
    unfold u8c
    rw [UInt8.toNat_ofNat']
    congr 2
    omega
  obtain ⟨f, hf⟩ := choose_lt each
  refine ⟨⟨(List.range 32).map f, by simp⟩, ?_⟩
  apply List.ext_getElem?
  intro i
  unfold kC
  rcases Nat.lt_or_ge i 32 with hi | hi
  · rw [hf i hi]
    simp [hi]
  · rw [List.getElem?_eq_none (by omega), List.getElem?_eq_none (by simpa using hi)]
/-- A row of keys opened. -/
theorem open_ks {H : Type} {enc : TypeId × Value → H} {W : World} {fuel : Nat} {v : Value} {d : DataW H} {p : List MemPlace}
    (h : DataW.trod enc Try.prog W 0 (fun _ => true) true fuel 51 [v] = some (d, p)) : ∃ L : List KY, KsR W v L ∧ L.length + 1 ≤ Rows.uptoBulk d := by
  rcases open_slice Try.underlying51 h with ⟨hcs, hx⟩ | ⟨a, len, cap, m, q, D, Pl, hcs, _, hl, hm, hmm, hx, hxr⟩
  · exact ⟨[], ⟨none, 0, (List.cons.inj hcs).1, fun h => absurd h (by decide)⟩, bulk_posA d⟩
  · simp only [if_true] at hmm
    rw [cellsKeyA] at hxr
    have each : ∀ i, i < len → ∃ x : KY, ∃ b o, a = ⟨b, o, none⟩ ∧ W.rangeAt b (o + i * 32) (kC x) := by
      intro i hi
      obtain ⟨cs', h1, ht⟩ := hxr i (by omega)
      obtain ⟨_, hl32, hc⟩ := World.cells?_some h1
      obtain ⟨x, rfl⟩ := open_keyC ht
      obtain ⟨b, o, rfl⟩ : ∃ b o, a = ⟨b, o, none⟩ := by
        obtain ⟨cs0, h10, _⟩ := hxr 0 (by omega)
        obtain ⟨_, hl0, hc0⟩ := World.cells?_some h10
        have h2 := hc0 0 (by omega)
        rw [List.getElem?_eq_getElem (by omega)] at h2
        obtain ⟨b, o, spot⟩ := a
        have hs : spot = none := by simpa [Addr.add] using World.cell?_spot h2
        exact ⟨b, o, by rw [hs]⟩
      refine ⟨x, b, o, rfl, fun j u hj => ?_⟩
      have hjl : j < 32 := by
        have := (List.getElem?_eq_some_iff.1 hj).1
        rw [kC_len] at this
        exact this
      have h2 := hc j hjl
      rw [Addr.add_mid, Addr.add_mid] at h2
      rw [h2]; exact hj
    haveI : Inhabited KY := ⟨kZ⟩
    obtain ⟨f, hf⟩ := choose_lt each
    refine ⟨(List.range len).map f, ⟨some a, cap, ?_, fun hp => ?_⟩, ?_⟩
    · rw [List.length_map, List.length_range]
      exact (List.cons.inj hcs).1
    · obtain ⟨b, o, rfl, _⟩ := hf 0 (by simpa using hp)
      refine ⟨b, o, rfl, fun j x hj => ?_⟩
      obtain ⟨hj1, hj2⟩ := List.getElem?_eq_some_iff.1 hj
      have hjl : j < len := by simpa using hj1
      obtain ⟨b2, o2, e2, hr⟩ := hf j hjl
      cases e2
      have e : f j = x := by rw [← hj2]; simp
      rw [← e]
      exact hr
    · have hd := (Prod.mk.inj hx).1
      rw [hd]
      have := bulk_lenA ((List.range len).map D)
      simp only [List.length_map, List.length_range] at this ⊢
      simp only [Rows.uptoBulk]
      omega
theorem flat_bulk {H : Type} (K : Nat → List KY) (D : Nat → DataW H) : ∀ l : List Nat, (∀ i ∈ l, (K i).length + 1 ≤ Rows.uptoBulk (D i)) → (l.map K).flatten.length + l.length ≤ Rows.uptoBulkAll (l.map D)
  | [], _ => by simp
  | i :: l, h => by
    have h1 := h i (by simp)
    have h2 := flat_bulk K D l (fun j hj => h j (by simp [hj]))
    simp only [List.map_cons, List.flatten_cons, List.length_append, List.length_cons, Rows.uptoBulkAll]
    omega
theorem open_chs {H : Type} {enc : TypeId × Value → H} {W : World} {fuel : Nat} {v : Value} {d : DataW H} {p : List MemPlace}
    (h : DataW.trod enc Try.prog W 0 (fun _ => true) true fuel 52 [v] = some (d, p)) : ∃ CH : List (List KY), ChR W v CH ∧ CH.flatten.length + CH.length + 1 ≤ Rows.uptoBulk d := by
  rcases open_slice Try.underlying52 h with ⟨hcs, hx⟩ | ⟨a, len, cap, m, q, D, Pl, hcs, _, hl, hm, hmm, hx, hxr⟩
  · exact ⟨[], ⟨none, 0, (List.cons.inj hcs).1, fun h => absurd h (by decide)⟩, bulk_posA d⟩
  · simp only [if_true] at hmm
    rw [cellsKS] at hxr
    have each : ∀ i, i < len → ∃ K : List KY, K.length + 1 ≤ Rows.uptoBulk (D i) ∧ ∃ b o u, a = ⟨b, o, none⟩ ∧ W.cell? ⟨b, o + i, none⟩ = some u ∧ KsR W u K := by
      intro i hi
      obtain ⟨cs', h1, ht⟩ := hxr i (by omega)
      obtain ⟨_, hl1, hc⟩ := World.cells?_some h1
      obtain ⟨u, rfl⟩ : ∃ u, cs' = [u] := by
        match cs', hl1 with
        | [u], _ => exact ⟨u, rfl⟩
      obtain ⟨K, hK, hb⟩ := open_ks ht
      have h2 := hc 0 (by omega)
      obtain ⟨b, o, rfl⟩ : ∃ b o, a = ⟨b, o, none⟩ := by
        obtain ⟨cs0, h10, _⟩ := hxr 0 (by omega)
        obtain ⟨_, hl0, hc0⟩ := World.cells?_some h10
        have h2 := hc0 0 (by omega)
        rw [List.getElem?_eq_getElem (by omega)] at h2
        obtain ⟨b, o, spot⟩ := a
        have hs : spot = none := by simpa [Addr.add] using World.cell?_spot h2
        exact ⟨b, o, by rw [hs]⟩
      refine ⟨K, hb, b, o, u, rfl, ?_, hK⟩
      rw [Addr.add_mid, Addr.add_mid] at h2
      simpa using h2
    obtain ⟨f, hf⟩ := choose_lt each
    refine ⟨(List.range len).map f, ⟨some a, cap, ?_, fun hp => ?_⟩, ?_⟩
    · rw [List.length_map, List.length_range]
      exact (List.cons.inj hcs).1
    · obtain ⟨_, b, o, u0, rfl, _⟩ := hf 0 (by simpa using hp)
      refine ⟨b, o, rfl, fun j K hj => ?_⟩
      obtain ⟨hj1, hj2⟩ := List.getElem?_eq_some_iff.1 hj
      have hjl : j < len := by simpa using hj1
      obtain ⟨_, b2, o2, u, e2, hc, hr⟩ := hf j hjl
      cases e2
      have e : f j = K := by rw [← hj2]; simp
      rw [← e]
      exact ⟨u, hc, hr⟩
    · have hd := (Prod.mk.inj hx).1
      rw [hd]
      have := flat_bulk f D (List.range len) (fun i hi => (hf i (List.mem_range.1 hi)).1)
      simp only [List.length_map, List.length_range] at this ⊢
      simp only [Rows.uptoBulk]
      omega
end TX
end Go.Proofs.Ytdigjpddmfolgaa
