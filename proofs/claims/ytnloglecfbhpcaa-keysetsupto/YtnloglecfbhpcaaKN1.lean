/- Keys in a map, read back; going through a set of keys. -/
import Derived.Test.YtnloglecfbhpcaaKM4
import Derived.Maps.RangeWalk
namespace Go.Proofs.Ytnloglecfbhpcaa
set_option linter.unusedVariables false
set_option linter.unusedSimpArgs false
open Go.RowKit
open Go.Maps (Keyed)
set_option maxRecDepth 100000

theorem keyLits_u8 {P : Program} {t : TypeId} (hu : P.underlying t = some (.int .u8)) {d : Nat} {c : Value} {l : List Lit} (h : P.keyLits (d + 1) t [c] = some l) : ∃ b : UInt8, c = u8c b ∧ l = [.int .u8 (b.toNat : Int)] := by
  unfold Program.keyLits at h
  rw [hu] at h
  cases c <;> simp at h
  rename_i q n
  obtain ⟨⟨rfl, hw⟩, rfl⟩ := h
  have hw' : 0 ≤ n ∧ n ≤ 255 := by
    simpa [Lit.wf, IntKind.min, IntKind.max, IntKind.signed, IntKind.bits] using hw
  refine ⟨UInt8.ofNat n.toNat, ?_, ?_⟩
  · unfold u8c
    rw [UInt8.toNat_ofNat', Nat.mod_eq_of_lt (by omega)]
    congr 1
    omega
  · rw [UInt8.toNat_ofNat', Nat.mod_eq_of_lt (by omega)]
    congr 2
    omega
theorem mapM_some {α β : Type} {f : α → Option β} : ∀ {l : List α} {r : List β}, l.mapM f = some r → ∀ x ∈ l, ∃ y, f x = some y
  | [], _, _, x, hx => by cases hx
  | a :: l, r, h, x, hx => by
    rw [List.mapM_cons] at h
    cases ha : f a with
    | none => rw [ha] at h; simp at h
    | some y =>
      rw [ha] at h
      cases hl : l.mapM f with
      | none => rw [hl] at h; simp at h
      | some ys =>
        rcases List.mem_cons.1 hx with rfl | hx'
        · exact ⟨y, ha⟩
        · exact mapM_some hl x hx'
/-- Whatever is a key's value reads as its bytes. -/
theorem keyOf_inv (v : Value) (kl : Lit) (h : keyOf Try.prog 38 v = some kl) : ∃ k : List UInt8, k.length = 32 ∧ v = keyV k ∧ kl = .string k := by
  have h0 := h
  rw [keyOf_array Try.underlying38] at h
  split at h
  · rename_i hf
    have hf2 : v.formed Try.prog 38 = true := by
      rw [keyTypeK, Bool.true_and] at hf
      exact hf
    obtain ⟨cs, rfl⟩ : ∃ cs, v = .agg cs := by
      cases v <;> simp [Value.formed, Try.underlying38] at hf2
      exact ⟨_, rfl⟩
    have hs : cs.size = 32 := by
      simpa [Value.formed, Try.underlying38, cellsKeyK] using hf2
    obtain ⟨n, hn⟩ := sizeTK
    have hc : (Value.agg cs).cells.toList = cs.toList := by simp [Value.cells]
    rw [hc, keyLits_array Try.underlying38, if_pos (by rw [cellsKeyK]; simpa using hs)] at h
    simp only [cellsU8K, Nat.mul_one] at h
    cases hm : (List.range 32).mapM (fun i => Try.prog.keyLits Try.prog.types.size 5 ((cs.toList.drop i).take 1)) with
    | none => rw [hm] at h; simp at h
    | some r =>
      have each : ∀ i, i < 32 → ∃ b : UInt8, cs.toList[i]? = some (u8c b) := by
        intro i hi
        obtain ⟨l, hl⟩ := mapM_some hm i (List.mem_range.2 hi)
        have hi' : i < cs.toList.length := by simpa [hs] using hi
        rw [hn, List.drop_eq_getElem_cons hi'] at hl
        simp only [List.take_succ_cons, List.take_zero] at hl
        obtain ⟨b, hb, _⟩ := keyLits_u8 Try.underlying5 hl
        exact ⟨b, by rw [List.getElem?_eq_getElem hi', hb]⟩
      have all : ∀ j, j ≤ 32 → ∃ k : List UInt8, k.length = j ∧ cs.toList.take j = k.map u8c := by
        intro j
        induction j with
        | zero => intro _; exact ⟨[], rfl, rfl⟩
        | succ j ih =>
          intro hj
          obtain ⟨k, hk, hkt⟩ := ih (by omega)
          obtain ⟨b, hb⟩ := each j (by omega)
          refine ⟨k ++ [b], by simp [hk], ?_⟩
          rw [List.take_add_one, hkt, hb]
          simp
      obtain ⟨k, hk, hkt⟩ := all 32 (Nat.le_refl _)
      rw [List.take_of_length_le (by simpa using Nat.le_of_eq hs)] at hkt
      have hv : Value.agg cs = keyV k := by
        unfold keyV
        congr 1
        rw [← hkt]
      rw [hv, keyOf_key k hk] at h0
      exact ⟨k, hk, hv, (Option.some.inj h0).symm⟩
  · cases h
end Go.Proofs.Ytnloglecfbhpcaa
