/- Sets of keys: a map by whole keys. -/
import Derived.Test.YtjmjnecobaoofaaKD5
import Derived.Maps.OwnSet
import Derived.DeepKeys4
namespace Go.Proofs.Ytjmjnecobaoofaa
set_option linter.unusedVariables false
set_option linter.unusedSimpArgs false
open Go.RowKit
open Go.Maps (Keyed)

theorem laidOutK : laidOutB Try.prog = true := by kernel_rfl
theorem keyedK : Keyed Try.prog 24 := Keyed.of_law (deep_law_laid laidOutK (m := 2) (by decide) (of_decide_eq_true (by kernel_rfl)) (by kernel_rfl) (by kernel_rfl))
theorem keyByte (b : UInt8) : Lit.keyBytes (.int .u8 (b.toNat : Int)) = [b] := of_byte (p := fun b => Lit.keyBytes (.int .u8 (b.toNat : Int)) = [b]) (of_decide_eq_true (by kernel_rfl)) b
theorem mapM_all {α β : Type} {f : α → Option β} {g : α → β} : ∀ l : List α, (∀ x ∈ l, f x = some (g x)) → l.mapM f = some (l.map g)
  | [], _ => rfl
  | x :: r, h => by
    rw [List.mapM_cons, h x (by simp), mapM_all r (fun y hy => h y (by simp [hy]))]; rfl
theorem keyTypeK : Try.prog.keyType 24 = true := by kernel_rfl
theorem cellsKeyK : Try.prog.cellsOf 24 = 32 := by kernel_rfl
theorem cellsU8K : Try.prog.cellsOf 5 = 1 := by kernel_rfl
theorem sizeTK : ∃ n, Try.prog.types.size = n + 1 := ⟨Try.prog.types.size - 1, by have : 0 < Try.prog.types.size := of_decide_eq_true (by kernel_rfl); omega⟩
theorem litByte (b : UInt8) : (Lit.int .u8 (b.toNat : Int)).wf = true := of_byte (p := fun b => (Lit.int .u8 (b.toNat : Int)).wf = true) (of_decide_eq_true (by kernel_rfl)) b
theorem keyLits_array {P : Program} {d n : Nat} {t e : TypeId} {cs : List Value} (hu : P.underlying t = some (.array n e)) : P.keyLits (d + 1) t cs = if cs.length = P.cellsOf t then ((List.range n).mapM fun i => P.keyLits d e ((cs.drop (i * P.cellsOf e)).take (P.cellsOf e))).map List.flatten else none := by
  conv => lhs; unfold Program.keyLits
  simp only [hu]
theorem keyLits_int {P : Program} {d : Nat} {t : TypeId} {q : IntKind} {n : Int} (hu : P.underlying t = some (.int q)) (hw : (Lit.int q n).wf = true) : P.keyLits (d + 1) t [.int q n] = some [.int q n] := by
  unfold Program.keyLits; rw [hu]; simp [hw]
theorem keyOf_array {P : Program} {n : Nat} {k e : TypeId} {v : Value} (hu : P.underlying k = some (.array n e)) : keyOf P k v = if (P.keyType k && v.formed P k) = true then (P.keyLits (P.types.size + 1) k v.cells.toList).map fun ls => .string (keyBytes ls) else none := by
  unfold keyOf; rw [hu]
theorem bytes_lits : ∀ k : List UInt8, keyBytes (k.map fun b => Lit.int .u8 (b.toNat : Int)) = k
  | [] => rfl
  | b :: r => by
    have := bytes_lits r
    unfold keyBytes at this ⊢
    rw [List.map_cons, List.flatMap_cons, keyByte, this]; rfl
theorem flat_lits : ∀ k : List UInt8, (k.map fun b => [Lit.int .u8 (b.toNat : Int)]).flatten = k.map fun b => Lit.int .u8 (b.toNat : Int)
  | [] => rfl
  | b :: r => by rw [List.map_cons, List.flatten_cons, flat_lits r]; rfl
theorem range_lits (k : List UInt8) (h : k.length = 32) : (List.range 32).map (fun i => [Lit.int .u8 ((k.getD i 0).toNat : Int)]) = k.map (fun b => [Lit.int .u8 (b.toNat : Int)]) := by
  apply List.ext_getElem?
  intro i
  rcases Nat.lt_or_ge i 32 with hi | hi
  · simp [hi, List.getElem?_eq_getElem (show i < k.length by omega)]
  · rw [List.getElem?_eq_none (by simpa using hi), List.getElem?_eq_none (by simpa [h] using hi)]
/-- A key reads as its bytes. -/
theorem keyOf_key (k : List UInt8) (h : k.length = 32) : keyOf Try.prog 24 (keyV k) = some (.string k) := by
  obtain ⟨n, hn⟩ := sizeTK
  have hf : (keyV k).formed Try.prog 24 = true := by
    simp [Value.formed, keyV, Try.underlying24, cellsKeyK, h]
  have hl : Try.prog.keyLits (Try.prog.types.size + 1) 24 (keyV k).cells.toList = some (k.map fun b => Lit.int .u8 (b.toNat : Int)) := by
    have hc : (keyV k).cells.toList = k.map u8c := by simp [keyV, Value.cells]
    rw [hc, keyLits_array Try.underlying24, if_pos (by rw [List.length_map, cellsKeyK, h])]
    simp only [cellsU8K, Nat.mul_one]
    rw [mapM_all (g := fun i => [Lit.int .u8 ((k.getD i 0).toNat : Int)])]
    · rw [Option.map_some, range_lits k h, flat_lits]
    · intro i hi
      have hi' : i < k.length := by rw [h]; exact List.mem_range.1 hi
      rw [hn, List.drop_eq_getElem_cons (by simpa using hi')]
      simp only [List.take_succ_cons, List.take_zero, List.getElem_map, u8c]
      rw [List.getD_eq_getElem?_getD, List.getElem?_eq_getElem hi', Option.getD_some]
      exact keyLits_int Try.underlying5 (litByte _)
  rw [keyOf_array Try.underlying24, if_pos (by rw [keyTypeK, hf]; rfl), hl, Option.map_some, bytes_lits]
end Go.Proofs.Ytjmjnecobaoofaa
