/- Open of a filter: pure. -/
import Derived.Test.YtbemmhngadpjcaaFI3
import Derived.Deep.RegionWith
namespace Go.Proofs.Ytbemmhngadpjcaa
set_option linter.unusedVariables false
set_option linter.unusedSimpArgs false
open Go.RowKit

theorem u8_of (x : UInt8) (r : Nat) : UInt8.ofNat (x.toNat + 256 * r) = x := by
  apply UInt8.toNat_inj.1
  rw [UInt8.toNat_ofNat']
  have := x.toNat_lt
  omega
theorem fixB_le : ∀ xs : List UInt8, fixB xs.length (leNat xs) = xs
  | [] => rfl
  | x :: r => by
    have ih := fixB_le r
    show UInt8.ofNat (leNat (x :: r)) :: fixB r.length (leNat (x :: r) / 256) = x :: r
    have e : leNat (x :: r) = x.toNat + 256 * leNat r := rfl
    have hx := x.toNat_lt
    rw [e, u8_of, show (x.toNat + 256 * leNat r) / 256 = leNat r by omega, ih]
theorem fixB_le' (xs : List UInt8) (n : Nat) (h : xs.length = n) : fixB n (leNat xs) = xs := by subst h; exact fixB_le xs
def hF (xs : List UInt8) : Nat := leNat (xs.take 1)
def cntF (xs : List UInt8) : Nat := leNat ((xs.drop 1).take 2)
def wsF (xs : List UInt8) (n : Nat) : List Nat := (List.range n).map (fun k => leNat ((xs.drop (3 + 8 * k)).take 8))
/-- Are these the bytes of a filter? -/
def OkB (xs : List UInt8) : Prop := 3 ≤ xs.length ∧ xs.length = 3 + 8 * cntF xs ∧ 1 ≤ cntF xs ∧ cntF xs ≤ 16384 ∧ 1 ≤ hF xs ∧ hF xs ≤ 16
theorem chunk8 : ∀ (n : Nat) (ys : List UInt8), ys.length = 8 * n → (List.range n).flatMap (fun k => (ys.drop (8 * k)).take 8) = ys
  | 0, ys, h => by
    have : ys = [] := List.eq_nil_of_length_eq_zero (by omega)
    subst this
    rfl
  | n + 1, ys, h => by
    rw [List.range_succ_eq_map, List.flatMap_cons, List.flatMap_map]
    have ih := chunk8 n (ys.drop 8) (by rw [List.length_drop]; omega)
    have e : (fun k => (ys.drop (8 * (k + 1))).take 8) = fun k => ((ys.drop 8).drop (8 * k)).take 8 := by
      funext k
      rw [List.drop_drop]
      congr 2
      omega
    show (ys.drop (8 * 0)).take 8 ++ (List.range n).flatMap (fun k => (ys.drop (8 * (k + 1))).take 8) = ys
    rw [e, ih, Nat.mul_zero, List.drop_zero, List.take_append_drop]
theorem flatMap_congr' {α β : Type} (f g : α → List β) : ∀ (l : List α), (∀ x ∈ l, f x = g x) → l.flatMap f = l.flatMap g
  | [], _ => rfl
  | a :: r, h => by
    rw [List.flatMap_cons, List.flatMap_cons, h a (by simp), flatMap_congr' f g r (fun x hx => h x (by simp [hx]))]
theorem wsF_len (xs : List UInt8) (n : Nat) : (wsF xs n).length = n := by simp [wsF]
theorem wsF_ok (xs : List UInt8) (n : Nat) : ∀ x ∈ wsF xs n, x < 18446744073709551616 := by
  intro x hx
  obtain ⟨k, _, rfl⟩ := List.mem_map.1 hx
  exact leNat_lt _ 8 (by simp; omega)
/-- The bytes of the filter that is opened are these. -/
theorem bytes_back (xs : List UInt8) (h : OkB xs) : bytesF (hF xs) (wsF xs (cntF xs)) = xs := by
  obtain ⟨h3, hl, -⟩ := h
  unfold bytesF
  rw [wsF_len]
  obtain ⟨n, hn⟩ : ∃ n, n = cntF xs := ⟨_, rfl⟩
  have e1 : fixB 1 (hF xs) = xs.take 1 := fixB_le' _ 1 (by simp; omega)
  have e2 : fixB 2 (cntF xs) = (xs.drop 1).take 2 := fixB_le' _ 2 (by simp; omega)
  rw [e1, e2, ← hn]
  rw [← hn] at hl
  have e3 : (wsF xs n).flatMap (fixB 8) = xs.drop 3 := by
    unfold wsF
    rw [List.flatMap_map]
    have hc := chunk8 n (xs.drop 3) (by rw [List.length_drop]; omega)
    rw [← hc]
    refine flatMap_congr' _ _ _ (fun k hk => ?_)
    have hk' := List.mem_range.1 hk
    rw [List.drop_drop]
    exact fixB_le' _ 8 (by rw [List.length_take, List.length_drop]; omega)
  rw [e3]
  have e4 : (xs.drop 1).take 2 ++ xs.drop 3 = xs.drop 1 := by
    have := List.take_append_drop 2 (xs.drop 1)
    rw [List.drop_drop] at this
    exact this
  rw [e4, List.take_append_drop]
/-- The words so far, and noughts. -/
def wsK (xs : List UInt8) (n k : Nat) : List Nat := (wsF xs n).take k ++ List.replicate (n - k) 0
theorem wsK_len (xs : List UInt8) (n k : Nat) (h : k ≤ n) : (wsK xs n k).length = n := by
  unfold wsK
  rw [List.length_append, List.length_take, wsF_len, List.length_replicate]
  omega
theorem wsF_take (xs : List UInt8) (n k : Nat) (h : k < n) : (wsF xs n).take (k + 1) = (wsF xs n).take k ++ [leNat ((xs.drop (3 + 8 * k)).take 8)] := by
  rw [List.take_succ_eq_append_getElem (by rw [wsF_len]; exact h)]
  congr 2
  simp [wsF]
theorem wsK_set (xs : List UInt8) (n k : Nat) (h : k < n) : (wsK xs n k).set k (leNat ((xs.drop (3 + 8 * k)).take 8)) = wsK xs n (k + 1) := by
  unfold wsK
  have hl : ((wsF xs n).take k).length = k := by rw [List.length_take, wsF_len]; omega
  rw [List.set_append_right _ _ (by omega), hl, Nat.sub_self, show n - k = (n - (k + 1)) + 1 by omega, List.replicate_succ, List.set_cons_zero, wsF_take xs n k h, List.append_assoc]
  rfl
theorem wsK_at (xs : List UInt8) (n k : Nat) (h : k < n) : (wsK xs n k)[k]? = some 0 := by
  unfold wsK
  have hl : ((wsF xs n).take k).length = k := by rw [List.length_take, wsF_len]; omega
  rw [List.getElem?_append_right (by omega), hl, Nat.sub_self, List.getElem?_replicate, if_pos (by omega)]
theorem wsK_all (xs : List UInt8) (n : Nat) : wsK xs n n = wsF xs n := by
  unfold wsK
  rw [Nat.sub_self, List.take_of_length_le (by rw [wsF_len]; omega)]
  simp
theorem wsK_zero (xs : List UInt8) (n : Nat) : wsK xs n 0 = List.replicate n 0 := by simp [wsK]
end Go.Proofs.Ytbemmhngadpjcaa
