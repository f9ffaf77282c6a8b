/- PinsWalk, pure: what is pinned by whom; going through rising keys. -/
import Derived.Test.YtagnglkkmdeicaaPN4
namespace Go.Proofs.Ytagnglkkmdeicaa
set_option linter.unusedVariables false
set_option linter.unusedSimpArgs false
open Go.RowKit

def m15 (n : Int) : Nat := (n % 16).toNat
theorem m15_lt (n : Int) : m15 n < 16 := by unfold m15; omega
theorem and15 (F : Int) : bits .and .i64 F 15 = (m15 F : Int) := by
  have h1 : (BitVec.ofInt 64 15).toNat = 2 ^ 4 - 1 := by decide
  have key : (BitVec.ofInt 64 F &&& BitVec.ofInt 64 15).toNat = (F % ((2 ^ 64 : Nat) : Int)).toNat % 2 ^ 4 := by
    rw [BitVec.toNat_and, BitVec.toNat_ofInt, h1, Nat.and_two_pow_sub_one_eq_mod]
  show IntKind.i64.wrap ((BitVec.ofInt 64 F &&& BitVec.ofInt 64 15).toNat : Nat) = (m15 F : Int)
  rw [key, IntKind.wrap_i64]
  unfold m15
  omega
abbrev Keys := Nat → List (List UInt8)
def pinF (f : Keys) (k : Nat) (x : List UInt8) : Keys := fun t => if t = k then addK x (f t) else f t
def gath (ps : List (Int × List UInt8)) : Keys := ps.foldl (fun f p => pinF f (m15 p.1) p.2) (fun _ => [])
theorem gath_succ (ps : List (Int × List UInt8)) (i : Nat) (h : i < ps.length) : gath (ps.take (i + 1)) = pinF (gath (ps.take i)) (m15 ps[i].1) ps[i].2 := by
  unfold gath
  rw [List.take_succ_eq_append_getElem h, List.foldl_append]; rfl
theorem mem_fold (x : List UInt8) (t : Nat) : ∀ (ps : List (Int × List UInt8)) (f : Keys), x ∈ ps.foldl (fun f p => pinF f (m15 p.1) p.2) f t ↔ x ∈ f t ∨ ∃ p ∈ ps, m15 p.1 = t ∧ p.2 = x
  | [], f => by simp
  | p :: r, f => by
    rw [List.foldl_cons, mem_fold x t r]
    unfold pinF
    constructor
    · rintro (h | ⟨q, h1, h2⟩)
      · split at h
        · rename_i e
          rcases (mem_addK _ _ _).1 h with h | h
          · exact .inr ⟨p, List.mem_cons_self .., e.symm, h.symm⟩
          · exact .inl h
        · exact .inl h
      · exact .inr ⟨q, List.mem_cons_of_mem _ h1, h2⟩
    · rintro (h | ⟨q, h1, h2, h3⟩)
      · left
        split
        · exact (mem_addK _ _ _).2 (.inr h)
        · exact h
      · rcases List.mem_cons.1 h1 with rfl | h1
        · left
          rw [if_pos h2.symm]
          exact (mem_addK _ _ _).2 (.inl h3.symm)
        · exact .inr ⟨q, h1, h2, h3⟩
theorem mem_gath (x : List UInt8) (t : Nat) (ps : List (Int × List UInt8)) : x ∈ gath ps t ↔ ∃ p ∈ ps, m15 p.1 = t ∧ p.2 = x := by
  unfold gath
  rw [mem_fold]
  simp
/-- How many entries speak of a session. -/
def numS (t : Nat) : List (Int × List UInt8) → Nat
  | [] => 0
  | p :: r => numS t r + (if m15 p.1 = t then 1 else 0)
theorem numS_append (t : Nat) : ∀ a b : List (Int × List UInt8), numS t (a ++ b) = numS t a + numS t b
  | [], b => by simp [numS]
  | p :: r, b => by rw [List.cons_append, numS, numS_append t r b, numS]; omega
theorem numS_succ (t : Nat) (ps : List (Int × List UInt8)) (i : Nat) (h : i < ps.length) : numS t (ps.take (i + 1)) = numS t (ps.take i) + (if m15 ps[i].1 = t then 1 else 0) := by
  rw [List.take_succ_eq_append_getElem h, numS_append]
  simp [numS]
theorem numS_le (t : Nat) : ∀ ps : List (Int × List UInt8), numS t ps ≤ ps.length
  | [] => Nat.le_refl _
  | p :: r => by
    have := numS_le t r
    unfold numS
    rw [List.length_cons]
    split <;> omega
theorem len_fold (t : Nat) : ∀ (ps : List (Int × List UInt8)) (f : Keys), (ps.foldl (fun f p => pinF f (m15 p.1) p.2) f t).length ≤ (f t).length + numS t ps
  | [], f => by simp [numS]
  | p :: r, f => by
    rw [List.foldl_cons]
    have h := len_fold t r (pinF f (m15 p.1) p.2)
    have h2 : (pinF f (m15 p.1) p.2 t).length ≤ (f t).length + (if m15 p.1 = t then 1 else 0) := by
      unfold pinF
      by_cases e : t = m15 p.1
      · rw [if_pos e, if_pos e.symm]; exact addK_len _ _
      · rw [if_neg e, if_neg (fun e2 => e e2.symm)]; omega
    rw [numS]
    omega
theorem len_gath (t : Nat) (ps : List (Int × List UInt8)) : (gath ps t).length ≤ numS t ps := by
  have := len_fold t ps (fun _ => [])
  simpa [gath] using this
theorem len_sub : ∀ (M S : List (List UInt8)), M.Nodup → (∀ x ∈ M, x ∈ S) → M.length ≤ S.length
  | [], S, _, _ => Nat.zero_le _
  | x :: M, S, hn, h => by
    have hx := h x (List.mem_cons_self ..)
    have hn' := List.nodup_cons.1 hn
    have ih := len_sub M (S.erase x) hn'.2 (fun y hy => (List.mem_erase_of_ne (fun e => hn'.1 (by rw [← e]; exact hy))).2 (h y (List.mem_cons_of_mem _ hy)))
    have := List.length_erase_of_mem hx
    have := List.length_pos_of_mem hx
    rw [List.length_cons]
    omega
/-- Between two steps of going by Next. -/
structure Wk (S M : List (List UInt8)) (k : List UInt8) (ok : Bool) : Prop where
  rise : M.Pairwise (fun a b => cmpK a b < 0)
  sub : ∀ x ∈ M, x ∈ S
  all : ∀ x ∈ S, x ∈ M ∨ (ok = true ∧ cmpK k x ≤ 0)
  kin : ok = true → k ∈ S ∧ ∀ x ∈ M, cmpK x k < 0
theorem Wk.begin {S : List (List UInt8)} {after k : List UInt8} {ok : Bool} (h32 : ∀ x ∈ S, x.length = 32) (h : LeastN (fun x => x.length = 32 ∧ x ∈ S) after true k ok) : Wk S [] k ok := by
  rcases h with ⟨h1, h2, _, h4⟩ | ⟨h1, _, h3⟩
  · exact ⟨.nil, fun x hx => absurd hx (by simp), fun x hx => .inr ⟨h1, h4 x ⟨h32 x hx, hx⟩ (.inl rfl)⟩, fun _ => ⟨h2.2, fun x hx => absurd hx (by simp)⟩⟩
  · exact ⟨.nil, fun x hx => absurd hx (by simp), fun x hx => absurd (.inl rfl) (h3 x ⟨h32 x hx, hx⟩), fun e => by rw [h1] at e; cases e⟩
theorem Wk.step {S M : List (List UInt8)} {k k' : List UInt8} {ok' : Bool} (h32 : ∀ x ∈ S, x.length = 32) (w : Wk S M k true) (h : LeastN (fun x => x.length = 32 ∧ x ∈ S) k false k' ok') : Wk S (M ++ [k]) k' ok' := by
  obtain ⟨kS, kM⟩ := w.kin rfl
  refine ⟨?_, ?_, fun x hx => ?_, fun e => ?_⟩
  · rw [List.pairwise_append]
    exact ⟨w.rise, List.pairwise_singleton .., fun a ha b hb => by rw [List.mem_singleton.1 hb]; exact kM a ha⟩
  · intro x hx
    rcases List.mem_append.1 hx with hx | hx
    · exact w.sub x hx
    · rw [List.mem_singleton.1 hx]; exact kS
  · rcases w.all x hx with h1 | ⟨_, h1⟩
    · exact .inl (List.mem_append.2 (.inl h1))
    · by_cases e : cmpK k x = 0
      · exact .inl (List.mem_append.2 (.inr (by rw [cmpK_zero k x e]; simp)))
      · have hf : FitsN k false x := .inr (by have := cmpK_neg k x; omega)
        rcases h with ⟨h2, _, _, h4⟩ | ⟨_, _, h3⟩
        · exact .inr ⟨h2, h4 x ⟨h32 x hx, hx⟩ hf⟩
        · exact absurd hf (h3 x ⟨h32 x hx, hx⟩)
  · rcases h with ⟨_, h2, h3, _⟩ | ⟨h1, _⟩
    · have hlt : cmpK k k' < 0 := by
        rcases h3 with h3 | h3
        · cases h3
        · have := cmpK_neg k k'; omega
      refine ⟨h2.2, fun x hx => ?_⟩
      rcases List.mem_append.1 hx with hx | hx
      · exact cmpK_lt_le (kM x hx) (by omega)
      · rw [List.mem_singleton.1 hx]; exact hlt
    · rw [h1] at e; cases e
theorem Wk.nodup {S M : List (List UInt8)} {k : List UInt8} {ok : Bool} (w : Wk S M k ok) : M.Nodup := w.rise.imp (fun {a b} h e => by subst e; rw [cmpK_self] at h; exact absurd h (by decide))
theorem Wk.len {S M : List (List UInt8)} {k : List UInt8} {ok : Bool} (w : Wk S M k ok) : M.length ≤ S.length := len_sub M S w.nodup w.sub
theorem Wk.less {S M : List (List UInt8)} {k : List UInt8} (w : Wk S M k true) : M.length + 1 ≤ S.length := by
  obtain ⟨kS, kM⟩ := w.kin rfl
  have := len_sub (M ++ [k]) S (by
    rw [List.nodup_append]
    refine ⟨w.nodup, by simp, fun a ha b hb e => ?_⟩
    rw [List.mem_singleton.1 hb] at e
    have := kM a ha
    rw [e, cmpK_self] at this
    exact absurd this (by decide)) (fun x hx => by
    rcases List.mem_append.1 hx with hx | hx
    · exact w.sub x hx
    · rw [List.mem_singleton.1 hx]; exact kS)
  simpa using this
theorem Wk.last {S M : List (List UInt8)} {k : List UInt8} (w : Wk S M k true) (h : 0 < M.length) : cmpK (M[M.length - 1]'(by omega)) k < 0 := (w.kin rfl).2 _ (List.getElem_mem _)
/-- The sessions, all open, each with its keys. -/
structure Opn (os : List (Option SesV)) (N : Nat) (f : Keys) : Prop where
  at' : ∀ t : Nat, t < 16 → ∃ v : SesV, os[t]? = some (some v) ∧ v.busy = 0 ∧ v.S = f t
  lo : ∀ (t : Nat) (v : SesV), os[t]? = some (some v) → N ≤ v.b
theorem Opn.pin {os : List (Option SesV)} {N : Nat} {f : Keys} (h : Opn os N f) {k : Nat} {v : SesV} (hk : k < 16) (hv : os[k]? = some (some v)) (x : List UInt8) : Opn (os.set k (some { v with S := addK x v.S })) N (pinF f k x) := by
  obtain ⟨v', h1, h2, h3⟩ := h.at' k hk
  rw [hv] at h1
  cases h1
  refine ⟨fun t ht => ?_, fun t u hu => ?_⟩
  · by_cases e : t = k
    · subst e
      refine ⟨_, List.getElem?_set_self (List.getElem?_eq_some_iff.1 hv).1, h2, ?_⟩
      unfold pinF
      rw [if_pos rfl, ← h3]
    · obtain ⟨u, g1, g2, g3⟩ := h.at' t ht
      refine ⟨u, by rw [List.getElem?_set_ne (fun e2 => e e2.symm)]; exact g1, g2, ?_⟩
      unfold pinF
      rw [if_neg e, g3]
  · rcases get_set hu with ⟨_, q⟩ | ⟨_, hu⟩
    · cases q; exact h.lo k v hv
    · exact h.lo t u hu
theorem Opn.keys {os : List (Option SesV)} {N : Nat} {f : Keys} (h : Opn os N f) {t : Nat} (ht : t < 16) : keysO (sel os t) = f t := by
  obtain ⟨v, h1, _, h3⟩ := h.at' t ht
  rw [sel_in ht h1]; exact h3
/-- The first j are open, and pin nothing. -/
structure OpnTo (os : List (Option SesV)) (N j : Nat) : Prop where
  at' : ∀ t : Nat, t < j → ∃ v : SesV, os[t]? = some (some v) ∧ v.busy = 0 ∧ v.S = []
  no : ∀ t : Nat, j ≤ t → t < 16 → os[t]? = some none
  lo : ∀ (t : Nat) (v : SesV), os[t]? = some (some v) → N ≤ v.b
theorem OpnTo.begin (N : Nat) : OpnTo (List.replicate 16 none) N 0 := ⟨fun t h => by omega, fun t _ h => by rw [List.getElem?_replicate, if_pos h], fun t v h => by have := List.mem_of_getElem? h; simp at this⟩
theorem OpnTo.next {os : List (Option SesV)} {N j : Nat} (h : OpnTo os N j) (hl : os.length = 16) (hj : j < 16) (v : SesV) (h1 : v.busy = 0) (h2 : v.S = []) (h3 : N ≤ v.b) : OpnTo (os.set j (some v)) N (j + 1) := by
  refine ⟨fun t ht => ?_, fun t h4 h5 => ?_, fun t u hu => ?_⟩
  · by_cases e : t = j
    · subst e
      exact ⟨v, List.getElem?_set_self (by omega), h1, h2⟩
    · rw [List.getElem?_set_ne (fun e2 => e e2.symm)]
      exact h.at' t (by omega)
  · rw [List.getElem?_set_ne (by omega)]
    exact h.no t (by omega) h5
  · rcases get_set hu with ⟨_, q⟩ | ⟨_, hu⟩
    · cases q; exact h3
    · exact h.lo t u hu
theorem OpnTo.all {os : List (Option SesV)} {N : Nat} (h : OpnTo os N 16) : Opn os N (gath []) := ⟨fun t ht => by obtain ⟨v, h1, h2, h3⟩ := h.at' t ht; exact ⟨v, h1, h2, h3⟩, h.lo⟩
theorem cnt_congr {os os' : List (Option SesV)} {x : List UInt8} : ∀ n, (∀ t : Nat, t < n → hasO (sel os t) x = hasO (sel os' t) x) → cnt os x n = cnt os' x n
  | 0, _ => rfl
  | n + 1, h => by rw [cnt, cnt, cnt_congr n (fun t ht => h t (by omega)), h n (by omega)]
/-- One session is closed. -/
theorem cnt_drop {os os' : List (Option SesV)} {x : List UInt8} {s : Nat} (hs : hasO (sel os' s) x = false) (h : ∀ t : Nat, t < 16 → t ≠ s → hasO (sel os' t) x = hasO (sel os t) x) : ∀ n, n ≤ 16 → cnt os' x n + (if s < n ∧ hasO (sel os s) x = true then 1 else 0) = cnt os x n
  | 0, _ => by simp [cnt]
  | n + 1, hn => by
    have ih := cnt_drop hs h n (by omega)
    rw [cnt, cnt]
    by_cases e : s = n
    · subst e
      rw [hs]
      simp only [Nat.lt_irrefl, false_and, if_false] at ih
      simp only [Nat.lt_succ_self, true_and, Bool.false_eq_true, if_false]
      omega
    · rw [h n (by omega) (fun e2 => e e2.symm)]
      have e2 : (s < n + 1 ∧ hasO (sel os s) x = true) ↔ (s < n ∧ hasO (sel os s) x = true) := ⟨fun q => ⟨by omega, q.2⟩, fun q => ⟨by omega, q.2⟩⟩
      simp only [e2]
      omega
theorem cnt_pos {os : List (Option SesV)} {x : List UInt8} {s : Nat} (h : hasO (sel os s) x = true) : ∀ n, s < n → 1 ≤ cnt os x n
  | 0, hs => by omega
  | n + 1, hs => by
    rw [cnt]
    by_cases e : s = n
    · subst e; rw [if_pos h]; omega
    · have := cnt_pos h n (by omega)
      omega
end Go.Proofs.Ytagnglkkmdeicaa
