/- PinsWalk, pure: what is pinned by whom; going through rising keys. -/
import Derived.Test.YtagnglkkmdeicaaPN4
namespace Go.Proofs.Ytagnglkkmdeicaa
set_option linter.unusedVariables false
set_option linter.unusedSimpArgs false
open Go.RowKit

def m15 (n : Int) : Nat := (n % 16).toNat
theorem m15_lt (n : Int) : m15 n < 16 := by unfold m15; omega
theorem and15 (F : Int) : bits .and .i64 F 15 = (m15 F : Int) := by
  have h1 : (BitVec.ofInt 64 15).toNat = 2 ^ 4 - 1 := by decide
  have key : (BitVec.ofInt 64 F &&& BitVec.ofInt 64 15).toNat = (F % ((2 ^ 64 : Nat) : Int)).toNat % 2 ^ 4 := by
    rw [BitVec.toNat_and, BitVec.toNat_ofInt, h1, Nat.and_two_pow_sub_one_eq_mod]
  show IntKind.i64.wrap ((BitVec.ofInt 64 F &&& BitVec.ofInt 64 15).toNat : Nat) = (m15 F : Int)
  rw [key, IntKind.wrap_i64]
  unfold m15
  omega
abbrev Keys := Nat → List (List UInt8)
def pinF (f : Keys) (k : Nat) (x : List UInt8) : Keys := fun t => if t = k then addK x (f t) else f t
def gath (ps : List (Int × List UInt8)) : Keys := ps.foldl (fun f p => pinF f (m15 p.1) p.2) (fun _ => [])
theorem gath_succ (ps : List (Int × List UInt8)) (i : Nat) (h : i < ps.length) : gath (ps.take (i + 1)) = pinF (gath (ps.take i)) (m15 ps[i].1) ps[i].2 := by
  unfold gath
  rw [List.take_succ_eq_append_getElem h, List.foldl_append]; rfl
theorem mem_fold (x : List UInt8) (t : Nat) : ∀ (ps : List (Int × List UInt8)) (f : Keys), x ∈ ps.foldl (fun f p => pinF f (m15 p.1) p.2) f t ↔ x ∈ f t ∨ ∃ p ∈ ps, m15 p.1 = t ∧ p.2 = x
  | [], f => by simp
  | p :: r, f => by
    rw [List.foldl_cons, mem_fold x t r]
    unfold pinF
    constructor
    · rintro (h | ⟨q, h1, h2⟩)
      · split at h
        · rename_i e
          rcases (mem_addK _ _ _).1 h with h | h
          · exact .inr ⟨p, List.mem_cons_self .., e.symm, h.symm⟩
          · exact .inl h
        · exact .inl h
      · exact .inr ⟨q, List.mem_cons_of_mem _ h1, h2⟩
    · rintro (h | ⟨q, h1, h2, h3⟩)
      · left
        split
        · exact (mem_addK _ _ _).2 (.inr h)
        · exact h
      · rcases List.mem_cons.1 h1 with rfl | h1
        · left
          rw [if_pos h2.symm]
          exact (mem_addK _ _ _).2 (.inl h3.symm)
        · exact .inr ⟨q, h1, h2, h3⟩
theorem mem_gath (x : List UInt8) (t : Nat) (ps : List (Int × List UInt8)) : x ∈ gath ps t ↔ ∃ p ∈ ps, m15 p.1 = t ∧ p.2 = x := by
  unfold gath
  rw [mem_fold]
  simp
/-- How many entries speak of a session. -/
def numS (t : Nat) : List (Int × List UInt8) → Nat
  | [] => 0
  | p :: r => numS t r + (if m15 p.1 = t then 1 else 0)
theorem numS_append (t : Nat) : ∀ a b : List (Int × List UInt8), numS t (a ++ b) = numS t a + numS t b
  | [], b => by simp [numS]
  | p :: r, b => by rw [List.cons_append, numS, numS_append t r b, numS]; omega
theorem numS_succ (t : Nat) (ps : List (Int × List UInt8)) (i : Nat) (h : i < ps.length) : numS t (ps.take (i + 1)) = numS t (ps.take i) + (if m15 ps[i].1 = t then 1 else 0) := by
  rw [List.take_succ_eq_append_getElem h, numS_append]
  simp [numS]
theorem numS_le (t : Nat) : ∀ ps : List (Int × List UInt8), numS t ps ≤ ps.length
  | [] => Nat.le_refl _
  | p :: r => by
    have := numS_le t r
    unfold numS
    rw [List.length_cons]
    split <;> omega
theorem len_fold (t : Nat) : ∀ (ps : List (Int × List UInt8)) (f : Keys), (ps.foldl (fun f p => pinF f (m15 p.1) p.2) f t).length ≤ (f t).length + numS t ps
  | [], f => by simp [numS]
  | p :: r, f => by
    rw [List.foldl_cons]
    have h := len_fold t r (pinF f (m15 p.1) p.2)
    have h2 : (pinF f (m15 p.1) p.2 t).length ≤ (f t).length + (if m15 p.1 = t then 1 else 0) := by
      unfold pinF
      by_cases e : t = m15 p.1
      · rw [if_pos e, if_pos e.symm]; exact addK_len _ _
      · rw [if_neg e, if_neg (fun e2 => e e2.symm)]; omega
    rw [numS]
    omega
theorem len_gath (t : Nat) (ps : List (Int × List UInt8)) : (gath ps t).length ≤ numS t ps := by
  have := len_fold t ps (fun _ => [])
  simpa [gath] using this
theorem len_sub : ∀ (M S : List (List UInt8)), M.Nodup → (∀ x ∈ M, x ∈ S) → M.length ≤ S.length
  | [], S, _, _ => Nat.zero_le _
  | x :: M, S, hn, h => by
    have hx := h x (List.mem_cons_self ..)
    have hn' := List.nodup_cons.1 hn
    have ih := len_sub M (S.erase x) hn'.2 (fun y hy => (List.mem_erase_of_ne (fun e => hn'.1 (by rw [← e]; exact hy))).2 (h y (List.mem_cons_of_mem _ hy)))
    have := List.length_erase_of_mem hx
    have := List.length_pos_of_mem hx
    rw [List.length_cons]
    omega
/-- Between two steps of going by Next. -/
structure Wk (S M : List (List UInt8)) (k : List UInt8) (ok : Bool) : Prop where
  rise : M.Pairwise (fun a b => cmpK a b < 0)
  sub : ∀ x ∈ M, x ∈ S
  all : ∀ x ∈ S, x ∈ M ∨ (ok = true ∧ cmpK k x ≤ 0)
  kin : ok = true → k ∈ S ∧ ∀ x ∈ M, cmpK x k < 0
theorem Wk.begin {S : List (List UInt8)} {after k : List UInt8} {ok : Bool} (h32 : ∀ x ∈ S, x.length = 32) (h : LeastN (fun x => x.length = 32 ∧ x ∈ S) after true k ok) : Wk S [] k ok := by
  rcases h with ⟨h1, h2, _, h4⟩ | ⟨h1, _, h3⟩
  · exact ⟨.nil, fun x hx => absurd hx (by simp), fun x hx => .inr ⟨h1, h4 x ⟨h32 x hx, hx⟩ (.inl rfl)⟩, fun _ => ⟨h2.2, fun x hx => absurd hx (by simp)⟩⟩
  · exact ⟨.nil, fun x hx => absurd hx (by simp), fun x hx => absurd (.inl rfl) (h3 x ⟨h32 x hx, hx⟩), fun e => by rw [h1] at e; cases e⟩
theorem Wk.step {S M : List (List UInt8)} {k k' : List UInt8} {ok' : Bool} (h32 : ∀ x ∈ S, x.length = 32) (w : Wk S M k true) (h : LeastN (fun x => x.length = 32 ∧ x ∈ S) k false k' ok') : Wk S (M ++ [k]) k' ok' := by
  obtain ⟨kS, kM⟩ := w.kin rfl
  refine ⟨?_, ?_, fun x hx => ?_, fun e => ?_⟩
  · rw [List.pairwise_append]
    exact ⟨w.rise, List.pairwise_singleton .., fun a ha b hb => by rw [List.mem_singleton.1 hb]; exact kM a ha⟩
  · intro x hx
    rcases List.mem_append.1 hx with hx | hx
    · exact w.sub x hx
    · rw [List.mem_singleton.1 hx]; exact kS
  · rcases w.all x hx with h1 | ⟨_, h1⟩
    · exact .inl (List.mem_append.2 (.inl h1))
    · by_cases e : cmpK k x = 0
      · exact .inl (List.mem_append.2 (.inr (by rw [cmpK_zero k x e]; simp)))
      · have hf : FitsN k false x := .inr (by have := cmpK_neg k x; omega)
        rcases h with ⟨h2, _, _, h4⟩ | ⟨_, _, h3⟩
        · exact .inr ⟨h2, h4 x ⟨h32 x hx, hx⟩ hf⟩
        · exact absurd hf (h3 x ⟨h32 x hx, hx⟩)
  · rcases h with ⟨_, h2, h3, _⟩ | ⟨h1, _⟩
    · have hlt : cmpK k k' < 0 := by
        rcases h3 with h3 | h3
        · cases h3
        · have := cmpK_neg k k'; omega
      refine ⟨h2.2, fun x hx => ?_⟩
      rcases List.mem_append.1 hx with hx | hx
      · exact cmpK_lt_le (kM x hx) (by omega)
      · rw [List.mem_singleton.1 hx]; exact hlt
    · rw [h1] at e; cases e
theorem Wk.nodup {S M : List (List UInt8)} {k : List UInt8} {ok : Bool} (w : Wk S M k ok) : M.Nodup := w.rise.imp (fun {a b} h e => by subst e; rw [cmpK_self] at h; exact absurd h (by decide))
theorem Wk.len {S M : List (List UInt8)} {k : List UInt8} {ok : Bool} (w : Wk S M k ok) : M.length ≤ S.length := len_sub M S w.nodup w.sub
theorem Wk.less {S M : List (List UInt8)} {k : List UInt8} (w : Wk S M k true) : M.length + 1 ≤ S.length := by
  obtain ⟨kS, kM⟩ := w.kin rfl
  have := len_sub (M ++ [k]) S (by
    rw [List.nodup_append]
    refine ⟨w.nodup, by simp, fun a ha b hb e => ?_⟩
    rw [List.mem_singleton.1 hb] at e
    have := kM a ha
    rw [e, cmpK_self] at this
    exact absurd this (by decide)) (fun x hx => by
    rcases List.mem_append.1 hx with hx | hx
    · exact w.sub x hx
    · rw [List.mem_singleton.1 hx]; exact kS)
  simpa using this
theorem Wk.last {S M : List (List UInt8)} {k : List UInt8} (w : Wk S M k true) (h : 0 < M.length) : cmpK (M[M.length - 1]'(by omega)) k < 0 := (w.kin rfl).2 _ (List.getElem_mem _)
/-- The sessions, all open, each with its keys. -/
structure Opn (os : List (Option SesV)) (N : Nat) (f : Keys) : Prop where
  at' : ∀ t : Nat, t < 16 → ∃ v : SesV, os[t]? = some (some v) ∧ v.busy = 0 ∧ v.S = f t
  lo : ∀ (t : Nat) (v : SesV), os[t]? = some (some v) → N ≤ v.b
theorem Opn.pin {os : List (Option SesV)} {N : Nat} {f : Keys} (h : Opn os N f) {k : Nat} {v : SesV} (hk : k < 16) (hv : os[k]? = some (some v)) (x : List UInt8) : Opn (os.set k (some { v with S := addK x v.S })) N (pinF f k x) := by
  obtain ⟨v', h1, h2, h3⟩ := h.at' k hk
  rw [hv] at h1
  cases h1
  refine ⟨fun t ht => ?_, fun t u hu => ?_⟩
  · by_cases e : t = k
    · subst e
      refine ⟨_, List.getElem?_set_self (List.getElem?_eq_some_iff.1 hv).1, h2, ?_⟩
      unfold pinF
      rw [if_pos rfl, ← h3]
    · obtain ⟨u, g1, g2, g3⟩ := h.at' t ht
      refine ⟨u, by rw [List.getElem?_set_ne (fun e2 => e e2.symm)]; exact g1, g2, ?_⟩
      unfold pinF
      rw [if_neg e, g3]
  · rcases get_set hu with ⟨_, q⟩ | ⟨_, hu⟩
    · cases q; exact h.lo k v hv
    · exact h.lo t u hu
theorem Opn.keys {os : List (Option SesV)} {N : Nat} {f : Keys} (h : Opn os N f) {t : Nat} (ht : t < 16) : keysO (sel os t) = f t := by
  obtain ⟨v, h1, _, h3⟩ := h.at' t ht
  rw [sel_in ht h1]; exact h3
/-- The first j are open, and pin nothing. -/
structure OpnTo (os : List (Option SesV)) (N j : Nat) : Prop where
  at' : ∀ t : Nat, t < j → ∃ v : SesV, os[t]? = some (some v) ∧ v.busy = 0 ∧ v.S = []
  no : ∀ t : Nat, j ≤ t → t < 16 → os[t]? = some none
  lo : ∀ (t : Nat) (v : SesV), os[t]? = some (some v) → N ≤ v.b
theorem OpnTo.begin (N : Nat) : OpnTo (List.replicate 16 none) N 0 := ⟨fun t h => by omega, fun t _ h => by rw [List.getElem?_replicate, if_pos h], fun t v h => by have := List.mem_of_getElem? h; simp at this⟩
theorem OpnTo.next {os : List (Option SesV)} {N j : Nat} (h : OpnTo os N j) (hl : os.length = 16) (hj : j < 16) (v : SesV) (h1 : v.busy = 0) (h2 : v.S = []) (h3 : N ≤ v.b) : OpnTo (os.set j (some v)) N (j + 1) := by
  refine ⟨fun t ht => ?_, fun t h4 h5 => ?_, fun t u hu => ?_⟩
  · by_cases e : t = j
    · subst e
      exact ⟨v, List.getElem?_set_self (by omega), h1, h2⟩
    · rw [List.getElem?_set_ne (fun e2 => e e2.symm)]
      exact h.at' t (by omega)
  · rw [List.getElem?_set_ne (by omega)]
    exact h.no t (by omega) h5
  · rcases get_set hu with ⟨_, q⟩ | ⟨_, hu⟩
    · cases q; exact h3
    · exact h.lo t u hu
theorem OpnTo.all {os : List (Option SesV)} {N : Nat} (h : OpnTo os N 16) : Opn os N (gath []) := ⟨fun t ht => by obtain ⟨v, h1, h2, h3⟩ := h.at' t ht; exact ⟨v, h1, h2, h3⟩, h.lo⟩
theorem cnt_congr {os os' : List (Option SesV)} {x : List UInt8} : ∀ n, (∀ t : Nat, t < n → hasO (sel os t) x = hasO (sel os' t) x) → cnt os x n = cnt os' x n
  | 0, _ => rfl
  | n + 1, h => by rw [cnt, cnt, cnt_congr n (fun t ht => h t (by omega)), h n (by omega)]
/-- One session is closed. -/
theorem cnt_drop {os os' : List (Option SesV)} {x : List UInt8} {s : Nat} (hs : hasO (sel os' s) x = false) (h : ∀ t : Nat, t < 16 → t ≠ s → hasO (sel os' t) x = hasO (sel os t) x) : ∀ n, n ≤ 16 → cnt os' x n + (if s < n ∧ hasO (sel os s) x = true then 1 else 0) = cnt os x n
  | 0, _ => by simp [cnt]
  | n + 1, hn => by
    have ih := cnt_drop hs h n (by omega)
    rw [cnt, cnt]
    by_cases e : s = n
    · subst e
      rw [hs]
      simp only [Nat.lt_irrefl, false_and, if_false] at ih
      simp only [Nat.lt_succ_self, true_and, Bool.false_eq_true, if_false]
      omega
    · rw [h n (by omega) (fun e2 => e e2.symm)]
      have e2 : (s < n + 1 ∧ hasO (sel os s) x = true) ↔ (s < n ∧ hasO (sel os s) x = true) := ⟨fun q => ⟨by omega, q.2⟩, fun q => ⟨by omega, q.2⟩⟩
      simp only [e2]
      omega
theorem cnt_pos {os : List (Option SesV)} {x : List UInt8} {s : Nat} (h : hasO (sel os s) x = true) : ∀ n, s < n → 1 ≤ cnt os x n
  | 0, hs => by omega
  | n + 1, hs => by
    rw [cnt]
    by_cases e : s = n
    · subst e; rw [if_pos h]; omega
    · have := cnt_pos h n (by omega)
      omega
end Go.Proofs.Ytagnglkkmdeicaa

/- PinsWalk: a row of pinned keys; the same pins with one session closed. -/
namespace Go.Proofs.Ytagnglkkmdeicaa
set_option linter.unusedVariables false
set_option linter.unusedSimpArgs false
open Go.RowKit
set_option maxRecDepth 100000

/-- A row of pairs: a session, a key. -/
structure PRow (w : World) (ao : Option Addr) (ps : List (Int × List UInt8)) : Prop where
  at' : ∀ i (h : i < ps.length), ∃ g o, ao = some ⟨g, o, none⟩ ∧ w.cell? ⟨g, o + i * 33, none⟩ = some (.int .i64 ps[i].1) ∧ w.rangeAt g (o + i * 33 + 1) (ps[i].2.map u8c)
  len : ∀ p ∈ ps, p.2.length = 32
theorem PRow.below {w w' : World} {ao : Option Addr} {ps : List (Int × List UInt8)} (h : PRow w ao ps) (hb : Below w.heap.size w w') : PRow w' ao ps :=
  ⟨fun i hi => by
    obtain ⟨g, o, e, h1, h2⟩ := h.at' i hi
    exact ⟨g, o, e, by rw [hb.cell (World.block_lt_of_cell? w _ h1)]; exact h1, rangeAt_belowK h2 hb⟩, h.len⟩
/-- What stands between two pins: all are open. -/
structure Ph (w : World) (zp : Nat) (ao : Option Addr) (ps : List (Int × List UInt8)) (f : Keys) (W : World) : Prop where
  pins : ∃ os, PinsAt W zp os ∧ Opn os w.heap.size f
  row : PRow W ao ps
  lo : w.heap.size ≤ zp
  bel : Below w.heap.size w W
theorem Ph.below {w W W' : World} {zp : Nat} {ao : Option Addr} {ps : List (Int × List UInt8)} {f : Keys} (h : Ph w zp ao ps f W) (hb : Below W.heap.size W W') : Ph w zp ao ps f W' := by
  obtain ⟨os, h1, h2⟩ := h.pins
  exact ⟨⟨os, h1.below hb, h2⟩, h.row.below hb, h.lo, h.bel.trans (hb.mono h.bel.size)⟩
theorem PRow.grown {w w' : World} {N z : Nat} {ao : Option Addr} {ps : List (Int × List UInt8)} (h0 : ∀ g o, ao = some ⟨g, o, none⟩ → 0 < ps.length → g < N) (h : PRow w ao ps) (hg : w.grownBy w' (some z)) (hz : N ≤ z) : PRow w' ao ps :=
  ⟨fun i hi => by
    obtain ⟨g, o, e, h1, h2⟩ := h.at' i hi
    have hgN := h0 g o e (by omega)
    have hk : ∀ j, w'.cell? ⟨g, j, none⟩ = w.cell? ⟨g, j, none⟩ := fun j => by
      unfold World.cell?
      simp only
      rw [hg.block g (World.block_lt_of_cell? w _ h1) (fun e2 => by have := Option.some.inj e2; omega)]
    exact ⟨g, o, e, by rw [hk]; exact h1, fun j v hj => by rw [hk]; exact h2 j v hj⟩, h.len⟩
theorem PRow.of_below {w w' : World} {ao : Option Addr} {ps : List (Int × List UInt8)} (h : PRow w ao ps) (hb : Below w.heap.size w w') : PRow w' ao ps := h.below hb
/-- One more is pinned. -/
theorem Ph.pin {w W : World} {zp : Nat} {ao : Option Addr} {ps : List (Int × List UInt8)} {f : Keys} (h0 : PRow w ao ps) (h : Ph w zp ao ps f W) {k : Nat} (hk : k < 16) {x : List UInt8} (hx : x.length = 32) (hl : (f k).length < maxLen) : Calls Try.prog 10 #[.pointer (some ⟨zp, 0, none⟩), .int .i64 (k : Int), keyV x] W fun e w' => e = .returned (.int .i64 0) ∧ Ph w zp ao ps (pinF f k x) w' := by
  obtain ⟨os, h1, h2⟩ := h.pins
  obtain ⟨v, g1, g2, g3⟩ := h2.at' k hk
  refine (pin_yes W zp os k v x hk hx h1 g1 (by rw [g3]; exact hl)).mono ?_
  rintro e w' ⟨he, hp, hg⟩
  have hb := h.bel.trans (below_grownBy hg (h2.lo k v g1) h.bel.size)
  exact ⟨he, ⟨_, hp, h2.pin hk g1 x⟩, h0.below hb, h.lo, hb⟩
def K1 : List UInt8 := 0 :: 1 :: List.replicate 30 0
/-- What closed answers. -/
def ClosedC (w : World) (f : Keys) (s : Nat) (e : Ending) (w' : World) : Prop := ∃ zp os, e = .returned (.pointer (some ⟨zp, 0, none⟩)) ∧ PinsAt w' zp os ∧ Below w.heap.size w w' ∧ sel os s = none ∧ ∀ t : Nat, t < 16 → t ≠ s → keysO (sel os t) = f t
theorem wpList_K1 {ops : Array Oper} {rest : List Oper} {op : Oper} {a : Act} {w : World} {Q : Exit → Act → World → Prop} (ho : op.op = .build 30 #[(1, .const (.int .u8 1))]) (hg : Region.wanted op (yielded ops a.tmps) = true)
    (h : wpList Try.prog ops Q rest (a.put op.dst (keyV K1)) w) : wpList Try.prog ops Q (op :: rest) a w :=
  wpList_val _ hg (by simp only [execOp, ho]; kernel_rfl) h
def zK : List UInt8 := List.replicate 32 0
theorem zK_len : zK.length = 32 := rfl
theorem wpList_K0 {ops : Array Oper} {rest : List Oper} {op : Oper} {a : Act} {w : World} {Q : Exit → Act → World → Prop} (ho : op.op = .build 30 #[]) (hg : Region.wanted op (yielded ops a.tmps) = true)
    (h : wpList Try.prog ops Q rest (a.put op.dst (keyV zK)) w) : wpList Try.prog ops Q (op :: rest) a w :=
  wpList_val _ hg (by simp only [execOp, ho]; kernel_rfl) h
theorem opened_step {w W : World} {zp j : Nat} {os : List (Option SesV)} (hj : j < 16) (h1 : PinsAt W zp os) (h2 : OpnTo os w.heap.size j) (h3 : Below w.heap.size w W) (hlo : w.heap.size ≤ zp) : Calls Try.prog 9 #[.pointer (some ⟨zp, 0, none⟩), .int .i64 (j : Int)] W fun e w' => e = .returned (.int .i64 0) ∧ ∃ os', PinsAt w' zp os' ∧ OpnTo os' w.heap.size (j + 1) ∧ Below w.heap.size w w' := by
  refine (open_yes W zp os j hj h1 (h2.no j (Nat.le_refl _) hj)).mono ?_
  rintro e w' ⟨he, v, b1, b2, b3, b4, b5, b6, b7⟩
  exact ⟨he, _, b6, h2.next h1.len hj v b1 b2 (Nat.le_trans h3.size b5), h3.trans (below_grownBy b7 hlo h3.size)⟩
theorem gath_few (ps : List (Int × List UInt8)) (i t : Nat) : (gath (ps.take i) t).length ≤ ps.length := by
  have h1 := len_gath t (ps.take i)
  have h2 := numS_le t (ps.take i)
  rw [List.length_take] at h2
  omega
set_option maxHeartbeats 2000000 in
theorem closed_any (w : World) (ao : Option Addr) (n c s : Nat) (ps : List (Int × List UInt8)) (hn : n = ps.length) (hs : s < 16) (hr : PRow w ao ps) (hl : n ≤ 3518437208883) : Calls Try.prog 15 #[.slice ao n c, .int .i64 (s : Int)] w (ClosedC w (pinF (gath ps) s K1) s) := by
  have HR := hide hr
  have HN := hide hn
  have HS := hide hs
  have HM := hide (new_any w)
  clear hr hn hs
  go_enter Try.func15, Try.ntmps15
  go_wp2_with (go_at_call 5; (with_reducible refine HM.out.mono ?_); rintro e w1 ⟨zp, rfl, hlo, hP, hB⟩; have HLO := hide hlo; have HP := hide hP; have HB := hide hB; clear hlo hP hB)
  clear HM
  go_loopw [6] (fun t wr => ∃ j : Nat, t = .int .i64 j ∧ j ≤ 16 ∧ ∃ os, PinsAt wr zp os ∧ OpnTo os w.heap.size j ∧ Below w.heap.size w wr) (fun t _ => 16 - (intOf t).toNat)
  case atStart => exact ⟨0, rfl, by omega, _, HP.out, OpnTo.begin _, HB.out⟩
  case round =>
    clear HP HB
    obtain ⟨j, rfl, hj, os, hP, hO, hB⟩ := hrel
    by_cases hlt : j < 16
    · have hji : (j : Int) < 16 := by omega
      have HC := hide (opened_step hlt hP hO hB HLO.out)
      clear hP hO hB
      go_wp2_with (go_at_call 9; (with_reducible refine HC.out.mono ?_); rintro e w2 ⟨rfl, os', hP', hO', hB'⟩)
      exact ⟨⟨j + 1, by go_num, by omega, os', hP', hO', hB'⟩, by simp [intOf]; omega⟩
    · have hji : ¬ (j : Int) < 16 := by omega
      have HPh : Hid (Ph w zp ao ps (gath (ps.take 0)) wr) := hide ⟨⟨os, hP, by have e : j = 16 := by omega
                                                                                rw [e] at hO; exact hO.all⟩, HR.out.below hB, HLO.out, hB⟩
      obtain ⟨w3, hw3⟩ : ∃ w3, w3 = wr := ⟨_, rfl⟩
      rw [← hw3] at HPh ⊢
      clear hP hO hB hw3
      go_wp2
      go_loopw [7] (fun t wr => ∃ i : Nat, t = .int .i64 i ∧ i ≤ n ∧ Ph w zp ao ps (gath (ps.take i)) wr) (fun t _ => n - (intOf t).toNat)
      case atStart => exact ⟨0, rfl, by omega, HPh.out⟩
      case round =>
        clear HPh
        obtain ⟨i, rfl, hi, hPh⟩ := hrel
        by_cases hin : i < n
        · have hii : (i : Int) < n := by omega
          have hik : i < ps.length := by rw [← HN.out]; exact hin
          have hd := below_d wr
          have hPd := hPh.below hd
          obtain ⟨g, o, rfl, hc, hra⟩ := hPd.row.at' i hik
          obtain ⟨q, hq⟩ : ∃ q, q = ps[i].1 := ⟨_, rfl⟩
          obtain ⟨x, hx⟩ : ∃ x, x = ps[i].2 := ⟨_, rfl⟩
          have hx32 : x.length = 32 := by rw [hx]; exact HR.out.len _ (List.getElem_mem _)
          have HSU := hide (gath_succ ps i hik)
          rw [← hq] at hc HSU
          rw [← hx] at hra HSU
          have ha := and15 q
          obtain ⟨k, hk⟩ : ∃ k, k = m15 q := ⟨_, rfl⟩
          have hk16 : k < 16 := by rw [hk]; exact m15_lt q
          rw [← hk] at ha HSU
          have HC := hide (hPd.pin HR.out hk16 hx32 (show (gath (ps.take i) k).length < maxLen by have := gath_few ps i k; have := HN.out; unfold maxLen; omega))
          rw [← HSU.out] at HC
          have HRA : Hid ((Instr.loadAt 30 (.pointer (some ⟨g, o + i * 33 + 1, none⟩))).run Try.prog wr.drew = .ok (keyV x) wr.drew) := hide (loadAt_key hx32 hra)
          clear hPh hPd hd hra hx hq hk hik HSU hx32 hk16
          go_upto_region 9 with fail
          refine wp_region_still_tail 12 (by kernel_rfl) (by kernel_rfl) ?_
          simp only [List.take_succ_cons, List.take_zero, List.drop_succ_cons, List.drop_zero]
          still_step
          still_step
          still_step
          still_step
          still_step
          still_step
          still_step
          still_step
          still_step
          still_step
          still_step
          refine wpStill_val (keyV x) rfl (run_load rfl rfl HRA.out) ?_
          refine wpStill_nil ?_
          go_wp2_with (go_at_call 10; (with_reducible refine HC.out.mono ?_); rintro e w4 ⟨rfl, hPh4⟩)
          exact ⟨⟨i + 1, by go_num, by omega, hPh4⟩, by simp [intOf]; omega⟩
        · have hii : ¬ (i : Int) < n := by omega
          have hPh2 : Ph w zp ao ps (gath ps) wr := by rw [List.take_of_length_le (by rw [← HN.out]; omega)] at hPh; exact hPh
          have hf := gath_few ps ps.length s
          rw [List.take_length] at hf
          have HC := hide (hPh2.pin HR.out HS.out (x := K1) (by rfl) (show (gath ps s).length < maxLen by have := HN.out; unfold maxLen; omega))
          clear hPh hPh2 hf
          go_upto_region 11 with (first | ((with_reducible refine wpList_K1 ?_ ?_ ?_); rfl; rfl) | (go_at_call 10; (with_reducible refine HC.out.mono ?_); rintro e w4 ⟨rfl, hPh4⟩))
          obtain ⟨os2, hP2, hO2⟩ := hPh4.pins
          obtain ⟨v, g1, g2, g3⟩ := hO2.at' s HS.out
          have HD := hide (close_yes w4 zp os2 s v HS.out hP2 g1 g2)
          have HB4 := hide hPh4.bel
          have HO2 := hide hO2
          have HL2 : Hid (os2.length = 16) := hide hP2.len
          clear hPh4 hP2 hO2 g1 g2 g3 HC
          go_wp2_with (go_at_call 17; (with_reducible refine HD.out.mono ?_); rintro e w5 ⟨rfl, hP5, hg5⟩)
          go_ret
          refine ⟨zp, _, rfl, hP5, HB4.out.trans (below_grownBy hg5 HLO.out HB4.out.size), sel_in HS.out (List.getElem?_set_self (by rw [HL2.out]; exact HS.out)), fun t ht hne => ?_⟩
          obtain ⟨u, e1, _, e3⟩ := HO2.out.at' t ht
          rw [sel_in ht (o := some u) (by rw [List.getElem?_set_ne (fun e => hne e.symm)]; exact e1)]
          exact e3
end Go.Proofs.Ytagnglkkmdeicaa
