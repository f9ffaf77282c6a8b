/- Pins in memory: sixteen places, each nil or an open session with its set. -/
import Derived.Test.YtagnglkkmdeicaaKN2
namespace Go.Proofs.Ytagnglkkmdeicaa
set_option linter.unusedVariables false
set_option linter.unusedSimpArgs false
open Go.RowKit
set_option maxRecDepth 100000

/-- An open session: its block, its set's block, the map's, how busy it is, the keys. -/
structure SesV where
  zs : Nat
  z : Nat
  b : Nat
  busy : Nat
  S : List (List UInt8)
def sesL (v : SesV) : Array Value := #[.pointer (some ⟨v.z, 0, none⟩), .int .i64 (v.busy : Int)]
structure SesAt (w : World) (v : SesV) : Prop where
  blk : Blk w v.zs (sesL v) 66
  set : SetAt w v.z v.b v.S
def adS : Option SesV → Option Addr
  | none => none
  | some v => some ⟨v.zs, 0, none⟩
def ptS (o : Option SesV) : Value := .pointer (adS o)
def pinL (os : List (Option SesV)) : List Value := .bool true :: os.map ptS
/-- What came of a world, but for some of its blocks. -/
structure Chg (T : Nat → Prop) (w w' : World) : Prop where
  os : w'.os = w.os
  tape : w'.tape = w.tape
  output : w'.output = w.output
  size : w.heap.size ≤ w'.heap.size
  block : ∀ i, i < w.heap.size → ¬ T i → w'.heap[i]? = w.heap[i]?
theorem Chg.refl (T : Nat → Prop) (w : World) : Chg T w w := ⟨rfl, rfl, rfl, Nat.le_refl _, fun _ _ _ => rfl⟩
theorem Chg.of_below {T : Nat → Prop} {w w' : World} (h : Below w.heap.size w w') : Chg T w w' := ⟨h.os, h.tape, h.output, h.size, fun i hi _ => h.block i hi⟩
theorem Chg.of_grown {T : Nat → Prop} {w w' : World} {z : Nat} (h : w.grownBy w' (some z)) (hz : T z) : Chg T w w' := ⟨h.os, h.tape, h.output, h.size, fun i hi hT => h.block i hi (fun e => hT (by rw [Option.some.inj e]; exact hz))⟩
theorem Chg.trans {T : Nat → Prop} {a b c : World} (h : Chg T a b) (k : Chg T b c) : Chg T a c :=
  ⟨k.os.trans h.os, k.tape.trans h.tape, k.output.trans h.output, Nat.le_trans h.size k.size, fun i hi hT => (k.block i (Nat.lt_of_lt_of_le hi h.size) hT).trans (h.block i hi hT)⟩
theorem Chg.below {T : Nat → Prop} {N : Nat} {w w' : World} (h : Chg T w w') (hN : N ≤ w.heap.size) (hT : ∀ i, T i → N ≤ i) : Below N w w' :=
  ⟨h.os, h.tape, h.output, h.size, fun i hi => h.block i (by omega) (fun t => by have := hT i t; omega)⟩
/-- Pins that New made. -/
structure PinsAt (w : World) (zp : Nat) (os : List (Option SesV)) : Prop where
  blk : Blk w zp (pinL os).toArray 53
  len : os.length = 16
  ses : ∀ (s : Nat) (v : SesV), os[s]? = some (some v) → SesAt w v
  apart : ∀ (s t : Nat) (v u : SesV), os[s]? = some (some v) → os[t]? = some (some u) → s ≠ t → v.b ≠ u.b ∧ v.zs ≠ u.zs
theorem SesAt.below {w w' : World} {v : SesV} (h : SesAt w v) (hb : Below w.heap.size w w') : SesAt w' v := ⟨h.blk.below hb h.blk.lt, h.set.below hb⟩
theorem PinsAt.below {w w' : World} {zp : Nat} {os : List (Option SesV)} (h : PinsAt w zp os) (hb : Below w.heap.size w w') : PinsAt w' zp os :=
  ⟨h.blk.below hb h.blk.lt, h.len, fun s v e => (h.ses s v e).below hb, h.apart⟩
theorem blk_ne {w : World} {a b : Nat} {x y : Array Value} {t u : TypeId} (h1 : Blk w a x t) (h2 : Blk w b y u) (hne : t ≠ u) : a ≠ b := by
  intro e
  unfold Blk at h1 h2
  rw [e, h2] at h1
  injection h1 with h3
  injection h3 with _ h4 _
  exact hne h4.symm
theorem blk_map_ne {w : World} {a z b : Nat} {x : Array Value} {t : TypeId} {S : List (List UInt8)} (h1 : Blk w a x t) (h2 : SetAt w z b S) : a ≠ b := by
  intro e
  obtain ⟨D, ⟨es, clock, hb, _⟩, _⟩ := h2.set
  unfold Blk at h1
  rw [e, hb] at h1
  cases h1
theorem PinsAt.made0 {w : World} {zp : Nat} {os : List (Option SesV)} (h : PinsAt w zp os) : w.cell? ⟨zp, 0, none⟩ = some (.bool true) := by rw [h.blk.cell]; rfl
theorem PinsAt.cell {w : World} {zp : Nat} {os : List (Option SesV)} (h : PinsAt w zp os) {s : Nat} {o : Option SesV} (ho : os[s]? = some o) : w.cell? ⟨zp, 1 + s, none⟩ = some (ptS o) := by
  rw [h.blk.cell, List.getElem?_toArray, Nat.add_comm]
  unfold pinL
  rw [List.getElem?_cons_succ, List.getElem?_map, ho]
  rfl
theorem there_yes (w : World) (zp : Nat) (os : List (Option SesV)) (h : PinsAt w zp os) : Calls Try.prog 28 #[.pointer (some ⟨zp, 0, none⟩)] w fun e w' => e = .returned (.bool true) ∧ w' = w := by
  have h0 := h.made0
  clear h
  go_enter Try.func28, Try.ntmps28
  go_wp2
  go_ret
  exact ⟨rfl, rfl⟩
theorem there_nil (w : World) : Calls Try.prog 28 #[.pointer none] w fun e w' => e = .returned (.bool false) ∧ w' = w := by
  go_enter Try.func28, Try.ntmps28
  go_wp2
  go_ret
  exact ⟨rfl, rfl⟩
theorem isSes_yes (w : World) (s : Nat) (hs : s < 16) : Calls Try.prog 29 #[.int .i64 (s : Int)] w fun e w' => e = .returned (.bool true) ∧ w' = w := by
  have h1 : (0 : Int) ≤ s := by omega
  have h2 : (s : Int) < 16 := by omega
  go_enter Try.func29, Try.ntmps29
  go_wp2
  go_ret
  exact ⟨rfl, rfl⟩
theorem isSes_no (w : World) (s : Int) (hs : ¬ (0 ≤ s ∧ s < 16)) : Calls Try.prog 29 #[.int .i64 s] w fun e w' => e = .returned (.bool false) ∧ w' = w := by
  by_cases h1 : 0 ≤ s
  · have h2 : ¬ s < 16 := fun h => hs ⟨h1, h⟩
    clear hs
    go_enter Try.func29, Try.ntmps29
    go_wp2
    go_ret
    exact ⟨rfl, rfl⟩
  · clear hs
    go_enter Try.func29, Try.ntmps29
    go_wp2
    go_ret
    exact ⟨rfl, rfl⟩
/-- Which session a number means. -/
def sel (os : List (Option SesV)) (s : Int) : Option SesV := if 0 ≤ s ∧ s < 16 then (os[s.toNat]?).getD none else none
theorem sel_in {os : List (Option SesV)} {s : Nat} (hs : s < 16) {o : Option SesV} (ho : os[s]? = some o) : sel os (s : Int) = o := by
  unfold sel
  rw [if_pos ⟨by omega, by omega⟩, Int.toNat_natCast, ho]; rfl
theorem sel_out {os : List (Option SesV)} {s : Int} (hs : ¬ (0 ≤ s ∧ s < 16)) : sel os s = none := if_neg hs
theorem sel_some {os : List (Option SesV)} {s : Int} {v : SesV} (h : sel os s = some v) : ∃ k : Nat, s = k ∧ k < 16 ∧ os[k]? = some (some v) := by
  unfold sel at h
  split at h
  · rename_i hs
    refine ⟨s.toNat, by omega, by omega, ?_⟩
    cases e : os[s.toNat]? with
    | none => rw [e] at h; cases h
    | some o => rw [e] at h; exact congrArg some h
  · cases h
theorem at_any (w : World) (zp : Nat) (os : List (Option SesV)) (s : Int) (h : PinsAt w zp os) : Calls Try.prog 33 #[.pointer (some ⟨zp, 0, none⟩), .int .i64 s] w fun e w' => e = .returned (.pointer (adS (sel os s))) ∧ w' = w := by
  by_cases hs : 0 ≤ s ∧ s < 16
  · obtain ⟨k, rfl⟩ : ∃ k : Nat, s = k := ⟨s.toNat, by omega⟩
    have hk : k < 16 := by omega
    obtain ⟨o, ho⟩ : ∃ o, os[k]? = some o := ⟨os[k]'(by rw [h.len]; omega), List.getElem?_eq_getElem _⟩
    have hc := h.cell ho
    rw [sel_in hk ho]
    have HC := hide (isSes_yes w k hk)
    have hk2 : (k : Int) < 16 := by omega
    unfold ptS at hc
    generalize adS o = q at hc ⊢
    clear h ho hs
    go_enter Try.func33, Try.ntmps33
    go_wp2_with (go_at_call 29; (with_reducible refine HC.out.mono ?_); rintro e w' ⟨rfl, rfl⟩)
    go_ret
    exact ⟨rfl, rfl⟩
  · rw [sel_out hs]
    have HC := hide (isSes_no w s hs)
    clear h hs
    go_enter Try.func33, Try.ntmps33
    go_wp2_with (go_at_call 29; (with_reducible refine HC.out.mono ?_); rintro e w' ⟨rfl, rfl⟩)
    go_ret
    exact ⟨rfl, rfl⟩
theorem at_nil (w : World) (s : Int) : Calls Try.prog 33 #[.pointer none, .int .i64 s] w fun e w' => e = .returned (.pointer none) ∧ w' = w := by
  go_enter Try.func33, Try.ntmps33
  go_wp2
  go_ret
  exact ⟨rfl, rfl⟩
def adK : Option SesV → Option Addr
  | none => none
  | some v => some ⟨v.z, 0, none⟩
theorem pinned_any (w : World) (o : Option SesV) (h : ∀ v, o = some v → SesAt w v) : Calls Try.prog 34 #[.pointer (adS o)] w fun e w' => e = .returned (.pointer (adK o)) ∧ w' = w := by
  cases o with
  | none =>
    clear h
    show Calls Try.prog 34 #[.pointer none] w fun e w' => e = .returned (.pointer none) ∧ w' = w
    go_enter Try.func34, Try.ntmps34
    go_wp2
    go_ret
    exact ⟨rfl, rfl⟩
  | some v =>
    have hc : w.cell? ⟨v.zs, 0, none⟩ = some (.pointer (some ⟨v.z, 0, none⟩)) := by rw [(h v rfl).blk.cell]; rfl
    clear h
    show Calls Try.prog 34 #[.pointer (some ⟨v.zs, 0, none⟩)] w fun e w' => e = .returned (.pointer (some ⟨v.z, 0, none⟩)) ∧ w' = w
    go_enter Try.func34, Try.ntmps34
    go_wp2
    go_ret
    exact ⟨rfl, rfl⟩
theorem PinsAt.sel {w : World} {zp : Nat} {os : List (Option SesV)} (h : PinsAt w zp os) (s : Int) : ∀ v, sel os s = some v → SesAt w v := fun v e => by
  obtain ⟨k, _, _, hk⟩ := sel_some e
  exact h.ses k v hk
theorem opened_any (w : World) (zp : Nat) (os : List (Option SesV)) (s : Int) (h : PinsAt w zp os) : Calls Try.prog 31 #[.pointer (some ⟨zp, 0, none⟩), .int .i64 s] w fun e w' => e = .returned (.tuple #[.pointer (adS (sel os s)), .int .i64 (match sel os s with | none => 140 | some _ => 0)]) ∧ w' = w := by
  have HT := hide (there_yes w zp os h)
  have HC := hide (at_any w zp os s h)
  clear h
  generalize sel os s = o at HC ⊢
  cases o with
  | none =>
    show Calls Try.prog 31 #[.pointer (some ⟨zp, 0, none⟩), .int .i64 s] w fun e w' => e = .returned (.tuple #[.pointer none, .int .i64 140]) ∧ w' = w
    have HC' : Hid (Calls Try.prog 33 #[.pointer (some ⟨zp, 0, none⟩), .int .i64 s] w fun e w' => e = .returned (.pointer none) ∧ w' = w) := HC
    clear HC
    go_enter Try.func31, Try.ntmps31
    go_wp2_with (first | (go_at_call 28; (with_reducible refine HT.out.mono ?_); rintro e w' ⟨rfl, rfl⟩) | (go_at_call 33; (with_reducible refine HC'.out.mono ?_); rintro e w' ⟨rfl, rfl⟩))
    go_ret2
    exact ⟨rfl, rfl⟩
  | some v =>
    show Calls Try.prog 31 #[.pointer (some ⟨zp, 0, none⟩), .int .i64 s] w fun e w' => e = .returned (.tuple #[.pointer (some ⟨v.zs, 0, none⟩), .int .i64 0]) ∧ w' = w
    have HC' : Hid (Calls Try.prog 33 #[.pointer (some ⟨zp, 0, none⟩), .int .i64 s] w fun e w' => e = .returned (.pointer (some ⟨v.zs, 0, none⟩)) ∧ w' = w) := HC
    clear HC
    go_enter Try.func31, Try.ntmps31
    go_wp2_with (first | (go_at_call 28; (with_reducible refine HT.out.mono ?_); rintro e w' ⟨rfl, rfl⟩) | (go_at_call 33; (with_reducible refine HC'.out.mono ?_); rintro e w' ⟨rfl, rfl⟩))
    go_ret2
    exact ⟨rfl, rfl⟩
def MadeC (w : World) (e : Ending) (w' : World) : Prop := ∃ zp, e = .returned (.pointer (some ⟨zp, 0, none⟩)) ∧ w.heap.size ≤ zp ∧ PinsAt w' zp (List.replicate 16 none) ∧ Below w.heap.size w w'
theorem new_any (w : World) : Calls Try.prog 5 #[] w (MadeC w) := by
  go_enter Try.func5, Try.ntmps5
  go_wp2
  go_ret
  refine ⟨w.heap.size, rfl, Nat.le_refl _, ⟨Blk.made w _ _, by simp, fun s v e => ?_, fun s t v u e _ _ => ?_⟩, (Below.refl _ _).alloc (Nat.le_refl _) _⟩
  · have := List.mem_of_getElem? e
    simp at this
  · have := List.mem_of_getElem? e
    simp at this
end Go.Proofs.Ytagnglkkmdeicaa
