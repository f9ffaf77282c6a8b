/- The document's Pins in memory: New, IsOpen, Open, Close, Enter, Leave, Busy. -/
import Derived.Test.YtagnglkkmdeicaaPN4
namespace Go.Proofs.Ytagnglkkmdeicaa
set_option linter.unusedVariables false
set_option linter.unusedSimpArgs false
open Go.RowKit
set_option maxRecDepth 100000

/-- A session of the document: is it open, how busy, its row of keys. -/
structure RfV where
  op : Bool
  busy : Nat
  ao : Option Addr
  cap : Nat
  L : List (List UInt8)
def rO (d : RfV) : Value := .bool d.op
def rB (d : RfV) : Value := .int .i64 (d.busy : Int)
def rK (d : RfV) : Value := .slice d.ao d.L.length d.cap
def rfL (D : List RfV) : List Value := D.map rO ++ (D.map rB ++ D.map rK)
structure RfAt (w : World) (zr : Nat) (D : List RfV) : Prop where
  blk : Blk w zr (rfL D).toArray 58
  len : D.length = 16
  row : ∀ (s : Nat) (d : RfV), D[s]? = some d → KRow w d.ao d.L
  far : ∀ (s : Nat) (d : RfV), D[s]? = some d → ∀ a : Addr, d.ao = some a → a.block ≠ zr
theorem RfAt.below {w w' : World} {zr : Nat} {D : List RfV} (h : RfAt w zr D) (hb : Below w.heap.size w w') : RfAt w' zr D := ⟨h.blk.below hb h.blk.lt, h.len, fun s d e => (h.row s d e).below hb, h.far⟩
theorem RfAt.cO {w : World} {zr : Nat} {D : List RfV} (h : RfAt w zr D) {s : Nat} {d : RfV} (e : D[s]? = some d) : w.cell? ⟨zr, s, none⟩ = some (.bool d.op) := by
  have hs : s < D.length := (List.getElem?_eq_some_iff.1 e).1
  rw [h.blk.cell, List.getElem?_toArray]
  unfold rfL
  rw [List.getElem?_append_left (by simpa using hs), List.getElem?_map, e]; rfl
theorem RfAt.cB {w : World} {zr : Nat} {D : List RfV} (h : RfAt w zr D) {s : Nat} {d : RfV} (e : D[s]? = some d) : w.cell? ⟨zr, 16 + s, none⟩ = some (.int .i64 (d.busy : Int)) := by
  have hs : s < D.length := (List.getElem?_eq_some_iff.1 e).1
  have hl := h.len
  rw [h.blk.cell, List.getElem?_toArray]
  unfold rfL
  rw [List.getElem?_append_right (by rw [List.length_map]; omega), List.getElem?_append_left (by rw [List.length_map, List.length_map]; omega), List.length_map, hl, show 16 + s - 16 = s by omega, List.getElem?_map, e]; rfl
theorem RfAt.cK {w : World} {zr : Nat} {D : List RfV} (h : RfAt w zr D) {s : Nat} {d : RfV} (e : D[s]? = some d) : w.cell? ⟨zr, 32 + s, none⟩ = some (.slice d.ao d.L.length d.cap) := by
  have hs : s < D.length := (List.getElem?_eq_some_iff.1 e).1
  have hl := h.len
  rw [h.blk.cell, List.getElem?_toArray]
  unfold rfL
  rw [List.getElem?_append_right (by rw [List.length_map]; omega), List.getElem?_append_right (by rw [List.length_map, List.length_map]; omega), List.length_map, List.length_map, hl, show 32 + s - 16 - 16 = s by omega, List.getElem?_map, e]; rfl
theorem KRow.grownR {w w' : World} {z : Nat} {ao : Option Addr} {ks : List (List UInt8)} (h : KRow w ao ks) (hg : w.grownBy w' (some z)) (hne : ∀ a : Addr, ao = some a → a.block ≠ z) : KRow w' ao ks :=
  ⟨fun i hi => by
    obtain ⟨g, o, e, hr⟩ := h.at' i hi
    refine ⟨g, o, e, fun j v hj => ?_⟩
    have h1 := hr j v hj
    rw [← h1]
    unfold World.cell?
    simp only
    rw [hg.block g (World.block_lt_of_cell? w _ h1) (fun e2 => hne _ e (Option.some.inj e2))], h.len⟩
theorem set_of {D : List RfV} {s k : Nat} {d d' q : RfV} (hk : D[k]? = some d) (hs : (D.set k d')[s]? = some q) : (s = k ∧ q = d') ∨ (s ≠ k ∧ D[s]? = some q) := get_set hs
theorem rfL_setO (D : List RfV) (k : Nat) (d : RfV) (hk : D[k]? = some d) (b : Bool) : (rfL D).toArray.setIfInBounds k (.bool b) = (rfL (D.set k { d with op := b })).toArray := by
  have hl : k < D.length := (List.getElem?_eq_some_iff.1 hk).1
  have same : ∀ (f : RfV → Value), f { d with op := b } = f d → (D.set k { d with op := b }).map f = D.map f := fun f hf => by
    rw [List.map_set, hf]
    apply List.ext_getElem?
    intro i
    by_cases e : i = k
    · subst e
      rw [List.getElem?_set_self (by simpa using hl), List.getElem?_map, hk]; rfl
    · rw [List.getElem?_set_ne (fun e2 => e e2.symm)]
  unfold rfL
  rw [List.setIfInBounds_toArray, List.set_append, if_pos (by simpa using hl), same rB rfl, same rK rfl, List.map_set]
  rfl
theorem rfL_setB (D : List RfV) (k : Nat) (d : RfV) (hD : D.length = 16) (hk : D[k]? = some d) (b : Nat) : (rfL D).toArray.setIfInBounds (16 + k) (.int .i64 (b : Int)) = (rfL (D.set k { d with busy := b })).toArray := by
  have hl : k < D.length := (List.getElem?_eq_some_iff.1 hk).1
  have same : ∀ (f : RfV → Value), f { d with busy := b } = f d → (D.set k { d with busy := b }).map f = D.map f := fun f hf => by
    rw [List.map_set, hf]
    apply List.ext_getElem?
    intro i
    by_cases e : i = k
    · subst e
      rw [List.getElem?_set_self (by simpa using hl), List.getElem?_map, hk]; rfl
    · rw [List.getElem?_set_ne (fun e2 => e e2.symm)]
  unfold rfL
  rw [List.setIfInBounds_toArray, List.set_append, if_neg (by rw [List.length_map]; omega), List.length_map, hD, show 16 + k - 16 = k by omega, List.set_append, if_pos (by simpa using hl), same rO rfl, same rK rfl, List.map_set]
  rfl
theorem rfL_setK (D : List RfV) (k : Nat) (d : RfV) (hD : D.length = 16) (hk : D[k]? = some d) (ao : Option Addr) (cap : Nat) (L : List (List UInt8)) : (rfL D).toArray.setIfInBounds (32 + k) (.slice ao L.length cap) = (rfL (D.set k { d with ao := ao, cap := cap, L := L })).toArray := by
  have hl : k < D.length := (List.getElem?_eq_some_iff.1 hk).1
  have same : ∀ (f : RfV → Value), f { d with ao := ao, cap := cap, L := L } = f d → (D.set k { d with ao := ao, cap := cap, L := L }).map f = D.map f := fun f hf => by
    rw [List.map_set, hf]
    apply List.ext_getElem?
    intro i
    by_cases e : i = k
    · subst e
      rw [List.getElem?_set_self (by simpa using hl), List.getElem?_map, hk]; rfl
    · rw [List.getElem?_set_ne (fun e2 => e e2.symm)]
  unfold rfL
  rw [List.setIfInBounds_toArray, List.set_append, if_neg (by rw [List.length_map]; omega), List.length_map, hD, show 32 + k - 16 = 16 + k by omega, List.set_append, if_neg (by rw [List.length_map]; omega), List.length_map, hD, show 16 + k - 16 = k by omega, same rO rfl, same rB rfl, List.map_set]
  rfl
theorem RfAt.setO {w : World} {zr : Nat} {D : List RfV} (h : RfAt w zr D) {k : Nat} {d : RfV} (hk : D[k]? = some d) (b : Bool) : RfAt (w.setCell ⟨zr, k, none⟩ (.bool b)) zr (D.set k { d with op := b }) := by
  have hg := grownBy_set w zr k (.bool b)
  refine ⟨by have := h.blk.set k (.bool b); rw [rfL_setO D k d hk b] at this; exact this, by rw [List.length_set]; exact h.len, fun s q e => ?_, fun s q e => ?_⟩
  · rcases set_of hk e with ⟨rfl, rfl⟩ | ⟨_, e⟩
    · exact (h.row s d hk).grownR hg (h.far s d hk)
    · exact (h.row s q e).grownR hg (h.far s q e)
  · rcases set_of hk e with ⟨rfl, rfl⟩ | ⟨_, e⟩
    · exact h.far s d hk
    · exact h.far s q e
theorem RfAt.setB {w : World} {zr : Nat} {D : List RfV} (h : RfAt w zr D) {k : Nat} {d : RfV} (hk : D[k]? = some d) (b : Nat) : RfAt (w.setCell ⟨zr, 16 + k, none⟩ (.int .i64 (b : Int))) zr (D.set k { d with busy := b }) := by
  have hg := grownBy_set w zr (16 + k) (.int .i64 (b : Int))
  refine ⟨by have := h.blk.set (16 + k) (.int .i64 (b : Int)); rw [rfL_setB D k d h.len hk b] at this; exact this, by rw [List.length_set]; exact h.len, fun s q e => ?_, fun s q e => ?_⟩
  · rcases set_of hk e with ⟨rfl, rfl⟩ | ⟨_, e⟩
    · exact (h.row s d hk).grownR hg (h.far s d hk)
    · exact (h.row s q e).grownR hg (h.far s q e)
  · rcases set_of hk e with ⟨rfl, rfl⟩ | ⟨_, e⟩
    · exact h.far s d hk
    · exact h.far s q e
theorem RfAt.setK {w : World} {zr : Nat} {D : List RfV} (h : RfAt w zr D) {k : Nat} {d : RfV} (hk : D[k]? = some d) (ao : Option Addr) (cap : Nat) (L : List (List UInt8)) (hr : KRow w ao L) (hf : ∀ a : Addr, ao = some a → a.block ≠ zr) : RfAt (w.setCell ⟨zr, 32 + k, none⟩ (.slice ao L.length cap)) zr (D.set k { d with ao := ao, cap := cap, L := L }) := by
  have hg := grownBy_set w zr (32 + k) (.slice ao L.length cap)
  refine ⟨by have := h.blk.set (32 + k) (.slice ao L.length cap); rw [rfL_setK D k d h.len hk ao cap L] at this; exact this, by rw [List.length_set]; exact h.len, fun s q e => ?_, fun s q e => ?_⟩
  · rcases set_of hk e with ⟨rfl, rfl⟩ | ⟨_, e⟩
    · exact hr.grownR hg hf
    · exact (h.row s q e).grownR hg (h.far s q e)
  · rcases set_of hk e with ⟨rfl, rfl⟩ | ⟨_, e⟩
    · exact hf
    · exact h.far s q e
def rf0 : RfV := ⟨false, 0, none, 0, []⟩
def RfNewC (w : World) (e : Ending) (w' : World) : Prop := ∃ zr, e = .returned (.pointer (some ⟨zr, 0, none⟩)) ∧ w.heap.size ≤ zr ∧ RfAt w' zr (List.replicate 16 rf0) ∧ Below w.heap.size w w'
theorem rnew_any (w : World) : Calls Try.prog 6 #[] w (RfNewC w) := by
  go_enter Try.func6, Try.ntmps6
  go_wp2
  go_ret
  refine ⟨w.heap.size, rfl, Nat.le_refl _, ⟨Blk.made w _ _, by simp, fun s d e => ?_, fun s d e a ha => ?_⟩, (Below.refl _ _).alloc (Nat.le_refl _) _⟩
  · obtain rfl := List.eq_of_mem_replicate (List.mem_of_getElem? e)
    exact ⟨fun i hi => absurd hi (Nat.not_lt_zero _), fun k hk => by cases hk⟩
  · obtain rfl := List.eq_of_mem_replicate (List.mem_of_getElem? e)
    cases ha
/-- Is it open? -/
def opD (D : List RfV) (s : Int) : Bool := if 0 ≤ s ∧ s < 16 then ((D[s.toNat]?).map (·.op)).getD false else false
theorem opD_in {D : List RfV} {k : Nat} {d : RfV} (hk : k < 16) (h : D[k]? = some d) : opD D (k : Int) = d.op := by
  unfold opD
  rw [if_pos ⟨by omega, by omega⟩, Int.toNat_natCast, h]; rfl
theorem opD_out {D : List RfV} {s : Int} (h : ¬ (0 ≤ s ∧ s < 16)) : opD D s = false := if_neg h
theorem opD_yes {w : World} {zr : Nat} {D : List RfV} {s : Int} (h : RfAt w zr D) (ho : opD D s = true) : ∃ (k : Nat) (d : RfV), s = k ∧ k < 16 ∧ D[k]? = some d ∧ d.op = true := by
  by_cases hs : 0 ≤ s ∧ s < 16
  · obtain ⟨k, rfl⟩ : ∃ k : Nat, s = k := ⟨s.toNat, by omega⟩
    obtain ⟨d, hd⟩ : ∃ d, D[k]? = some d := ⟨_, List.getElem?_eq_getElem (by rw [h.len]; omega)⟩
    rw [opD_in (by omega) hd] at ho
    exact ⟨k, d, rfl, by omega, hd, ho⟩
  · rw [opD_out hs] at ho; cases ho
theorem risOpen_any (w : World) (zr : Nat) (D : List RfV) (s : Int) (h : RfAt w zr D) : Calls Try.prog 37 #[.pointer (some ⟨zr, 0, none⟩), .int .i64 s] w fun e w' => e = .returned (.bool (opD D s)) ∧ w' = w := by
  by_cases h0 : 0 ≤ s
  · by_cases h1 : s < 16
    · obtain ⟨k, rfl⟩ : ∃ k : Nat, s = k := ⟨s.toNat, by omega⟩
      obtain ⟨d, hd⟩ : ∃ d, D[k]? = some d := ⟨_, List.getElem?_eq_getElem (by rw [h.len]; omega)⟩
      have hc := h.cO hd
      rw [opD_in (by omega) hd]
      have hg : (k : Int) ≥ 0 := h0
      generalize d.op = b at hc ⊢
      clear h hd
      go_enter Try.func37, Try.ntmps37
      go_wp2
      go_ret
      exact ⟨rfl, rfl⟩
    · rw [opD_out (fun h => h1 h.2)]
      clear h
      go_enter Try.func37, Try.ntmps37
      go_wp2
      go_ret
      exact ⟨rfl, rfl⟩
  · rw [opD_out (fun h => h0 h.1)]
    clear h
    go_enter Try.func37, Try.ntmps37
    go_wp2
    go_ret
    exact ⟨rfl, rfl⟩
end Go.Proofs.Ytagnglkkmdeicaa
