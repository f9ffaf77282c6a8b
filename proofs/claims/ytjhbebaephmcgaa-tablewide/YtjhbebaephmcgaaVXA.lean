/- A table's slots with keys and entries: their cells; a row of them in memory. -/
import Derived.Test.YtjhbebaephmcgaaGE0
import Derived.Test.YtjhbebaephmcgaaTA0
import Derived.Test.YtjhbebaephmcgaaGRA
import Derived.StillTail
namespace Go.Proofs.Ytjhbebaephmcgaa
set_option linter.unusedVariables false
set_option linter.unusedSimpArgs false
namespace TX
open Go.RowKit
set_option maxRecDepth 100000

/-- A key of several parts, a list as its value. -/
structure KY where
  a : Int
  b0 : UInt8
  b1 : UInt8
  c : List UInt8
structure EN where
  ao : Option Addr
  n : Nat
  cp : Nat
/-- Are two keys the same? -/
def eqK (a b : KY) : Bool := a.a == b.a && ([a.b0, a.b1] == [b.b0, b.b1] && a.c == b.c)
def u8c (u : UInt8) : Value := .int .u8 (u.toNat : Int)
def kC (k : KY) : List Value := [.int .i8 k.a, u8c k.b0, u8c k.b1, .string ⟨k.c.toArray⟩]
def eV (e : EN) : Value := .slice e.ao e.n e.cp
def eC (e : EN) : List Value := [eV e]
def kA (k : KY) : Array Value := (kC k).toArray
def eA (e : EN) : Array Value := (eC e).toArray
abbrev kV (k : KY) : Value := .agg (kA k)
def kZ : KY := ⟨0, 0, 0, []⟩
def eZ : EN := ⟨none, 0, 0⟩
abbrev KT : TypeId := 28
abbrev ET : TypeId := 29
abbrev ST : TypeId := 58
abbrev SST : TypeId := 43
abbrev AT : TypeId := 45
abbrev TT : TypeId := 48
theorem kC_len (k : KY) : (kC k).length = 4 := rfl
theorem eC_len (e : EN) : (eC e).length = 1 := rfl
theorem u8c_one (xs : List UInt8) : ∀ v ∈ xs.map u8c, v.oneCell' = true := by
  intro v hv
  obtain ⟨u, _, rfl⟩ := List.mem_map.1 hv
  rfl
theorem kC_one (k : KY) : ∀ v ∈ kC k, v.oneCell' = true := by
  intro v hv
  simp [kC] at hv
  rcases hv with rfl | rfl | rfl | rfl <;> rfl
theorem eC_one (e : EN) : ∀ v ∈ eC e, v.oneCell' = true := by
  intro v hv
  simp [eC] at hv
  subst hv
  rfl
abbrev SL := Slt KY EN
def kS : SL → KY
  | .ful k _ => k
  | .emp => kZ
  | .tmb => kZ
def vS : SL → EN
  | .ful _ v => v
  | .emp => eZ
  | .tmb => eZ
def slC (s : SL) : List Value := .int .u8 (s.st : Int) :: (kC (kS s) ++ eC (vS s))
def slA (s : SL) : Array Value := (slC s).toArray
abbrev slV (s : SL) : Value := .agg (slA s)
theorem slC_len (s : SL) : (slC s).length = 6 := by simp [slC, kC_len, eC_len]
theorem slA_size (s : SL) : (slA s).size = 6 := by simp [slA, slC_len]
theorem kA_size (k : KY) : (kA k).size = 4 := rfl
theorem eA_size (e : EN) : (eA e).size = 1 := rfl
theorem slC_one (s : SL) : ∀ v ∈ slC s, v.oneCell' = true := by
  intro v hv
  simp only [slC, List.mem_cons, List.mem_append] at hv
  rcases hv with rfl | h | h
  · rfl
  · exact kC_one _ v h
  · exact eC_one _ v h
theorem iK : (Try.prog.info? KT).map (·.size) = some 4 := by kernel_rfl
theorem iE : (Try.prog.info? ET).map (·.size) = some 1 := by kernel_rfl
theorem iS : (Try.prog.info? ST).map (·.size) = some 6 := by kernel_rfl
theorem uS : Try.prog.underlying SST = some (.slice ST) := Try.underlying43
/-- Cells in the midst of a block. -/
theorem run_ldK {w : World} {b o : Nat} {k : KY} (h : w.rangeAt b o (kC k)) : (Instr.loadAt KT (.pointer (some ⟨b, o, none⟩))).run Try.prog w = .ok (kV k) w :=
  run_loadAt_mid (P := Try.prog) w b o KT (kC k) _ h Try.underlying28 rfl (by rw [kC_len]; exact iK)
theorem rng_one {w : World} {b o : Nat} {v : Value} (h : w.rangeAt b o [v]) : w.cell? ⟨b, o, none⟩ = some v := h 0 v rfl
theorem run_ldE {w : World} {b o : Nat} {e : EN} (h : w.rangeAt b o (eC e)) : (Instr.loadAt ET (.pointer (some ⟨b, o, none⟩))).run Try.prog w = .ok (eV e) w := by
  have hu := Try.underlying29
  have hc := rng_one h
  simp [go_sem, hc, hu]
theorem run_ldS {w : World} {b o : Nat} {s : SL} (h : w.rangeAt b o (slC s)) : (Instr.loadAt ST (.pointer (some ⟨b, o, none⟩))).run Try.prog w = .ok (slV s) w :=
  run_loadAt_mid (P := Try.prog) w b o ST (slC s) _ h Try.underlying58 rfl (by rw [slC_len]; exact iS)
theorem run_stE {w : World} {b o : Nat} {e : EN} (h : w.there b o 1) : (Instr.storeAt ET (.pointer (some ⟨b, o, none⟩)) (eV e)).run Try.prog w = .ok () (w.setCells b o (eC e)) := by
  have hu := Try.underlying29
  obtain ⟨h1, hf⟩ := h 0 (by decide)
  obtain ⟨u, hc⟩ := Option.isSome_iff_exists.1 h1
  rw [Nat.add_zero] at hc hf
  show _ = Result.ok () (w.setCell ⟨b, o, none⟩ (eV e))
  unfold eV
  simp [go_sem, hc, hf, hu]
theorem run_stS {w : World} {b o : Nat} {s : SL} (h : w.there b o 6) : (Instr.storeAt ST (.pointer (some ⟨b, o, none⟩)) (slV s)).run Try.prog w = .ok () (w.setCells b o (slC s)) :=
  run_storeAt_mid (P := Try.prog) w b o ST (slA s) (by rw [slA_size]; exact h) (by rw [slA_size]; exact iS) (all_oneCell_toArray (slC_one s))
/-- One cell of a block. -/
theorem Blk.range {w : World} {b : Nat} {cs : Array Value} {t : TypeId} (h : Blk w b cs t) : w.rangeAt b 0 cs.toList := fun j v hj => by
  rw [Nat.zero_add, h.cell, ← hj]
  simp
/-- A row of slots. -/
def rowL (L : List SL) : Array Value := (L.flatMap slC).toArray
structure RowAt (w : World) (g : Nat) (L : List SL) : Prop where
  blk : Blk w g (rowL L) ST
theorem row_size (L : List SL) : (rowL L).size = L.length * 6 := by
  unfold rowL
  rw [List.size_toArray]
  exact flat_len L (fun s _ => slC_len s)
section
variable {w : World} {g : Nat} {L : List SL}
theorem RowAt.lt (h : RowAt w g L) : g < w.heap.size := h.blk.lt
theorem RowAt.same {w' : World} (h : RowAt w g L) (hs : w'.heap[g]? = w.heap[g]?) : RowAt w' g L := ⟨hs.trans h.blk⟩
theorem RowAt.rng (h : RowAt w g L) (p : Nat) (hp : p < L.length) (o : Nat) (cs : List Value) (hc : ∀ j v, cs[j]? = some v → (slC (sat L p))[o + j]? = some v) : w.rangeAt g (p * 6 + o) cs := fun j v hj => by
  rw [h.blk.cell, Nat.add_assoc]
  unfold rowL
  rw [List.getElem?_toArray]
  exact flat_at (s := 6) L p (sat L p) (fun s _ => slC_len s) (sat_get hp) (o + j) v (hc j v hj)
theorem RowAt.slot (h : RowAt w g L) (p : Nat) (hp : p < L.length) : w.rangeAt g (p * 6) (slC (sat L p)) := h.rng p hp 0 _ (fun j v hj => by rw [Nat.zero_add]; exact hj)
theorem RowAt.st (h : RowAt w g L) (p : Nat) (hp : p < L.length) : w.cell? ⟨g, p * 6, none⟩ = some (.int .u8 ((sat L p).st : Int)) := h.slot p hp 0 _ rfl
theorem RowAt.key (h : RowAt w g L) (p : Nat) (hp : p < L.length) : w.rangeAt g (p * 6 + 1) (kC (kS (sat L p))) := h.rng p hp 1 _ (fun j v hj => by
  have hl := (List.getElem?_eq_some_iff.1 hj).1
  rw [slC, Nat.add_comm, List.getElem?_cons_succ, List.getElem?_append_left hl]; exact hj)
theorem RowAt.val (h : RowAt w g L) (p : Nat) (hp : p < L.length) : w.rangeAt g (p * 6 + 5) (eC (vS (sat L p))) := h.rng p hp 5 _ (fun j v hj => by
  rw [slC, show 5 + j = (4 + j) + 1 by omega, List.getElem?_cons_succ, List.getElem?_append_right (by rw [kC_len]; omega), kC_len, show 4 + j - 4 = j by omega]; exact hj)
theorem RowAt.there (h : RowAt w g L) (p : Nat) (hp : p < L.length) (o n : Nat) (ho : o + n ≤ 6) : w.there g (p * 6 + o) n :=
  there_row h.blk (p * 6 + o) n (by
    rw [row_size]
    have : (p + 1) * 6 ≤ L.length * 6 := Nat.mul_le_mul_right 6 hp
    omega)
/-- A slot is written over. -/
theorem RowAt.put (h : RowAt w g L) (p : Nat) (hp : p < L.length) (s : SL) : RowAt (w.setCells g (p * 6) (slC s)) g (L.set p s) ∧ w.grownBy (w.setCells g (p * 6) (slC s)) (some g) := by
  have hb : p * 6 + (slC s).length ≤ (rowL L).size := by
    rw [row_size, slC_len]
    have : (p + 1) * 6 ≤ L.length * 6 := Nat.mul_le_mul_right 6 hp
    omega
  obtain ⟨h1, h2⟩ := setCells_row (slC s) (p * 6) w (rowL L) h.blk hb
  refine ⟨⟨?_⟩, h2⟩
  have e : (L.set p s).flatMap slC = (L.flatMap slC).take (p * 6) ++ slC s ++ (L.flatMap slC).drop (p * 6 + 6) := flat_set L p s (fun s _ => slC_len s) hp
  unfold rowL at h1 ⊢
  rw [e]
  rw [slC_len] at h1
  exact h1
/-- A full slot's entry is written over. -/
theorem RowAt.setV (h : RowAt w g L) (p : Nat) (hp : p < L.length) {k : KY} {u : EN} (hs : sat L p = .ful k u) (v : EN) : RowAt (w.setCells g (p * 6 + 5) (eC v)) g (L.set p (.ful k v)) ∧ w.grownBy (w.setCells g (p * 6 + 5) (eC v)) (some g) := by
  have hb : p * 6 + 5 + (eC v).length ≤ (rowL L).size := by
    rw [row_size, eC_len]
    have : (p + 1) * 6 ≤ L.length * 6 := Nat.mul_le_mul_right 6 hp
    omega
  obtain ⟨h1, h2⟩ := setCells_row (eC v) (p * 6 + 5) w (rowL L) h.blk hb
  refine ⟨⟨?_⟩, h2⟩
  have e : (L.set p (.ful k v)).flatMap slC = (L.flatMap slC).take (p * 6) ++ slC (.ful k v) ++ (L.flatMap slC).drop (p * 6 + 6) := flat_set L p _ (fun s _ => slC_len s) hp
  have e1 : (L.flatMap slC).take (p * 6 + 5) = (L.flatMap slC).take (p * 6) ++ (.int .u8 1 :: kC k) := by
    have ed : (L.flatMap slC).drop (p * 6) = (L.drop p).flatMap slC := flat_drop L p (fun s _ => slC_len s)
    have hd : L.drop p = .ful k u :: L.drop (p + 1) := by
      rw [List.drop_eq_getElem_cons hp]
      congr 1
      have := sat_get hp
      rw [List.getElem?_eq_getElem hp, hs] at this
      exact Option.some.inj this
    rw [List.take_add, ed, hd, List.flatMap_cons]
    have : slC (.ful k u) = (.int .u8 1 :: kC k) ++ eC u := rfl
    rw [this, List.append_assoc, List.take_left' (by simp [kC_len])]
  unfold rowL at h1 ⊢
  rw [e]
  have e2 : p * 6 + 5 + (eC v).length = p * 6 + 6 := by rw [eC_len]
  rw [e2] at h1
  have e3 : (L.flatMap slC).toArray.toList = L.flatMap slC := rfl
  rw [e3, e1, List.append_assoc, List.append_assoc] at h1
  have e4 : slC (.ful k v) = (.int .u8 1 :: kC k) ++ eC v := rfl
  rw [e4, List.append_assoc, List.append_assoc]
  exact h1
end
theorem row_made (w : World) (n : Nat) : RowAt (w.alloc (.cells (madeCells (Value.cells (slV .emp)) (n * 6)) ST)) w.heap.size (List.replicate n .emp) := by
  refine ⟨?_⟩
  have h := madeCells_zero (slA .emp) n (by rw [slA_size]; decide)
  rw [slA_size] at h
  have e : rowL (List.replicate n .emp) = madeCells (Value.cells (slV .emp)) (n * 6) := by
    apply Array.toList_inj.1
    show (List.replicate n (Slt.emp : SL)).flatMap slC = (madeCells (slA .emp) (n * 6)).toList
    rw [h, ← flat_rep slC (.emp : SL) n]
    rfl
  rw [e]
  exact Blk.made w _ _
end TX
end Go.Proofs.Ytjhbebaephmcgaa
