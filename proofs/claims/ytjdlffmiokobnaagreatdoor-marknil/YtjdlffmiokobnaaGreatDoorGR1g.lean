/- A ring in memory: its rows, slot, end, has. -/
import Derived.Test.YtjdlffmiokobnaaGreatDoorGKg
namespace Go.Proofs.YtjdlffmiokobnaaGreatDoor
set_option linter.unusedVariables false
set_option linter.unusedSimpArgs false
namespace RG
open Go.RowKit
set_option maxRecDepth 100000

def rowC (S : List EL) : List Value := S.flatMap elC
theorem rowC_len (S : List EL) : (rowC S).length = S.length * WD := flat_len S (fun x _ => elC_len x)
theorem rowC_one (S : List EL) : ∀ v ∈ rowC S, v.oneCell' = true := fun v h => by
  obtain ⟨x, _, hx⟩ := List.mem_flatMap.1 h
  exact elC_one x v hx
/-- A row of elements fills block g. -/
def RowEl (w : World) (g : Nat) (S : List EL) : Prop := Blk w g (rowC S).toArray elT
theorem RowEl.lt {w : World} {g : Nat} {S : List EL} (h : RowEl w g S) : g < w.heap.size := Blk.lt h
theorem RowEl.range {w : World} {g : Nat} {S : List EL} (h : RowEl w g S) {j : Nat} {x : EL} (hj : S[j]? = some x) : w.rangeAt g (ofs j) (elC x) := fun q v hv => by
  rw [ofs_is, Blk.cell h, ← Array.getElem?_toList]
  exact flat_at S j x (fun y _ => elC_len y) hj q v hv
theorem RowEl.below {w w' : World} {g B : Nat} {S : List EL} (h : RowEl w g S) (hb : Below B w w') (hg : g < B) : RowEl w' g S := Blk.below h hb hg
theorem RowEl.grown {w w' : World} {g : Nat} {S : List EL} {r : Option Nat} (h : RowEl w g S) (hb : w.grownBy w' r) (hne : some g ≠ r) : RowEl w' g S := Blk.grown h hb hne
/-- An element is written over. -/
theorem RowEl.put {w : World} {g : Nat} {S : List EL} (h : RowEl w g S) (j : Nat) (hj : j < S.length) (x : EL) : w.there g (ofs j) WD ∧ RowEl (w.setCells g (ofs j) (elC x)) g (S.set j x) ∧ w.grownBy (w.setCells g (ofs j) (elC x)) (some g) := by
  have hl : (rowC S).toArray.size = S.length * WD := by simp [rowC_len]
  have h1 : (j + 1) * WD ≤ S.length * WD := Nat.mul_le_mul_right WD hj
  have h2 : (j + 1) * WD = j * WD + WD := Nat.succ_mul j WD
  have hx := elC_len x
  rw [ofs_is]
  obtain ⟨r1, r2⟩ := setCells_row (elC x) (j * WD) w (rowC S).toArray h (by omega)
  refine ⟨there_row h _ _ (by omega), ?_, r2⟩
  unfold RowEl
  rw [show rowC (S.set j x) = (rowC S).take (j * WD) ++ elC x ++ (rowC S).drop (j * WD + WD) from flat_set S j x (fun y _ => elC_len y) hj]
  rw [hx] at r1
  exact r1
theorem run_ldO {op : Oper} {ev : Operand → Value} {x : Operand} {g j : Nat} {S : List EL} {v : EL} {w : World} (ho : op.op = .load elT x) (hx : ev x = .pointer (some ⟨g, ofs j, none⟩)) (h : RowEl w g S) (hj : S[j]? = some v) : (execOp ev op).run Tryz.prog w = .ok (.value (elV v)) w :=
  run_load ho hx (run_ld (h.range hj))
theorem run_stO {op : Oper} {ev : Operand → Value} {x y : Operand} {g j : Nat} {S : List EL} {v : EL} {w : World} (ho : op.op = .store elT x y) (hx : ev x = .pointer (some ⟨g, ofs j, none⟩)) (hy : ev y = elV v) (h : RowEl w g S) (hj : j < S.length) : (execOp ev op).run Tryz.prog w = .ok .skip (w.setCells g (ofs j) (elC v)) := by
  simp only [execOp, ho, hx, hy, Sem.run_bind, Sem.run_pure, Result.andThen_ok, run_st (h.put j hj v).1]
theorem run_mk (n : Nat) (hn : EB * n ≤ 281474976710656) (w : World) : (Instr.makeSlice slT (.int .i64 (n : Int)) (.int .i64 (n : Int))).run Tryz.prog w = .ok (.slice (some ⟨w.heap.size, 0, none⟩) n n) (w.alloc (.cells (rowC (List.replicate n elZ)).toArray elT)) := by
  obtain ⟨i, hi, hzz⟩ := Option.map_eq_some_iff.1 elI
  simp only [Prod.mk.injEq] at hzz
  obtain ⟨hz, hs, hbb⟩ := hzz
  have h1 : ((i.bytes * n : Nat) : Int) ≤ 281474976710656 := by rw [hbb]; omega
  rw [Int.natCast_mul] at h1
  have := run_make (P := Tryz.prog) w slT elT i (elV elZ) slU hi hz .i64 .i64 (n : Int) (n : Int) (by omega) (Int.le_refl _) h1 (by rw [hbb] at h1; simp only [EB] at h1; omega)
  rw [this]
  have e : madeCells (Value.cells (elV elZ)) (n * i.size) = (rowC (List.replicate n elZ)).toArray := by
    have hsz : (Value.cells (elV elZ)).size = WD := by rw [elV_cells]; simp [elC_len]
    have := madeCells_zero (Value.cells (elV elZ)) n (by rw [hsz]; decide)
    rw [hsz] at this
    rw [hs]
    apply Array.toList_inj.1
    rw [this, zero_toList]
    unfold rowC
    rw [List.toList_toArray]
    exact flat_rep elC elZ n
  rw [Int.toNat_natCast, e]
/-- Elements of one row go over into another one. -/
theorem run_cpR {w : World} {g h o so n1 c1 n2 c2 : Nat} {D X : List EL} {ty : TypeId} {ga ha : Option Addr} (hd : RowEl w g D) (hX : X.length = Nat.min n2 n1) (hfit : o + X.length ≤ D.length) (hpos : 0 < X.length → ga = some ⟨g, ofs o, none⟩ ∧ ha = some ⟨h, so, none⟩ ∧ ∀ j x, X[j]? = some x → w.rangeAt h (so + ofs j) (elC x)) :
    ∃ w', (Builtin.copy_ #[slT, slT] ty #[.slice ga n1 c1, .slice ha n2 c2]).run Tryz.prog w = .ok (.int .i64 (X.length : Int)) w' ∧ RowEl w' g (D.take o ++ X ++ D.drop (o + X.length)) ∧ w.grownBy w' (some g) := by
  by_cases h0 : X.length = 0
  · obtain rfl : X = [] := List.eq_nil_of_length_eq_zero h0
    have hq : ∃ i, Tryz.prog.info? elT = some i := by
      obtain ⟨i, hi, _⟩ := Option.map_eq_some_iff.1 elS
      exact ⟨i, hi⟩
    obtain ⟨i, hi⟩ := hq
    have hn : Nat.min n2 n1 = 0 := hX.symm
    have hl : ∀ (x : Addr), (loadCells x 0).run Tryz.prog w = .ok #[] w := fun x => by simpa using run_loadCells_list (P := Tryz.prog) w x [] (by simp)
    refine ⟨w, ?_, by simpa using hd, ⟨rfl, rfl, rfl, Nat.le_refl _, fun _ _ _ => rfl⟩⟩
    cases ga <;> cases ha <;> simp [Builtin.copy_, run_underlying slU, Builtin.lenOf, Builtin.firstCells, sizeOf, typeInfo, hi, hn, storeCells, hl] <;> rfl
  · obtain ⟨rfl, rfl, hx⟩ := hpos (by omega)
    have hr := run_copy_wide (P := Tryz.prog) w slT slT ty elT WD g (ofs o) n1 c1 ⟨h, so, none⟩ n2 c2 (rowC D).toArray elT (rowC X) slU elS hd (by rw [rowC_len, hX]) (fun j v hj => by
      rw [Addr.add_mid]
      have hjl := (List.getElem?_eq_some_iff.1 hj).1
      rw [rowC_len] at hjl
      have hW : 0 < WD := by decide
      have hq : j / WD < X.length := Nat.div_lt_of_lt_mul (by rw [Nat.mul_comm]; exact hjl)
      have hm : j % WD < WD := Nat.mod_lt _ hW
      have hxq := hx (j / WD) _ (List.getElem?_eq_getElem hq)
      have hv : (elC (X[j / WD]'hq))[j % WD]? = some v := by
        have e := flat_at X (j / WD) (X[j / WD]'hq) (fun y _ => elC_len y) (List.getElem?_eq_getElem hq) (j % WD) ((elC (X[j / WD]'hq))[j % WD]'(by rw [elC_len]; exact hm)) (List.getElem?_eq_getElem _)
        rw [Nat.div_add_mod'] at e
        rw [List.getElem?_eq_getElem (by rw [elC_len]; exact hm), ← e]
        exact hj
      have e2 := hxq (j % WD) v hv
      rw [ofs_is, Nat.add_assoc, Nat.div_add_mod'] at e2
      exact e2) (by simp only [List.size_toArray]; rw [rowC_len, rowC_len, ofs_is, ← Nat.add_mul]; exact Nat.mul_le_mul_right WD hfit) (rowC_one X)
    have hgi : goInt ((Nat.min n2 n1 : Nat) : Int) = .int .i64 (X.length : Int) := by rw [hX]; rfl
    rw [hr, hgi]
    refine ⟨_, rfl, ?_, ⟨rfl, rfl, rfl, by simp, fun k _ hne => setRow_other w g k _ (fun e => hne (by rw [e]))⟩⟩
    have e : rowC (D.take o ++ X ++ D.drop (o + X.length)) = (rowC D).take (ofs o) ++ rowC X ++ (rowC D).drop (ofs o + (rowC X).length) := by
      unfold rowC
      rw [List.flatMap_append, List.flatMap_append]
      congr 1
      · congr 1
        rw [ofs_is]
        exact (flat_take D o (fun y _ => elC_len y)).symm
      · rw [show (X.flatMap elC).length = X.length * WD from rowC_len X, ofs_is, ← Nat.add_mul]
        exact (flat_drop D _ (fun y _ => elC_len y)).symm
    unfold RowEl
    rw [e]
    exact setRow_heap w g _ _ elT _ hd
theorem run_cp {w : World} {g h o p n1 c1 n2 c2 : Nat} {D X : List EL} {ty : TypeId} {ga ha : Option Addr} (hd : RowEl w g D) (hX : X.length = Nat.min n2 n1) (hfit : o + X.length ≤ D.length) (hpos : 0 < X.length → ga = some ⟨g, ofs o, none⟩ ∧ ha = some ⟨h, ofs p, none⟩ ∧ ∃ S, RowEl w h S ∧ ∀ j x, X[j]? = some x → S[p + j]? = some x) :
    ∃ w', (Builtin.copy_ #[slT, slT] ty #[.slice ga n1 c1, .slice ha n2 c2]).run Tryz.prog w = .ok (.int .i64 (X.length : Int)) w' ∧ RowEl w' g (D.take o ++ X ++ D.drop (o + X.length)) ∧ w.grownBy w' (some g) :=
  run_cpR (h := h) (so := ofs p) hd hX hfit (fun hp => by
    obtain ⟨h1, h2, S, hS, h3⟩ := hpos hp
    refine ⟨h1, h2, fun j x hx => ?_⟩
    have := hS.range (h3 j x hx)
    rw [ofs_is, Nat.add_mul] at this
    rw [ofs_is, ofs_is]
    exact this)
end RG
end Go.Proofs.YtjdlffmiokobnaaGreatDoor
