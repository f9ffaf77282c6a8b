/- A new array, a new table. -/
import Derived.Test.YtnknjcnbbljagaaTI5
import Derived.WideMake
namespace Go.Proofs.Ytnknjcnbbljagaa
set_option linter.unusedVariables false
set_option linter.unusedSimpArgs false
set_option maxRecDepth 100000
open Go.RowKit

theorem below_alloc (w : World) (o : Obj) : Below w.heap.size w (w.alloc o) := (Below.refl _ _).alloc (Nat.le_refl _) o
theorem name_world {P : Program} {c : Code} {Q : Exit → Act → World → Prop} {a : Act} {w : World} (R : World → Prop) (h : R w) (k : ∀ W, R W → c.wp P Q a W) : c.wp P Q a w := k w h
theorem below_dN {B : Nat} {w W : World} (h : Below B w W) (n : Nat) : Below B w (W.drewN n) := ⟨h.os, h.tape, h.output, h.size, h.block⟩
def nilSl : Array Value := #[.int .u8 0, .int .i64 0, .int .i64 0]
theorem infoSl : (Try.prog.info? 150).map (fun i => (i.zero, i.size, i.bytes)) = some (some (.agg nilSl), 3, 24) := by kernel_rfl
theorem run_make_wide {P : Program} (w : World) (t e : TypeId) (z : Array Value) (size bytes : Nat) (ht : P.underlying t = some (.slice e)) (hinfo : (P.info? e).map (fun i => (i.zero, i.size, i.bytes)) = some (some (.agg z), size, bytes)) (kl kc : IntKind) (m : Nat) (hb : bytes * m ≤ 281474976710656) (h63 : m ≤ 9223372036854775807) :
    (Instr.makeSlice t (.int kl (m : Int)) (.int kc (m : Int))).run P w = .ok (.slice (some ⟨w.heap.size, 0, none⟩) m m) (w.alloc (.cells (madeCells (Value.cells (.agg z)) (m * size)) e)) := by
  obtain ⟨i, hi, hzz⟩ := Option.map_eq_some_iff.1 hinfo
  simp only [Prod.mk.injEq] at hzz
  obtain ⟨hz, hs, hbb⟩ := hzz
  subst hs
  subst hbb
  have h1 : ((i.bytes * m : Nat) : Int) ≤ 281474976710656 := by omega
  rw [Int.natCast_mul] at h1
  have := run_make (P := P) w t e i (.agg z) ht hi hz kl kc (m : Int) (m : Int) (by omega) (Int.le_refl _) h1 (by omega)
  simpa using this
def rowO (n : Nat) : Obj := .cells (madeCells (Value.cells (.agg nilSl)) (n * 3)) 150
theorem make_sl (m : Nat) (hm : m ≤ 8796093022208) (w : World) : (Instr.makeSlice 90 (.int .i64 (m : Int)) (.int .i64 (m : Int))).run Try.prog w = .ok (.slice (some ⟨w.heap.size, 0, none⟩) m m) (w.alloc (rowO m)) :=
  run_make_wide w _ _ nilSl 3 24 Try.underlying90 infoSl .i64 .i64 m (by omega) (by omega)
theorem made_at (z : Array Value) (m k : Nat) (hk : k < m) : (madeCells z m)[k]? = some z[k % z.size]! := by
  unfold madeCells
  simp [hk]
theorem row_made (w : World) (n : Nat) : RowAt (w.alloc (rowO n)) w.heap.size (List.replicate n .emp) := by
  have hb : Blk (w.alloc (rowO n)) w.heap.size (madeCells (Value.cells (.agg nilSl)) (n * 3)) 150 := Blk.made w _ _
  have s : ∀ p, sat (List.replicate n (Slt.emp : SL)) p = .emp := fun p => by
    simp only [sat, List.getD_eq_getElem?_getD, List.getElem?_replicate]
    split <;> rfl
  refine ⟨⟨_, hb, by rw [size_madeCells]; simp⟩, fun p hp => ?_, fun p hp => ?_, fun p hp => ?_⟩
  all_goals
    rw [List.length_replicate] at hp
    rw [hb.cell, s, made_at _ _ _ (by omega)]
    simp [nilSl, Slt.st, kS, vS, Value.cells, Nat.mul_add_mod_self_right]
theorem newArray_any (w : World) (n : Nat) (hn : n ≤ 8796093022208) : Calls Try.prog 49 #[.int .i64 (n : Int)] w fun e w' => e = .returned (.agg #[.slice (some ⟨w.heap.size + 1, 0, none⟩) n n, .int .i64 0, .int .i64 0]) ∧ RowAt w' (w.heap.size + 1) (List.replicate n .emp) ∧ Below w.heap.size w w' := by
  have hmk := make_sl n hn
  go_enter Try.func49, Try.ntmps49
  go_wp2
  refine bodyPost_ret (v := .agg #[.slice (some ⟨w.heap.size + 1, 0, none⟩) n n, .int .i64 0, .int .i64 0]) (by simp [results, Try.results49, go_sem]) rfl ⟨rfl, ?_, (below_alloc w _).alloc (by simp) _⟩
  have := row_made (w.alloc (.cells #[.slice (some ⟨w.heap.size + 1, 0, none⟩) n n, .int .i64 0, .int .i64 0] 92)) n
  simpa using this
def newT : TB := ⟨List.replicate 8 .emp, [], 0⟩
theorem new_any (w : World) (F bt bm : Nat) : Calls Try.prog 8 #[hvF F bt bm] w fun e w' => ∃ z g, e = .returned (.pointer (some ⟨z, 0, none⟩)) ∧ TbAt w' z g g (hvF F bt bm) newT ∧ w.heap.size ≤ z ∧ w.heap.size ≤ g ∧ Below w.heap.size w w' := by
  have HN := hide (newArray_any w 8 (by decide))
  have hnf := notnil_f F bt bm w
  unfold hvF
  go_enter Try.func8, Try.ntmps8
  go_wp2_with (go_at_call 49; refine HN.out.mono ?_; rintro e w1 ⟨rfl, hr, hb⟩)
  go_ret
  have hrl := hr.lt
  refine ⟨w1.heap.size, w.heap.size + 1, rfl, ⟨Blk.made w1 _ _, hr.same (Below.heap_alloc w1 _ _ hrl), fun h => absurd rfl h, fun h => absurd rfl h, fun _ => rfl, ⟨3, by decide, rfl⟩, fun h => absurd rfl h, Nat.le_refl _⟩, hb.size, by omega, hb.alloc hb.size _⟩
end Go.Proofs.Ytnknjcnbbljagaa
