/- Open: a Dec over bytes that came in. -/
import Derived.Test.YtbemmhngadpjcaaWD2
import Derived.Test.YtbemmhngadpjcaaGE0
import Derived.Deep.WholeRow
import Derived.Deep.OwnRows
import Derived.Lib.ConvBytes
import Derived.Laws.CopyOwn
import Derived.Laws.BytesArg
import Derived.Deep.Strs
namespace Go.Proofs.Ytbemmhngadpjcaa
set_option linter.unusedVariables false
set_option linter.unusedSimpArgs false
open Go.RowKit


theorem infoU8 : (Try.prog.info? 5).map (fun i => (i.zero, i.size, i.bytes)) = some (some (.int .u8 0), 1, 1) := by kernel_rfl
theorem infoU8s : (Try.prog.info? 5).map (·.size) = some 1 := by kernel_rfl

theorem u8c_one (xs : List UInt8) : ∀ v ∈ xs.map u8c, v.oneCell' = true := by
  intro v hv
  obtain ⟨u, _, rfl⟩ := List.mem_map.1 hv
  rfl

theorem make_u8 (n : Nat) (h : n ≤ 281474976710656) (w : World) : (Instr.makeSlice 49 (.int .i64 (n : Int)) (.int .i64 (n : Int))).run Try.prog w = .ok (.slice (some ⟨w.heap.size, 0, none⟩) n n) (w.alloc (.cells (madeCells #[.int .u8 0] n) 5)) :=
  run_make_row' (P := Try.prog) 49 5 (.int .u8 0) 1 Try.underlying49 infoU8 rfl .i64 .i64 n (by omega) (by omega) w

theorem copy_made (w : World) (v : Value) (xs : List UInt8) (h : Rd w v xs) (ty : TypeId) :
    (Builtin.copy_ #[49, 49] ty #[.slice (some ⟨w.heap.size, 0, none⟩) xs.length xs.length, v]).run Try.prog (w.alloc (.cells (madeCells #[.int .u8 0] xs.length) 5)) =
      .ok (goInt xs.length) (w.alloc (.cells (xs.map u8c).toArray 5)) := by
  obtain ⟨ao, c, rfl, hc, hm, hcel⟩ := h
  rcases Nat.eq_zero_or_pos xs.length with h0 | hpos
  · obtain rfl : xs = [] := List.eq_nil_of_length_eq_zero h0
    have := run_copy_none (P := Try.prog) (w.alloc (.cells (madeCells #[.int .u8 0] 0) 5)) 49 49 ty 5 (some ⟨w.heap.size, 0, none⟩) ao 0 0 0 c Try.underlying49 infoU8s rfl
    have e : madeCells #[Value.int .u8 0] 0 = #[] := Array.eq_empty_of_size_eq_zero (size_madeCells _ _)
    rw [e] at this
    simpa [e] using this
  · obtain ⟨b, o, rfl, hcell⟩ : ∃ b o, ao = some ⟨b, o, none⟩ ∧ ∀ i (h : i < xs.length), w.cell? ⟨b, o + i, none⟩ = some (u8c xs[i]) := by
      rcases hcel with ⟨_, h⟩ | h
      · omega
      · exact h
    have hr := run_copy_row (P := Try.prog) (w.alloc (.cells (madeCells #[.int .u8 0] xs.length) 5)) 49 49 ty 5 w.heap.size 0 xs.length xs.length ⟨b, o, none⟩ xs.length c _ 5 (xs.map u8c) Try.underlying49 infoU8s (Blk.made w _ _)
      (by simp [Nat.min_self])
      (fun j v hj => by
        have hjl : j < xs.length := by
          rcases Nat.lt_or_ge j xs.length with h | h
          · exact h
          · simp [List.getElem?_eq_none (show (xs.map u8c).length ≤ j by simpa using h)] at hj
        have hplain : (⟨b, o, none⟩ : Addr).add j = ⟨b, o + j, none⟩ := by unfold Addr.add; split <;> simp_all
        have hold := hcell j hjl
        rw [hplain, World.cell?_alloc_lt _ _ _ (World.block_lt_of_cell? w _ hold), hold]
        simpa [List.getElem?_eq_getElem hjl] using hj)
      (by simp [size_madeCells]) (u8c_one xs)
    rw [hr]
    have hd : (madeCells #[Value.int .u8 0] xs.length).toList.drop (0 + (xs.map u8c).length) = [] := List.drop_eq_nil_of_le (by simp [size_madeCells])
    rw [hd, World.setRow_alloc_new]
    simp

theorem strOf_u8 (xs : List UInt8) : strOfNums (xs.map fun u => (u.toNat : Int)) = ⟨xs.toArray⟩ := by
  have : ((fun n : Int => UInt8.ofNat n.toNat) ∘ fun u : UInt8 => (u.toNat : Int)) = id := by funext u; simp
  simp [strOfNums, this]

theorem conv_rd (w : World) (v : Value) (xs : List UInt8) (h : Rd w v xs) : (convert 49 9 v).run Try.prog w = .ok (.string ⟨xs.toArray⟩) w := by
  obtain ⟨ao, c, rfl, hc, hm, hcel⟩ := h
  rcases Nat.eq_zero_or_pos xs.length with h0 | hpos
  · obtain rfl : xs = [] := List.eq_nil_of_length_eq_zero h0
    rcases hcel with ⟨rfl, _⟩ | ⟨b, o, rfl, _⟩
    · exact run_convert_bytes_nil (P := Try.prog) w 49 5 Try.underlying49 Try.underlying5 _ _ 9 Try.underlying9
    · exact run_convert_bytes_arg (P := Try.prog) w 49 5 Try.underlying49 Try.underlying5 b o 0 c [] rfl (fun i hi => by omega) 9 Try.underlying9
  · obtain ⟨b, o, rfl, hcell⟩ : ∃ b o, ao = some ⟨b, o, none⟩ ∧ ∀ i (h : i < xs.length), w.cell? ⟨b, o + i, none⟩ = some (u8c xs[i]) := by
      rcases hcel with ⟨_, h⟩ | h
      · omega
      · exact h
    have := run_convert_bytes_arg (P := Try.prog) w 49 5 Try.underlying49 Try.underlying5 b o xs.length c (xs.map fun u => (u.toNat : Int)) (by simp)
      (fun i hi => by rw [hcell i hi]; simp [u8c, List.getD, List.getElem?_eq_getElem hi]) 9 Try.underlying9
    rw [this, strOf_u8]

theorem owns_made (w : World) (xs : List UInt8) (h : xs.length ≤ maxLen) (base : Nat) (hb : base ≤ w.heap.size) : (w.alloc (.cells (xs.map u8c).toArray 5)).ownsRow base 5 1 (.slice (some ⟨w.heap.size, 0, none⟩) xs.length xs.length) xs.length (xs.map u8c) :=
  ⟨by simp, .inr ⟨w.heap.size, xs.length, (xs.map u8c).toArray, rfl, hb, Blk.made w _ _, Nat.le_refl _, h, by simp, List.take_of_length_le (by simp)⟩⟩

theorem rangeRd {w : World} {xs : List UInt8} {b o : Nat} (h : ∀ i (h : i < xs.length), w.cell? ⟨b, o + i, none⟩ = some (u8c xs[i])) : w.rangeAt b o (xs.map u8c) := fun j v hj => by
  have hjl : j < xs.length := by
    rcases Nat.lt_or_ge j xs.length with h | h
    · exact h
    · simp [List.getElem?_eq_none (show (xs.map u8c).length ≤ j by simpa using h)] at hj
  rw [h j hjl]
  simpa [List.getElem?_eq_getElem hjl] using hj


theorem Rd.form {w : World} {v : Value} {xs : List UInt8} (h : Rd w v xs) : (v = .slice none 0 0 ∧ xs = []) ∨ ∃ b o c, v = .slice (some ⟨b, o, none⟩) xs.length c ∧ ∀ i (h : i < xs.length), w.cell? ⟨b, o + i, none⟩ = some (u8c xs[i]) := by
  obtain ⟨ao, c, rfl, hc, hm, ⟨rfl, rfl⟩ | ⟨b, o, rfl, hcell⟩⟩ := h
  · obtain rfl : xs = [] := List.eq_nil_of_length_eq_zero (by omega)
    exact .inl ⟨rfl, rfl⟩
  · exact .inr ⟨b, o, c, rfl, hcell⟩
theorem Rd_news {w : World} {b o : Nat} {xs : List UInt8} (h : ∀ i (h : i < xs.length), w.cell? ⟨b, o + i, none⟩ = some (u8c xs[i])) : ∀ j u, (xs.map u8c)[j]? = some u → w.cell? ((⟨b, o, none⟩ : Addr).add j) = some u := by
  intro j u hj
  rw [Addr.add_mid]
  exact rangeRd h j u hj
theorem Rd.below {w w' : World} {v : Value} {xs : List UInt8} (h : Rd w v xs) (hb : Below w.heap.size w w') : Rd w' v xs := by
  obtain ⟨ao, c, e, hc, hm, h | ⟨b, o, e2, hcell⟩⟩ := h
  · exact ⟨ao, c, e, hc, hm, .inl h⟩
  · exact ⟨ao, c, e, hc, hm, .inr ⟨b, o, e2, fun i hi => (hb.cell (World.block_lt_of_cell? w _ (hcell i hi))).trans (hcell i hi)⟩⟩

def s0 : S := ⟨0, 0, 0⟩
set_option maxRecDepth 20000 in
theorem open_any (w : World) (v : Value) (xs : List UInt8) (h : Rd w v xs) (hlen : xs.length ≤ 140737488355000) :
    Calls Try.prog 43 #[v] w fun e w' => e = .returned (.pointer (some ⟨w.heap.size + 1, 0, none⟩)) ∧ DecSt w' (w.heap.size + 1) (.slice (some ⟨w.heap.size, 0, none⟩) xs.length xs.length) xs s0 ∧ Below w.heap.size w w' ∧ w'.heap.size = w.heap.size + 2 := by
  have hmk := make_u8 xs.length (by omega)
  have hcp := copy_made w v xs h
  obtain ⟨ao, c, hv, hrest⟩ := h
  clear hrest
  subst hv
  go_enter Try.func43, Try.ntmps43
  go_wp2
  go_ret
  refine ⟨rfl, ⟨⟨by unfold maxLen; omega, .inr ⟨w.heap.size, rfl, by omega, (Blk.made w _ _).alloc _⟩⟩, Nat.zero_le _, ?_⟩, ((Below.refl _ _).alloc (Nat.le_refl _) _).alloc (by simp) _, by simp⟩
  have := Blk.made (w.alloc (.cells (xs.map u8c).toArray 5)) #[.slice (some ⟨w.heap.size, 0, none⟩) xs.length xs.length, .int .i64 0, .int .i64 0, .int .i64 0] 108
  rw [World.size_alloc] at this
  exact this

/-- A slice of bytes that came in: one that can be read, or one without a place for a byte, of whatever address. -/
def RdA (w : World) (v : Value) (xs : List UInt8) : Prop := Rd w v xs ∨ ∃ a, v = .slice (some a) 0 0 ∧ xs = []
theorem RdA.slice {w : World} {v : Value} {zs : List UInt8} (h : RdA w v zs) : ∃ ao c, v = .slice ao zs.length c ∧ zs.length ≤ 9223372036854775807 := by
  rcases h with ⟨ao, c, rfl, hc, hm, _⟩ | ⟨a, rfl, rfl⟩
  · exact ⟨ao, c, rfl, by unfold maxLen at hm; omega⟩
  · exact ⟨some a, 0, rfl, by simp⟩
theorem RdA.below {w w' : World} {v : Value} {xs : List UInt8} (h : RdA w v xs) (hb : Below w.heap.size w w') : RdA w' v xs := by
  rcases h with h | h
  · exact .inl (h.below hb)
  · exact .inr h

def OpenC (w : World) (xs : List UInt8) (e : Ending) (w' : World) : Prop :=
  e = .returned (.pointer (some ⟨w.heap.size + 1, 0, none⟩)) ∧ DecSt w' (w.heap.size + 1) (.slice (some ⟨w.heap.size, 0, none⟩) xs.length xs.length) xs s0 ∧ Below w.heap.size w w' ∧ w'.heap.size = w.heap.size + 2
theorem copy_arg (w : World) (a : Addr) (ty : TypeId) :
    (Builtin.copy_ #[49, 49] ty #[.slice (some ⟨w.heap.size, 0, none⟩) 0 0, .slice (some a) 0 0]).run Try.prog (w.alloc (.cells (madeCells #[.int .u8 0] 0) 5)) =
      .ok (goInt 0) (w.alloc (.cells (([] : List UInt8).map u8c).toArray 5)) := by
  have e : madeCells #[Value.int .u8 0] 0 = #[] := Array.eq_empty_of_size_eq_zero (size_madeCells _ _)
  have := run_copy_none (P := Try.prog) (w.alloc (.cells (madeCells #[.int .u8 0] 0) 5)) 49 49 ty 5 (some ⟨w.heap.size, 0, none⟩) (some a) 0 0 0 0 Try.underlying49 infoU8s rfl
  rw [e] at this
  simpa [e] using this
set_option maxRecDepth 20000 in
theorem open_arg (w : World) (v : Value) (xs : List UInt8) (h : RdA w v xs) (hlen : xs.length ≤ 140737488355000) :
    Calls Try.prog 43 #[v] w (OpenC w xs) := by
  rcases h with h | ⟨a, rfl, rfl⟩
  · exact open_any w v xs h hlen
  · have hmk : ∀ W : World, (Instr.makeSlice 49 (.int .i64 0) (.int .i64 0)).run Try.prog W = .ok (.slice (some ⟨W.heap.size, 0, none⟩) 0 0) (W.alloc (.cells (madeCells #[.int .u8 0] 0) 5)) := make_u8 0 (by omega)
    have hcp := copy_arg w a
    go_enter Try.func43, Try.ntmps43
    go_wp2
    go_ret
    refine ⟨rfl, ⟨⟨by decide, .inr ⟨w.heap.size, rfl, by omega, (Blk.made w _ _).alloc _⟩⟩, Nat.zero_le _, ?_⟩, ((Below.refl _ _).alloc (Nat.le_refl _) _).alloc (by simp) _, by simp⟩
    have := Blk.made (w.alloc (.cells (([] : List UInt8).map u8c).toArray 5)) #[.slice (some ⟨w.heap.size, 0, none⟩) 0 0, .int .i64 0, .int .i64 0, .int .i64 0] 108
    rw [World.size_alloc] at this
    exact this

end Go.Proofs.Ytbemmhngadpjcaa
