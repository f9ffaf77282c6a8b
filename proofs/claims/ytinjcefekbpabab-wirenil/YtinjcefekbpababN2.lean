/- put, on a nil Enc. -/
import Derived.Test.YtinjcefekbpababN1
import Derived.Test.YtinjcefekbpababD8
import Derived.Lib.ConvBytes
namespace Go.Proofs.Ytinjcefekbpabab
set_option linter.unusedVariables false
set_option linter.unusedSimpArgs false
open Go.RowKit

theorem bytesWorld_below (w : World) (e : TypeId) (s : ByteArray) : Below w.heap.size w (Lib.bytesWorld w e s) :=
  ⟨rfl, rfl, rfl, by rw [Lib.bytesWorld_size]; omega, fun k hk => Lib.bytesWorld_at_old w e s k hk⟩
set_option maxRecDepth 20000 in
theorem etext_nil (s : ByteArray) (hs : s.size ≤ 9223372036854775807) (w : World) : Calls Try.prog 33 #[.pointer none, .string s] w fun e w' => e = .returned (.tuple #[]) ∧ Below w.heap.size w w' := by
  have hcv := fun W => Lib.run_convert_string_bytes (P := Try.prog) W 9 22 5 s Try.underlying9 Try.underlying22 Try.underlying5
  go_enter Try.func33, Try.ntmps33
  go_wp2_with fail
  refine (evar_nil s.size (by omega) _).mono ?_
  rintro e w1 ⟨rfl, hb⟩
  go_wp2_with fail
  refine (eraw_nil _ _).mono ?_
  rintro e w2 ⟨rfl, rfl⟩
  go_wp2
  go_returns
  exact ⟨rfl, hb.trans ((bytesWorld_below w1 _ s).mono hb.size)⟩
set_option maxRecDepth 20000 in
theorem ekey_nil (cs : Array Value) (w : World) : Calls Try.prog 35 #[.pointer none, .agg cs] w fun e w' => e = .returned (.tuple #[]) ∧ Below w.heap.size w w' := by
  go_enter Try.func35, Try.ntmps35
  go_wp2_with fail
  refine (eraw_nil _ _).mono ?_
  rintro e w2 ⟨rfl, rfl⟩
  go_wp2
  go_returns
  exact ⟨rfl, (Below.refl _ _).alloc (Nat.le_refl _) _⟩

/-- The cells of an Add. -/
structure AddCells (cs : Array Value) (kind : Int) (N : Nat) (s : ByteArray) (ao : Option Addr) (len cap : Nat) : Prop where
  size : cs.size = 36
  c0 : cs[0]? = some (.int .i64 kind)
  c1 : cs[1]? = some (.int .u64 N)
  c2 : cs[2]? = some (.string s)
  c3 : cs[3]? = some (.slice ao len cap)
  hN : N ≤ 18446744073709551615
  hs : s.size ≤ 9223372036854775807
  hl : len ≤ 9223372036854775807
theorem AddCells.key {cs : Array Value} {kind : Int} {N : Nat} {s : ByteArray} {ao : Option Addr} {len cap : Nat} (h : AddCells cs kind N s ao len cap) (w : World) : (w.alloc (.cells cs 54)).rangeAt w.heap.size 4 (cs.toList.drop 4) := fun j v hj => by
  rw [(Blk.made w cs 54).cell, ← Array.getElem?_toList]
  simpa [List.getElem?_drop] using hj
theorem AddCells.keyLen {cs : Array Value} {kind : Int} {N : Nat} {s : ByteArray} {ao : Option Addr} {len cap : Nat} (h : AddCells cs kind N s ao len cap) : (cs.toList.drop 4).length = 32 := by
  simp [h.size]

set_option maxRecDepth 20000 in
set_option maxHeartbeats 800000 in
theorem putn_1 (cs : Array Value) (N : Nat) (s : ByteArray) (ao : Option Addr) (len cap : Nat) (w : World) (h : AddCells cs 1 N s ao len cap) : Calls Try.prog 15 #[.pointer none, .agg cs] w fun e w' => e = .returned (.tuple #[]) ∧ Below w.heap.size w w' := by
  have g0 := h.c0
  have g1 := h.c1
  have g2 := h.c2
  have g3 := h.c3
  have hN := h.hN
  have hs := h.hs
  have hl := h.hl
  have hba : Below w.heap.size w (w.alloc (.cells cs 54)) := (Below.refl _ _).alloc (Nat.le_refl _) _
  have HBA := hide hba
  clear hba
  go_enter Try.func15, Try.ntmps15
  go_wp2_with fail
  refine (evar_nil N hN _).mono ?_
  rintro e w1 ⟨rfl, hb⟩
  go_wp2
  go_returns
  exact ⟨rfl, HBA.out.trans (hb.mono (by simp))⟩

set_option maxRecDepth 20000 in
set_option maxHeartbeats 800000 in
theorem putn_2 (cs : Array Value) (N : Nat) (s : ByteArray) (ao : Option Addr) (len cap : Nat) (w : World) (h : AddCells cs 2 N s ao len cap) : Calls Try.prog 15 #[.pointer none, .agg cs] w fun e w' => e = .returned (.tuple #[]) ∧ Below w.heap.size w w' := by
  have g0 := h.c0
  have g1 := h.c1
  have g2 := h.c2
  have g3 := h.c3
  have hN := h.hN
  have hs := h.hs
  have hl := h.hl
  have hba : Below w.heap.size w (w.alloc (.cells cs 54)) := (Below.refl _ _).alloc (Nat.le_refl _) _
  have HBA := hide hba
  clear hba
  go_enter Try.func15, Try.ntmps15
  go_wp2_with fail
  refine (etext_nil s hs _).mono ?_
  rintro e w1 ⟨rfl, hb⟩
  go_wp2
  go_returns
  exact ⟨rfl, HBA.out.trans (hb.mono (by simp))⟩

set_option maxRecDepth 20000 in
set_option maxHeartbeats 800000 in
theorem putn_3 (cs : Array Value) (N : Nat) (s : ByteArray) (ao : Option Addr) (len cap : Nat) (w : World) (h : AddCells cs 3 N s ao len cap) : Calls Try.prog 15 #[.pointer none, .agg cs] w fun e w' => e = .returned (.tuple #[]) ∧ Below w.heap.size w w' := by
  have g0 := h.c0
  have g1 := h.c1
  have g2 := h.c2
  have g3 := h.c3
  have hN := h.hN
  have hs := h.hs
  have hl := h.hl
  have hba : Below w.heap.size w (w.alloc (.cells cs 54)) := (Below.refl _ _).alloc (Nat.le_refl _) _
  have HBA := hide hba
  clear hba
  go_enter Try.func15, Try.ntmps15
  go_wp2_with fail
  refine (eraw_nil _ _).mono ?_
  rintro e w1 ⟨rfl, rfl⟩
  go_wp2
  go_returns
  exact ⟨rfl, HBA.out⟩

set_option maxRecDepth 20000 in
set_option maxHeartbeats 800000 in
theorem putn_4 (cs : Array Value) (N : Nat) (s : ByteArray) (ao : Option Addr) (len cap : Nat) (w : World) (h : AddCells cs 4 N s ao len cap) : Calls Try.prog 15 #[.pointer none, .agg cs] w fun e w' => e = .returned (.tuple #[]) ∧ Below w.heap.size w w' := by
  have g0 := h.c0
  have g1 := h.c1
  have g2 := h.c2
  have g3 := h.c3
  have hN := h.hN
  have hs := h.hs
  have hl := h.hl
  have hba : Below w.heap.size w (w.alloc (.cells cs 54)) := (Below.refl _ _).alloc (Nat.le_refl _) _
  have HBA := hide hba
  clear hba
  have HK := hide (h.key w)
  have HL := hide h.keyLen
  clear h
  generalize hks : cs.toList.drop 4 = ks at HK HL
  clear hks
  go_enter Try.func15, Try.ntmps15
  go_wp2_with (first | ((with_reducible refine wpList_load_key ?_ (.tmp 27) ?_ w.heap.size 4 ?_ ks HK.out HL.out ?_); rfl; rfl; rfl) | (go_at_call 35; refine (ekey_nil _ _).mono ?_; rintro e w1 ⟨rfl, hb⟩))
  go_returns
  exact ⟨rfl, HBA.out.trans (hb.mono (by simp))⟩

set_option maxRecDepth 20000 in
set_option maxHeartbeats 800000 in
theorem putn_5 (cs : Array Value) (N : Nat) (s : ByteArray) (ao : Option Addr) (len cap : Nat) (w : World) (h : AddCells cs 5 N s ao len cap) : Calls Try.prog 15 #[.pointer none, .agg cs] w fun e w' => e = .returned (.tuple #[]) ∧ Below w.heap.size w w' := by
  have g0 := h.c0
  have g1 := h.c1
  have g2 := h.c2
  have g3 := h.c3
  have hN := h.hN
  have hs := h.hs
  have hl := h.hl
  have hba : Below w.heap.size w (w.alloc (.cells cs 54)) := (Below.refl _ _).alloc (Nat.le_refl _) _
  have HBA := hide hba
  clear hba
  go_enter Try.func15, Try.ntmps15
  go_wp2_with fail
  refine (put_nil_int8 _ (by first | exact wf_wrap _ _ | go_wf | (simp [Lit.wf, IntKind.min, IntKind.max, IntKind.signed, IntKind.bits]; omega)) _).mono ?_
  rintro e w1 ⟨rfl, hb⟩
  go_wp2
  go_returns
  exact ⟨rfl, HBA.out.trans (hb.mono (by simp))⟩

set_option maxRecDepth 20000 in
set_option maxHeartbeats 800000 in
theorem putn_6 (cs : Array Value) (N : Nat) (s : ByteArray) (ao : Option Addr) (len cap : Nat) (w : World) (h : AddCells cs 6 N s ao len cap) : Calls Try.prog 15 #[.pointer none, .agg cs] w fun e w' => e = .returned (.tuple #[]) ∧ Below w.heap.size w w' := by
  have g0 := h.c0
  have g1 := h.c1
  have g2 := h.c2
  have g3 := h.c3
  have hN := h.hN
  have hs := h.hs
  have hl := h.hl
  have hba : Below w.heap.size w (w.alloc (.cells cs 54)) := (Below.refl _ _).alloc (Nat.le_refl _) _
  have HBA := hide hba
  clear hba
  go_enter Try.func15, Try.ntmps15
  go_wp2_with fail
  refine (put_nil_uint8 _ (by first | exact wf_wrap _ _ | go_wf | (simp [Lit.wf, IntKind.min, IntKind.max, IntKind.signed, IntKind.bits]; omega)) _).mono ?_
  rintro e w1 ⟨rfl, hb⟩
  go_wp2
  go_returns
  exact ⟨rfl, HBA.out.trans (hb.mono (by simp))⟩

set_option maxRecDepth 20000 in
set_option maxHeartbeats 800000 in
theorem putn_7 (cs : Array Value) (N : Nat) (s : ByteArray) (ao : Option Addr) (len cap : Nat) (w : World) (h : AddCells cs 7 N s ao len cap) : Calls Try.prog 15 #[.pointer none, .agg cs] w fun e w' => e = .returned (.tuple #[]) ∧ Below w.heap.size w w' := by
  have g0 := h.c0
  have g1 := h.c1
  have g2 := h.c2
  have g3 := h.c3
  have hN := h.hN
  have hs := h.hs
  have hl := h.hl
  have hba : Below w.heap.size w (w.alloc (.cells cs 54)) := (Below.refl _ _).alloc (Nat.le_refl _) _
  have HBA := hide hba
  clear hba
  go_enter Try.func15, Try.ntmps15
  go_wp2_with fail
  refine (put_nil_int16 _ (by first | exact wf_wrap _ _ | go_wf | (simp [Lit.wf, IntKind.min, IntKind.max, IntKind.signed, IntKind.bits]; omega)) _).mono ?_
  rintro e w1 ⟨rfl, hb⟩
  go_wp2
  go_returns
  exact ⟨rfl, HBA.out.trans (hb.mono (by simp))⟩

set_option maxRecDepth 20000 in
set_option maxHeartbeats 800000 in
theorem putn_8 (cs : Array Value) (N : Nat) (s : ByteArray) (ao : Option Addr) (len cap : Nat) (w : World) (h : AddCells cs 8 N s ao len cap) : Calls Try.prog 15 #[.pointer none, .agg cs] w fun e w' => e = .returned (.tuple #[]) ∧ Below w.heap.size w w' := by
  have g0 := h.c0
  have g1 := h.c1
  have g2 := h.c2
  have g3 := h.c3
  have hN := h.hN
  have hs := h.hs
  have hl := h.hl
  have hba : Below w.heap.size w (w.alloc (.cells cs 54)) := (Below.refl _ _).alloc (Nat.le_refl _) _
  have HBA := hide hba
  clear hba
  go_enter Try.func15, Try.ntmps15
  go_wp2_with fail
  refine (put_nil_uint16 _ (by first | exact wf_wrap _ _ | go_wf | (simp [Lit.wf, IntKind.min, IntKind.max, IntKind.signed, IntKind.bits]; omega)) _).mono ?_
  rintro e w1 ⟨rfl, hb⟩
  go_wp2
  go_returns
  exact ⟨rfl, HBA.out.trans (hb.mono (by simp))⟩

set_option maxRecDepth 20000 in
set_option maxHeartbeats 800000 in
theorem putn_9 (cs : Array Value) (N : Nat) (s : ByteArray) (ao : Option Addr) (len cap : Nat) (w : World) (h : AddCells cs 9 N s ao len cap) : Calls Try.prog 15 #[.pointer none, .agg cs] w fun e w' => e = .returned (.tuple #[]) ∧ Below w.heap.size w w' := by
  have g0 := h.c0
  have g1 := h.c1
  have g2 := h.c2
  have g3 := h.c3
  have hN := h.hN
  have hs := h.hs
  have hl := h.hl
  have hba : Below w.heap.size w (w.alloc (.cells cs 54)) := (Below.refl _ _).alloc (Nat.le_refl _) _
  have HBA := hide hba
  clear hba
  go_enter Try.func15, Try.ntmps15
  go_wp2_with fail
  refine (put_nil_int32 _ (by first | exact wf_wrap _ _ | go_wf | (simp [Lit.wf, IntKind.min, IntKind.max, IntKind.signed, IntKind.bits]; omega)) _).mono ?_
  rintro e w1 ⟨rfl, hb⟩
  go_wp2
  go_returns
  exact ⟨rfl, HBA.out.trans (hb.mono (by simp))⟩

set_option maxRecDepth 20000 in
set_option maxHeartbeats 800000 in
theorem putn_10 (cs : Array Value) (N : Nat) (s : ByteArray) (ao : Option Addr) (len cap : Nat) (w : World) (h : AddCells cs 10 N s ao len cap) : Calls Try.prog 15 #[.pointer none, .agg cs] w fun e w' => e = .returned (.tuple #[]) ∧ Below w.heap.size w w' := by
  have g0 := h.c0
  have g1 := h.c1
  have g2 := h.c2
  have g3 := h.c3
  have hN := h.hN
  have hs := h.hs
  have hl := h.hl
  have hba : Below w.heap.size w (w.alloc (.cells cs 54)) := (Below.refl _ _).alloc (Nat.le_refl _) _
  have HBA := hide hba
  clear hba
  go_enter Try.func15, Try.ntmps15
  go_wp2_with fail
  refine (put_nil_uint32 _ (by first | exact wf_wrap _ _ | go_wf | (simp [Lit.wf, IntKind.min, IntKind.max, IntKind.signed, IntKind.bits]; omega)) _).mono ?_
  rintro e w1 ⟨rfl, hb⟩
  go_wp2
  go_returns
  exact ⟨rfl, HBA.out.trans (hb.mono (by simp))⟩

set_option maxRecDepth 20000 in
set_option maxHeartbeats 800000 in
theorem putn_11 (cs : Array Value) (N : Nat) (s : ByteArray) (ao : Option Addr) (len cap : Nat) (w : World) (h : AddCells cs 11 N s ao len cap) : Calls Try.prog 15 #[.pointer none, .agg cs] w fun e w' => e = .returned (.tuple #[]) ∧ Below w.heap.size w w' := by
  have g0 := h.c0
  have g1 := h.c1
  have g2 := h.c2
  have g3 := h.c3
  have hN := h.hN
  have hs := h.hs
  have hl := h.hl
  have hba : Below w.heap.size w (w.alloc (.cells cs 54)) := (Below.refl _ _).alloc (Nat.le_refl _) _
  have HBA := hide hba
  clear hba
  go_enter Try.func15, Try.ntmps15
  go_wp2_with fail
  refine (put_nil_int64 _ (by first | exact wf_wrap _ _ | go_wf | (simp [Lit.wf, IntKind.min, IntKind.max, IntKind.signed, IntKind.bits]; omega)) _).mono ?_
  rintro e w1 ⟨rfl, hb⟩
  go_wp2
  go_returns
  exact ⟨rfl, HBA.out.trans (hb.mono (by simp))⟩

set_option maxRecDepth 20000 in
set_option maxHeartbeats 800000 in
theorem putn_12 (cs : Array Value) (N : Nat) (s : ByteArray) (ao : Option Addr) (len cap : Nat) (w : World) (h : AddCells cs 12 N s ao len cap) : Calls Try.prog 15 #[.pointer none, .agg cs] w fun e w' => e = .returned (.tuple #[]) ∧ Below w.heap.size w w' := by
  have g0 := h.c0
  have g1 := h.c1
  have g2 := h.c2
  have g3 := h.c3
  have hN := h.hN
  have hs := h.hs
  have hl := h.hl
  have hba : Below w.heap.size w (w.alloc (.cells cs 54)) := (Below.refl _ _).alloc (Nat.le_refl _) _
  have HBA := hide hba
  clear hba
  go_enter Try.func15, Try.ntmps15
  go_wp2_with fail
  refine (put_nil_uint64 _ (by first | exact wf_wrap _ _ | go_wf | (simp [Lit.wf, IntKind.min, IntKind.max, IntKind.signed, IntKind.bits]; omega)) _).mono ?_
  rintro e w1 ⟨rfl, hb⟩
  go_wp2
  go_returns
  exact ⟨rfl, HBA.out.trans (hb.mono (by simp))⟩

set_option maxRecDepth 20000 in
set_option maxHeartbeats 800000 in
theorem putn_13 (cs : Array Value) (N : Nat) (s : ByteArray) (ao : Option Addr) (len cap : Nat) (w : World) (h : AddCells cs 13 N s ao len cap) : Calls Try.prog 15 #[.pointer none, .agg cs] w fun e w' => e = .returned (.tuple #[]) ∧ Below w.heap.size w w' := by
  have g0 := h.c0
  have g1 := h.c1
  have g2 := h.c2
  have g3 := h.c3
  have hN := h.hN
  have hs := h.hs
  have hl := h.hl
  have hba : Below w.heap.size w (w.alloc (.cells cs 54)) := (Below.refl _ _).alloc (Nat.le_refl _) _
  have HBA := hide hba
  clear hba
  go_enter Try.func15, Try.ntmps15
  go_wp2_with fail
  refine (evar_nil len (by omega) _).mono ?_
  rintro e w1 ⟨rfl, hb⟩
  have k3 := (Blk.below (Blk.made w cs 54) hb (by simp)).cell 3
  rw [g3] at k3
  go_wp2_with fail
  refine (eraw_nil _ _).mono ?_
  rintro e w2 ⟨rfl, rfl⟩
  go_wp2
  go_returns
  exact ⟨rfl, HBA.out.trans (hb.mono (by simp))⟩

set_option maxRecDepth 20000 in
set_option maxHeartbeats 800000 in
theorem putn_0 (cs : Array Value) (kind : Int) (N : Nat) (s : ByteArray) (ao : Option Addr) (len cap : Nat) (w : World) (h : AddCells cs kind N s ao len cap) (n1 : (kind == 1) = false) (n2 : (kind == 2) = false) (n3 : (kind == 3) = false) (n4 : (kind == 4) = false) (n5 : (kind == 5) = false) (n6 : (kind == 6) = false) (n7 : (kind == 7) = false) (n8 : (kind == 8) = false) (n9 : (kind == 9) = false) (n10 : (kind == 10) = false) (n11 : (kind == 11) = false) (n12 : (kind == 12) = false) (n13 : (kind == 13) = false) : Calls Try.prog 15 #[.pointer none, .agg cs] w fun e w' => e = .returned (.tuple #[]) ∧ Below w.heap.size w w' := by
  have g0 := h.c0
  go_enter Try.func15, Try.ntmps15
  go_wp2
  go_returns
  exact ⟨rfl, (Below.refl _ _).alloc (Nat.le_refl _) _⟩
theorem put_nil (cs : Array Value) (kind : Int) (N : Nat) (s : ByteArray) (ao : Option Addr) (len cap : Nat) (w : World) (h : AddCells cs kind N s ao len cap) : Calls Try.prog 15 #[.pointer none, .agg cs] w fun e w' => e = .returned (.tuple #[]) ∧ Below w.heap.size w w' := by
  by_cases k1 : kind = 1
  · subst k1
    exact putn_1 cs N s ao len cap w h
  by_cases k2 : kind = 2
  · subst k2
    exact putn_2 cs N s ao len cap w h
  by_cases k3 : kind = 3
  · subst k3
    exact putn_3 cs N s ao len cap w h
  by_cases k4 : kind = 4
  · subst k4
    exact putn_4 cs N s ao len cap w h
  by_cases k5 : kind = 5
  · subst k5
    exact putn_5 cs N s ao len cap w h
  by_cases k6 : kind = 6
  · subst k6
    exact putn_6 cs N s ao len cap w h
  by_cases k7 : kind = 7
  · subst k7
    exact putn_7 cs N s ao len cap w h
  by_cases k8 : kind = 8
  · subst k8
    exact putn_8 cs N s ao len cap w h
  by_cases k9 : kind = 9
  · subst k9
    exact putn_9 cs N s ao len cap w h
  by_cases k10 : kind = 10
  · subst k10
    exact putn_10 cs N s ao len cap w h
  by_cases k11 : kind = 11
  · subst k11
    exact putn_11 cs N s ao len cap w h
  by_cases k12 : kind = 12
  · subst k12
    exact putn_12 cs N s ao len cap w h
  by_cases k13 : kind = 13
  · subst k13
    exact putn_13 cs N s ao len cap w h
  exact putn_0 cs kind N s ao len cap w h (beq_eq_false_iff_ne.2 k1) (beq_eq_false_iff_ne.2 k2) (beq_eq_false_iff_ne.2 k3) (beq_eq_false_iff_ne.2 k4) (beq_eq_false_iff_ne.2 k5) (beq_eq_false_iff_ne.2 k6) (beq_eq_false_iff_ne.2 k7) (beq_eq_false_iff_ne.2 k8) (beq_eq_false_iff_ne.2 k9) (beq_eq_false_iff_ne.2 k10) (beq_eq_false_iff_ne.2 k11) (beq_eq_false_iff_ne.2 k12) (beq_eq_false_iff_ne.2 k13)
end Go.Proofs.Ytinjcefekbpabab
