/- Objects: as cells, in memory, read. -/
import Derived.Test.YtjcfndiceinkjaaDoorOB3
namespace Go.Proofs.YtjcfndiceinkjaaDoor
set_option linter.unusedVariables false
set_option linter.unusedSimpArgs false
open Go.RowKit

theorem strOf_u8 (xs : List UInt8) : strOfNums (xs.map fun u => (u.toNat : Int)) = ⟨xs.toArray⟩ := by
  have : ((fun n : Int => UInt8.ofNat n.toNat) ∘ fun u : UInt8 => (u.toNat : Int)) = id := by funext u; simp
  simp [strOfNums, this]

theorem conv_rd (w : World) (v : Value) (xs : List UInt8) (h : Rd w v xs) : (convert 23 9 v).run Tryd.prog w = .ok (.string ⟨xs.toArray⟩) w := by
  obtain ⟨ao, c, rfl, hc, hm, hcel⟩ := h
  rcases Nat.eq_zero_or_pos xs.length with h0 | hpos
  · obtain rfl : xs = [] := List.eq_nil_of_length_eq_zero h0
    rcases hcel with ⟨rfl, _⟩ | ⟨b, o, rfl, _⟩
    · exact run_convert_bytes_nil (P := Tryd.prog) w 23 5 Tryd.underlying23 Tryd.underlying5 _ _ 9 Tryd.underlying9
    · exact run_convert_bytes_arg (P := Tryd.prog) w 23 5 Tryd.underlying23 Tryd.underlying5 b o 0 c [] rfl (fun i hi => by omega) 9 Tryd.underlying9
  · obtain ⟨b, o, rfl, hcell⟩ : ∃ b o, ao = some ⟨b, o, none⟩ ∧ ∀ i (h : i < xs.length), w.cell? ⟨b, o + i, none⟩ = some (u8c xs[i]) := by
      rcases hcel with ⟨_, h⟩ | h
      · omega
      · exact h
    have := run_convert_bytes_arg (P := Tryd.prog) w 23 5 Tryd.underlying23 Tryd.underlying5 b o xs.length c (xs.map fun u => (u.toNat : Int)) (by simp)
      (fun i hi => by rw [hcell i hi]; simp [u8c, List.getD, List.getElem?_eq_getElem hi]) 9 Tryd.underlying9
    rw [this, strOf_u8]

theorem conv_rdA (w : World) (v : Value) (xs : List UInt8) (h : RdA w v xs) : (convert 23 9 v).run Tryd.prog w = .ok (.string ⟨xs.toArray⟩) w := by
  rcases h with h | ⟨a, rfl, rfl⟩
  · exact conv_rd w v xs h
  · kernel_rfl
theorem bytesEqual_any (w : World) (v1 v2 : Value) (x y : List UInt8) (h1 : RdA w v1 x) (h2 : RdA w v2 y) : Calls Tryd.prog 104 #[v1, v2] w fun e w' => e = .returned (.bool (x == y)) ∧ w' = w := by
  have c1 := conv_rdA w v1 x h1
  have c2 := conv_rdA w v2 y h2
  obtain ⟨a1, d1, rfl, -⟩ := h1.slice
  obtain ⟨a2, d2, rfl, -⟩ := h2.slice
  clear h1 h2
  go_enter Tryd.func104, Tryd.ntmps104
  go_wp2
  go_ret
  exact ⟨rfl, rfl⟩
/-- An object. -/
structure ObjR where
  kind : Nat
  data : List UInt8
  parts : List PartR
  items : List ItemR
  tree : List UInt8
  parents : List (List UInt8)
  time : Int
  note : List UInt8
/-- Where its lists lie. -/
structure ObjV where
  d : Value
  p : Value
  i : Value
  k : Value
def objL (o : ObjR) (v : ObjV) : List Value := .int .u8 (o.kind : Int) :: v.d :: v.p :: v.i :: (o.tree.map u8c ++ [v.k, .int .i64 o.time, .string ⟨o.note.toArray⟩])
structure ObjOk (o : ObjR) : Prop where
  t : o.tree.length = 32
  p : ∀ x ∈ o.parts, okP x
  i : ∀ x ∈ o.items, okI x
  k : ∀ x ∈ o.parents, okK x
structure ObjRd (w : World) (o : ObjR) (v : ObjV) : Prop where
  ok : ObjOk o
  d : RdA w v.d o.data
  p : RowR w v.p 33 (o.parts.map partC)
  i : RowR w v.i 35 (o.items.map itemC)
  k : RowR w v.k 32 (o.parents.map keyC)
theorem ObjRd.below {w w' : World} {o : ObjR} {v : ObjV} (h : ObjRd w o v) (hb : Below w.heap.size w w') : ObjRd w' o v := ⟨h.ok, h.d.below hb, h.p.below hb, h.i.below hb, h.k.below hb⟩
def ObjAt (w : World) (z : Nat) (o : ObjR) (v : ObjV) : Prop := Blk w z (objL o v).toArray 30
theorem ObjAt.below {w w' : World} {z : Nat} {o : ObjR} {v : ObjV} (h : ObjAt w z o v) (hb : Below w.heap.size w w') : ObjAt w' z o v := Blk.below h hb (Blk.lt h)
theorem ObjAt.cKind {w : World} {z : Nat} {o : ObjR} {v : ObjV} (h : ObjAt w z o v) : w.cell? ⟨z, 0, none⟩ = some (.int .u8 (o.kind : Int)) := by rw [Blk.cell h]; rfl
theorem ObjAt.cD {w : World} {z : Nat} {o : ObjR} {v : ObjV} (h : ObjAt w z o v) : w.cell? ⟨z, 1, none⟩ = some v.d := by rw [Blk.cell h]; rfl
theorem ObjAt.cP {w : World} {z : Nat} {o : ObjR} {v : ObjV} (h : ObjAt w z o v) : w.cell? ⟨z, 2, none⟩ = some v.p := by rw [Blk.cell h]; rfl
theorem ObjAt.cI {w : World} {z : Nat} {o : ObjR} {v : ObjV} (h : ObjAt w z o v) : w.cell? ⟨z, 3, none⟩ = some v.i := by rw [Blk.cell h]; rfl
theorem objL_high (o : ObjR) (v : ObjV) (ht : o.tree.length = 32) (j : Nat) (r : Value) (hr : [v.k, Value.int .i64 o.time, Value.string ⟨o.note.toArray⟩][j]? = some r) : (objL o v).toArray[36 + j]? = some r := by
  unfold objL
  rw [List.getElem?_toArray, show 36 + j = (32 + j) + 1 + 1 + 1 + 1 by omega, List.getElem?_cons_succ, List.getElem?_cons_succ, List.getElem?_cons_succ, List.getElem?_cons_succ, List.getElem?_append_right (by simp [ht]), List.length_map, ht, show 32 + j - 32 = j by omega]
  exact hr
theorem ObjAt.cK {w : World} {z : Nat} {o : ObjR} {v : ObjV} (h : ObjAt w z o v) (ht : o.tree.length = 32) : w.cell? ⟨z, 36, none⟩ = some v.k := by rw [Blk.cell h]; exact objL_high o v ht 0 _ rfl
theorem ObjAt.cTime {w : World} {z : Nat} {o : ObjR} {v : ObjV} (h : ObjAt w z o v) (ht : o.tree.length = 32) : w.cell? ⟨z, 37, none⟩ = some (.int .i64 o.time) := by rw [Blk.cell h]; exact objL_high o v ht 1 _ rfl
theorem ObjAt.cNote {w : World} {z : Nat} {o : ObjR} {v : ObjV} (h : ObjAt w z o v) (ht : o.tree.length = 32) : w.cell? ⟨z, 38, none⟩ = some (.string ⟨o.note.toArray⟩) := by rw [Blk.cell h]; exact objL_high o v ht 2 _ rfl
theorem ObjAt.tree {w : World} {z : Nat} {o : ObjR} {v : ObjV} (h : ObjAt w z o v) : w.rangeAt z 4 (o.tree.map u8c) := fun j u hj => by
  have hjl : j < (o.tree.map u8c).length := (List.getElem?_eq_some_iff.1 hj).1
  rw [Blk.cell h, ← hj]
  unfold objL
  rw [List.getElem?_toArray, show 4 + j = j + 1 + 1 + 1 + 1 by omega, List.getElem?_cons_succ, List.getElem?_cons_succ, List.getElem?_cons_succ, List.getElem?_cons_succ, List.getElem?_append_left hjl]
def sameO (a b : ObjR) : Bool := decide (a.kind = b.kind) && (a.data == b.data) && decide (a.parts = b.parts) && decide (a.items = b.items) && decide (a.tree = b.tree) && decide (a.parents = b.parents) && decide (a.time = b.time) && (a.note == b.note)
theorem sameO_self (a : ObjR) : sameO a a = true := by simp [sameO]
/-- Two objects in memory. -/
structure Two (w : World) (z1 z2 : Nat) (a b : ObjR) (va vb : ObjV) : Prop where
  A : ObjAt w z1 a va
  B : ObjAt w z2 b vb
  RA : ObjRd w a va
  RB : ObjRd w b vb
theorem Two.below {w w' : World} {z1 z2 : Nat} {a b : ObjR} {va vb : ObjV} (h : Two w z1 z2 a b va vb) (hb : Below w.heap.size w w') : Two w' z1 z2 a b va vb := ⟨h.A.below hb, h.B.below hb, h.RA.below hb, h.RB.below hb⟩
theorem wpList_load_keyAt {ops : Array Oper} {rest : List Oper} {op : Oper} {a : Act} {w : World} {Q : Exit → Act → World → Prop} (x : Operand)
    (z o : Nat) (bs : List UInt8) (hl : bs.length = 32) (hc : w.rangeAt z o (bs.map u8c)) (ho : op.op = .load 27 x) (hx : a.eval x = .pointer (some ⟨z, o, none⟩)) (hg : Region.wanted op (yielded ops a.tmps) = true)
    (h : wpList Tryd.prog ops Q rest (a.put op.dst (keyV bs)) w) : wpList Tryd.prog ops Q (op :: rest) a w :=
  wpList_val _ hg (run_load ho hx (loadAt_key hl hc)) h
theorem two_made (w : World) (a b : ObjR) (va vb : ObjV) (ha : ObjRd w a va) (hb : ObjRd w b vb) : Two ((w.alloc (.cells (objL a va).toArray 30)).alloc (.cells (objL b vb).toArray 30)) w.heap.size (w.heap.size + 1) a b va vb ∧ Below w.heap.size w ((w.alloc (.cells (objL a va).toArray 30)).alloc (.cells (objL b vb).toArray 30)) := by
  have hw : Below w.heap.size w ((w.alloc (.cells (objL a va).toArray 30)).alloc (.cells (objL b vb).toArray 30)) := ((Below.refl _ _).alloc (Nat.le_refl _) _).alloc (by simp) _
  exact ⟨⟨(Blk.made w _ _).alloc _, blk_made1 w _ _ _ _, ha.below hw, hb.below hw⟩, hw⟩
end Go.Proofs.YtjcfndiceinkjaaDoor
