/- Objects: as cells, in memory, read. -/
import Derived.Test.YtjcfndiceinkjabDoorOBm
namespace Go.Proofs.YtjcfndiceinkjabDoor
set_option linter.unusedVariables false
set_option linter.unusedSimpArgs false
open Go.RowKit

theorem strOf_u8 (xs : List UInt8) : strOfNums (xs.map fun u => (u.toNat : Int)) = ⟨xs.toArray⟩ := by
  have : ((fun n : Int => UInt8.ofNat n.toNat) ∘ fun u : UInt8 => (u.toNat : Int)) = id := by funext u; simp
  simp [strOfNums, this]

theorem conv_rd (w : World) (v : Value) (xs : List UInt8) (h : Rd w v xs) : (convert 23 9 v).run Tryd.prog w = .ok (.string ⟨xs.toArray⟩) w := by
  obtain ⟨ao, c, rfl, hc, hm, hcel⟩ := h
  rcases Nat.eq_zero_or_pos xs.length with h0 | hpos
  · obtain rfl : xs = [] := List.eq_nil_of_length_eq_zero h0
    rcases hcel with ⟨rfl, _⟩ | ⟨b, o, rfl, _⟩
    · exact run_convert_bytes_nil (P := Tryd.prog) w 23 5 Tryd.underlying23 Tryd.underlying5 _ _ 9 Tryd.underlying9
    · exact run_convert_bytes_arg (P := Tryd.prog) w 23 5 Tryd.underlying23 Tryd.underlying5 b o 0 c [] rfl (fun i hi => by omega) 9 Tryd.underlying9
  · obtain ⟨b, o, rfl, hcell⟩ : ∃ b o, ao = some ⟨b, o, none⟩ ∧ ∀ i (h : i < xs.length), w.cell? ⟨b, o + i, none⟩ = some (u8c xs[i]) := by
      rcases hcel with ⟨_, h⟩ | h
      · omega
      · exact h
    have := run_convert_bytes_arg (P := Tryd.prog) w 23 5 Tryd.underlying23 Tryd.underlying5 b o xs.length c (xs.map fun u => (u.toNat : Int)) (by simp)
      (fun i hi => by rw [hcell i hi]; simp [u8c, List.getD, List.getElem?_eq_getElem hi]) 9 Tryd.underlying9
    rw [this, strOf_u8]

theorem conv_rdA (w : World) (v : Value) (xs : List UInt8) (h : RdA w v xs) : (convert 23 9 v).run Tryd.prog w = .ok (.string ⟨xs.toArray⟩) w := by
  rcases h with h | ⟨a, rfl, rfl⟩
  · exact conv_rd w v xs h
  · kernel_rfl
theorem bytesEqual_any (w : World) (v1 v2 : Value) (x y : List UInt8) (h1 : RdA w v1 x) (h2 : RdA w v2 y) : Calls Tryd.prog 89 #[v1, v2] w fun e w' => e = .returned (.bool (x == y)) ∧ w' = w := by
  have c1 := conv_rdA w v1 x h1
  have c2 := conv_rdA w v2 y h2
  obtain ⟨a1, d1, rfl, -⟩ := h1.slice
  obtain ⟨a2, d2, rfl, -⟩ := h2.slice
  clear h1 h2
  go_enter Tryd.func89, Tryd.ntmps89
  go_wp2
  go_ret
  exact ⟨rfl, rfl⟩
/-- An object. -/
structure ObjR where
  kind : Nat
  data : List UInt8
  parts : List PartR
  items : List ItemR
  tree : List UInt8
  parents : List (List UInt8)
  time : Int
  note : List UInt8
/-- Where its lists lie. -/
structure ObjV where
  d : Value
  p : Value
  i : Value
  k : Value
def objL (o : ObjR) (v : ObjV) : List Value := .int .u8 (o.kind : Int) :: v.d :: v.p :: v.i :: (o.tree.map u8c ++ [v.k, .int .i64 o.time, .string ⟨o.note.toArray⟩])
structure ObjOk (o : ObjR) : Prop where
  t : o.tree.length = 32
  p : ∀ x ∈ o.parts, okP x
  i : ∀ x ∈ o.items, okI x
  k : ∀ x ∈ o.parents, okK x
structure ObjRd (w : World) (o : ObjR) (v : ObjV) : Prop where
  ok : ObjOk o
  d : RdA w v.d o.data
  p : RowR w v.p 33 (o.parts.map partC)
  i : RowR w v.i 35 (o.items.map itemC)
  k : RowR w v.k 32 (o.parents.map keyC)
theorem ObjRd.below {w w' : World} {o : ObjR} {v : ObjV} (h : ObjRd w o v) (hb : Below w.heap.size w w') : ObjRd w' o v := ⟨h.ok, h.d.below hb, h.p.below hb, h.i.below hb, h.k.below hb⟩
def ObjAt (w : World) (z : Nat) (o : ObjR) (v : ObjV) : Prop := Blk w z (objL o v).toArray 30
theorem ObjAt.below {w w' : World} {z : Nat} {o : ObjR} {v : ObjV} (h : ObjAt w z o v) (hb : Below w.heap.size w w') : ObjAt w' z o v := Blk.below h hb (Blk.lt h)
theorem ObjAt.cKind {w : World} {z : Nat} {o : ObjR} {v : ObjV} (h : ObjAt w z o v) : w.cell? ⟨z, 0, none⟩ = some (.int .u8 (o.kind : Int)) := by rw [Blk.cell h]; rfl
theorem ObjAt.cD {w : World} {z : Nat} {o : ObjR} {v : ObjV} (h : ObjAt w z o v) : w.cell? ⟨z, 1, none⟩ = some v.d := by rw [Blk.cell h]; rfl
theorem ObjAt.cP {w : World} {z : Nat} {o : ObjR} {v : ObjV} (h : ObjAt w z o v) : w.cell? ⟨z, 2, none⟩ = some v.p := by rw [Blk.cell h]; rfl
theorem ObjAt.cI {w : World} {z : Nat} {o : ObjR} {v : ObjV} (h : ObjAt w z o v) : w.cell? ⟨z, 3, none⟩ = some v.i := by rw [Blk.cell h]; rfl
theorem objL_high (o : ObjR) (v : ObjV) (ht : o.tree.length = 32) (j : Nat) (r : Value) (hr : [v.k, Value.int .i64 o.time, Value.string ⟨o.note.toArray⟩][j]? = some r) : (objL o v).toArray[36 + j]? = some r := by
  unfold objL
  rw [List.getElem?_toArray, show 36 + j = (32 + j) + 1 + 1 + 1 + 1 by omega, List.getElem?_cons_succ, List.getElem?_cons_succ, List.getElem?_cons_succ, List.getElem?_cons_succ, List.getElem?_append_right (by simp [ht]), List.length_map, ht, show 32 + j - 32 = j by omega]
  exact hr
theorem ObjAt.cK {w : World} {z : Nat} {o : ObjR} {v : ObjV} (h : ObjAt w z o v) (ht : o.tree.length = 32) : w.cell? ⟨z, 36, none⟩ = some v.k := by rw [Blk.cell h]; exact objL_high o v ht 0 _ rfl
theorem ObjAt.cTime {w : World} {z : Nat} {o : ObjR} {v : ObjV} (h : ObjAt w z o v) (ht : o.tree.length = 32) : w.cell? ⟨z, 37, none⟩ = some (.int .i64 o.time) := by rw [Blk.cell h]; exact objL_high o v ht 1 _ rfl
theorem ObjAt.cNote {w : World} {z : Nat} {o : ObjR} {v : ObjV} (h : ObjAt w z o v) (ht : o.tree.length = 32) : w.cell? ⟨z, 38, none⟩ = some (.string ⟨o.note.toArray⟩) := by rw [Blk.cell h]; exact objL_high o v ht 2 _ rfl
theorem ObjAt.tree {w : World} {z : Nat} {o : ObjR} {v : ObjV} (h : ObjAt w z o v) : w.rangeAt z 4 (o.tree.map u8c) := fun j u hj => by
  have hjl : j < (o.tree.map u8c).length := (List.getElem?_eq_some_iff.1 hj).1
  rw [Blk.cell h, ← hj]
  unfold objL
  rw [List.getElem?_toArray, show 4 + j = j + 1 + 1 + 1 + 1 by omega, List.getElem?_cons_succ, List.getElem?_cons_succ, List.getElem?_cons_succ, List.getElem?_cons_succ, List.getElem?_append_left hjl]
def sameO (a b : ObjR) : Bool := decide (a.kind = b.kind) && (a.data == b.data) && decide (a.parts = b.parts) && decide (a.items = b.items) && decide (a.tree = b.tree) && decide (a.parents = b.parents) && decide (a.time = b.time) && (a.note == b.note)
theorem sameO_self (a : ObjR) : sameO a a = true := by simp [sameO]
/-- Two objects in memory. -/
structure Two (w : World) (z1 z2 : Nat) (a b : ObjR) (va vb : ObjV) : Prop where
  A : ObjAt w z1 a va
  B : ObjAt w z2 b vb
  RA : ObjRd w a va
  RB : ObjRd w b vb
theorem Two.below {w w' : World} {z1 z2 : Nat} {a b : ObjR} {va vb : ObjV} (h : Two w z1 z2 a b va vb) (hb : Below w.heap.size w w') : Two w' z1 z2 a b va vb := ⟨h.A.below hb, h.B.below hb, h.RA.below hb, h.RB.below hb⟩
theorem wpList_load_keyAt {ops : Array Oper} {rest : List Oper} {op : Oper} {a : Act} {w : World} {Q : Exit → Act → World → Prop} (x : Operand)
    (z o : Nat) (bs : List UInt8) (hl : bs.length = 32) (hc : w.rangeAt z o (bs.map u8c)) (ho : op.op = .load 27 x) (hx : a.eval x = .pointer (some ⟨z, o, none⟩)) (hg : Region.wanted op (yielded ops a.tmps) = true)
    (h : wpList Tryd.prog ops Q rest (a.put op.dst (keyV bs)) w) : wpList Tryd.prog ops Q (op :: rest) a w :=
  wpList_val _ hg (run_load ho hx (loadAt_key hl hc)) h
theorem two_made (w : World) (a b : ObjR) (va vb : ObjV) (ha : ObjRd w a va) (hb : ObjRd w b vb) : Two ((w.alloc (.cells (objL a va).toArray 30)).alloc (.cells (objL b vb).toArray 30)) w.heap.size (w.heap.size + 1) a b va vb ∧ Below w.heap.size w ((w.alloc (.cells (objL a va).toArray 30)).alloc (.cells (objL b vb).toArray 30)) := by
  have hw : Below w.heap.size w ((w.alloc (.cells (objL a va).toArray 30)).alloc (.cells (objL b vb).toArray 30)) := ((Below.refl _ _).alloc (Nat.le_refl _) _).alloc (by simp) _
  exact ⟨⟨(Blk.made w _ _).alloc _, blk_made1 w _ _ _ _, ha.below hw, hb.below hw⟩, hw⟩
end Go.Proofs.YtjcfndiceinkjabDoor

/- Same, as the program tells it. -/
namespace Go.Proofs.YtjcfndiceinkjabDoor
set_option linter.unusedVariables false
set_option linter.unusedSimpArgs false
open Go.RowKit

def BoolC (w : World) (r : Bool) (e : Ending) (w' : World) : Prop := e = .returned (.bool r) ∧ Below w.heap.size w w'
set_option maxRecDepth 20000 in
set_option maxHeartbeats 2000000 in
theorem same_any (w : World) (a b : ObjR) (va vb : ObjV) (ha : ObjRd w a va) (hb : ObjRd w b vb) : Calls Tryd.prog 60 #[.agg (objL a va).toArray, .agg (objL b vb).toArray] w (BoolC w (sameO a b)) := by
  obtain ⟨hT0, hW0⟩ := two_made w a b va vb ha hb
  have HT := hide hT0
  have HW := hide hW0
  have cA := hT0.A.cKind
  have cB := hT0.B.cKind
  have dA := hT0.A.cD
  have dB := hT0.B.cD
  have OA := hide ha.ok
  have OB := hide hb.ok
  clear ha hb hT0 hW0
  by_cases hk : a.kind = b.kind
  · have hkb : ((a.kind : Int) == (b.kind : Int)) = true := by simp; omega
    have HK := hide hk
    clear hk
    go_enter Tryd.func60, Tryd.ntmps60
    go_wp2_with fail
    refine (bytesEqual_any _ _ _ a.data b.data HT.out.RA.d HT.out.RB.d).mono ?_
    rintro e w1 ⟨rfl, hw1⟩
    rw [← hw1] at HT HW
    clear cA cB dA dB hkb hw1
    have cA := HT.out.A.cP
    have cB := HT.out.B.cP
    cases hd : (a.data == b.data) with
    | false =>
      have HE : Hid (sameO a b = false) := hide (by unfold sameO; rw [hd]; simp)
      go_wp2
      go_ret
      exact ⟨by rw [HE.out]; rfl, HW.out⟩
    | true =>
    have HD := hide hd
    clear hd
    go_wp2_with fail
    refine (equalP w1 _ _ a.parts b.parts OA.out.p OB.out.p HT.out.RA.p HT.out.RB.p).mono ?_
    rintro e w2 ⟨rfl, hb2⟩
    have HT2 := hide (HT.out.below hb2)
    have HW2 := hide (HW.out.trans (hb2.mono HW.out.size))
    clear HT HW hb2 cA cB
    have cA := HT2.out.A.cI
    have cB := HT2.out.B.cI
    cases hd : decide (a.parts = b.parts) with
    | false =>
      have HE : Hid (sameO a b = false) := hide (by unfold sameO; rw [hd]; simp)
      go_wp2
      go_ret
      exact ⟨by rw [HE.out]; rfl, HW2.out⟩
    | true =>
    have HP := hide hd
    clear hd
    go_wp2_with fail
    refine (equalI w2 _ _ a.items b.items OA.out.i OB.out.i HT2.out.RA.i HT2.out.RB.i).mono ?_
    rintro e w3 ⟨rfl, hb3⟩
    have HT3 := hide (HT2.out.below hb3)
    have HW3 := hide (HW2.out.trans (hb3.mono HW2.out.size))
    clear HT2 HW2 hb3 cA cB
    have cA := HT3.out.A.cK OA.out.t
    have cB := HT3.out.B.cK OB.out.t
    have hg := keysGuard .eql a.tree b.tree
    have hq := keysEql a.tree b.tree OA.out.t OB.out.t
    cases hd : decide (a.items = b.items) with
    | false =>
      have HE : Hid (sameO a b = false) := hide (by unfold sameO; rw [hd]; simp)
      clear hg hq
      go_wp2
      go_ret
      exact ⟨by rw [HE.out]; rfl, HW3.out⟩
    | true =>
    have HI := hide hd
    clear hd
    cases hd : decide (a.tree = b.tree) with
    | false =>
      have HE : Hid (sameO a b = false) := hide (by unfold sameO; rw [hd]; simp)
      rw [hd] at hq
      clear hd
      go_wp2_with (first | ((with_reducible refine wpList_load_keyAt (.tmp 32) w.heap.size 4 a.tree OA.out.t HT3.out.A.tree ?_ ?_ ?_ ?_); rfl; rfl; rfl) | ((with_reducible refine wpList_load_keyAt (.tmp 34) (w.heap.size + 1) 4 b.tree OB.out.t HT3.out.B.tree ?_ ?_ ?_ ?_); rfl; rfl; rfl))
      go_ret
      exact ⟨by rw [HE.out]; rfl, HW3.out⟩
    | true =>
    have HTr := hide hd
    rw [hd] at hq
    clear hd
    go_wp2_with (first | ((with_reducible refine wpList_load_keyAt (.tmp 32) w.heap.size 4 a.tree OA.out.t HT3.out.A.tree ?_ ?_ ?_ ?_); rfl; rfl; rfl) | ((with_reducible refine wpList_load_keyAt (.tmp 34) (w.heap.size + 1) 4 b.tree OB.out.t HT3.out.B.tree ?_ ?_ ?_ ?_); rfl; rfl; rfl))
    refine (equalK w3 _ _ a.parents b.parents OA.out.k OB.out.k HT3.out.RA.k HT3.out.RB.k).mono ?_
    rintro e w4 ⟨rfl, hb4⟩
    have HT4 := hide (HT3.out.below hb4)
    have HW4 := hide (HW3.out.trans (hb4.mono HW3.out.size))
    clear HT3 HW3 hb4 cA cB hg hq
    have cA := HT4.out.A.cTime OA.out.t
    have cB := HT4.out.B.cTime OB.out.t
    have dA := HT4.out.A.cNote OA.out.t
    have dB := HT4.out.B.cNote OB.out.t
    cases hd : decide (a.parents = b.parents) with
    | false =>
      have HE : Hid (sameO a b = false) := hide (by unfold sameO; rw [hd]; simp)
      go_wp2
      go_ret
      exact ⟨by rw [HE.out]; rfl, HW4.out⟩
    | true =>
    have HPa := hide hd
    clear hd
    by_cases ht : a.time = b.time
    · have htb : (a.time == b.time) = true := by simpa using ht
      have HE : Hid (sameO a b = (a.note == b.note)) := hide (by unfold sameO; rw [decide_eq_true HK.out, HD.out, HP.out, HI.out, HTr.out, HPa.out, decide_eq_true ht]; rfl)
      clear ht
      go_wp2
      go_ret
      exact ⟨by rw [HE.out]; rfl, HW4.out⟩
    · have htb : (a.time == b.time) = false := by simpa using ht
      have HE : Hid (sameO a b = false) := hide (by unfold sameO; rw [decide_eq_false ht]; simp)
      clear ht
      go_wp2
      go_ret
      exact ⟨by rw [HE.out]; rfl, HW4.out⟩
  · have hkb : ((a.kind : Int) == (b.kind : Int)) = false := by simp; omega
    have HE : Hid (sameO a b = false) := hide (by unfold sameO; rw [decide_eq_false hk]; rfl)
    go_enter Tryd.func60, Tryd.ntmps60
    go_wp2
    go_ret
    exact ⟨by rw [HE.out]; rfl, HW.out⟩
end Go.Proofs.YtjcfndiceinkjabDoor

/- Same, as the document tells it. -/
namespace Go.Proofs.YtjcfndiceinkjabDoor
set_option linter.unusedVariables false
set_option linter.unusedSimpArgs false
open Go.RowKit

theorem below_d (W : World) : Below W.heap.size W W.drew := (Below.refl W.heap.size W).drew
theorem slice_of {v : Value} {ao b : Option Addr} {n m c d : Nat} (h : v = .slice ao n c) (h2 : v = .slice b m d) : b = ao ∧ m = n ∧ d = c := by
  rw [h] at h2; obtain ⟨rfl, rfl, rfl⟩ := (Value.slice.injEq ..).mp h2; exact ⟨rfl, rfl, rfl⟩
set_option maxRecDepth 20000 in
set_option maxHeartbeats 4000000 in
theorem rsame_any (w : World) (a b : ObjR) (va vb : ObjV) (ha : ObjRd w a va) (hb : ObjRd w b vb) : Calls Tryd.prog 8 #[.agg (objL a va).toArray, .agg (objL b vb).toArray] w (BoolC w (sameO a b)) := by
  obtain ⟨hT0, hW0⟩ := two_made w a b va vb ha hb
  have OA := hide ha.ok
  have OB := hide hb.ok
  obtain ⟨pa, ca, epa, hla⟩ := ha.p.slice
  obtain ⟨pb, cb, epb, hlb⟩ := hb.p.slice
  obtain ⟨ia, da, eia, hia⟩ := ha.i.slice
  obtain ⟨ib, db, eib, hib⟩ := hb.i.slice
  rw [List.length_map] at epa epb eia eib hla hlb hia hib
  obtain ⟨n1, hn1⟩ : ∃ n, n = a.parts.length := ⟨_, rfl⟩
  obtain ⟨n2, hn2⟩ : ∃ n, n = b.parts.length := ⟨_, rfl⟩
  obtain ⟨m1, hm1⟩ : ∃ n, n = a.items.length := ⟨_, rfl⟩
  obtain ⟨m2, hm2⟩ : ∃ n, n = b.items.length := ⟨_, rfl⟩
  rw [← hn1] at epa hla
  rw [← hn2] at epb hlb
  rw [← hm1] at eia hia
  rw [← hm2] at eib hib
  have HT := hide hT0
  have HW := hide hW0
  have HN1 := hide hn1
  have HN2 := hide hn2
  have HM1 := hide hm1
  have HM2 := hide hm2
  have EPA := hide epa
  have EPB := hide epb
  have EIA := hide eia
  have EIB := hide eib
  have c1 := hT0.A.cKind
  have c2 := hT0.B.cKind
  have c3 := hT0.A.cD
  have c4 := hT0.B.cD
  have c5 := hT0.A.cP
  have c6 := hT0.B.cP
  have c7 := hT0.A.cI
  have c8 := hT0.B.cI
  rw [epa] at c5
  rw [epb] at c6
  rw [eia] at c7
  rw [eib] at c8
  have v1 := conv_rdA _ _ _ hT0.RA.d
  have v2 := conv_rdA _ _ _ hT0.RB.d
  clear ha hb hT0 hW0 hn1 hn2 hm1 hm2 epa epb eia eib
  by_cases hk : ¬ a.kind = b.kind
  · have hkb : ((a.kind : Int) == (b.kind : Int)) = false := by simp; omega
    have HE : Hid (sameO a b = false) := hide (by unfold sameO; rw [decide_eq_false hk]; rfl)
    go_enter Tryd.func8, Tryd.ntmps8
    go_wp2
    go_ret
    exact ⟨by rw [HE.out]; rfl, HW.out⟩
  replace hk := Decidable.not_not.1 hk
  have hkb : ((a.kind : Int) == (b.kind : Int)) = true := by simp; omega
  have hkn : ((a.kind : Int) != (b.kind : Int)) = false := by simp; omega
  have HK := hide hk
  clear hk
  cases hd : (a.data == b.data) with
  | false =>
    have HE : Hid (sameO a b = false) := hide (by unfold sameO; rw [hd]; simp)
    have hdn : (a.data != b.data) = true := by unfold bne; rw [hd]; rfl
    go_enter Tryd.func8, Tryd.ntmps8
    go_wp2
    go_ret
    exact ⟨by rw [HE.out]; rfl, HW.out⟩
  | true =>
  have HD := hide hd
  have hdn : (a.data != b.data) = false := by unfold bne; rw [hd]; rfl
  by_cases hnn : ¬ n1 = n2
  · have hnb : ((n1 : Int) == (n2 : Int)) = false := by simp; omega
    have hnb2 : ((n1 : Int) != (n2 : Int)) = true := by simp; omega
    have HE : Hid (sameO a b = false) := hide (by
      have : ¬ a.parts = b.parts := fun e => hnn (by rw [HN1.out, HN2.out, e])
      unfold sameO; rw [decide_eq_false this]; simp)
    go_enter Tryd.func8, Tryd.ntmps8
    go_wp2
    go_ret
    exact ⟨by rw [HE.out]; rfl, HW.out⟩
  replace hnn := Decidable.not_not.1 hnn
  subst hnn
  by_cases hmm : ¬ m1 = m2
  · have hmb : ((m1 : Int) == (m2 : Int)) = false := by simp; omega
    have hmb2 : ((m1 : Int) != (m2 : Int)) = true := by simp; omega
    have HE : Hid (sameO a b = false) := hide (by
      have : ¬ a.items = b.items := fun e => hmm (by rw [HM1.out, HM2.out, e])
      unfold sameO; rw [decide_eq_false this]; simp)
    go_enter Tryd.func8, Tryd.ntmps8
    go_wp2
    go_ret
    exact ⟨by rw [HE.out]; rfl, HW.out⟩
  replace hmm := Decidable.not_not.1 hmm
  subst hmm
  go_enter Tryd.func8, Tryd.ntmps8
  go_wp2
  clear c1 c2 c3 c4 c5 c6 c7 c8 v1 v2 hkb hkn hd hdn
  go_loopw [5] (fun t wr => ∃ k : Nat, t = .int .i64 k ∧ k ≤ n1 ∧ a.parts.take k = b.parts.take k ∧ Two wr w.heap.size (w.heap.size + 1) a b va vb ∧ Below w.heap.size w wr) (fun t _ => n1 - (intOf t).toNat)
  case atStart => exact ⟨0, rfl, by omega, rfl, HT.out, HW.out⟩
  case round =>
    obtain ⟨k, rfl, hk, ht, hTw, hW⟩ := hrel
    have HT := hide ht
    have HTw := hide hTw
    have e1 := hTw.A.cP
    have e2 := hTw.B.cP
    rw [EPA.out] at e1
    rw [EPB.out] at e2
    clear ht
    by_cases hlt : k < n1
    · have hki : (k : Int) < (n1 : Int) := by omega
      have k1 : k < a.parts.length := by rw [← HN1.out]; exact hlt
      have k2 : k < b.parts.length := by rw [← HN2.out]; exact hlt
      obtain ⟨b1, s1, d1, f1, r1⟩ := hTw.RA.p.at k (by rw [List.length_map]; exact k1)
      obtain ⟨b2, s2, d2, f2, r2⟩ := hTw.RB.p.at k (by rw [List.length_map]; exact k2)
      obtain ⟨g1, -, -⟩ := slice_of EPA.out f1
      obtain ⟨g2, -, -⟩ := slice_of EPB.out f2
      subst g1 g2
      rw [List.getElem_map] at r1 r2
      obtain ⟨p, hp⟩ : ∃ p, p = a.parts[k] := ⟨_, rfl⟩
      obtain ⟨q, hq⟩ : ∃ q, q = b.parts[k] := ⟨_, rfl⟩
      have op : okP p := by rw [hp]; exact OA.out.p _ (List.getElem_mem _)
      have oq : okP q := by rw [hq]; exact OB.out.p _ (List.getElem_mem _)
      rw [← hp] at r1
      rw [← hq] at r2
      have R1 := hide (loadAt_part op (rangeAt_below r1 (below_d wr)))
      have R2 := hide (loadAt_part oq (rangeAt_below r2 (below_d wr)))
      have HP := hide hp
      have HQ := hide hq
      have hg := partGuard .neq p q
      have hne := partNeq p q op oq
      have y1 : wr.drew.cell? _ = _ := e1
      have y2 : wr.drew.cell? _ = _ := e2
      clear r1 r2 f1 f2 hp hq op oq hTw
      by_cases hpq : p = q
      · have hd : decide (p = q) = true := decide_eq_true hpq
        have HT2 : Hid (a.parts.take (k + 1) = b.parts.take (k + 1)) := hide (by
          rw [List.take_succ_eq_append_getElem k1, List.take_succ_eq_append_getElem k2, HT.out, ← HP.out, ← HQ.out, hpq])
        rw [hd] at hne
        clear hpq hd
        go_wp2
        refine wp_region_still_lit (by kernel_rfl) (by kernel_rfl) ?_
        still_step
        still_step
        still_step
        still_step
        refine wpStill_val (partV p) rfl (run_load rfl rfl R1.out) ?_
        still_step
        still_step
        still_step
        still_step
        refine wpStill_val (partV q) rfl (run_load rfl rfl R2.out) ?_
        still_step
        refine wpStill_nil ?_
        go_wp2
        exact ⟨⟨k + 1, by go_num, by omega, HT2.out, HTw.out.below (below_d wr), hW.drew⟩, by simp [intOf]; omega⟩
      · have hd : decide (p = q) = false := decide_eq_false hpq
        have HE : Hid (sameO a b = false) := hide (by
          have : ¬ a.parts = b.parts := fun e => hpq (by rw [HP.out, HQ.out]; congr 1)
          unfold sameO; rw [decide_eq_false this]; simp)
        rw [hd] at hne
        clear hpq hd
        go_wp2
        refine wp_region_still_lit (by kernel_rfl) (by kernel_rfl) ?_
        still_step
        still_step
        still_step
        still_step
        refine wpStill_val (partV p) rfl (run_load rfl rfl R1.out) ?_
        still_step
        still_step
        still_step
        still_step
        refine wpStill_val (partV q) rfl (run_load rfl rfl R2.out) ?_
        still_step
        refine wpStill_nil ?_
        go_wp2
        go_ret
        exact ⟨by rw [HE.out]; rfl, hW.drew⟩
    · have hki : ¬ (k : Int) < (n1 : Int) := by omega
      have HPr : Hid (a.parts = b.parts) := hide (by
        have := HT.out
        rwa [List.take_of_length_le (by rw [← HN1.out]; omega), List.take_of_length_le (by rw [← HN2.out]; omega)] at this)
      obtain ⟨wp, hwp⟩ : ∃ w0, w0 = wr := ⟨_, rfl⟩
      rw [← hwp] at HTw hW e1 e2 ⊢
      have HWp := hide hW
      clear hTw hwp
      go_wp2
      clear e1 e2 HT
      go_loopw [6] (fun t wr => ∃ k : Nat, t = .int .i64 k ∧ k ≤ m1 ∧ a.items.take k = b.items.take k ∧ Two wr w.heap.size (w.heap.size + 1) a b va vb ∧ Below w.heap.size w wr) (fun t _ => m1 - (intOf t).toNat)
      case atStart => exact ⟨0, rfl, by omega, rfl, HTw.out, HWp.out⟩
      case round =>
        obtain ⟨k, rfl, hk, ht, hTw, hW⟩ := hrel
        have HT := hide ht
        have HTw := hide hTw
        have e1 := hTw.A.cI
        have e2 := hTw.B.cI
        rw [EIA.out] at e1
        rw [EIB.out] at e2
        clear ht
        by_cases hlt : k < m1
        · have hki : (k : Int) < (m1 : Int) := by omega
          have k1 : k < a.items.length := by rw [← HM1.out]; exact hlt
          have k2 : k < b.items.length := by rw [← HM2.out]; exact hlt
          obtain ⟨b1, s1, d1, f1, r1⟩ := hTw.RA.i.at k (by rw [List.length_map]; exact k1)
          obtain ⟨b2, s2, d2, f2, r2⟩ := hTw.RB.i.at k (by rw [List.length_map]; exact k2)
          obtain ⟨g1, -, -⟩ := slice_of EIA.out f1
          obtain ⟨g2, -, -⟩ := slice_of EIB.out f2
          subst g1 g2
          rw [List.getElem_map] at r1 r2
          obtain ⟨p, hp⟩ : ∃ p, p = a.items[k] := ⟨_, rfl⟩
          obtain ⟨q, hq⟩ : ∃ q, q = b.items[k] := ⟨_, rfl⟩
          have op : okI p := by rw [hp]; exact OA.out.i _ (List.getElem_mem _)
          have oq : okI q := by rw [hq]; exact OB.out.i _ (List.getElem_mem _)
          rw [← hp] at r1
          rw [← hq] at r2
          have R1 := hide (loadAt_item op (rangeAt_below r1 (below_d wr)))
          have R2 := hide (loadAt_item oq (rangeAt_below r2 (below_d wr)))
          have HP := hide hp
          have HQ := hide hq
          have hg := itemGuard .neq p q
          have hne := itemNeq p q op oq
          have y1 : wr.drew.cell? _ = _ := e1
          have y2 : wr.drew.cell? _ = _ := e2
          clear r1 r2 f1 f2 hp hq op oq hTw
          by_cases hpq : p = q
          · have hd : decide (p = q) = true := decide_eq_true hpq
            have HT2 : Hid (a.items.take (k + 1) = b.items.take (k + 1)) := hide (by
              rw [List.take_succ_eq_append_getElem k1, List.take_succ_eq_append_getElem k2, HT.out, ← HP.out, ← HQ.out, hpq])
            rw [hd] at hne
            clear hpq hd
            go_wp2
            refine wp_region_still_lit (by kernel_rfl) (by kernel_rfl) ?_
            still_step
            still_step
            still_step
            still_step
            refine wpStill_val (itemV p) rfl (run_load rfl rfl R1.out) ?_
            still_step
            still_step
            still_step
            still_step
            refine wpStill_val (itemV q) rfl (run_load rfl rfl R2.out) ?_
            still_step
            refine wpStill_nil ?_
            go_wp2
            exact ⟨⟨k + 1, by go_num, by omega, HT2.out, HTw.out.below (below_d wr), hW.drew⟩, by simp [intOf]; omega⟩
          · have hd : decide (p = q) = false := decide_eq_false hpq
            have HE : Hid (sameO a b = false) := hide (by
              have : ¬ a.items = b.items := fun e => hpq (by rw [HP.out, HQ.out]; congr 1)
              unfold sameO; rw [decide_eq_false this]; simp)
            rw [hd] at hne
            clear hpq hd
            go_wp2
            refine wp_region_still_lit (by kernel_rfl) (by kernel_rfl) ?_
            still_step
            still_step
            still_step
            still_step
            refine wpStill_val (itemV p) rfl (run_load rfl rfl R1.out) ?_
            still_step
            still_step
            still_step
            still_step
            refine wpStill_val (itemV q) rfl (run_load rfl rfl R2.out) ?_
            still_step
            refine wpStill_nil ?_
            go_wp2
            go_ret
            exact ⟨by rw [HE.out]; rfl, hW.drew⟩
        · have hki : ¬ (k : Int) < (m1 : Int) := by omega
          have HIt : Hid (a.items = b.items) := hide (by
            have := HT.out
            rwa [List.take_of_length_le (by rw [← HM1.out]; omega), List.take_of_length_le (by rw [← HM2.out]; omega)] at this)
          have HW3 := hide hW
          have cA := HTw.out.A.cK OA.out.t
          have cB := HTw.out.B.cK OB.out.t
          have hg := keysGuard .eql a.tree b.tree
          have hq := keysEql a.tree b.tree OA.out.t OB.out.t
          clear hTw hW HT
          cases hd : decide (a.tree = b.tree) with
          | false =>
            have HE : Hid (sameO a b = false) := hide (by unfold sameO; rw [hd]; simp)
            rw [hd] at hq
            clear hd
            go_wp2_with (first | ((with_reducible refine wpList_load_keyAt (.tmp 75) w.heap.size 4 a.tree OA.out.t HTw.out.A.tree ?_ ?_ ?_ ?_); rfl; rfl; rfl) | ((with_reducible refine wpList_load_keyAt (.tmp 77) (w.heap.size + 1) 4 b.tree OB.out.t HTw.out.B.tree ?_ ?_ ?_ ?_); rfl; rfl; rfl))
            go_ret
            exact ⟨by rw [HE.out]; rfl, HW3.out⟩
          | true =>
          have HTr := hide hd
          rw [hd] at hq
          clear hd
          go_wp2_with (first | ((with_reducible refine wpList_load_keyAt (.tmp 75) w.heap.size 4 a.tree OA.out.t HTw.out.A.tree ?_ ?_ ?_ ?_); rfl; rfl; rfl) | ((with_reducible refine wpList_load_keyAt (.tmp 77) (w.heap.size + 1) 4 b.tree OB.out.t HTw.out.B.tree ?_ ?_ ?_ ?_); rfl; rfl; rfl))
          refine (rsameKeys wr _ _ a.parents b.parents OA.out.k OB.out.k HTw.out.RA.k HTw.out.RB.k).mono ?_
          rintro e w4 ⟨rfl, hb4⟩
          have HT4 := hide (HTw.out.below hb4)
          have HW4 := hide (HW3.out.trans (hb4.mono HW3.out.size))
          clear HTw HW3 hb4 cA cB hg hq e1 e2
          have cA := HT4.out.A.cTime OA.out.t
          have cB := HT4.out.B.cTime OB.out.t
          have dA := HT4.out.A.cNote OA.out.t
          have dB := HT4.out.B.cNote OB.out.t
          cases hd : decide (a.parents = b.parents) with
          | false =>
            have HE : Hid (sameO a b = false) := hide (by unfold sameO; rw [hd]; simp)
            go_wp2
            go_ret
            exact ⟨by rw [HE.out]; rfl, HW4.out⟩
          | true =>
          have HPa := hide hd
          clear hd
          by_cases ht : a.time = b.time
          · have htb : (a.time == b.time) = true := by simpa using ht
            have HE : Hid (sameO a b = (a.note == b.note)) := hide (by unfold sameO; rw [decide_eq_true HK.out, HD.out, decide_eq_true HPr.out, decide_eq_true HIt.out, HTr.out, HPa.out, decide_eq_true ht]; rfl)
            clear ht
            go_wp2
            go_ret
            exact ⟨by rw [HE.out]; rfl, HW4.out⟩
          · have htb : (a.time == b.time) = false := by simpa using ht
            have HE : Hid (sameO a b = false) := hide (by unfold sameO; rw [decide_eq_false ht]; simp)
            clear ht
            go_wp2
            go_ret
            exact ⟨by rw [HE.out]; rfl, HW4.out⟩
end Go.Proofs.YtjcfndiceinkjabDoor
