/- An Enc: the blocks that are full, the bytes that wait; Raw. -/
import Derived.Test.YtjcfndiceinkjabDoorOE2
namespace Go.Proofs.YtjcfndiceinkjabDoor
set_option linter.unusedVariables false
set_option linter.unusedSimpArgs false
open Go.RowKit

/-- The blocks that are full, from the last one back, and the bytes in them; none of them lies in X. -/
def ChainL (w : World) (X : Nat → Prop) : List Nat → Option Addr → List UInt8 → Prop
  | [], p, pre => p = none ∧ pre = []
  | b :: l, p, pre => p = some ⟨b, 0, none⟩ ∧ ¬ X b ∧ ∃ p' pre' blk, ChainL w X l p' pre' ∧ Blk w b (.pointer p' :: blk.map u8c).toArray 86 ∧ blk.length = 256 ∧ pre = pre' ++ blk
def Chain (w : World) (X : Nat → Prop) (p : Option Addr) (pre : List UInt8) : Prop := ∃ l, ChainL w X l p pre
theorem Chain.nil {w : World} {X : Nat → Prop} : Chain w X none [] := ⟨[], rfl, rfl⟩
theorem Chain.cons {w : World} {X : Nat → Prop} {p : Option Addr} {pre blk : List UInt8} {b : Nat} (h : Chain w X p pre) (hB : Blk w b (.pointer p :: blk.map u8c).toArray 86) (hl : blk.length = 256) (hX : ¬ X b) : Chain w X (some ⟨b, 0, none⟩) (pre ++ blk) := by
  obtain ⟨l, h⟩ := h
  exact ⟨b :: l, rfl, hX, p, pre, blk, h, hB, hl, rfl⟩
theorem Chain.last {w : World} {X : Nat → Prop} {p : Option Addr} {pre : List UInt8} (h : Chain w X p pre) : (p = none ∧ pre = []) ∨ ∃ p' pre' blk b, p = some ⟨b, 0, none⟩ ∧ pre = pre' ++ blk ∧ Chain w X p' pre' ∧ Blk w b (.pointer p' :: blk.map u8c).toArray 86 ∧ blk.length = 256 ∧ ¬ X b := by
  obtain ⟨l, h⟩ := h
  cases l with
  | nil => exact .inl h
  | cons b l =>
    obtain ⟨h1, h2, p', pre', blk, h3, h4, h5, h6⟩ := h
    exact .inr ⟨p', pre', blk, b, h1, h6, ⟨l, h3⟩, h4, h5, h2⟩
theorem ChainL.grown {w w' : World} {X : Nat → Prop} {row : Option Nat} (hg : w.grownBy w' row) (hr : ∀ b, some b = row → X b) : ∀ (l : List Nat) (p : Option Addr) (pre : List UInt8), ChainL w X l p pre → ChainL w' X l p pre
  | [], _, _, h => h
  | b :: l, _, _, h => by
    obtain ⟨h1, h2, p', pre', blk, h3, h4, h5, h6⟩ := h
    exact ⟨h1, h2, p', pre', blk, ChainL.grown hg hr l p' pre' h3, h4.grown hg (fun e => h2 (hr _ e)), h5, h6⟩
theorem Chain.grown {w w' : World} {X : Nat → Prop} {p : Option Addr} {pre : List UInt8} {row : Option Nat} (h : Chain w X p pre) (hg : w.grownBy w' row) (hr : ∀ b, some b = row → X b) : Chain w' X p pre := by
  obtain ⟨l, h⟩ := h
  exact ⟨l, ChainL.grown hg hr l p pre h⟩
theorem ChainL.mod {w : World} {X : Nat → Prop} : ∀ (l : List Nat) (p : Option Addr) (pre : List UInt8), ChainL w X l p pre → pre.length % 256 = 0
  | [], _, _, h => by rw [h.2]; rfl
  | b :: l, _, _, h => by
    obtain ⟨_, _, p', pre', blk, h3, _, h5, h6⟩ := h
    have := ChainL.mod l p' pre' h3
    rw [h6, List.length_append, h5]
    omega
theorem Chain.mod {w : World} {X : Nat → Prop} {p : Option Addr} {pre : List UInt8} (h : Chain w X p pre) : pre.length % 256 = 0 := by
  obtain ⟨l, h⟩ := h
  exact ChainL.mod l p pre h

def encCells (p : Option Addr) (tl : List UInt8) (n : Nat) : List Value := .pointer p :: (tl.map u8c ++ [.int .i64 (n : Int)])
/-- An Enc at z that has these bytes: the blocks in X are the only old ones that anybody writes to. -/
structure EncSt (w : World) (X : Nat → Prop) (z : Nat) (xs : List UInt8) : Prop where
  mem : X z
  lt : ∀ b, X b → b < w.heap.size
  at' : ∃ p pre part tl, Chain w X p pre ∧ xs = pre ++ part ∧ part.length < 256 ∧ tl.length = 256 ∧ tl.take part.length = part ∧ Blk w z (encCells p tl xs.length).toArray 82
theorem EncSt.grown {w w' : World} {X : Nat → Prop} {z : Nat} {xs : List UInt8} {row : Option Nat} (h : EncSt w X z xs) (hg : w.grownBy w' row) (hz : some z ≠ row) (hr : ∀ b, some b = row → X b) : EncSt w' X z xs := by
  obtain ⟨m, l, p, pre, part, tl, h1, h2, h3, h4, h5, h6⟩ := h
  exact ⟨m, fun b hb => Nat.lt_of_lt_of_le (l b hb) hg.size, p, pre, part, tl, h1.grown hg hr, h2, h3, h4, h5, h6.grown hg hz⟩

theorem splice_enc (p : Option Addr) (tl ck : List UInt8) (n r : Nat) (ht : tl.length = 256) (hr : r + ck.length ≤ 256) : splice (encCells p tl n) (r + 1) (ck.map u8c) = encCells p (splice tl r ck) n := by
  unfold splice encCells
  simp only [List.take_succ_cons, List.cons_append, List.length_map]
  congr 1
  rw [List.take_append_of_le_length (by simp; omega), show r + 1 + ck.length = (r + ck.length) + 1 by omega, List.drop_succ_cons, List.drop_append_of_le_length (by simp; omega)]
  simp [List.map_take, List.map_drop]

/-- The builtin copy into a row that came in. -/
theorem step_copy_enc {ops : Array Oper} {o : Oper} {a : Act} {w : World} {K : Act → World → Prop} {Q : Exit → Act → World → Prop} {E : Prop} (hgd : o.guard = none) (d s : Operand)
    (ho : o.op = .call { callee := .builtin .copy, args := #[d, s], argTypes := #[23, 23] })
    (z r : Nat) (dl dc sb so sl sc : Nat) (hd : a.eval d = .slice (some ⟨z, r + 1, none⟩) dl dc) (hs : a.eval s = .slice (some ⟨sb, so, none⟩) sl sc)
    (p : Option Addr) (tl : List UInt8) (n : Nat) (hg : Blk w z (encCells p tl n).toArray 82) (ht : tl.length = 256) (ck : List UInt8) (hn : ck.length = Nat.min sl dl) (hfit : r + ck.length ≤ 256)
    (hsrc : ∀ i (h : i < ck.length), w.cell? ⟨sb, so + i, none⟩ = some (u8c ck[i]))
    (h : ∀ w', Hid (Blk w' z (encCells p (splice tl r ck) n).toArray 82) → Hid (w.grownBy w' (some z)) → K (a.put o.dst (goInt ck.length)) w') :
    if Region.wanted o (yielded ops a.tmps) = true then Oper.wp Tryd.prog o a w K Q else E := by
  have hw : Region.wanted o (yielded ops a.tmps) = true := by simp [Region.wanted, hgd]
  rw [if_pos hw]
  have hrun := run_copy_row (P := Tryd.prog) w 23 23 o.type 5 z (r + 1) dl dc ⟨sb, so, none⟩ sl sc (encCells p tl n).toArray 82 (ck.map u8c) Tryd.underlying23 infoU8s hg (by simpa using hn)
    (fun j v hj => by rw [Addr.add_mid]; exact rangeRd hsrc j v hj) (by simp [encCells, ht]; omega) (u8c_one ck)
  unfold Oper.wp
  simp [execOp, ho, resolve, invoke, builtin, hd, hs, hrun, Result.andThen]
  have e := splice_enc p tl ck n r ht hfit
  unfold splice at e
  simp only [List.length_map] at e
  rw [show r + 1 + ck.length = (r + 1) + ck.length from rfl, e]
  exact h _ (hide (setRow_heap w z _ _ _ _ hg)) (hide ⟨rfl, rfl, rfl, by simp [World.setRow], fun k _ hne => setRow_other w z k _ (fun e => hne (by rw [e]))⟩)

theorem enc_size {p : Option Addr} {tl : List UInt8} {n : Nat} (ht : tl.length = 256) : (encCells p tl n).toArray.size = 258 := by simp [encCells, ht]
theorem enc_0 (p : Option Addr) (tl : List UInt8) (n : Nat) : (encCells p tl n).toArray[0]? = some (.pointer p) := by simp [encCells]
theorem enc_257 (p : Option Addr) (tl : List UInt8) (n : Nat) (ht : tl.length = 256) : (encCells p tl n).toArray[257]? = some (.int .i64 (n : Int)) := by
  unfold encCells
  rw [List.getElem?_toArray, List.getElem?_cons_succ, List.getElem?_append_right (by simp [ht])]
  simp [ht]
theorem enc_set257 (p : Option Addr) (tl : List UInt8) (n m : Nat) (ht : tl.length = 256) : (encCells p tl n).toArray.setIfInBounds 257 (.int .i64 (m : Int)) = (encCells p tl m).toArray := by
  apply Array.ext'
  rw [Array.toList_setIfInBounds]
  simp only [encCells, List.set_cons_succ]
  rw [List.set_append_right _ _ (by simp [ht])]
  simp [ht]
theorem enc_set0 (p q : Option Addr) (tl : List UInt8) (n : Nat) : (encCells p tl n).toArray.setIfInBounds 0 (.pointer q) = (encCells q tl n).toArray := by
  apply Array.ext'
  rw [Array.toList_setIfInBounds]
  simp [encCells]

theorem slice256 (z o r : Nat) (hr : r < 256) (W : World) : (Instr.sliceAt 80 (.pointer (some ⟨z, o, none⟩)) (some (.int .i64 (r : Int))) none none).run Tryd.prog W = .ok (.slice (some ⟨z, r + o, none⟩) (256 - r) (256 - r)) W := by
  have ha : Tryd.prog.arrayLen 80 = 256 := by kernel_rfl
  have hs : (sizeOf (Tryd.prog.elem 80)).run Tryd.prog W = .ok 1 W := by kernel_rfl
  rw [run_sliceAt_array_l W 80 ⟨z, o, none⟩ (by kernel_rfl) .i64 r (by omega) (by rw [ha]; omega), hs, ha]
  simp only [Result.andThen, slicedAt, Int.toNat_natCast, Nat.mul_one]
  rw [if_neg (by omega), Addr.add_mid, Nat.add_comm]

theorem sliceCut (b o L c q : Nat) (h1 : q ≤ L) (h2 : L ≤ c) : ∃ o', (q < L → o' = o + q) ∧ (∀ W : World, (Instr.slice 23 (.slice (some ⟨b, o, none⟩) L c) (some (.int .i64 (q : Int))) none none).run Tryd.prog W = .ok (.slice (some ⟨b, o', none⟩) (L - q) (c - q)) W) ∧
    (∀ W : World, (Instr.sliceAt 23 (.slice (some ⟨b, o, none⟩) L c) (some (.int .i64 (q : Int))) none none).run Tryd.prog W = .ok (.slice (some ⟨b, o', none⟩) (L - q) (c - q)) W) := by
  have hs : ∀ W : World, (sizeOf (Tryd.prog.elem 23)).run Tryd.prog W = .ok 1 W := fun W => by kernel_rfl
  have hu : Tryd.prog.underlying 23 = some (.slice (Tryd.prog.elem 23)) := by kernel_rfl
  have key : ∀ W : World, (Instr.slice 23 (.slice (some ⟨b, o, none⟩) L c) (some (.int .i64 (q : Int))) none none).run Tryd.prog W = .ok (sliced (some ⟨b, o, none⟩) q L c 1) W := fun W => by
    rw [run_slice_l W 23 (some ⟨b, o, none⟩) L c hu .i64 q (by omega) (by omega), hs]
    simp [Result.andThen]
  refine ⟨if c = q then o else o + q, fun h => if_neg (by omega), fun W => ?_, fun W => ?_⟩
  · rw [key]; unfold sliced; split <;> simp_all [Addr.add_mid]
  · rw [run_sliceAt_slice _ _ _ _ _ _ hu, key]; unfold sliced; split <;> simp_all [Addr.add_mid]

theorem load256 {w : World} {z : Nat} {p : Option Addr} {tl : List UInt8} {n : Nat} {t : TypeId} (h : Blk w z (encCells p tl n).toArray t) (ht : tl.length = 256) : (loadVar 80 ⟨z, 1, none⟩).run Tryd.prog w = .ok (.agg (tl.map u8c).toArray) w :=
  run_loadVar_mid (P := Tryd.prog) w z 1 80 (tl.map u8c) _ (fun j v hj => by
    rw [h.cell, List.getElem?_toArray, encCells, Nat.add_comm, List.getElem?_cons_succ, List.getElem?_append_left (by
      rcases Nat.lt_or_ge j (tl.map u8c).length with g | g
      · exact g
      · rw [List.getElem?_eq_none g] at hj; cases hj)]
    exact hj) Tryd.underlying80 rfl (by rw [List.length_map, ht]; kernel_rfl)

theorem rangeTail {w : World} {z : Nat} {p : Option Addr} {tl : List UInt8} {n : Nat} {t : TypeId} (h : Blk w z (encCells p tl n).toArray t) : w.rangeAt z 1 (tl.map u8c) := fun j v hj => by
  rw [h.cell, List.getElem?_toArray, encCells, Nat.add_comm, List.getElem?_cons_succ, List.getElem?_append_left (by
    rcases Nat.lt_or_ge j (tl.map u8c).length with g | g
    · exact g
    · rw [List.getElem?_eq_none g] at hj; cases hj)]
  exact hj
theorem range_set0 {w : World} {z : Nat} {cs : List Value} (h : w.rangeAt z 1 cs) (b : Nat) (v : Value) : (w.setCell ⟨b, 0, none⟩ v).rangeAt z 1 cs := fun j u hj => by
  rw [World.cell?_setCell_other _ _ _ _ (fun e => by injection e; omega)]
  exact h j u hj

theorem splice_take (tl ck : List UInt8) (r : Nat) (hr : r ≤ tl.length) : (splice tl r ck).take (r + ck.length) = tl.take r ++ ck := by
  unfold splice
  rw [List.take_append, List.length_take, Nat.min_eq_left hr, List.take_of_length_le (by simp; omega), Nat.add_sub_cancel_left, List.take_append, List.take_of_length_le (Nat.le_refl _)]
  simp
theorem take_more (ys : List UInt8) (k q : Nat) : ys.take (k + q) = ys.take k ++ (ys.drop k).take q := List.take_add

/-- What a round of Raw leaves: the bytes that were copied, the size. -/
theorem raw_round {wr w' : World} {X : Nat → Prop} {z b o o' L c k q r N M : Nat} {xs ys ck tl tl' pre part : List UInt8} {p : Option Addr} (hX : X z ∧ ∀ b, X b → b < wr.heap.size) (hch : Chain wr X p pre) (h2 : xs ++ ys.take k = pre ++ part) (h5 : tl.take r = part) (h4 : tl.length = 256) (hr : part.length = r)
    (hck : ck = (ys.drop k).take q) (hckl : ck.length = q) (htl : tl' = splice tl r ck) (ht' : tl'.length = 256) (hN : xs.length + k = N) (hM : N + q = M) (hk : k + q ≤ ys.length) (hL : ys.length - k = L) (hc : L ≤ c) (hbz : b ≠ z) (ho : q < L → o' = o + q) (hcm : c ≤ maxLen)
    (hcell : ∀ i (h : i < (ys.drop k).length), wr.cell? ⟨b, o + i, none⟩ = some (u8c (ys.drop k)[i])) (hg : wr.grownBy w' (some z)) :
    Rd w' (.slice (some ⟨b, o', none⟩) (L - q) (c - q)) (ys.drop (k + q)) ∧ (r + q < 256 → Blk w' z (encCells p tl' M).toArray 82 → EncSt w' X z (xs ++ ys.take (k + q))) ∧
      (r + q = 256 → ∀ n, ¬ X n → Blk w' n (.pointer p :: tl'.map u8c).toArray 86 → Blk w' z (encCells (some ⟨n, 0, none⟩) tl' M).toArray 82 → EncSt w' X z (xs ++ ys.take (k + q))) := by
  have hch' : Chain w' X p pre := hch.grown hg (fun b e => by rw [Option.some.inj e]; exact hX.1)
  have hxs : xs ++ ys.take (k + q) = pre ++ (part ++ ck) := by rw [take_more, ← List.append_assoc, h2, hck, List.append_assoc]
  have hMl : (xs ++ ys.take (k + q)).length = M := by simp; omega
  have htk : tl'.take (r + q) = part ++ ck := by rw [htl, ← hckl, splice_take _ _ _ (by rw [h4, ← hr, ← h5]; simp; omega), h5]
  have hlt : ∀ b, X b → b < w'.heap.size := fun b hb => Nat.lt_of_lt_of_le (hX.2 b hb) hg.size
  refine ⟨⟨some ⟨b, o', none⟩, c - q, ?_, ?_, by omega, .inr ⟨b, o', rfl, fun i hi => ?_⟩⟩, fun hlt2 hB => ⟨hX.1, hlt, p, pre, part ++ ck, tl', hch', hxs, by rw [List.length_append]; omega, ht', by rw [List.length_append, hr, hckl]; exact htk, by rw [hMl]; exact hB⟩,
    fun hfull n hn hbk hB => ⟨hX.1, hlt, some ⟨n, 0, none⟩, pre ++ (part ++ ck), [], tl', ?_, by rw [List.append_nil]; exact hxs, by decide, ht', rfl, by rw [hMl]; exact hB⟩⟩
  · congr 1; simp; omega
  · simp; omega
  · have hi' : i < ys.length - (k + q) := by simpa using hi
    rw [ho (by omega)]
    have := hcell (q + i) (by simp; omega)
    have e : w'.cell? ⟨b, o + (q + i), none⟩ = wr.cell? ⟨b, o + (q + i), none⟩ := by
      have hb := World.block_lt_of_cell? wr _ this
      unfold World.cell?
      simp only
      rw [hg.block b hb (fun e => hbz (Option.some.inj e))]
    rw [show o + q + i = o + (q + i) by omega, e, this]
    congr 2
    simp [Nat.add_assoc]
  · have e : tl' = part ++ ck := by
      rw [← htk, hfull, ← ht', List.take_length]
    refine .cons hch' ?_ (by rw [List.length_append]; omega) hn
    rw [← e]
    exact hbk

def RawE (w : World) (X : Nat → Prop) (z : Nat) (xs : List UInt8) (e : Ending) (w' : World) : Prop :=
  e = .returned (.tuple #[]) ∧ EncSt w' X z xs ∧ w.grownBy w' (some z)

set_option maxRecDepth 20000 in
set_option maxHeartbeats 3200000 in
theorem raw_enc (w : World) (X : Nat → Prop) (z : Nat) (xs ys : List UInt8) (v : Value) (h : EncSt w X z xs) (hv : Rd w v ys) (hne : ∀ b o l c, v = .slice (some ⟨b, o, none⟩) l c → b ≠ z) (hlen : xs.length + ys.length ≤ 4611686018427387904) :
    Calls Tryd.prog 77 #[.pointer (some ⟨z, 0, none⟩), v] w (RawE w X z (xs ++ ys)) := by
  have HNE := hide hne
  have H := hide h
  have HV := hide hv
  clear h hv hne
  go_enter Tryd.func77, Tryd.ntmps77
  go_wp2_with fail
  go_loopw [1] (fun u wr => ∃ k, k ≤ ys.length ∧ Rd wr u (ys.drop k) ∧ (∀ b o l c, u = .slice (some ⟨b, o, none⟩) l c → b ≠ z) ∧ EncSt wr X z (xs ++ ys.take k) ∧ w.grownBy wr (some z)) (fun u _ => (match u with | .slice _ n _ => n | _ => 0))
  case atStart => exact ⟨0, Nat.zero_le _, by simpa using HV.out, HNE.out, by simpa using H.out, ⟨rfl, rfl, rfl, Nat.le_refl _, fun _ _ _ => rfl⟩⟩
  case round =>
    obtain ⟨k, hk, hrd, hub, henc, hgr⟩ := hrel
    by_cases hlt : k < ys.length
    · obtain ⟨m, l, p, pre, part, tl, h1, h2, h3, h4, h5, h6⟩ := henc
      obtain ⟨b, o, c, rfl, hc, hcm, hcell⟩ : ∃ b o c, u1 = .slice (some ⟨b, o, none⟩) (ys.drop k).length c ∧ (ys.drop k).length ≤ c ∧ c ≤ maxLen ∧ ∀ i (h : i < (ys.drop k).length), wr.cell? ⟨b, o + i, none⟩ = some (u8c (ys.drop k)[i]) := by
        obtain ⟨ao, c, e, hc, hm, ⟨_, h0⟩ | ⟨b, o, rfl, hcell⟩⟩ := hrd
        · have : (ys.drop k).length ≤ c := hc
          rw [h0] at this
          simp at this
          omega
        · exact ⟨b, o, c, e, hc, hm, hcell⟩
      have hbz := hub _ _ _ _ rfl
      have hmod := h1.mod
      have hN : (xs ++ ys.take k).length = xs.length + k := by simp; omega
      rw [hN] at h6
      have hpl : part.length = (xs.length + k) % 256 := by rw [← hN, h2, List.length_append]; omega
      generalize hr : part.length = r at h3 h5 hpl
      have hL : (ys.drop k).length = ys.length - k := by simp
      obtain ⟨L, hL⟩ : ∃ L, ys.length - k = L := ⟨_, rfl⟩
      have hLd : (ys.drop k).length = L := by simp [hL]
      rw [hLd] at hc ⊢
      obtain ⟨N, hN2⟩ : ∃ N, xs.length + k = N := ⟨_, rfl⟩
      rw [hN2] at h6 hpl
      obtain ⟨q, hq⟩ : ∃ q, Nat.min L (256 - r) = q := ⟨_, rfl⟩
      have hq1 : q ≤ L := by rw [← hq]; exact Nat.min_le_left _ _
      have hq2 : q ≤ 256 - r := by rw [← hq]; exact Nat.min_le_right _ _
      have hq0 : 0 < q := by rw [← hq]; exact Nat.lt_min.2 ⟨by omega, by omega⟩
      obtain ⟨ck, hck⟩ : ∃ ck, ck = (ys.drop k).take q := ⟨_, rfl⟩
      have hckl : ck.length = q := by rw [hck]; simp; omega
      have hsrc : ∀ i (h : i < ck.length), wr.cell? ⟨b, o + i, none⟩ = some (u8c ck[i]) := fun i hi => by
        rw [hcell i (by omega)]
        congr 2
        simp [hck]
      have c0 := h6.cell 0
      rw [enc_0] at c0
      have c257 := h6.cell 257
      rw [enc_257 _ _ _ h4] at c257
      have f0 := h6.frozen 0
      have f257 := h6.frozen 257
      have hNb : N ≤ 4611686018427387904 := by omega
      have hLpos : 0 < L := by omega
      have hrem : (N : Int).tmod 256 = (r : Int) := by rw [hpl, Int.tmod_eq_emod_of_nonneg (by omega)]; omega
      have hsl := slice256 z 1 r h3
      have HB := hide h6
      have HSRC := hide hsrc
      have HCK := hide hck
      have HCH := hide h1
      have HX := hide (And.intro m l)
      have HG := hide hgr
      have H2 := hide h2
      have H5 := hide h5
      have HRD := hide hcell
      have HU := hide hub
      have HPL := hide hpl
      have HR := hide hr
      have HCM := hide hcm
      clear hcm
      clear h6 hsrc hck h1 m l hgr h2 h5 hcell hub hrd hpl hr hN hmod
      go_wp2_with fail
      go_region_law (refine step_copy_enc rfl (.tmp 18) (.tmp 19) rfl z r (256 - r) (256 - r) b o L c (by simp [Act.eval, Act.put]) (by simp [Act.eval, Act.put]) p tl N HB.out h4 ck (by rw [hckl]; exact hq.symm) (by omega) HSRC.out ?_; intro w' HB' HG')
      have HBN := hide HB'.out
      obtain ⟨tl', htl'⟩ : ∃ tl', tl' = splice tl r ck := ⟨_, rfl⟩
      have ht' : tl'.length = 256 := by rw [htl', length_splice _ _ _ (by omega)]; exact h4
      rw [← htl'] at HBN
      have HTL := hide htl'
      clear htl' HB' c0 c257 f0 f257 hsl hrem
      have c257 := HBN.out.cell 257
      rw [enc_257 _ _ _ ht'] at c257
      have f257 := HBN.out.frozen 257
      obtain ⟨o', ho', hcut, hcut2⟩ := sliceCut b o L c q hq1 hc
      have HO := hide ho'
      obtain ⟨M, hM⟩ : ∃ M, N + q = M := ⟨_, rfl⟩
      have hwr : IntKind.i64.wrap ((N : Int) + (q : Int)) = (M : Int) := by rw [IntKind.wrap_i64]; omega
      have hMb : M ≤ 4611686018427387904 := by omega
      have HSET := hide (HBN.out.set 257 (.int .i64 (M : Int)))
      rw [enc_set257 _ _ _ _ ht'] at HSET
      clear ho'
      by_cases hfull : r + q = 256
      · have hrem : (M : Int).tmod 256 = 0 := by have := HPL.out; rw [Int.tmod_eq_emod_of_nonneg (by omega)]; omega
        go_wp2_with fail
        generalize hW2 : w'.setCell ⟨z, 257, none⟩ (.int .i64 (M : Int)) = W2 at HSET ⊢
        have HW2 := hide hW2
        clear hW2 c257 f257
        have c0 := HSET.out.cell 0
        rw [enc_0] at c0
        have f0 := HSET.out.frozen 0
        obtain ⟨cs, hcs⟩ : ∃ cs, cs = tl'.map u8c := ⟨_, rfl⟩
        have hcl : cs.length = 256 := by rw [hcs, List.length_map]; exact ht'
        have hrg : W2.rangeAt z 1 cs := by rw [hcs]; exact rangeTail HSET.out
        have HCS := hide hcs
        have HRG := hide hrg
        clear hcs hrg
        have hz2 : z < W2.heap.size := HSET.out.lt
        refine region6 _ (fun _ _ _ _ _ h => h) W2 z p cs hcl HRG.out c0 f0 _ rfl rfl (fun a' h1 h2 h3 => ?_)
        obtain ⟨y0, y1, y2, y3, y4, y5, y6, y7, y8, y9, y10, y11, y12, y13, y14, y15, y16, y17, y18, y19, y20, y21, y22, y23, y24, y25, y26, y27, y28, y29, y30, y31, y32, y33, y34, y35, y36, y37, y38, y39, y40, y41, y42, y43, y44, y45, y46, y47, y48, y49, y50, rfl⟩ := act51 a' h1 h2
        have k0 := h3 0 (by decide)
        have k1 := h3 1 (by decide)
        have k2 := h3 2 (by decide)
        have k3 := h3 3 (by decide)
        have k5 := h3 5 (by decide)
        have k6 := h3 6 (by decide)
        clear h1 h2 h3
        simp [Act.eval] at k0 k1 k2 k3 k5 k6
        subst k0 k1 k2 k3 k5 k6
        have hg2 : wr.grownBy W2 (some z) := by rw [← HW2.out]; exact grownBy_trans (grownBy_trans (grownBy_drewN wr 1 _) HG'.out) (grownBy_set _ _ _ _)
        have hsz : W2.heap.size = W2.drew.heap.size := rfl
        have hB3 : Blk (W2.drew.alloc (.cells (.pointer p :: cs).toArray 86)) z (encCells p tl' M).toArray 82 := Blk.alloc (w := W2.drew) HSET.out _
        have hN3 : Blk (W2.drew.alloc (.cells (.pointer p :: cs).toArray 86)) W2.heap.size (.pointer p :: cs).toArray 86 := Blk.made W2.drew _ _
        have hBz := hB3.set 0 (.pointer (some ⟨W2.heap.size, 0, none⟩))
        rw [enc_set0] at hBz
        have hBn := hN3.setOther ⟨z, 0, none⟩ (.pointer (some ⟨W2.heap.size, 0, none⟩)) (show W2.heap.size ≠ z by omega)
        have hg3 : wr.grownBy ((W2.drew.alloc (.cells (.pointer p :: cs).toArray 86)).setCell ⟨z, 0, none⟩ (.pointer (some ⟨W2.heap.size, 0, none⟩))) (some z) := grownBy_trans (grownBy_trans (grownBy_trans hg2 (grownBy_drewN W2 1 _)) (World.grownBy_alloc _ _ _)) (grownBy_set _ _ _ _)
        have HB3 := hide hBz
        have HN3 := hide hBn
        have HG3 := hide hg3
        have HS3 := hide hg2.size
        clear hg2 hB3 hN3 hBz hBn hg3
        generalize (W2.drew.alloc (.cells (.pointer p :: cs).toArray 86)).setCell ⟨z, 0, none⟩ (.pointer (some ⟨W2.heap.size, 0, none⟩)) = W3 at HB3 HN3 HG3 ⊢
        go_wp2
        go_roundw
        case rel =>
          obtain ⟨g1, _, g3⟩ := raw_round HX.out HCH.out H2.out H5.out h4 HR.out HCK.out hckl HTL.out ht' hN2 hM (by omega) hL hc hbz HO.out HCM.out HRD.out HG3.out
          rw [HCS.out] at HN3
          exact ⟨k + q, by omega, g1, fun b' o l c e => by cases e; exact hbz, g3 hfull W2.heap.size (fun hx => by have := HX.out.2 _ hx; have := HS3.out; omega) HN3.out HB3.out, grownBy_trans HG.out HG3.out⟩
        case measure => simp; omega
      · have hrem : (M : Int).tmod 256 = ((r + q : Nat) : Int) := by have := HPL.out; rw [Int.tmod_eq_emod_of_nonneg (by omega)]; omega
        have hrq : (((r + q : Nat) : Int) == 0) = false := by rw [beq_eq_false_iff_ne]; omega
        have HG3 : Hid (wr.grownBy (w'.setCell ⟨z, 257, none⟩ (.int .i64 (M : Int))) (some z)) := hide (grownBy_trans (grownBy_trans (grownBy_drewN wr 1 _) HG'.out) (grownBy_set _ _ _ _))
        go_wp2
        go_roundw
        case rel =>
          obtain ⟨g1, g2, _⟩ := raw_round HX.out HCH.out H2.out H5.out h4 HR.out HCK.out hckl HTL.out ht' hN2 hM (by omega) hL hc hbz HO.out HCM.out HRD.out HG3.out
          exact ⟨k + q, by omega, g1, fun b' o l c e => by cases e; exact hbz, g2 (by omega) HSET.out, grownBy_trans HG.out HG3.out⟩
        case measure => simp; omega
    · obtain rfl : k = ys.length := by omega
      obtain ⟨ao, c, rfl, hc, hm, _⟩ := hrd
      have HE := hide henc
      have HG := hide hgr
      clear henc hgr hub
      have h0 : (List.drop ys.length ys).length = 0 := by simp
      rw [h0]
      go_wp2
      go_returns
      exact ⟨rfl, by simpa using HE.out, HG.out⟩
end Go.Proofs.YtjcfndiceinkjabDoor
