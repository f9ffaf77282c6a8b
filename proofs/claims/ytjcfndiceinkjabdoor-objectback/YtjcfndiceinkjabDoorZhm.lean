/- Statements that draw their order and make or write a whole array: the steps. -/
import Derived.Test.YtjcfndiceinkjabDoorZam
import Derived.Deep.RegionHeld3
import Derived.Test.YtjcfndiceinkjabDoorZSK6
import Derived.Stop.BytesEq
import Derived.ChangeKeysEq
import Derived.Test.YtjcfndiceinkjabDoorZtm
namespace Go.Proofs.YtjcfndiceinkjabDoor
set_option linter.unusedVariables false
set_option linter.unusedSimpArgs false
open Go.RowKit
theorem slice64_all (z : Nat) (W : World) : (Instr.sliceAt 105 (.pointer (some ⟨z, 0, none⟩)) none none none).run Tryd.prog W = .ok (.slice (some ⟨z, 0, none⟩) 64 64) W := by kernel_rfl
def zero8 : Array Value := #[.int .u32 0, .int .u32 0, .int .u32 0, .int .u32 0, .int .u32 0, .int .u32 0, .int .u32 0, .int .u32 0]
theorem run_alloc8 {op : Oper} {ev : Operand → Value} (ho : op.op = .alloc 69) (w : World) : (execOp ev op).run Tryd.prog w = .ok (.value (.pointer (some ⟨w.heap.size, 0, none⟩))) (w.alloc (.cells zero8 69)) := by
  simp only [execOp, ho]
  kernel_rfl
end Go.Proofs.YtjcfndiceinkjabDoor

/- Arrays held against one another. -/
namespace Go.Proofs.YtjcfndiceinkjabDoor
set_option linter.unusedVariables false
set_option linter.unusedSimpArgs false
open Go.RowKit

theorem eqItems_same (d : Nat) (cs : Array Value) (w : World) : ∀ is : List Nat, (∀ i ∈ is, ∃ x, cs[i]? = some (.int .u32 x)) → (Op.eqItems (d + 1) 68 1 cs cs is).run Tryd.prog w = .ok true w
  | [], _ => by simp [Op.eqItems]
  | i :: is, h => by
    obtain ⟨x, hx⟩ := h i (by simp)
    have ih := eqItems_same d cs w is (fun j hj => h j (by simp [hj]))
    have hp : (part 68 cs (i * 1)).run Tryd.prog w = .ok (.int .u32 x) w := by
      rw [Nat.mul_one]; simp [part, isAgg, run_underlying Tryd.underlying68, hx]
    have he : (Op.equalIn (d + 1) 68 (.int .u32 x) (.int .u32 x)).run Tryd.prog w = .ok true w := by
      rw [run_equalIn_int w d 68 .u32 .u32 _ _ Tryd.underlying68]; simp
    simp only [Op.eqItems, Sem.run_bind, hp, he, Result.andThen_ok]
    simpa using ih
set_option maxRecDepth 100000 in
theorem eql8 (x0 x1 x2 x3 x4 x5 x6 x7 : Int) (w : World) : (binOp .eql 69 (.agg (cells8 x0 x1 x2 x3 x4 x5 x6 x7)) (.agg (cells8 x0 x1 x2 x3 x4 x5 x6 x7))).run Tryd.prog w = .ok (.bool true) w := by
  obtain ⟨i, hi⟩ : ∃ i, Tryd.prog.info? 68 = some i := ⟨_, rfl⟩
  have hc : Tryd.prog.cellsOf 68 = 1 := by kernel_rfl
  rw [run_eql_struct, run_equalIn_array w 9999 _ _ Tryd.underlying69 hi, hc, eqItems_same 9998 _ w (List.range 8) ?_]
  · rfl
  · intro i hi
    rw [List.mem_range] at hi
    rcases (show i = 0 ∨ i = 1 ∨ i = 2 ∨ i = 3 ∨ i = 4 ∨ i = 5 ∨ i = 6 ∨ i = 7 by omega) with rfl | rfl | rfl | rfl | rfl | rfl | rfl | rfl <;> exact ⟨_, rfl⟩
theorem guard8 : Tryd.prog.eqGuardType Tryd.prog.depth 69 = false := by kernel_rfl
theorem run_eql8 {op : Oper} {ev : Operand → Value} {x y : Operand} {u : TypeId} {x0 x1 x2 x3 x4 x5 x6 x7 : Int} (ho : op.op = .binOp .eql 69 x y u) (hx : ev x = .agg (cells8 x0 x1 x2 x3 x4 x5 x6 x7)) (hy : ev y = .agg (cells8 x0 x1 x2 x3 x4 x5 x6 x7)) (w : World) : (execOp ev op).run Tryd.prog w = .ok (.value (.bool true)) w := by
  simp only [execOp, ho, hx, hy, Sem.run_bind, run_eqGuard_agg (P := Tryd.prog) w .eql 69 x y _ _ guard8, Result.andThen_ok, eql8, Sem.run_pure]
/-- Four arrays in memory. -/
def B4 (zs zb z7 z8 : Nat) (cs bc rc fc : Array Value) (W : World) : Prop := Blk W zs cs 69 ∧ Blk W zb bc 105 ∧ Blk W z7 rc 69 ∧ Blk W z8 fc 69
theorem B4.below {zs zb z7 z8 : Nat} {cs bc rc fc : Array Value} {W W' : World} (h : B4 zs zb z7 z8 cs bc rc fc W) (hb : Below W.heap.size W W') : B4 zs zb z7 z8 cs bc rc fc W' :=
  ⟨h.1.below hb h.1.lt, h.2.1.below hb h.2.1.lt, h.2.2.1.below hb h.2.2.1.lt, h.2.2.2.below hb h.2.2.2.lt⟩
end Go.Proofs.YtjcfndiceinkjabDoor

/- Rows of bytes: read in part, written over. -/
namespace Go.Proofs.YtjcfndiceinkjabDoor
set_option linter.unusedVariables false
set_option linter.unusedSimpArgs false
open Go.RowKit

theorem below_drewN (base : Nat) (w : World) (n : Nat) : Below base w (w.drewN n) := ⟨rfl, rfl, rfl, Nat.le_refl _, fun _ _ => rfl⟩
theorem Rd.slice {w : World} {v : Value} {xs : List UInt8} (h : Rd w v xs) : ∃ ao c, v = .slice ao xs.length c ∧ xs.length ≤ maxLen := by
  obtain ⟨ao, c, rfl, h1, h2, _⟩ := h
  exact ⟨ao, c, rfl, Nat.le_trans h1 h2⟩
theorem Rd.at {w : World} {ao : Option Addr} {n c : Nat} {xs : List UInt8} (h : Rd w (.slice ao n c) xs) (k : Nat) (hk : k < xs.length) : ∃ b o, ao = some ⟨b, o, none⟩ ∧ w.cell? ⟨b, o + k, none⟩ = some (.int .u8 (xs[k].toNat : Int)) := by
  rcases h.form with ⟨_, rfl⟩ | ⟨b, o, c', e, hcell⟩
  · simp at hk
  · cases e
    exact ⟨b, o, rfl, hcell k hk⟩
theorem Rd.at' {w : World} {ao : Option Addr} {n c : Nat} {xs : List UInt8} (h : Rd w (.slice ao n c) xs) (k : Nat) (hk : k < xs.length) : ∃ b o, ao = some ⟨b, o, none⟩ ∧ w.cell? ⟨b, o + k, none⟩ = some (.int .u8 ((xs.getD k 0).toNat : Int)) := by
  obtain ⟨b, o, h1, h2⟩ := h.at k hk
  refine ⟨b, o, h1, ?_⟩
  rw [h2, List.getD_eq_getElem?_getD, List.getElem?_eq_getElem hk]; rfl
theorem OwnsB.set {w : World} {base g n cap : Nat} {xs : List UInt8} (h : OwnsB w base (.slice (some ⟨g, 0, none⟩) n cap) xs) (k : Nat) (y : UInt8) : OwnsB (w.setCell ⟨g, k, none⟩ (u8c y)) base (.slice (some ⟨g, 0, none⟩) n cap) (xs.set k y) := by
  obtain ⟨hl, ⟨h1, _⟩ | ⟨g', cap', cur, e, hb, hg, hc, hm, hs, ht⟩⟩ := h
  · cases h1
  · cases e
    refine ⟨by simp, .inr ⟨g, cap, cur.setIfInBounds k (u8c y), by simp, hb, heap_setCell_same w g k cur _ _ hg, by simpa using hc, hm, by simpa using hs, ?_⟩⟩
    rw [Array.toList_setIfInBounds, List.map_set, ← ht, List.take_set, List.length_set]
theorem OwnsB.at {w : World} {base g n cap : Nat} {xs : List UInt8} (h : OwnsB w base (.slice (some ⟨g, 0, none⟩) n cap) xs) (k : Nat) (hk : k < xs.length) : w.cell? ⟨g, k, none⟩ = some (.int .u8 (xs[k].toNat : Int)) ∧ w.frozen? ⟨g, k, none⟩ = false ∧ base ≤ g := by
  obtain ⟨hl, ⟨h1, _⟩ | ⟨g', cap', cur, e, hb, hg, hc, hm, hs, ht⟩⟩ := h
  · cases h1
  · cases e
    have hB : Blk w g cur 5 := hg
    refine ⟨?_, hB.frozen k, hb⟩
    rw [hB.cell, ← Array.getElem?_toList]
    have : (cur.toList.take (xs.length * 1))[k]? = some (u8c xs[k]) := by rw [ht]; simp [List.getElem?_eq_getElem hk]
    rwa [List.getElem?_take_of_lt (by omega)] at this
theorem OwnsB.form {w : World} {base : Nat} {v : Value} {xs : List UInt8} (h : OwnsB w base v xs) (h0 : 0 < xs.length) : ∃ g cap, v = .slice (some ⟨g, 0, none⟩) xs.length cap ∧ base ≤ g ∧ g < w.heap.size ∧ xs.length ≤ cap ∧ cap ≤ maxLen := by
  obtain ⟨hl, ⟨h1, h2⟩ | ⟨g, cap, cur, rfl, hb, hg, hc, hm, hs, ht⟩⟩ := h
  · omega
  · have hB : Blk w g cur 5 := hg
    exact ⟨g, cap, rfl, hb, hB.lt, hc, hm⟩
theorem fill_set (xs : List UInt8) (k : Nat) (y : UInt8) (hk : k < xs.length) : (List.replicate k y ++ xs.drop k).set k y = List.replicate (k + 1) y ++ xs.drop (k + 1) := by
  rw [List.set_append_right _ _ (by simp), List.length_replicate, Nat.sub_self, List.drop_eq_getElem_cons hk, List.set_cons_zero, List.replicate_succ', List.append_assoc]
  rfl
theorem Rd.grown {w w' : World} {b o n c : Nat} {xs : List UInt8} {row : Option Nat} (h : Rd w (.slice (some ⟨b, o, none⟩) n c) xs) (hg : w.grownBy w' row) (hne : some b ≠ row) (hlt : b < w.heap.size) : Rd w' (.slice (some ⟨b, o, none⟩) n c) xs := by
  obtain ⟨ao, c', e, h1, h2, ⟨rfl, _⟩ | ⟨b', o', rfl, hcell⟩⟩ := h
  · cases e
  · cases e
    refine ⟨_, c, rfl, h1, h2, .inr ⟨b, o, rfl, fun i hi => ?_⟩⟩
    rw [← hcell i hi]
    unfold World.cell?
    simp only
    rw [hg.block b hlt hne]
theorem Rd.owned_take {w : World} {base : Nat} {g n cap m c0 : Nat} {zs : List UInt8} (h : OwnsB w base (.slice (some ⟨g, 0, none⟩) n cap) zs) (hm : m ≤ zs.length) (h1 : m ≤ c0) (h2 : c0 ≤ maxLen) : Rd w (.slice (some ⟨g, 0, none⟩) m c0) (zs.take m) := by
  have hl : (zs.take m).length = m := by simp; omega
  refine ⟨some ⟨g, 0, none⟩, c0, by rw [hl], by omega, h2, .inr ⟨g, 0, rfl, fun i hi => ?_⟩⟩
  rw [hl] at hi
  have := (h.at i (by omega)).1
  simpa [u8c] using this
theorem own_is {w : World} {base : Nat} {v : Value} {zs : List UInt8} (h : OwnsB w base v zs) (g : Nat) (e : v.ownBlock = some g) : ∃ n cap, v = .slice (some ⟨g, 0, none⟩) n cap := by
  obtain ⟨hl, ⟨rfl, h2⟩ | ⟨g', cap, cur, rfl, r⟩⟩ := h
  · cases e
  · cases e; exact ⟨_, _, rfl⟩
end Go.Proofs.YtjcfndiceinkjabDoor

/- A Hasher in memory: 74 cells in the midst of a block. -/
namespace Go.Proofs.YtjcfndiceinkjabDoor
set_option linter.unusedVariables false
set_option linter.unusedSimpArgs false
open Go.RowKit

/-- The cells of a Hasher: its state, whether it has begun, what waits, how many there were. -/
def hlist (s : List Value) (g : Bool) (W : List UInt8) (n : Nat) : List Value := s ++ (.bool g :: (W.map u8c ++ [.int .u64 (n : Int)]))
/-- A Hasher in a block, behind pre and ahead of post. -/
structure HB (w : World) (z : Nat) (t : TypeId) (pre post s : List Value) (g : Bool) (W : List UInt8) (n : Nat) : Prop where
  blk : Blk w z (pre ++ (hlist s g W n ++ post)).toArray t
  sl : s.length = 8
  wl : W.length = 64
  one : ∀ v ∈ s, v.oneCell' = true
theorem splice_at (A seg B news : List Value) (h : news.length = seg.length) : (A ++ (seg ++ B)).take A.length ++ news ++ (A ++ (seg ++ B)).drop (A.length + news.length) = A ++ (news ++ B) := by
  rw [List.take_left, show A.length + news.length = (A ++ seg).length by simp [h], ← List.append_assoc, List.drop_left, List.append_assoc]
theorem hlist_s (s : List Value) (g : Bool) (W : List UInt8) (n : Nat) (pre post : List Value) : pre ++ (hlist s g W n ++ post) = pre ++ (s ++ ((.bool g :: (W.map u8c ++ [.int .u64 (n : Int)])) ++ post)) := by simp [hlist]
theorem hlist_g (s : List Value) (g : Bool) (W : List UInt8) (n : Nat) (pre post : List Value) : pre ++ (hlist s g W n ++ post) = (pre ++ s) ++ ([.bool g] ++ (W.map u8c ++ ([.int .u64 (n : Int)] ++ post))) := by simp [hlist]
theorem hlist_w (s : List Value) (g : Bool) (W : List UInt8) (n : Nat) (pre post : List Value) : pre ++ (hlist s g W n ++ post) = (pre ++ (s ++ [.bool g])) ++ (W.map u8c ++ ([.int .u64 (n : Int)] ++ post)) := by simp [hlist]
theorem hlist_n (s : List Value) (g : Bool) (W : List UInt8) (n : Nat) (pre post : List Value) : pre ++ (hlist s g W n ++ post) = (pre ++ (s ++ (.bool g :: W.map u8c))) ++ ([.int .u64 (n : Int)] ++ post) := by simp [hlist]
theorem blk_mid {w : World} {z : Nat} {t : TypeId} {A seg B : List Value} (h : Blk w z (A ++ (seg ++ B)).toArray t) : w.rangeAt z A.length seg := by
  intro j v hj
  have hl : j < seg.length := by
    rcases Nat.lt_or_ge j seg.length with h | h
    · exact h
    · rw [List.getElem?_eq_none h] at hj; cases hj
  rw [h.cell, List.getElem?_toArray, List.getElem?_append_right (by omega), Nat.add_sub_cancel_left, List.getElem?_append_left hl, hj]
theorem there_midH {w : World} {z : Nat} {t : TypeId} {L : List Value} (h : Blk w z L.toArray t) (o n : Nat) (hl : o + n ≤ L.length) : w.there z o n := fun j hj => by
  rw [h.cell, h.frozen]
  exact ⟨by rw [List.getElem?_toArray, List.getElem?_eq_getElem (by omega)]; rfl, rfl⟩
/-- A segment of a block is laid anew. -/
theorem setRow_mid {w : World} {z : Nat} {t : TypeId} {A seg B : List Value} (h : Blk w z (A ++ (seg ++ B)).toArray t) (news : List Value) (hl : news.length = seg.length) :
    Blk (w.setRow z ((A ++ (seg ++ B)).take A.length ++ news ++ (A ++ (seg ++ B)).drop (A.length + news.length)).toArray) z (A ++ (news ++ B)).toArray t ∧ w.grownBy (w.setRow z ((A ++ (seg ++ B)).take A.length ++ news ++ (A ++ (seg ++ B)).drop (A.length + news.length)).toArray) (some z) := by
  rw [splice_at A seg B news hl]
  exact ⟨setRow_heap w z _ _ t _ h, ⟨rfl, rfl, rfl, by simp, fun k _ hne => setRow_other w z k _ (fun e => hne (by rw [e]))⟩⟩
theorem setCells_midH {z : Nat} {t : TypeId} : ∀ (news : List Value) (w : World) (A seg B : List Value), Blk w z (A ++ (seg ++ B)).toArray t → news.length = seg.length →
    Blk (w.setCells z A.length news) z (A ++ (news ++ B)).toArray t ∧ w.grownBy (w.setCells z A.length news) (some z)
  | [], w, A, seg, B, h, hl => by
    obtain rfl : seg = [] := List.eq_nil_of_length_eq_zero hl.symm
    exact ⟨h, ⟨rfl, rfl, rfl, Nat.le_refl _, fun _ _ _ => rfl⟩⟩
  | v :: r, w, A, s0 :: seg, B, h, hl => by
    have h1 := blk_set h A.length v
    rw [List.set_append_right _ _ (Nat.le_refl _), Nat.sub_self, List.cons_append, List.set_cons_zero] at h1
    have h2 := setCells_midH r (w.setCell ⟨z, A.length, none⟩ v) (A ++ [v]) seg B (by simpa using h1) (by simpa using hl)
    rw [List.length_append, List.length_singleton] at h2
    refine ⟨by simpa [World.setCells] using h2.1, ?_⟩
    exact grownBy_trans (grownBy_set w z A.length v) h2.2
  | _ :: _, _, _, [], _, _, hl => by simp at hl

theorem HB.c8 {w : World} {z : Nat} {t : TypeId} {pre post s : List Value} {g : Bool} {W : List UInt8} {n : Nat} (h : HB w z t pre post s g W n) : w.cell? ⟨z, pre.length + 8, none⟩ = some (.bool g) := by
  have hb := h.blk
  rw [hlist_g] at hb
  have := blk_mid hb 0 (.bool g) rfl
  rwa [List.length_append, h.sl, Nat.add_zero] at this
theorem HB.c73 {w : World} {z : Nat} {t : TypeId} {pre post s : List Value} {g : Bool} {W : List UInt8} {n : Nat} (h : HB w z t pre post s g W n) : w.cell? ⟨z, pre.length + 73, none⟩ = some (.int .u64 n) := by
  have hb := h.blk
  rw [hlist_n] at hb
  have := blk_mid hb 0 (.int .u64 n) rfl
  rwa [List.length_append, List.length_append, h.sl, List.length_cons, List.length_map, h.wl, Nat.add_zero] at this
theorem HB.rs {w : World} {z : Nat} {t : TypeId} {pre post s : List Value} {g : Bool} {W : List UInt8} {n : Nat} (h : HB w z t pre post s g W n) : w.rangeAt z pre.length s := by
  have hb := h.blk
  rw [hlist_s] at hb
  exact blk_mid hb
theorem HB.rw {w : World} {z : Nat} {t : TypeId} {pre post s : List Value} {g : Bool} {W : List UInt8} {n : Nat} (h : HB w z t pre post s g W n) : w.rangeAt z (pre.length + 9) (W.map u8c) := by
  have hb := h.blk
  rw [hlist_w] at hb
  have := blk_mid hb
  rwa [List.length_append, List.length_append, h.sl] at this
theorem HB.frozen {w : World} {z : Nat} {t : TypeId} {pre post s : List Value} {g : Bool} {W : List UInt8} {n : Nat} (h : HB w z t pre post s g W n) (i : Nat) : w.frozen? ⟨z, i, none⟩ = false := h.blk.frozen i
theorem HB.len {s : List Value} {g : Bool} {W : List UInt8} {n : Nat} (h1 : s.length = 8) (h2 : W.length = 64) : (hlist s g W n).length = 74 := by simp [hlist, h1, h2]
/-- Other blocks are written. -/
theorem HB.grown {w w' : World} {z : Nat} {t : TypeId} {pre post s : List Value} {g : Bool} {W : List UInt8} {n : Nat} {row : Option Nat} (h : HB w z t pre post s g W n) (hg : w.grownBy w' row) (hne : some z ≠ row) : HB w' z t pre post s g W n := ⟨h.blk.grown hg hne, h.sl, h.wl, h.one⟩
theorem HB.below {w w' : World} {z : Nat} {t : TypeId} {pre post s : List Value} {g : Bool} {W : List UInt8} {n : Nat} (h : HB w z t pre post s g W n) (hb : Below w.heap.size w w') : HB w' z t pre post s g W n := h.grown (row := none) (grownBy_below hb) (by simp)
/-- The size is laid anew. -/
theorem HB.setN {w : World} {z : Nat} {t : TypeId} {pre post s : List Value} {g : Bool} {W : List UInt8} {n : Nat} (h : HB w z t pre post s g W n) (m : Nat) : HB (w.setCell ⟨z, pre.length + 73, none⟩ (.int .u64 m)) z t pre post s g W m := by
  have hb := h.blk
  rw [hlist_n] at hb
  have := (setCells_midH [.int .u64 (m : Int)] w _ _ _ hb rfl).1
  rw [List.length_append, List.length_append, h.sl, List.length_cons, List.length_map, h.wl] at this
  refine ⟨?_, h.sl, h.wl, h.one⟩
  rw [hlist_n]
  exact this
theorem HB.setG {w : World} {z : Nat} {t : TypeId} {pre post s : List Value} {g : Bool} {W : List UInt8} {n : Nat} (h : HB w z t pre post s g W n) (b : Bool) : HB (w.setCell ⟨z, pre.length + 8, none⟩ (.bool b)) z t pre post s b W n := by
  have hb := h.blk
  rw [hlist_g] at hb
  have := (setCells_midH [.bool b] w _ _ _ hb rfl).1
  rw [List.length_append, h.sl] at this
  refine ⟨?_, h.sl, h.wl, h.one⟩
  rw [hlist_g]
  exact this
theorem HB.setS {w : World} {z : Nat} {t : TypeId} {pre post s : List Value} {g : Bool} {W : List UInt8} {n : Nat} (h : HB w z t pre post s g W n) (s' : List Value) (hl : s'.length = 8) (h1 : ∀ v ∈ s', v.oneCell' = true) : HB (w.setCells z pre.length s') z t pre post s' g W n ∧ w.grownBy (w.setCells z pre.length s') (some z) := by
  have hb := h.blk
  rw [hlist_s] at hb
  have := setCells_midH s' w _ _ _ hb (by rw [hl, h.sl])
  refine ⟨⟨?_, hl, h.wl, h1⟩, this.2⟩
  rw [hlist_s]
  exact this.1
end Go.Proofs.YtjcfndiceinkjabDoor

/- take: a full block. -/
namespace Go.Proofs.YtjcfndiceinkjabDoor
set_option linter.unusedVariables false
set_option linter.unusedSimpArgs false
set_option maxRecDepth 100000
open Go.RowKit

def st8 (s : S8) : List Value := [.int .u32 s.a, .int .u32 s.b, .int .u32 s.c, .int .u32 s.d, .int .u32 s.e, .int .u32 s.f, .int .u32 s.g, .int .u32 s.h]
theorem st8_one (s : S8) : ∀ v ∈ st8 s, v.oneCell' = true := by
  intro v hv
  simp only [st8, List.mem_cons, List.not_mem_nil, or_false] at hv
  rcases hv with rfl | rfl | rfl | rfl | rfl | rfl | rfl | rfl <;> rfl
theorem run_nilCheck {op : Oper} {ev : Operand → Value} {x : Operand} {b : Nat} {o : Nat} (ho : op.op = .nilCheck x) (hx : ev x = .pointer (some ⟨b, o, none⟩)) (w : World) : (execOp ev op).run Tryd.prog w = .ok (.value (.pointer (some ⟨b, o, none⟩))) w := by
  simp only [execOp, ho, hx]
  kernel_rfl
theorem run_field0 {op : Oper} {ev : Operand → Value} {x : Operand} {b : Nat} {o : Nat} (ho : op.op = .fieldAddr 107 x 0) (hx : ev x = .pointer (some ⟨b, o, none⟩)) (w : World) : (execOp ev op).run Tryd.prog w = .ok (.value (.pointer (some ⟨b, o, none⟩))) w := by
  simp only [execOp, ho, hx]
  kernel_rfl
theorem run_storeS {op : Oper} {r : S8} {ev : Operand → Value} {x y : Operand} {z : Nat} {w : World} {t : TypeId} {pre post s : List Value} {g : Bool} {W : List UInt8} {n : Nat} (ho : op.op = .store 69 x y) (hx : ev x = .pointer (some ⟨z, pre.length, none⟩)) (hy : ev y = .agg (st8 r).toArray) (hH : HB w z t pre post s g W n) : (execOp ev op).run Tryd.prog w = .ok .skip (w.setCells z pre.length (st8 r)) := by
  have ht : w.there z pre.length (st8 r).toArray.size := there_midH hH.blk _ _ (by rw [List.length_append, List.length_append, HB.len hH.sl hH.wl]; show pre.length + 8 ≤ _; omega)
  have := run_storeAt_mid (P := Tryd.prog) w z pre.length 69 (st8 r).toArray ht infoS8 (all_oneCell_toArray (st8_one r))
  simp only [execOp, ho, hx, hy, Sem.run_bind, this, Result.andThen_ok, Sem.run_pure]
def k3_0 (s : String) : Oper := { dst := some 16, op := Op.move (Operand.tmp 0), type := 133, pos := s, after := #[], guard := none }
def k3_1 (s : String) : Oper := { dst := some 17, op := Op.move (Operand.tmp 0), type := 133, pos := s, after := #[], guard := none }
def k3_2 (s : String) : Oper := { dst := some 18, op := Op.nilCheck (Operand.tmp 17), type := 0, pos := s, after := #[{ on := 1, ground := Ground.data }], guard := none }
def k3_3 (s : String) : Oper := { dst := some 19, op := Op.fieldAddr 107 (Operand.tmp 18) 0, type := 0, pos := s, after := #[{ on := 2, ground := Ground.data }], guard := none }
def k3_4 (s : String) : Oper := { dst := some 20, op := Op.load 69 (Operand.tmp 19), type := 69, pos := s, after := #[{ on := 3, ground := Ground.data }], guard := none }
def k3_5 (s : String) : Oper := { dst := some 21, op := Op.load 105 (Operand.tmp 3), type := 105, pos := s, after := #[], guard := none }
def k3_6 (s : String) : Oper := { dst := some 22, op := Op.call { callee := Callee.value (Operand.func 105), args := #[Operand.tmp 20, Operand.tmp 21], argTypes := #[69, 105] }, type := 69, pos := s, after := #[{ on := 4, ground := Ground.data }, { on := 5, ground := Ground.data }], guard := none }
def k3_7 (s : String) : Oper := { dst := some 23, op := Op.nilCheck (Operand.tmp 16), type := 0, pos := s, after := #[{ on := 0, ground := Ground.data }, { on := 0, ground := Ground.phase }, { on := 1, ground := Ground.phase }, { on := 2, ground := Ground.phase }, { on := 3, ground := Ground.phase }, { on := 4, ground := Ground.phase }, { on := 5, ground := Ground.phase }, { on := 6, ground := Ground.phase }], guard := none }
def k3_8 (s : String) : Oper := { dst := some 24, op := Op.fieldAddr 107 (Operand.tmp 23) 0, type := 0, pos := s, after := #[{ on := 7, ground := Ground.data }, { on := 0, ground := Ground.phase }, { on := 1, ground := Ground.phase }, { on := 2, ground := Ground.phase }, { on := 3, ground := Ground.phase }, { on := 4, ground := Ground.phase }, { on := 5, ground := Ground.phase }, { on := 6, ground := Ground.phase }], guard := none }
def k3_9 (s : String) : Oper := { dst := none, op := Op.store 69 (Operand.tmp 24) (Operand.tmp 22), type := 0, pos := s, after := #[{ on := 8, ground := Ground.data }, { on := 6, ground := Ground.data }, { on := 6, ground := Ground.chain }, { on := 0, ground := Ground.phase }, { on := 1, ground := Ground.phase }, { on := 2, ground := Ground.phase }, { on := 3, ground := Ground.phase }, { on := 4, ground := Ground.phase }, { on := 5, ground := Ground.phase }, { on := 6, ground := Ground.phase }], guard := none }
def k3_ops (s : String) : Array Oper := #[k3_0 s, k3_1 s, k3_2 s, k3_3 s, k3_4 s, k3_5 s, k3_6 s, k3_7 s, k3_8 s, k3_9 s]
theorem k3_enter6 (s : String) (a : Act) (w : World) : (execOp a.eval (k3_6 s)).run Tryd.prog w = .ok (.enter 105 #[a.eval (.tmp 20), a.eval (.tmp 21)]) w := by kernel_rfl
theorem k3_walk (s : String) {Q : Exit → Act → World → Prop} (hQ : ∀ c (a : Act) t v w, Q (.panic c) (a.put (some t) v) w → Q (.panic c) a w) (W : World) (z zb : Nat) (t : TypeId) (pre post : List Value) (sv r : S8) (g : Bool) (wt bb : List UInt8) (n : Nat) (hH : HB W z t pre post (st8 sv) g wt n) (hB : Blk W zb (bb.map u8c).toArray 105) (hbb : bb.length = 64) (hzb : zb ≠ z) (hc : ∀ W', Below W.heap.size W W' → Calls Tryd.prog 105 #[.agg (st8 sv).toArray, .agg (bb.map u8c).toArray] W' fun e w' => e = .returned (.agg (st8 r).toArray) ∧ Below W'.heap.size W' w')
    (a : Act) (hs : 24 < a.tmps.size) (e0 : a.eval (.tmp 0) = .pointer (some ⟨z, pre.length, none⟩)) (e3 : a.eval (.tmp 3) = .pointer (some ⟨zb, 0, none⟩))
    (h0 : ∀ w1, Below W.heap.size W w1 → ∀ w2, HB w2 z t pre post (st8 r) g wt n → w1.grownBy w2 (some z) → Q .normal (((((((((a.put (some 16) (.pointer (some ⟨z, pre.length, none⟩))).put (some 17) (.pointer (some ⟨z, pre.length, none⟩))).put (some 18) (.pointer (some ⟨z, pre.length, none⟩))).put (some 19) (.pointer (some ⟨z, pre.length, none⟩))).put (some 21) (.agg (bb.map u8c).toArray)).put (some 20) (.agg (st8 sv).toArray)).put (some 22) (.agg (st8 r).toArray)).put (some 23) (.pointer (some ⟨z, pre.length, none⟩))).put (some 24) (.pointer (some ⟨z, pre.length, none⟩))) w2) :
    Code.wp Tryd.prog (.region 3 (k3_ops s) true) Q a W := by
  have hdr : Below W.heap.size W W.drew := ⟨rfl, rfl, rfl, Nat.le_refl _, fun _ _ => rfl⟩
  refine wp_region_held_drew (S := fun W' => Blk W' zb (bb.map u8c).toArray 105) (by kernel_rfl) hB (fun hS => ?_)
  change wpAnyH _ _ _ _ _ _ _ _ (World.drew _)
  refine wpAnyH_take (i := 0) (oi := k3_0 s) (v := .pointer (some ⟨z, pre.length, none⟩)) (by kernel_rfl) (by kernel_rfl) (by kernel_rfl) (by kernel_rfl) (fun c a w h => hQ c _ _ _ w h) (Or.inl ⟨wanted_none rfl, fun w hw => by simp only [execOp, k3_0, e0]; rfl⟩) hS ?_
  change wpAnyH _ _ _ _ _ _ _ (a.put (some 16) (.pointer (some ⟨z, pre.length, none⟩))) _
  obtain ⟨a0_1, ha1⟩ : ∃ rr : Act, rr = a.put (some 16) (.pointer (some ⟨z, pre.length, none⟩)) := ⟨_, rfl⟩
  have qz1 : 24 < a0_1.tmps.size := by rw [ha1, sz_put]; exact hs
  have f1_0 : a0_1.eval (.tmp 0) = .pointer (some ⟨z, pre.length, none⟩) := by rw [ha1, ev_other _ _ _ _ (by decide)]; exact e0
  have f1_3 : a0_1.eval (.tmp 3) = .pointer (some ⟨zb, 0, none⟩) := by rw [ha1, ev_other _ _ _ _ (by decide)]; exact e3
  have f1_16 : a0_1.eval (.tmp 16) = .pointer (some ⟨z, pre.length, none⟩) := by rw [ha1]; exact ev_same _ _ _ (Nat.lt_of_le_of_lt (by decide) hs)
  rw [← ha1] at h0 ⊢
  clear ha1
  refine wpAnyH_take (i := 1) (oi := k3_1 s) (v := .pointer (some ⟨z, pre.length, none⟩)) (by kernel_rfl) (by kernel_rfl) (by kernel_rfl) (by kernel_rfl) (fun c a w h => hQ c _ _ _ w h) (Or.inl ⟨wanted_none rfl, fun w hw => by simp only [execOp, k3_1, f1_0]; rfl⟩) hS ?_
  change wpAnyH _ _ _ _ _ _ _ (a0_1.put (some 17) (.pointer (some ⟨z, pre.length, none⟩))) _
  obtain ⟨a0_2, ha2⟩ : ∃ rr : Act, rr = a0_1.put (some 17) (.pointer (some ⟨z, pre.length, none⟩)) := ⟨_, rfl⟩
  have qz2 : 24 < a0_2.tmps.size := by rw [ha2, sz_put]; exact qz1
  have f2_3 : a0_2.eval (.tmp 3) = .pointer (some ⟨zb, 0, none⟩) := by rw [ha2, ev_other _ _ _ _ (by decide)]; exact f1_3
  have f2_16 : a0_2.eval (.tmp 16) = .pointer (some ⟨z, pre.length, none⟩) := by rw [ha2, ev_other _ _ _ _ (by decide)]; exact f1_16
  have f2_17 : a0_2.eval (.tmp 17) = .pointer (some ⟨z, pre.length, none⟩) := by rw [ha2]; exact ev_same _ _ _ (Nat.lt_of_le_of_lt (by decide) qz1)
  rw [← ha2] at h0 ⊢
  clear ha2
  refine wpAnyH_take (i := 2) (oi := k3_2 s) (v := .pointer (some ⟨z, pre.length, none⟩)) (by kernel_rfl) (by kernel_rfl) (by kernel_rfl) (by kernel_rfl) (fun c a w h => hQ c _ _ _ w h) (Or.inl ⟨wanted_none rfl, fun w hw => run_nilCheck rfl f2_17 w⟩) hS ?_
  change wpAnyH _ _ _ _ _ _ _ (a0_2.put (some 18) (.pointer (some ⟨z, pre.length, none⟩))) _
  obtain ⟨a0_3, ha3⟩ : ∃ rr : Act, rr = a0_2.put (some 18) (.pointer (some ⟨z, pre.length, none⟩)) := ⟨_, rfl⟩
  have qz3 : 24 < a0_3.tmps.size := by rw [ha3, sz_put]; exact qz2
  have f3_3 : a0_3.eval (.tmp 3) = .pointer (some ⟨zb, 0, none⟩) := by rw [ha3, ev_other _ _ _ _ (by decide)]; exact f2_3
  have f3_16 : a0_3.eval (.tmp 16) = .pointer (some ⟨z, pre.length, none⟩) := by rw [ha3, ev_other _ _ _ _ (by decide)]; exact f2_16
  have f3_18 : a0_3.eval (.tmp 18) = .pointer (some ⟨z, pre.length, none⟩) := by rw [ha3]; exact ev_same _ _ _ (Nat.lt_of_le_of_lt (by decide) qz2)
  rw [← ha3] at h0 ⊢
  clear ha3
  refine wpAnyH_take (i := 3) (oi := k3_3 s) (v := .pointer (some ⟨z, pre.length, none⟩)) (by kernel_rfl) (by kernel_rfl) (by kernel_rfl) (by kernel_rfl) (fun c a w h => hQ c _ _ _ w h) (Or.inl ⟨wanted_none rfl, fun w hw => run_field0 rfl f3_18 w⟩) hS ?_
  change wpAnyH _ _ _ _ _ _ _ (a0_3.put (some 19) (.pointer (some ⟨z, pre.length, none⟩))) _
  obtain ⟨a0_4, ha4⟩ : ∃ rr : Act, rr = a0_3.put (some 19) (.pointer (some ⟨z, pre.length, none⟩)) := ⟨_, rfl⟩
  have qz4 : 24 < a0_4.tmps.size := by rw [ha4, sz_put]; exact qz3
  have f4_3 : a0_4.eval (.tmp 3) = .pointer (some ⟨zb, 0, none⟩) := by rw [ha4, ev_other _ _ _ _ (by decide)]; exact f3_3
  have f4_16 : a0_4.eval (.tmp 16) = .pointer (some ⟨z, pre.length, none⟩) := by rw [ha4, ev_other _ _ _ _ (by decide)]; exact f3_16
  have f4_19 : a0_4.eval (.tmp 19) = .pointer (some ⟨z, pre.length, none⟩) := by rw [ha4]; exact ev_same _ _ _ (Nat.lt_of_le_of_lt (by decide) qz3)
  rw [← ha4] at h0 ⊢
  clear ha4
  refine wpAnyH_take (i := 5) (oi := k3_5 s) (v := .agg (bb.map u8c).toArray) (by kernel_rfl) (by kernel_rfl) (by kernel_rfl) (by kernel_rfl) (fun c a w h => hQ c _ _ _ w h) (Or.inl ⟨wanted_none rfl, fun w hw => run_load rfl f4_3 (loadAt_blk hw 105 _ Tryd.underlying105 rfl 64 infoB64 (by simp [hbb]))⟩) hS ?_
  change wpAnyH _ _ _ _ _ _ _ (a0_4.put (some 21) (.agg (bb.map u8c).toArray)) _
  obtain ⟨a0_5, ha5⟩ : ∃ rr : Act, rr = a0_4.put (some 21) (.agg (bb.map u8c).toArray) := ⟨_, rfl⟩
  have qz5 : 24 < a0_5.tmps.size := by rw [ha5, sz_put]; exact qz4
  have f5_16 : a0_5.eval (.tmp 16) = .pointer (some ⟨z, pre.length, none⟩) := by rw [ha5, ev_other _ _ _ _ (by decide)]; exact f4_16
  have f5_19 : a0_5.eval (.tmp 19) = .pointer (some ⟨z, pre.length, none⟩) := by rw [ha5, ev_other _ _ _ _ (by decide)]; exact f4_19
  have f5_21 : a0_5.eval (.tmp 21) = .agg (bb.map u8c).toArray := by rw [ha5]; exact ev_same _ _ _ (Nat.lt_of_le_of_lt (by decide) qz4)
  rw [← ha5] at h0 ⊢
  clear ha5
  refine wpAnyH_ready (rs := [4]) (by kernel_rfl) (by simp) ?_
  refine AllReadyH.cons (o := k3_4 s) (by kernel_rfl) (fun KQ hKQ => ?_) AllReadyH.nil
  rw [if_pos (wanted_none rfl)]
  refine step_runE (.agg (st8 sv).toArray) (W.drew) (run_load rfl f5_19 (run_loadAt_mid (P := Tryd.prog) W.drew z pre.length 69 (st8 sv) _ (hH.below hdr).rs Tryd.underlying69 rfl infoS8)) ?_
  refine hKQ.out _ _ (hS) (fun _ => ?_)
  clear hKQ KQ
  change wpAnyH _ _ _ _ _ _ _ (a0_5.put (some 20) (.agg (st8 sv).toArray)) _
  obtain ⟨a0_6, ha6⟩ : ∃ rr : Act, rr = a0_5.put (some 20) (.agg (st8 sv).toArray) := ⟨_, rfl⟩
  have qz6 : 24 < a0_6.tmps.size := by rw [ha6, sz_put]; exact qz5
  have f6_16 : a0_6.eval (.tmp 16) = .pointer (some ⟨z, pre.length, none⟩) := by rw [ha6, ev_other _ _ _ _ (by decide)]; exact f5_16
  have f6_20 : a0_6.eval (.tmp 20) = .agg (st8 sv).toArray := by rw [ha6]; exact ev_same _ _ _ (Nat.lt_of_le_of_lt (by decide) qz5)
  have f6_21 : a0_6.eval (.tmp 21) = .agg (bb.map u8c).toArray := by rw [ha6, ev_other _ _ _ _ (by decide)]; exact f5_21
  rw [← ha6] at h0 ⊢
  clear ha6
  refine wpAnyH_ready (rs := [6]) (by kernel_rfl) (by simp) ?_
  refine AllReadyH.cons (o := k3_6 s) (by kernel_rfl) (fun KQ hKQ => ?_) AllReadyH.nil
  rw [if_pos (wanted_none rfl)]
  refine step_enterE 105 #[.agg (st8 sv).toArray, .agg (bb.map u8c).toArray] (by rw [k3_enter6, f6_20, f6_21]) (fun V w' => V = .agg (st8 r).toArray ∧ Below W.heap.size W w') ((hc W.drew hdr).mono (fun e w' h => ⟨_, h.1, rfl, hdr.trans h.2⟩)) ?_
  rintro _ w1 ⟨rfl, hb1⟩
  have hH1 := hH.below hb1
  have hB1 := Blk.below hB hb1 (Blk.lt hB)
  refine hKQ.out _ _ (hB1) (fun _ => ?_)
  clear hKQ KQ
  change wpAnyH _ _ _ _ _ _ _ (a0_6.put (some 22) (.agg (st8 r).toArray)) _
  have h0 := h0 w1 hb1
  obtain ⟨a0_7, ha7⟩ : ∃ rr : Act, rr = a0_6.put (some 22) (.agg (st8 r).toArray) := ⟨_, rfl⟩
  have qz7 : 24 < a0_7.tmps.size := by rw [ha7, sz_put]; exact qz6
  have f7_16 : a0_7.eval (.tmp 16) = .pointer (some ⟨z, pre.length, none⟩) := by rw [ha7, ev_other _ _ _ _ (by decide)]; exact f6_16
  have f7_22 : a0_7.eval (.tmp 22) = .agg (st8 r).toArray := by rw [ha7]; exact ev_same _ _ _ (Nat.lt_of_le_of_lt (by decide) qz6)
  rw [← ha7] at h0 ⊢
  clear ha7
  refine wpAnyH_take (i := 7) (oi := k3_7 s) (v := .pointer (some ⟨z, pre.length, none⟩)) (by kernel_rfl) (by kernel_rfl) (by kernel_rfl) (by kernel_rfl) (fun c a w h => hQ c _ _ _ w h) (Or.inl ⟨wanted_none rfl, fun w hw => run_nilCheck rfl f7_16 w⟩) hB1 ?_
  change wpAnyH _ _ _ _ _ _ _ (a0_7.put (some 23) (.pointer (some ⟨z, pre.length, none⟩))) _
  obtain ⟨a0_8, ha8⟩ : ∃ rr : Act, rr = a0_7.put (some 23) (.pointer (some ⟨z, pre.length, none⟩)) := ⟨_, rfl⟩
  have qz8 : 24 < a0_8.tmps.size := by rw [ha8, sz_put]; exact qz7
  have f8_22 : a0_8.eval (.tmp 22) = .agg (st8 r).toArray := by rw [ha8, ev_other _ _ _ _ (by decide)]; exact f7_22
  have f8_23 : a0_8.eval (.tmp 23) = .pointer (some ⟨z, pre.length, none⟩) := by rw [ha8]; exact ev_same _ _ _ (Nat.lt_of_le_of_lt (by decide) qz7)
  rw [← ha8] at h0 ⊢
  clear ha8
  refine wpAnyH_take (i := 8) (oi := k3_8 s) (v := .pointer (some ⟨z, pre.length, none⟩)) (by kernel_rfl) (by kernel_rfl) (by kernel_rfl) (by kernel_rfl) (fun c a w h => hQ c _ _ _ w h) (Or.inl ⟨wanted_none rfl, fun w hw => run_field0 rfl f8_23 w⟩) hB1 ?_
  change wpAnyH _ _ _ _ _ _ _ (a0_8.put (some 24) (.pointer (some ⟨z, pre.length, none⟩))) _
  obtain ⟨a0_9, ha9⟩ : ∃ rr : Act, rr = a0_8.put (some 24) (.pointer (some ⟨z, pre.length, none⟩)) := ⟨_, rfl⟩
  have qz9 : 24 < a0_9.tmps.size := by rw [ha9, sz_put]; exact qz8
  have f9_22 : a0_9.eval (.tmp 22) = .agg (st8 r).toArray := by rw [ha9, ev_other _ _ _ _ (by decide)]; exact f8_22
  have f9_24 : a0_9.eval (.tmp 24) = .pointer (some ⟨z, pre.length, none⟩) := by rw [ha9]; exact ev_same _ _ _ (Nat.lt_of_le_of_lt (by decide) qz8)
  rw [← ha9] at h0 ⊢
  clear ha9
  refine wpAnyH_ready (rs := [9]) (by kernel_rfl) (by simp) ?_
  refine AllReadyH.cons (o := k3_9 s) (by kernel_rfl) (fun KQ hKQ => ?_) AllReadyH.nil
  rw [if_pos (wanted_none rfl)]
  refine step_skipE (w1.setCells z pre.length (st8 r)) (run_storeS rfl f9_24 f9_22 hH1) ?_
  have hs := hH1.setS (st8 r) rfl (st8_one r)
  have hB2 := hB1.grown hs.2 (fun e => hzb (Option.some.inj e))
  refine hKQ.out _ _ (hB2) (fun _ => ?_)
  clear hKQ KQ
  have h0 := h0 _ hs.1 hs.2
  refine wpAnyH_done (by kernel_rfl) ?_ _
  exact h0
end Go.Proofs.YtjcfndiceinkjabDoor

/- take, walked. -/
namespace Go.Proofs.YtjcfndiceinkjabDoor
set_option linter.unusedVariables false
set_option linter.unusedSimpArgs false
set_option maxRecDepth 100000
open Go.RowKit

/-- The state is stored. -/
theorem wpList_store_hs {ops : Array Oper} {rest : List Oper} {op : Oper} {a : Act} {w : World} {Q : Exit → Act → World → Prop} (hgd : op.guard = none) (x y : Operand) (ho : op.op = .store 69 x y)
    (z : Nat) (t : TypeId) (pre post s : List Value) (g : Bool) (wt : List UInt8) (n : Nat) (r : S8) (hx : a.eval x = .pointer (some ⟨z, pre.length, none⟩)) (hy : a.eval y = .agg (st8 r).toArray) (hH : HB w z t pre post s g wt n)
    (h : ∀ w', Hid (HB w' z t pre post (st8 r) g wt n) → Hid (w.grownBy w' (some z)) → wpList Tryd.prog ops Q rest (a.put op.dst undef) w') : wpList Tryd.prog ops Q (op :: rest) a w := by
  have ht : w.there z pre.length (st8 r).toArray.size := there_midH hH.blk _ _ (by rw [List.length_append, List.length_append, HB.len hH.sl hH.wl]; show pre.length + 8 ≤ _; omega)
  have hs := hH.setS (st8 r) rfl (st8_one r)
  exact wpList_store_mid hgd 69 x y ho z pre.length (st8 r).toArray hx hy ht infoS8 (all_oneCell_toArray (st8_one r)) (h _ (hide hs.1) (hide hs.2))
/-- What take leaves. -/
def TakeC (w : World) (z : Nat) (t : TypeId) (pre post : List Value) (s : S8) (g : Bool) (wt bb : List UInt8) (n : Nat) (e : Ending) (w' : World) : Prop :=
  e = .returned (.tuple #[]) ∧ HB w' z t pre post (st8 (blk (if g then s else begin8) bb)) true wt n ∧ w.grownBy w' (some z)
theorem val_st8 (s : S8) : s.val = .agg (st8 s).toArray := rfl
set_option maxRecDepth 40000 in
set_option maxHeartbeats 4000000 in
theorem take_any (w : World) (hT : Tabs w) (z : Nat) (t : TypeId) (pre post : List Value) (s : S8) (g : Bool) (wt bb : List UInt8) (n : Nat) (hz : 5 ≤ z) (hH : HB w z t pre post (st8 s) g wt n) (hok : g = true → s.ok) (hbb : bb.length = 64) :
    Calls Tryd.prog 96 #[.pointer (some ⟨z, pre.length, none⟩), .agg (bb.map u8c).toArray] w (TakeC w z t pre post s g wt bb n) := by
  have hzl := hH.blk.lt
  obtain ⟨cs, hcs⟩ : ∃ cs, cs = (bb.map u8c).toArray := ⟨_, rfl⟩
  have hbx : Below w.heap.size w (w.alloc (.cells cs 105)) := (Below.refl _ _).alloc (Nat.le_refl _) _
  have hB0 := Blk.made w cs 105
  have hH0 := hH.below hbx
  have hT0 := hT.below hbx
  have c8 := hH.c8
  have hne : ¬ z = w.heap.size := by omega
  have HB0 := hide hB0
  have HH0 := hide hH0
  have HT0 := hide hT0
  have HCS := hide hcs
  rw [← hcs]
  have fin : ∀ (w0 : World) (s0 : S8), s0.ok → Tabs w0 → HB w0 z t pre post (st8 s0) true wt n → Blk w0 w.heap.size cs 105 → True := fun _ _ _ _ _ _ => True.intro
  clear hB0 hH0 hT0 hcs fin hH hT
  cases g with
  | true =>
    have HOK := hide (hok rfl)
    clear hok
    have hB1 : Blk (w.alloc (.cells cs 105)) w.heap.size (bb.map u8c).toArray 105 := by rw [← HCS.out]; exact HB0.out
    have HB1 := hide hB1
    clear hB1
    go_enter Tryd.func96, Tryd.ntmps96
    go_wp2_with fail
    refine k3_walk _ (fun _ _ _ _ _ h => h) (w.alloc (.cells cs 105)) z w.heap.size t pre post s (blk s bb) true wt bb n HH0.out HB1.out hbb (by omega) (fun W' hW' => (block_any W' (HT0.out.below hW') s HOK.out bb hbb).mono fun e' w' h => ⟨h.1, h.2⟩) _ (Nat.lt_of_sub_pos (by exact Nat.succ_pos _)) rfl rfl ?_
    intro w1 hb1 w2 hH2 hg2
    have HH2 := hide hH2
    have HG : Hid (w.grownBy w2 (some z)) := hide (grownBy_trans (grownBy_below (hbx.trans (hb1.mono hbx.size))) hg2)
    clear hH2 hg2 hb1
    simp only [Act.put, List.setIfInBounds_toArray, List.set_cons_zero, List.set_cons_succ]
    go_wp2
    go_returns
    exact ⟨rfl, HH2.out, HG.out⟩
  | false =>
    clear hok
    go_enter Tryd.func96, Tryd.ntmps96
    go_wp2_with fail
    refine (start_any _).mono ?_
    rintro e w1 ⟨he, hb1⟩
    rw [val_st8] at he
    subst he
    have HH1 := hide (HH0.out.below hb1)
    have HT1 := hide (HT0.out.below hb1)
    have HB1 := hide (Blk.below HB0.out hb1 (Blk.lt HB0.out))
    have hb01 := hbx.trans (hb1.mono hbx.size)
    clear HH0 HT0 HB0 hb1 c8
    go_wp2_with ((with_reducible refine wpList_store_hs ?_ (.tmp 13) (.tmp 11) ?_ z t pre post (st8 s) false wt n begin8 ?_ ?_ HH1.out ?_); rfl; rfl; rfl; rfl; intro w2 HH2 HG2; have k8 := HH2.out.c8; have f8 := HH2.out.frozen (pre.length + 8))
    have hg2 := HG2.out
    have hH3 := HH2.out.setG true
    have hg3 : w1.grownBy (w2.setCell ⟨z, pre.length + 8, none⟩ (.bool true)) (some z) := grownBy_trans hg2 (grownBy_set w2 z _ _)
    have hB3 : Blk (w2.setCell ⟨z, pre.length + 8, none⟩ (.bool true)) w.heap.size (bb.map u8c).toArray 105 := by rw [← HCS.out]; exact HB1.out.grown hg3 (fun e => hne (Option.some.inj e).symm)
    have hT3 := HT1.out.grown hg3 (fun b e => by rw [← Option.some.inj e]; exact hz)
    refine k3_walk _ (fun _ _ _ _ _ h => h) (w2.setCell ⟨z, pre.length + 8, none⟩ (.bool true)) z w.heap.size t pre post begin8 (blk begin8 bb) true wt bb n hH3 hB3 hbb (by omega) (fun W' hW' => (block_any W' (hT3.below hW') begin8 begin8_ok bb hbb).mono fun e' w' h => ⟨h.1, h.2⟩) _ (Nat.lt_of_sub_pos (by exact Nat.succ_pos _)) rfl rfl ?_
    intro w4 hb4 w5 hH5 hg5
    have HH5 := hide hH5
    have HG : Hid (w.grownBy w5 (some z)) := hide (grownBy_trans (grownBy_trans (grownBy_trans (grownBy_below hb01) hg3) (grownBy_below hb4)) hg5)
    clear hH5 hg5 hb4 hH3 hg3 hB3 hT3 k8 f8
    simp only [Act.put, List.setIfInBounds_toArray, List.set_cons_zero, List.set_cons_succ]
    go_wp2
    go_returns
    exact ⟨rfl, HH5.out, HG.out⟩
end Go.Proofs.YtjcfndiceinkjabDoor

/- What Write does to what waits: copied in, cleared, loaded. -/
namespace Go.Proofs.YtjcfndiceinkjabDoor
set_option linter.unusedVariables false
set_option linter.unusedSimpArgs false
set_option maxRecDepth 100000
open Go.RowKit

theorem HB.setW {w : World} {z : Nat} {t : TypeId} {pre post s : List Value} {g : Bool} {W : List UInt8} {n : Nat} (h : HB w z t pre post s g W n) (A seg B news : List UInt8) (hW : W = A ++ (seg ++ B)) (hl : news.length = seg.length) :
    HB (w.setRow z ((pre ++ (hlist s g W n ++ post)).take (pre.length + 9 + A.length) ++ news.map u8c ++ (pre ++ (hlist s g W n ++ post)).drop (pre.length + 9 + A.length + news.length)).toArray) z t pre post s g (A ++ (news ++ B)) n ∧
    w.grownBy (w.setRow z ((pre ++ (hlist s g W n ++ post)).take (pre.length + 9 + A.length) ++ news.map u8c ++ (pre ++ (hlist s g W n ++ post)).drop (pre.length + 9 + A.length + news.length)).toArray) (some z) := by
  have e : pre ++ (hlist s g W n ++ post) = (pre ++ (s ++ (.bool g :: A.map u8c))) ++ (seg.map u8c ++ (B.map u8c ++ ([.int .u64 (n : Int)] ++ post))) := by rw [hW]; simp [hlist]
  have hA : (pre ++ (s ++ (.bool g :: A.map u8c))).length = pre.length + 9 + A.length := by simp [h.sl]; omega
  have hb := h.blk
  rw [e] at hb ⊢
  have := setRow_mid hb (news.map u8c) (by simp [hl])
  rw [hA, List.length_map] at this
  refine ⟨⟨?_, h.sl, by rw [← h.wl, hW]; simp [hl], h.one⟩, this.2⟩
  have e2 : pre ++ (hlist s g (A ++ (news ++ B)) n ++ post) = (pre ++ (s ++ (.bool g :: A.map u8c))) ++ (news.map u8c ++ (B.map u8c ++ ([.int .u64 (n : Int)] ++ post))) := by simp [hlist]
  rw [e2]
  exact this.1
/-- copy into what waits. -/
theorem wpList_copy_hw {ops : Array Oper} {rest : List Oper} {o : Oper} {a : Act} {w : World} {Q : Exit → Act → World → Prop} (hgd : o.guard = none) (d s : Operand)
    (ho : o.op = .call { callee := .builtin .copy, args := #[d, s], argTypes := #[23, 23] })
    (z : Nat) (t : TypeId) (pre post sc : List Value) (g : Bool) (W : List UInt8) (n : Nat) (hH : HB w z t pre post sc g W n) (A seg B ck : List UInt8) (hW : W = A ++ (seg ++ B)) (hl : ck.length = seg.length)
    (dl dc sb so sl sca : Nat) (hd : a.eval d = .slice (some ⟨z, pre.length + 9 + A.length, none⟩) dl dc) (hs : a.eval s = .slice (some ⟨sb, so, none⟩) sl sca) (hn : ck.length = Nat.min sl dl)
    (hsrc : ∀ i (h : i < ck.length), w.cell? ⟨sb, so + i, none⟩ = some (u8c ck[i]))
    (h : ∀ w', Hid (HB w' z t pre post sc g (A ++ (ck ++ B)) n) → Hid (w.grownBy w' (some z)) → wpList Tryd.prog ops Q rest (a.put o.dst (goInt ck.length)) w') : wpList Tryd.prog ops Q (o :: rest) a w := by
  refine wpList_plain hgd fun K hK => ?_
  have hfit : pre.length + 9 + A.length + (ck.map u8c).length ≤ (pre ++ (hlist sc g W n ++ post)).toArray.size := by
    have h1 := HB.len (g := g) (n := n) hH.sl hH.wl
    have h2 : A.length + ck.length ≤ 64 := by rw [← hH.wl, hW, hl]; simp
    simp only [List.length_map, List.size_toArray, List.length_append]
    omega
  have hrun := run_copy_row (P := Tryd.prog) w 23 23 o.type 5 z (pre.length + 9 + A.length) dl dc ⟨sb, so, none⟩ sl sca (pre ++ (hlist sc g W n ++ post)).toArray t (ck.map u8c) Tryd.underlying23 infoU8s hH.blk (by simpa using hn)
    (fun j v hj => by rw [Addr.add_mid]; exact rangeRd hsrc j v hj) hfit (u8c_one ck)
  have hs2 := hH.setW A seg B ck hW hl
  have hh := h _ (hide hs2.1) (hide hs2.2)
  simp only [List.length_map] at hrun
  unfold Oper.wp
  simp [execOp, ho, resolve, invoke, builtin, hd, hs, hrun, Result.andThen]
  refine hK _ _ ?_
  simpa using hh
theorem run_clear64 (w : World) (ty : TypeId) (z o : Nat) (t : TypeId) (cur : Array Value) (hg : Blk w z cur t) (hl : o + 64 ≤ cur.size) (zs : List Value) (hzs : zs = List.replicate 64 (Value.int .u8 0)) :
    (Builtin.clear_ #[23] ty #[.slice (some ⟨z, o, none⟩) 64 64]).run Tryd.prog w = .ok (.tuple #[]) (w.setRow z (cur.toList.take o ++ zs ++ cur.toList.drop (o + 64)).toArray) := by
  have hz : (zeroValue 5).run Tryd.prog w = .ok (.int .u8 0) w := by kernel_rfl
  have hzl : zs.length = 64 := by rw [hzs]; exact List.length_replicate
  have hst := run_storeCells_at Tryd.prog z o t zs 0 cur w hg (by simpa [hzl] using hl) (fun v hv => by rw [hzs] at hv; rw [(List.mem_replicate.1 hv).2]; rfl)
  have hzc : (Builtin.zeroCells (Value.int .u8 0).cells 64).toList = zs := by rw [hzs]; kernel_rfl
  simp only [Nat.add_zero, hzl] at hst
  clear hzs
  simp only [Builtin.clear_, Sem.run_bind, List.getElem?_toArray, List.getElem?_cons_zero, run_underlying Tryd.underlying23, Result.andThen_ok, hz, hzc, hst, Sem.run_pure]
/-- What waits is cleared. -/
theorem wpList_clear_hw {ops : Array Oper} {rest : List Oper} {o : Oper} {a : Act} {w : World} {Q : Exit → Act → World → Prop} (hgd : o.guard = none) (d : Operand)
    (ho : o.op = .call { callee := .builtin .clear, args := #[d], argTypes := #[23] })
    (z : Nat) (t : TypeId) (pre post sc : List Value) (g : Bool) (W : List UInt8) (n : Nat) (hH : HB w z t pre post sc g W n) (hd : a.eval d = .slice (some ⟨z, pre.length + 9, none⟩) 64 64)
    (h : ∀ w', Hid (HB w' z t pre post sc g (List.replicate 64 0) n) → Hid (w.grownBy w' (some z)) → wpList Tryd.prog ops Q rest (a.put o.dst (.tuple #[])) w') : wpList Tryd.prog ops Q (o :: rest) a w := by
  refine wpList_plain hgd fun K hK => ?_
  have hl : pre.length + 9 + 64 ≤ (pre ++ (hlist sc g W n ++ post)).toArray.size := by
    have h1 := HB.len (g := g) (n := n) hH.sl hH.wl
    simp only [List.size_toArray, List.length_append]
    omega
  obtain ⟨zs, hzs⟩ : ∃ zs : List Value, zs = List.replicate 64 (Value.int .u8 0) := ⟨_, rfl⟩
  have hrun := run_clear64 w o.type z (pre.length + 9) t _ hH.blk hl zs hzs
  have hs2 := hH.setW [] W [] (List.replicate 64 0) (by simp) (by rw [hH.wl]; simp)
  simp only [List.length_nil, Nat.add_zero, List.length_replicate, List.nil_append, List.append_nil, List.map_replicate] at hs2
  rw [show u8c 0 = Value.int .u8 0 from rfl, ← hzs] at hs2
  have hh := h _ (hide hs2.1) (hide hs2.2)
  unfold Oper.wp
  simp [execOp, ho, resolve, invoke, builtin, hd, hrun, Result.andThen]
  refine hK _ _ ?_
  simpa using hh
end Go.Proofs.YtjcfndiceinkjabDoor

/- A Hasher that has taken these bytes. -/
namespace Go.Proofs.YtjcfndiceinkjabDoor
set_option linter.unusedVariables false
set_option linter.unusedSimpArgs false
set_option maxRecDepth 100000
open Go.RowKit

/-- What waits, and zeros. -/
def wait (bs : List UInt8) : List UInt8 := bs.drop (64 * (bs.length / 64)) ++ List.replicate (64 - bs.length % 64) 0
theorem wait_len (bs : List UInt8) : (wait bs).length = 64 := by
  simp only [wait, List.length_append, List.length_drop, List.length_replicate]; omega
/-- A Hasher in memory that has taken bs. -/
def HOf (w : World) (z : Nat) (t : TypeId) (pre post : List Value) (bs : List UInt8) : Prop :=
  ∃ s : S8, HB w z t pre post (st8 s) (decide (64 ≤ bs.length)) (wait bs) bs.length ∧ (64 ≤ bs.length → s = chain begin8 (bs.length / 64) bs)
theorem HOf.grown {w w' : World} {z : Nat} {t : TypeId} {pre post : List Value} {bs : List UInt8} {row : Option Nat} (h : HOf w z t pre post bs) (hg : w.grownBy w' row) (hne : some z ≠ row) : HOf w' z t pre post bs := by
  obtain ⟨s, h1, h2⟩ := h
  exact ⟨s, h1.grown hg hne, h2⟩
theorem HOf.below {w w' : World} {z : Nat} {t : TypeId} {pre post : List Value} {bs : List UInt8} (h : HOf w z t pre post bs) (hb : Below w.heap.size w w') : HOf w' z t pre post bs := h.grown (row := none) (grownBy_below hb) (by simp)
theorem HOf.lt {w : World} {z : Nat} {t : TypeId} {pre post : List Value} {bs : List UInt8} (h : HOf w z t pre post bs) : z < w.heap.size := by
  obtain ⟨s, h1, h2⟩ := h
  exact h1.blk.lt
/-- Full blocks that were taken, and the state behind them. -/
structure LS (s : S8) (g : Bool) (ds : List UInt8) : Prop where
  g : g = decide (64 ≤ ds.length)
  s : 64 ≤ ds.length → s = chain begin8 (ds.length / 64) ds
  m : ds.length % 64 = 0
theorem LS.ok {s : S8} {g : Bool} {ds : List UInt8} (h : LS s g ds) (hg : g = true) : s.ok := by
  have := h.g
  rw [hg] at this
  rw [h.s (by simpa using this.symm)]
  exact chain_ok begin8_ok _ _
theorem LS.step {s : S8} {g : Bool} {ds bb : List UInt8} (h : LS s g ds) (hb : bb.length = 64) : LS (blk (if g then s else begin8) bb) true (ds ++ bb) := by
  have hm := h.m
  refine ⟨by simp [hb], fun _ => ?_, by rw [List.length_append, hb]; omega⟩
  rw [List.length_append, hb, show (ds.length + 64) / 64 = ds.length / 64 + 1 by omega, chain_succ begin8 (ds.length / 64) ds bb (by omega) hb]
  congr 1
  cases hg : g with
  | true =>
    have := h.g
    rw [hg] at this
    rw [if_pos rfl]
    exact h.s (by simpa using this.symm)
  | false =>
    have := h.g
    rw [hg] at this
    have hl : ds = [] := List.eq_nil_of_length_eq_zero (by have : ¬ 64 ≤ ds.length := by simpa using this.symm
                                                           omega)
    subst hl
    rfl
theorem LS.start {s : S8} {bs : List UInt8} (h : 64 ≤ bs.length → s = chain begin8 (bs.length / 64) bs) : LS s (decide (64 ≤ bs.length)) (bs.take (64 * (bs.length / 64))) := by
  have hl : (bs.take (64 * (bs.length / 64))).length = 64 * (bs.length / 64) := by simp; omega
  refine ⟨?_, fun hx => ?_, by omega⟩
  · rw [hl]; congr 1; simp only [eq_iff_iff]; omega
  · rw [hl] at hx ⊢
    rw [h (by omega), show 64 * (bs.length / 64) / 64 = bs.length / 64 by omega, chain_take _ _ _ _ (Nat.le_refl _)]
/-- Behind the full blocks ds, ys waits. -/
theorem LS.fin {s : S8} {g : Bool} {ds ys : List UInt8} (h : LS s g ds) (hy : ys.length < 64) {w : World} {z : Nat} {t : TypeId} {pre post : List Value} (n : Nat) (hn : n = (ds ++ ys).length)
    (hH : HB w z t pre post (st8 s) g (ys ++ List.replicate (64 - ys.length) 0) n) : HOf w z t pre post (ds ++ ys) := by
  have hm := h.m
  have hl : (ds ++ ys).length = ds.length + ys.length := List.length_append
  refine ⟨s, ?_, fun hx => ?_⟩
  · have e1 : decide (64 ≤ (ds ++ ys).length) = g := by rw [h.g, hl]; congr 1; simp only [eq_iff_iff]; omega
    have e2 : wait (ds ++ ys) = ys ++ List.replicate (64 - ys.length) 0 := by
      unfold wait
      rw [hl, show 64 * ((ds.length + ys.length) / 64) = ds.length by omega, List.drop_left, show (ds.length + ys.length) % 64 = ys.length by omega]
    rw [e1, e2, ← hn]; exact hH
  · rw [hl] at hx ⊢
    rw [h.s (by omega), show (ds.length + ys.length) / 64 = ds.length / 64 by omega]
    have := chain_take begin8 (ds.length / 64) (ds ++ ys) ds.length (by omega)
    rw [List.take_left] at this
    exact this
theorem split_bs (bs : List UInt8) : bs = bs.take (64 * (bs.length / 64)) ++ bs.drop (64 * (bs.length / 64)) := (List.take_append_drop _ _).symm
theorem sliceCutH (b o L c q : Nat) (h1 : q ≤ L) (h2 : L ≤ c) (i : Int) (hi : i = q) : ∃ o', (q < L → o' = o + q) ∧ ∀ W : World, (Instr.sliceAt 23 (.slice (some ⟨b, o, none⟩) L c) (some (.int .i64 i)) none none).run Tryd.prog W = .ok (.slice (some ⟨b, o', none⟩) (L - q) (c - q)) W := by
  subst hi
  have hs : ∀ W : World, (sizeOf (Tryd.prog.elem 23)).run Tryd.prog W = .ok 1 W := fun W => by kernel_rfl
  have hu : Tryd.prog.underlying 23 = some (.slice (Tryd.prog.elem 23)) := by kernel_rfl
  have key : ∀ W : World, (Instr.slice 23 (.slice (some ⟨b, o, none⟩) L c) (some (.int .i64 (q : Int))) none none).run Tryd.prog W = .ok (sliced (some ⟨b, o, none⟩) q L c 1) W := fun W => by
    rw [run_slice_l W 23 (some ⟨b, o, none⟩) L c hu .i64 q (by omega) (by omega), hs]
    simp [Result.andThen]
  refine ⟨if c = q then o else o + q, fun h => if_neg (by omega), fun W => ?_⟩
  rw [run_sliceAt_slice _ _ _ _ _ _ hu, key]; unfold sliced; split <;> simp_all [Addr.add_mid]
end Go.Proofs.YtjcfndiceinkjabDoor
