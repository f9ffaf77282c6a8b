/- PinsPlays: what the law makes first; a step of either pair. -/
import Derived.Test.YtagnglkkmdeicaaPA20
namespace Go.Proofs.Ytagnglkkmdeicaa
set_option linter.unusedVariables false
set_option linter.unusedSimpArgs false
open Go.RowKit Go.Shelf
set_option maxRecDepth 100000

theorem zero_2p (W : World) : (zeroValue 24).run Try.prog W = .ok (.agg #[.pointer none, .pointer none]) W := by kernel_rfl
theorem zero_2r (W : World) : (zeroValue 26).run Try.prog W = .ok (.agg #[.pointer none, .pointer none]) W := by kernel_rfl
abbrev os0 : List (Option SesV) := List.replicate 16 none
abbrev D0 : List RfV := List.replicate 16 rf0
theorem os0_no {s : Nat} {v : SesV} (e : os0[s]? = some (some v)) : False := by
  have := List.eq_of_mem_replicate (List.mem_of_getElem? e)
  cases this
theorem pins0_set {w : World} {z i zp : Nat} {v : Value} (h : PinsAt w zp os0) (hne : zp ≠ z) : PinsAt (w.setCell ⟨z, i, none⟩ v) zp os0 :=
  ⟨h.blk.setOther _ _ hne, h.len, fun _ _ e => (os0_no e).elim, h.apart⟩
theorem rf0_set {w : World} {z i zr : Nat} {v : Value} (h : RfAt w zr D0) (hne : zr ≠ z) : RfAt (w.setCell ⟨z, i, none⟩ v) zr D0 :=
  ⟨h.blk.setOther _ _ hne, h.len, fun s d e => by
    have hd : d = rf0 := List.eq_of_mem_replicate (List.mem_of_getElem? e)
    subst hd
    exact ⟨fun i hi => absurd hi (by simp [rf0]), fun k hk => absurd hk (by simp [rf0])⟩, h.far⟩
theorem ft0 {zp zr i : Nat} (h : Ft zp zr os0 i) : i = zp ∨ i = zr := by
  rcases h with h | h | ⟨k, v, e, _⟩
  · exact .inl h
  · exact .inr h
  · exact (os0_no e).elim
abbrev pt (z : Nat) : Value := .pointer (some ⟨z, 0, none⟩)
structure Md0 (w W : World) : Prop where
  ba : Blk W w.heap.size #[.pointer none, .pointer none] 24
  bb : Blk W (w.heap.size + 1) #[.pointer none, .pointer none] 26
  bel : Below w.heap.size w W
structure Md1 (w W : World) (zp zr : Nat) : Prop where
  ba : Blk W w.heap.size #[pt zp, .pointer none] 24
  bb : Blk W (w.heap.size + 1) #[pt zr, .pointer none] 26
  bel : Below w.heap.size w W
  p : PinsAt W zp os0
  r : RfAt W zr D0
  lp : w.heap.size ≤ zp
  lr : w.heap.size ≤ zr
structure Md2 (w W : World) (zp zr zq zs : Nat) : Prop where
  pl : Pl w.heap.size w.heap.size (w.heap.size + 1) zp zr zq zs 0 W
  bel : Below w.heap.size w W
theorem ne_pp {w : World} {z zp : Nat} {cs : Array Value} (h : PinsAt w zp os0) (hb : Blk w z cs 24) : zp ≠ z := blk_ne h.blk hb (by decide)
theorem ne_pr {w : World} {z zp : Nat} {cs : Array Value} (h : PinsAt w zp os0) (hb : Blk w z cs 26) : zp ≠ z := blk_ne h.blk hb (by decide)
theorem ne_rp {w : World} {z zp : Nat} {cs : Array Value} (h : RfAt w zp D0) (hb : Blk w z cs 24) : zp ≠ z := blk_ne h.blk hb (by decide)
theorem ne_rr {w : World} {z zp : Nat} {cs : Array Value} (h : RfAt w zp D0) (hb : Blk w z cs 26) : zp ≠ z := blk_ne h.blk hb (by decide)
theorem bel_set {w W w1 : World} {z i : Nat} {v : Value} (h : Below w.heap.size w W) (h1 : Below W.heap.size W w1) (hz : w.heap.size ≤ z) : Below w.heap.size w (w1.setCell ⟨z, i, none⟩ v) :=
  (h.trans (h1.mono h.size)).trans (below_grownBy (grownBy_set w1 z i v) hz (Nat.le_trans h.size h1.size))
/-- The first New is laid. -/
theorem Md0.one {w W w1 w3 : World} {zp zr : Nat} (h : Md0 w W) (h1 : Below W.heap.size W w1) (p1 : PinsAt w1 zp os0) (l1 : W.heap.size ≤ zp) (h3 : Below (w1.setCell ⟨w.heap.size, 0, none⟩ (pt zp)).heap.size (w1.setCell ⟨w.heap.size, 0, none⟩ (pt zp)) w3) (r3 : RfAt w3 zr D0) (l3 : (w1.setCell ⟨w.heap.size, 0, none⟩ (pt zp)).heap.size ≤ zr) : Md1 w (w3.setCell ⟨w.heap.size + 1, 0, none⟩ (pt zr)) zp zr := by
  have ba1 := h.ba.below h1 h.ba.lt
  have bb1 := h.bb.below h1 h.bb.lt
  have ba2 : Blk _ _ _ _ := ba1.set 0 (pt zp)
  have bb2 : Blk (w1.setCell ⟨w.heap.size, 0, none⟩ (pt zp)) _ _ _ := bb1.setOther _ _ (by simp)
  have p2 := pins0_set (i := 0) (v := pt zp) p1 (ne_pp p1 ba1)
  have b2 := bel_set (i := 0) (v := pt zp) h.bel h1 (Nat.le_refl _)
  have ba3 := ba2.below h3 ba2.lt
  have bb3 := bb2.below h3 bb2.lt
  have p3 := p2.below h3
  exact ⟨ba3.setOther _ _ (by simp), bb3.set 0 (pt zr), bel_set b2 h3 (by omega), pins0_set p3 (ne_pr p3 bb3), rf0_set r3 (ne_rr r3 bb3), Nat.le_trans h.bel.size l1, Nat.le_trans b2.size l3⟩
/-- The second New is laid. -/
theorem Md1.two {w W w1 w3 : World} {zp zr zq zs : Nat} (h : Md1 w W zp zr) (h1 : Below W.heap.size W w1) (p1 : PinsAt w1 zq os0) (l1 : W.heap.size ≤ zq) (h3 : Below (w1.setCell ⟨w.heap.size, 1, none⟩ (pt zq)).heap.size (w1.setCell ⟨w.heap.size, 1, none⟩ (pt zq)) w3) (r3 : RfAt w3 zs D0) (l3 : (w1.setCell ⟨w.heap.size, 1, none⟩ (pt zq)).heap.size ≤ zs) : Md2 w (w3.setCell ⟨w.heap.size + 1, 1, none⟩ (pt zs)) zp zr zq zs := by
  have ba1 := h.ba.below h1 h.ba.lt
  have bb1 := h.bb.below h1 h.bb.lt
  have pa1 := h.p.below h1
  have ra1 := h.r.below h1
  have ba2 : Blk _ _ _ _ := ba1.set 1 (pt zq)
  have bb2 : Blk (w1.setCell ⟨w.heap.size, 1, none⟩ (pt zq)) _ _ _ := bb1.setOther _ _ (by simp)
  have p2 := pins0_set (i := 1) (v := pt zq) p1 (ne_pp p1 ba1)
  have pa2 := pins0_set (i := 1) (v := pt zq) pa1 (ne_pp pa1 ba1)
  have ra2 := rf0_set (i := 1) (v := pt zq) ra1 (ne_rp ra1 ba1)
  have b2 := bel_set (i := 1) (v := pt zq) h.bel h1 (Nat.le_refl _)
  have ba3 := ba2.below h3 ba2.lt
  have bb3 := bb2.below h3 bb2.lt
  have p3 := p2.below h3
  have pa3 := pa2.below h3
  have ra3 := ra2.below h3
  have q1 := h.p.blk.lt
  have q2 := h.r.blk.lt
  have q3 := p1.blk.lt
  have q4 := h1.size
  have q5 := p2.blk.lt
  have q6 := h.bel.size
  have q7 := pa2.blk.lt
  have q8 := ra2.blk.lt
  refine ⟨⟨ba3.setOther _ _ (by simp), bb3.set 1 (pt zs), os0, D0, os0, D0, ⟨pins0_set pa3 (ne_pr pa3 bb3), rf0_set ra3 (ne_rr ra3 bb3), Rel.begin⟩, ⟨pins0_set p3 (ne_pr p3 bb3), rf0_set r3 (ne_rr r3 bb3), Rel.begin⟩, fun i hi => ?_, fun i hi => ?_⟩, bel_set b2 h3 (by omega)⟩
  · have a1 := h.lp
    have a2 := h.lr
    rcases ft0 hi with rfl | rfl
    · exact ⟨a1, fun t => by rcases ft0 t with e | e <;> omega⟩
    · exact ⟨a2, fun t => by rcases ft0 t with e | e <;> omega⟩
  · rcases ft0 hi with rfl | rfl <;> omega
structure Sp where
  d : Int
  ot : Bool
  s : Int
  x : List UInt8
  al : Bool
def Sp.L (p : Sp) : List Value := stL p.d p.ot p.s p.x p.al
structure SRow (w : World) (ao : Option Addr) (ps : List Sp) : Prop where
  at' : ∀ i (h : i < ps.length), ∃ g o, ao = some ⟨g, o, none⟩ ∧ w.rangeAt g (o + i * 36) ps[i].L
  len : ∀ p ∈ ps, p.x.length = 32
/-- One step of either pair. -/
theorem Pl.run (SP : SpoH) {w0 W : World} {N za zb zp zr zq zs m ax zk : Nat} (ha : ax < 2) (hP : Pl N za zb zp zr zq zs m W) (hb : Below N w0 W) (hk : KeyAt W zk K5) (hm : m ≤ 4398046510976) (dd s : Int) (ot al : Bool) (x : List UInt8) (hx : x.length = 32) : Calls Try.prog 7 #[.pointer (some ⟨pAt zp zq ax, 0, none⟩), .pointer (some ⟨pAt zr zs ax, 0, none⟩), .agg (stL dd ot s x al).toArray] W fun e w' => e = .returned (.bool true) ∧ (Pl N za zb zp zr zq zs (m + 1) w' ∧ Below N w0 w' ∧ KeyAt w' zk K5) := by
  refine (hP.step SP ha hm dd s ot al x hx).mono ?_
  rintro e w' ⟨h1, h2, h3, h4⟩
  exact ⟨h1, h2, hb.trans h3, ⟨h4 _ _ hk.1, hk.2⟩⟩
theorem wpList_K5 {ops : Array Oper} {rest : List Oper} {op : Oper} {a : Act} {w : World} {Q : Exit → Act → World → Prop} (ho : op.op = .build 30 #[(5, .const (.int .u8 5))]) (hg : Region.wanted op (yielded ops a.tmps) = true)
    (h : wpList Try.prog ops Q rest (a.put op.dst (keyV K5)) w) : wpList Try.prog ops Q (op :: rest) a w :=
  wpList_val _ hg (by simp only [execOp, ho]; kernel_rfl) h
theorem stL_len {p : Sp} (h : p.x.length = 32) : p.L.length = 36 := by simp [Sp.L, stL, h]
def PlaysC (w : World) (e : Ending) (w' : World) : Prop := e = .returned (.bool true) ∧ Below w.heap.size w w'
end Go.Proofs.Ytagnglkkmdeicaa
