/- Rows that grow in turns beside an Enc: nobody writes to a block outside X. -/
import Derived.Test.YtinjcefekbpabaaJ3
import Derived.Test.YtinjcefekbpabaaK2
import Derived.Maps.AppendAt
namespace Go.Proofs.Ytinjcefekbpabaa
set_option linter.unusedVariables false
set_option linter.unusedSimpArgs false
open Go.RowKit

theorem ChainL.lt {w : World} {X : Nat → Prop} : ∀ (l : List Nat) (p : Option Addr) (pre : List UInt8), ChainL w X l p pre → ∀ b ∈ l, b < w.heap.size
  | [], _, _, _ => by simp
  | b :: l, _, _, h => by
    obtain ⟨_, _, p', pre', blk, h3, h4, _⟩ := h
    intro c hc
    rcases List.mem_cons.1 hc with rfl | hc
    · exact h4.lt
    · exact ChainL.lt l p' pre' h3 c hc
theorem ChainL.addX {w : World} {X Y : Nat → Prop} : ∀ (l : List Nat) (p : Option Addr) (pre : List UInt8), ChainL w X l p pre → (∀ b ∈ l, ¬ X b → ¬ Y b) → ChainL w Y l p pre
  | [], _, _, h, _ => h
  | b :: l, _, _, h, hy => by
    obtain ⟨h1, h2, p', pre', blk, h3, h4⟩ := h
    exact ⟨h1, hy b (by simp) h2, p', pre', blk, ChainL.addX l p' pre' h3 (fun c hc => hy c (by simp [hc])), h4⟩
/-- A new block may be written to besides. -/
theorem EncSt.addX {w w' : World} {X : Nat → Prop} {z : Nat} {xs : List UInt8} (h : EncSt w X z xs) (hb : Below w.heap.size w w') (g : Nat) (h1 : w.heap.size ≤ g) (h2 : g < w'.heap.size) : EncSt w' (fun b => X b ∨ b = g) z xs := by
  obtain ⟨m, l, p, pre, part, tl, ⟨ll, hc⟩, r⟩ := h
  have h' := (EncSt.below ⟨m, l, p, pre, part, tl, ⟨ll, hc⟩, r⟩ hb)
  refine ⟨.inl m, ?_, p, pre, part, tl, ⟨ll, ?_⟩, ?_⟩
  · rintro b (hx | rfl)
    · exact Nat.lt_of_lt_of_le (l b hx) hb.size
    · exact h2
  · have := ChainL.lt ll p pre hc
    refine ChainL.grown (row := none) (grownBy_below hb) (fun b e => by cases e) ll p pre (ChainL.addX ll p pre hc ?_)
    rintro b hb1 hx (hx2 | rfl)
    · exact hx hx2
    · have := this b hb1; omega
  · exact ⟨r.1, r.2.1, r.2.2.1, r.2.2.2.1, r.2.2.2.2.below hb (l z m)⟩

theorem owns_grown {w w' : World} {base : Nat} {e : TypeId} {v : Value} {n : Nat} {ys : List Value} {row : Option Nat} (h : w.ownsRow base e 1 v n ys) (hg : w.grownBy w' row) (hne : ∀ g, v.ownBlock = some g → some g ≠ row) : w'.ownsRow base e 1 v n ys := by
  obtain ⟨h0, h1 | ⟨g, cap, cur, rfl, hb, hh, hr⟩⟩ := h
  · exact ⟨h0, .inl h1⟩
  · have hlt : g < w.heap.size := Blk.lt (cs := cur) (t := e) hh
    exact ⟨h0, .inr ⟨g, cap, cur, rfl, hb, (hg.block g hlt (hne g rfl)).trans hh, hr⟩⟩
theorem owns_lt {w : World} {base : Nat} {e : TypeId} {v : Value} {n : Nat} {ys : List Value} (h : w.ownsRow base e 1 v n ys) (g : Nat) (hg : v.ownBlock = some g) : base ≤ g ∧ g < w.heap.size := by
  obtain ⟨h0, ⟨rfl, _⟩ | ⟨g', cap, cur, rfl, hb, hh, hr⟩⟩ := h
  · cases hg
  · cases hg
    exact ⟨hb, Blk.lt (cs := cur) (t := e) hh⟩
theorem owns_below {w w' : World} {base : Nat} {e : TypeId} {v : Value} {n : Nat} {ys : List Value} (h : w.ownsRow base e 1 v n ys) (hb : Below w.heap.size w w') : w'.ownsRow base e 1 v n ys :=
  owns_grown (row := none) h (grownBy_below hb) (fun _ _ => by simp)

/-- Bytes that nobody writes to. -/
def Keeps (X : Nat → Prop) (w : World) (v : Value) (bs : List UInt8) : Prop :=
  Rd w v bs ∧ ∀ b o l c, v = .slice (some ⟨b, o, none⟩) l c → b < w.heap.size ∧ ¬ X b
theorem Keeps.grown {X : Nat → Prop} {w w' : World} {v : Value} {bs : List UInt8} {row : Option Nat} (h : Keeps X w v bs) (hg : w.grownBy w' row) (hr : ∀ b, some b = row → X b) : Keeps X w' v bs := by
  obtain ⟨⟨ao, c, rfl, h1, h2, h3⟩, h4⟩ := h
  refine ⟨⟨ao, c, rfl, h1, h2, ?_⟩, fun b o l c e => ⟨Nat.lt_of_lt_of_le (h4 b o l c e).1 hg.size, (h4 b o l c e).2⟩⟩
  rcases h3 with h | ⟨b, o, rfl, hc⟩
  · exact .inl h
  · refine .inr ⟨b, o, rfl, fun i hi => ?_⟩
    have hx := h4 b o _ _ rfl
    rw [← hc i hi]
    unfold World.cell?
    rw [hg.block b hx.1 (fun e => hx.2 (hr b e))]
theorem Keeps.addX {X : Nat → Prop} {w : World} {v : Value} {bs : List UInt8} (h : Keeps X w v bs) (g : Nat) (hg : w.heap.size ≤ g) : Keeps (fun b => X b ∨ b = g) w v bs :=
  ⟨h.1, fun b o l c e => ⟨(h.2 b o l c e).1, fun hx => by
    rcases hx with hx | rfl
    · exact (h.2 b o l c e).2 hx
    · have := (h.2 b o l c e).1; omega⟩⟩
theorem Keeps.made {X : Nat → Prop} {w : World} {v : Value} {bs : List UInt8} {base : Nat} (h : w.ownsRow base 5 1 v bs.length (bs.map u8c)) (hX : ∀ b, X b → b < base) : Keeps X w v bs := by
  refine ⟨Rd_owned h, ?_⟩
  rintro b o l c rfl
  have := owns_lt h b rfl
  exact ⟨this.2, fun hx => by have := hX b hx; omega⟩

/-- A row of the call's own has grown, in its place or in a new one. -/
theorem EncSt.row {w w' : World} {X : Nat → Prop} {z : Nat} {xs : List UInt8} {va va' : Value} (h : EncSt w X z xs) (hg : w.grownBy w' va.ownBlock) (ha : ∀ g, va.ownBlock = some g → X g ∧ g ≠ z) (hl : va'.ownBlock = va.ownBlock ∨ va'.ownBlock = some w.heap.size) (hw : ∀ g, va'.ownBlock = some g → g < w'.heap.size) : EncSt w' (fun b => X b ∨ va'.ownBlock = some b) z xs := by
  have hX : ∀ b, some b = va.ownBlock → X b := fun b e => (ha b e.symm).1
  obtain ⟨m, l, p, pre, part, tl, ⟨ll, hc⟩, r⟩ := h
  refine ⟨.inl m, ?_, p, pre, part, tl, ⟨ll, ?_⟩, ?_⟩
  · rintro b (hx | hx)
    · exact Nat.lt_of_lt_of_le (l b hx) hg.size
    · exact hw b hx
  · have hlt := ChainL.lt ll p pre hc
    refine ChainL.addX ll p pre (ChainL.grown hg hX ll p pre hc) ?_
    rintro b hb1 hx (hx2 | hx2)
    · exact hx hx2
    · rcases hl with e | e
      · rw [e] at hx2; exact hx (ha b hx2).1
      · rw [e] at hx2; have := hlt b hb1; have := Option.some.inj hx2; omega
  · exact ⟨r.1, r.2.1, r.2.2.1, r.2.2.2.1, r.2.2.2.2.grown hg (fun e => (ha z e.symm).2 rfl)⟩
theorem Keeps.row {X : Nat → Prop} {w w' : World} {v va va' : Value} {bs : List UInt8} (h : Keeps X w v bs) (hg : w.grownBy w' va.ownBlock) (ha : ∀ g, va.ownBlock = some g → X g) (hl : va'.ownBlock = va.ownBlock ∨ va'.ownBlock = some w.heap.size) : Keeps (fun b => X b ∨ va'.ownBlock = some b) w' v bs := by
  have h1 := h.grown hg (fun b e => ha b e.symm)
  refine ⟨h1.1, fun b o l c e => ⟨(h1.2 b o l c e).1, fun hx => ?_⟩⟩
  rcases hx with hx | hx
  · exact (h1.2 b o l c e).2 hx
  · rcases hl with e2 | e2
    · rw [e2] at hx; exact (h.2 b o l c e).2 (ha b hx)
    · rw [e2] at hx; have := (h.2 b o l c e).1; have := Option.some.inj hx; omega

/-- append of bytes to a row of the call's own: where the new row lies. -/
theorem wpList_append_rdX {ops : Array Oper} {rest : List Oper} {o : Oper} {a : Act} {w : World} {Q : Exit → Act → World → Prop} (hgd : o.guard = none) (s x : Operand) (ho : o.op = .call { callee := .builtin .append, args := #[s, x], argTypes := #[28, 28] })
    (base : Nat) (v u : Value) (xs ys : List UInt8) (hs : a.eval s = v) (hown : w.ownsRow base 5 1 v xs.length (xs.map u8c)) (hx : a.eval x = u) (hrd : RdA w u ys) (hlen : xs.length + ys.length ≤ 140737488355000) (hbase : base ≤ w.heap.size)
    (h : ∀ v' w', Hid (OwnsB w' base v' (xs ++ ys)) → Hid (w.grownBy w' v.ownBlock) → Hid (v'.ownBlock = v.ownBlock ∨ v'.ownBlock = some w.heap.size) → wpList Try.prog ops Q rest (a.put o.dst v') w') : wpList Try.prog ops Q (o :: rest) a w := by
  obtain ⟨i0, hi, hz0, hz1, hz2⟩ := info_parts infoU8
  have go : ∀ (ad : Addr) (m c : Nat), u = .slice (some ad) m c → m = ys.length → (∀ j q, (ys.map u8c)[j]? = some q → w.cell? (ad.add j) = some q) → wpList Try.prog ops Q (o :: rest) a w := by
    intro ad m c e hm hn
    subst e
    subst hm
    refine wpList_append_own_at w hgd s x 28 ho base 5 i0 (.int .u8 0) 1 1 Try.underlying28 hi hz0 hz1 hz2 rfl (by decide) v xs.length (xs.map u8c) hs hown ad ys.length c (ys.map u8c) hx (by simp) hn (u8c_one ys) (by unfold maxLen; omega) (by omega) hbase ?_
    intro v' w' h1 h2 _ h4
    exact h v' w' (hide (by unfold OwnsB; rw [List.length_append, List.map_append]; exact h1)) (hide h2) (hide h4)
  rcases hrd with hrd | ⟨ad, rfl, rfl⟩
  · rcases hrd.form with ⟨rfl, rfl⟩ | ⟨b, o', c, e, hcell⟩
    · have hh := h v w (hide (by unfold OwnsB; simpa using hown)) (hide ⟨rfl, rfl, rfl, Nat.le_refl _, fun _ _ _ => rfl⟩) (hide (.inl rfl))
      refine wpList_plain hgd fun K hK => ?_
      obtain ⟨_, ⟨rfl, _⟩ | ⟨g, cap, cur, rfl, _, _, hc, _⟩⟩ := hown
      · have hrun := append_nil_nil w o.type
        unfold Oper.wp
        simp [execOp, ho, resolve, invoke, builtin, hs, hx, hrun, Result.andThen]
        exact hK _ _ hh
      · have hrun := append_own_nil w o.type g xs.length cap hc
        unfold Oper.wp
        simp [execOp, ho, resolve, invoke, builtin, hs, hx, hrun, Result.andThen]
        exact hK _ _ hh
    · exact go ⟨b, o', none⟩ ys.length c e rfl (Rd_news hcell)
  · exact go ad 0 0 rfl rfl (fun j q hj => by simp at hj)

/-- Two Encs that share their full blocks, and three rows of bytes that grow. -/
structure WP (B : Nat) (w : World) (X : Nat → Prop) (z z2 : Nat) (x1 x2 : List UInt8) (va : Value) (ya : List UInt8) (v1 : Value) (y1 : List UInt8) (v2 : Value) (y2 : List UInt8) : Prop where
  e1 : EncSt w X z x1
  e2 : EncSt w X z2 x2
  zz : z ≠ z2
  ra : OwnsB w B va ya
  r1 : OwnsB w B v1 y1
  r2 : OwnsB w B v2 y2
  xa : ∀ g, va.ownBlock = some g → X g ∧ g ≠ z ∧ g ≠ z2
  b1 : ∀ g, v1.ownBlock = some g → X g ∧ g ≠ z ∧ g ≠ z2 ∧ va.ownBlock ≠ some g
  b2 : ∀ g, v2.ownBlock = some g → X g ∧ g ≠ z ∧ g ≠ z2 ∧ va.ownBlock ≠ some g ∧ v1.ownBlock ≠ some g
theorem WP.below {B : Nat} {w w' : World} {X : Nat → Prop} {z z2 : Nat} {x1 x2 : List UInt8} {va : Value} {ya : List UInt8} {v1 : Value} {y1 : List UInt8} {v2 : Value} {y2 : List UInt8} (h : WP B w X z z2 x1 x2 va ya v1 y1 v2 y2) (hb : Below w.heap.size w w') : WP B w' X z z2 x1 x2 va ya v1 y1 v2 y2 :=
  ⟨h.e1.below hb, h.e2.below hb, h.zz, owns_below h.ra hb, owns_below h.r1 hb, owns_below h.r2 hb, h.xa, h.b1, h.b2⟩
theorem WP.put1 {B : Nat} {w w' : World} {X : Nat → Prop} {z z2 : Nat} {x1 x2 x1' : List UInt8} {va : Value} {ya : List UInt8} {v1 : Value} {y1 : List UInt8} {v2 : Value} {y2 : List UInt8} (h : WP B w X z z2 x1 x2 va ya v1 y1 v2 y2) (he : EncSt w' X z x1') (hg : w.grownBy w' (some z)) : WP B w' X z z2 x1' x2 va ya v1 y1 v2 y2 :=
  ⟨he, h.e2.grown hg (fun e => h.zz (Option.some.inj e).symm) (fun b e => by rw [Option.some.inj e]; exact h.e1.mem), h.zz, owns_grown h.ra hg (fun g e e2 => (h.xa g e).2.1 (Option.some.inj e2)), owns_grown h.r1 hg (fun g e e2 => (h.b1 g e).2.1 (Option.some.inj e2)), owns_grown h.r2 hg (fun g e e2 => (h.b2 g e).2.1 (Option.some.inj e2)), h.xa, h.b1, h.b2⟩
theorem WP.put2 {B : Nat} {w w' : World} {X : Nat → Prop} {z z2 : Nat} {x1 x2 x2' : List UInt8} {va : Value} {ya : List UInt8} {v1 : Value} {y1 : List UInt8} {v2 : Value} {y2 : List UInt8} (h : WP B w X z z2 x1 x2 va ya v1 y1 v2 y2) (he : EncSt w' X z2 x2') (hg : w.grownBy w' (some z2)) : WP B w' X z z2 x1 x2' va ya v1 y1 v2 y2 :=
  ⟨h.e1.grown hg (fun e => h.zz (Option.some.inj e)) (fun b e => by rw [Option.some.inj e]; exact h.e2.mem), he, h.zz, owns_grown h.ra hg (fun g e e2 => (h.xa g e).2.2 (Option.some.inj e2)), owns_grown h.r1 hg (fun g e e2 => (h.b1 g e).2.2.1 (Option.some.inj e2)), owns_grown h.r2 hg (fun g e e2 => (h.b2 g e).2.2.1 (Option.some.inj e2)), h.xa, h.b1, h.b2⟩
theorem row_at {w : World} {v v' : Value} (hl : v'.ownBlock = v.ownBlock ∨ v'.ownBlock = some w.heap.size) {P : Nat → Prop} (h1 : ∀ g, v.ownBlock = some g → P g) (h2 : P w.heap.size) : ∀ g, v'.ownBlock = some g → P g := by
  intro g e
  rcases hl with e1 | e1
  · exact h1 g (e1 ▸ e)
  · rw [e1] at e
    rw [← Option.some.inj e]
    exact h2
theorem WP.row1 {B : Nat} {w w' : World} {X : Nat → Prop} {z z2 : Nat} {x1 x2 : List UInt8} {va : Value} {ya : List UInt8} {v1 v1' : Value} {y1 y1' : List UInt8} {v2 : Value} {y2 : List UInt8} (h : WP B w X z z2 x1 x2 va ya v1 y1 v2 y2) (ho : OwnsB w' B v1' y1') (hg : w.grownBy w' v1.ownBlock) (hl : v1'.ownBlock = v1.ownBlock ∨ v1'.ownBlock = some w.heap.size) : WP B w' (fun b => X b ∨ v1'.ownBlock = some b) z z2 x1 x2 va ya v1' y1' v2 y2 := by
  have l1 := h.e1.zlt
  have l2 := h.e2.zlt
  have la := owns_lt h.ra
  have l3 := owns_lt h.r2
  have hn := row_at hl (P := fun g => g ≠ z ∧ g ≠ z2 ∧ va.ownBlock ≠ some g ∧ v2.ownBlock ≠ some g) (fun g e => ⟨(h.b1 g e).2.1, (h.b1 g e).2.2.1, (h.b1 g e).2.2.2, fun e2 => (h.b2 g e2).2.2.2.2 e⟩) ⟨by omega, by omega, fun e => by have := (la _ e).2; omega, fun e => by have := (l3 _ e).2; omega⟩
  exact ⟨h.e1.row hg (fun g e => ⟨(h.b1 g e).1, (h.b1 g e).2.1⟩) hl (fun g e => (owns_lt ho g e).2), h.e2.row hg (fun g e => ⟨(h.b1 g e).1, (h.b1 g e).2.2.1⟩) hl (fun g e => (owns_lt ho g e).2), h.zz,
    owns_grown h.ra hg (fun g e e2 => (h.b1 g e2.symm).2.2.2 e), ho, owns_grown h.r2 hg (fun g e e2 => (h.b2 g e).2.2.2.2 e2.symm),
    fun g e => ⟨.inl (h.xa g e).1, (h.xa g e).2⟩, fun g e => ⟨.inr e, (hn g e).1, (hn g e).2.1, (hn g e).2.2.1⟩, fun g e => ⟨.inl (h.b2 g e).1, (h.b2 g e).2.1, (h.b2 g e).2.2.1, (h.b2 g e).2.2.2.1, fun e2 => (hn g e2).2.2.2 e⟩⟩
theorem WP.row2 {B : Nat} {w w' : World} {X : Nat → Prop} {z z2 : Nat} {x1 x2 : List UInt8} {va : Value} {ya : List UInt8} {v1 : Value} {y1 : List UInt8} {v2 v2' : Value} {y2 y2' : List UInt8} (h : WP B w X z z2 x1 x2 va ya v1 y1 v2 y2) (ho : OwnsB w' B v2' y2') (hg : w.grownBy w' v2.ownBlock) (hl : v2'.ownBlock = v2.ownBlock ∨ v2'.ownBlock = some w.heap.size) : WP B w' (fun b => X b ∨ v2'.ownBlock = some b) z z2 x1 x2 va ya v1 y1 v2' y2' := by
  have l1 := h.e1.zlt
  have l2 := h.e2.zlt
  have la := owns_lt h.ra
  have l3 := owns_lt h.r1
  have hn := row_at hl (P := fun g => g ≠ z ∧ g ≠ z2 ∧ va.ownBlock ≠ some g ∧ v1.ownBlock ≠ some g) (fun g e => (h.b2 g e).2) ⟨by omega, by omega, fun e => by have := (la _ e).2; omega, fun e => by have := (l3 _ e).2; omega⟩
  exact ⟨h.e1.row hg (fun g e => ⟨(h.b2 g e).1, (h.b2 g e).2.1⟩) hl (fun g e => (owns_lt ho g e).2), h.e2.row hg (fun g e => ⟨(h.b2 g e).1, (h.b2 g e).2.2.1⟩) hl (fun g e => (owns_lt ho g e).2), h.zz,
    owns_grown h.ra hg (fun g e e2 => (h.b2 g e2.symm).2.2.2.1 e), owns_grown h.r1 hg (fun g e e2 => (h.b2 g e2.symm).2.2.2.2 e), ho,
    fun g e => ⟨.inl (h.xa g e).1, (h.xa g e).2⟩, fun g e => ⟨.inl (h.b1 g e).1, (h.b1 g e).2⟩, fun g e => ⟨.inr e, hn g e⟩⟩
/-- One Enc, one row that grows. -/
structure W1 (B : Nat) (w : World) (X : Nat → Prop) (z : Nat) (xs : List UInt8) (va : Value) (ya : List UInt8) : Prop where
  e1 : EncSt w X z xs
  ra : OwnsB w B va ya
  xa : ∀ g, va.ownBlock = some g → X g ∧ g ≠ z
theorem W1.below {B : Nat} {w w' : World} {X : Nat → Prop} {z : Nat} {xs : List UInt8} {va : Value} {ya : List UInt8} (h : W1 B w X z xs va ya) (hb : Below w.heap.size w w') : W1 B w' X z xs va ya := ⟨h.e1.below hb, owns_below h.ra hb, h.xa⟩
theorem W1.put {B : Nat} {w w' : World} {X : Nat → Prop} {z : Nat} {xs xs' : List UInt8} {va : Value} {ya : List UInt8} (h : W1 B w X z xs va ya) (he : EncSt w' X z xs') (hg : w.grownBy w' (some z)) : W1 B w' X z xs' va ya :=
  ⟨he, owns_grown h.ra hg (fun g e e2 => (h.xa g e).2 (Option.some.inj e2)), h.xa⟩
theorem W1.row {B : Nat} {w w' : World} {X : Nat → Prop} {z : Nat} {xs : List UInt8} {va va' : Value} {ya ya' : List UInt8} (h : W1 B w X z xs va ya) (ho : OwnsB w' B va' ya') (hg : w.grownBy w' va.ownBlock) (hl : va'.ownBlock = va.ownBlock ∨ va'.ownBlock = some w.heap.size) : W1 B w' (fun b => X b ∨ va'.ownBlock = some b) z xs va' ya' := by
  have l1 := h.e1.zlt
  have hn := row_at hl (P := fun g => g ≠ z) (fun g e => (h.xa g e).2) (by omega)
  exact ⟨h.e1.row hg h.xa hl (fun g e => (owns_lt ho g e).2), ho, fun g e => ⟨.inr e, hn g e⟩⟩
end Go.Proofs.Ytinjcefekbpabaa
