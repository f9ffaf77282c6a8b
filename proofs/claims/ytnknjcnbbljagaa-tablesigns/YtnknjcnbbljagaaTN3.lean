/- A step on table and list alike: its state. -/
import Derived.Test.YtnknjcnbbljagaaTM4
import Derived.Deep.AppendLies
import Derived.Deep.RegionLaw
namespace Go.Proofs.Ytnknjcnbbljagaa
set_option linter.unusedVariables false
set_option linter.unusedSimpArgs false
set_option maxRecDepth 100000
open Go.RowKit

/-- A table, its hash, a plain list, all of it from block B on but the hash's variables. -/
structure St (W : World) (B z gy ge mb F bt bm : Nat) (ti ma : Int) (kv vv : Value) (T : TB) (M : List (Int × Int)) : Prop where
  tb : TbAt W z gy ge (hvF F bt bm) T
  hs : HsAt W F bt bm ti ma
  md : MdAt W B mb kv vv M
  lo : B ≤ z ∧ B ≤ gy ∧ B ≤ ge ∧ B ≤ mb ∧ bt < B ∧ bm < B ∧ B ≤ W.heap.size
section
variable {B z gy ge mb F bt bm : Nat} {ti ma : Int} {kv vv : Value} {T : TB} {M : List (Int × Int)}
theorem St.below {W W' : World} (h : St W B z gy ge mb F bt bm ti ma kv vv T M) (hb : Below W.heap.size W W') : St W' B z gy ge mb F bt bm ti ma kv vv T M :=
  ⟨h.tb.below hb, ⟨h.hs.t.below hb h.hs.t.lt, h.hs.m.below hb h.hs.m.lt, h.hs.f⟩, h.md.below hb, by have := hb.size; have := h.lo; omega⟩
theorem St.drewN {W : World} (h : St W B z gy ge mb F bt bm ti ma kv vv T M) (n : Nat) : St (W.drewN n) B z gy ge mb F bt bm ti ma kv vv T M := h.below (below_dN (Below.refl _ _) n)
theorem TbAt.notB {W : World} {hv : Value} (h : TbAt W z gy ge hv T) {b : Nat} {cs : Array Value} {t : TypeId} {fz : Nat × Nat} (hb : W.heap[b]? = some (.cells cs t fz)) (h1 : t ≠ 95) (h2 : t ≠ 150) : ¬ TbB z gy ge b := by
  have row : ∀ g L, RowAt W g L → b ≠ g := by
    intro g L hr e
    obtain ⟨cur, hc, _⟩ := hr.row
    rw [← e] at hc
    unfold Blk at hc
    rw [hb] at hc
    cases hc
    exact h2 rfl
  rintro (e | e | e)
  · have hz := h.blk
    rw [← e] at hz
    unfold Blk at hz
    rw [hb] at hz
    cases hz
    exact h1 rfl
  · exact row _ _ h.ry e
  · by_cases h0 : T.e.length = 0
    · exact row _ _ h.ry (by rw [e, h.nil h0])
    · exact row _ _ (h.re h0) e
theorem owns_frm {W W' : World} {S : Nat → Prop} {b n s : Nat} {e : TypeId} {v : Value} {ys : List Value} (ho : W.ownsRow b e s v n ys) (hf : Frm W W' S) (hn : ∀ g, v.ownBlock = some g → ¬ S g) : W'.ownsRow b e s v n ys := by
  obtain ⟨h0, h1 | ⟨g, cap, cur, rfl, hg, hr, hc⟩⟩ := ho
  · exact ⟨h0, .inl h1⟩
  · exact ⟨h0, .inr ⟨g, cap, cur, rfl, hg, (hf.block g (Array.getElem?_eq_some_iff.1 hr).1 (hn g rfl)).trans hr, hc⟩⟩
/-- The table has changed. -/
theorem St.table {W W' : World} {T' : TB} (h : St W B z gy ge mb F bt bm ti ma kv vv T M) (k : TbS W W' z gy ge (hvF F bt bm) T') : (∃ gy' ge', St W' B z gy' ge' mb F bt bm ti ma kv vv T' M) ∧ Below B W W' := by
  obtain ⟨⟨gy', ge', ht, hn⟩, hf⟩ := k
  obtain ⟨l1, l2, l3, l4, l5, l6, l7⟩ := h.lo
  have nb : ∀ {k}, TbB z gy ge k → B ≤ k := by rintro k (rfl | rfl | rfl) <;> assumption
  have hbel : Below B W W' := ⟨hf.os, hf.tape, hf.output, hf.size, fun k hk => hf.block k (by omega) (fun e => by have := nb e; omega)⟩
  refine ⟨⟨gy', ge', ht, h.hs.frm h.tb hf, ⟨(hf.block mb h.md.blk.lt (h.tb.notB h.md.blk (by decide) (by decide))).trans h.md.blk, owns_frm h.md.ks hf (fun g e => ?_), owns_frm h.md.vs hf (fun g e => ?_), h.md.ap⟩, l1, ?_, ?_, l4, l5, l6, Nat.le_trans l7 hf.size⟩, hbel⟩
  · obtain ⟨cs, t, fz, g1, rfl⟩ := own_type h.md.ks g e
    exact h.tb.notB g1 (by decide) (by decide)
  · obtain ⟨cs, t, fz, g1, rfl⟩ := own_type h.md.vs g e
    exact h.tb.notB g1 (by decide) (by decide)
  · rcases hn gy' (.inr (.inl rfl)) with e | e
    · exact nb e
    · omega
  · rcases hn ge' (.inr (.inr rfl)) with e | e
    · exact nb e
    · omega
/-- The list has changed. -/
theorem St.list {W W' : World} {kv' vv' : Value} {M' : List (Int × Int)} (h : St W B z gy ge mb F bt bm ti ma kv vv T M) (hm : MdAt W' B mb kv' vv' M') (hk : KeepT tys W W') (hb : Below B W W') : St W' B z gy ge mb F bt bm ti ma kv' vv' T M' := by
  obtain ⟨l1, l2, l3, l4, l5, l6, l7⟩ := h.lo
  exact ⟨h.tb.keepT hk, ⟨h.hs.t.below hb l5, h.hs.m.below hb l6, h.hs.f⟩, hm, l1, l2, l3, l4, l5, l6, Nat.le_trans l7 hb.size⟩
theorem Inv.mono {hs : Int → Nat} {T : TB} {P Q : Nat} (h : Inv hs T P) (hq : P ≤ Q) : Inv hs T Q := ⟨h.ok, h.wy, h.we, h.el, h.y8, h.cap, by have := h.np; omega, by rcases h.bd with e | e <;> omega⟩
theorem Rel.mono {P Q : Nat} (h : Rel ti ma T M P) (hq : P ≤ Q) : Rel ti ma T M Q := ⟨h.inv.mono hq, h.pm, h.nd⟩
theorem Rel.lenP {P : Nat} (h : Rel ti ma T M P) : M.length ≤ P := by
  rw [← h.len]
  have h1 := h.inv.np
  have h2 := cnt_used T.y
  unfold Tb.len
  omega
theorem stepT_y (hs : Int → Nat) (T : TB) : (stepT hs T).y.length = T.y.length := by
  unfold stepT
  split
  · rfl
  · unfold endT
    have := (mvN_len hs 8 T).2.1
    split <;> exact this
theorem grow_ok {P : Nat} (h : Inv (hsh ti ma) T P) (ly : ∃ a, a ≤ 43 ∧ T.y.length = 2 ^ a) (hP : P + 1 ≤ 4398046511104) (k v : Int) : GrowOk (⟨lay (stepT (hsh ti ma) T).y (hsh ti ma k) k v, (stepT (hsh ti ma) T).e, (stepT (hsh ti ma) T).m⟩ : TB) := by
  intro hl hg
  obtain ⟨s1, _, _⟩ := h.step
  obtain ⟨_, _, _, h4⟩ := s1.more k v
  have h5 := h4 hl (by
    have e : (lay (stepT (hsh ti ma) T).y (hsh ti ma k) k v).length = (stepT (hsh ti ma) T).y.length := lay_length ..
    rw [← e]; exact hg)
  show growN (lay (stepT (hsh ti ma) T).y (hsh ti ma k) k v).length _ ≤ _
  rw [lay_length]
  obtain ⟨a, _, ha⟩ := ly
  rw [← stepT_y (hsh ti ma) T] at ha
  obtain ⟨b, _, hb⟩ := dbl_pow (2 * Tb.len (⟨lay (stepT (hsh ti ma) T).y (hsh ti ma k) k v, (stepT (hsh ti ma) T).e, (stepT (hsh ti ma) T).m⟩ : TB) + 2) 64 a
  rw [← ha] at hb
  have hb' : growN (stepT (hsh ti ma) T).y.length (Tb.len (⟨lay (stepT (hsh ti ma) T).y (hsh ti ma k) k v, (stepT (hsh ti ma) T).e, (stepT (hsh ti ma) T).m⟩ : TB)) = 2 ^ b := hb
  rw [hb'] at h5 ⊢
  rcases Nat.lt_or_ge 43 b with g | g
  · have : 2 ^ 44 ≤ 2 ^ b := Nat.pow_le_pow_right (by decide) g
    omega
  · exact Nat.pow_le_pow_right (n := 2) (by decide) g
/-- What a step leaves. -/
def StpC (w : World) (B z mb F bt bm : Nat) (ti ma : Int) (T : TB) (P : Nat) (e : Ending) (w' : World) : Prop := e = .returned (.bool true) ∧ (∃ gy' ge' kv' vv' T' M', St w' B z gy' ge' mb F bt bm ti ma kv' vv' T' M' ∧ Rel ti ma T' M' (P + 1) ∧ (8 < T.left → T'.left ≤ T.left)) ∧ Below B w w'
def xL (d : Int) (o : Bool) (k v : Int) : Array Value := #[.int .i64 d, .bool o, .int .i64 k, .int .i64 v]
theorem left_put {P : Nat} (h : Inv (hsh ti ma) T P) (k v : Int) (hl : 8 < T.left) : (putT eqK (hsh ti ma) T k v).left ≤ T.left := by
  obtain ⟨s1, _, s3⟩ := h.step
  have := (s1.put (eqK_hs ti ma) k v (0 : Int)).left (by rw [s3 hl]; omega)
  show (putG eqK (hsh ti ma) (stepT (hsh ti ma) T) k v).left ≤ _
  rw [this, s3 hl]; omega
theorem left_del {P : Nat} (h : Inv (hsh ti ma) T P) (k : Int) (hl : 8 < T.left) : (delT eqK (hsh ti ma) T k).left ≤ T.left := by
  obtain ⟨s1, _, s3⟩ := h.step
  have := (s1.del (eqK_hs ti ma) k (0 : Int)).left
  show (delG eqK (hsh ti ma) (stepT (hsh ti ma) T) k).left ≤ _
  rw [this, s3 hl]; omega
end
end Go.Proofs.Ytnknjcnbbljagaa
