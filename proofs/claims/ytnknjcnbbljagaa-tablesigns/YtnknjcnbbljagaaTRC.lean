/- A table and the document's, side by side. -/
import Derived.Test.YtnknjcnbbljagaaTRB
import Derived.Test.YtnknjcnbbljagaaTQ1
namespace Go.Proofs.Ytnknjcnbbljagaa
set_option linter.unusedVariables false
set_option linter.unusedSimpArgs false
namespace RR
set_option maxRecDepth 100000
open Go.RowKit

abbrev FP : Nat := 9
/-- The blocks of a table and of the document's. -/
def Two (z gy ge r hy he k : Nat) : Prop := TbB z gy ge k ∨ TbB r hy he k
structure One (W : World) (B z gy ge bt bm r hy he : Nat) (ti ma : Int) (T : TB) (P : Nat) : Prop where
  tb : TbAt W z gy ge (hvF FP bt bm) T
  hs : HsAt W FP bt bm ti ma
  rb : TbR W r hy he ti ma (imT T)
  inv : Inv (hsh ti ma) T P
  lo : ∀ k, Two z gy ge r hy he k → B ≤ k
section
variable {B z gy ge bt bm r hy he : Nat} {ti ma : Int} {T : TB} {P : Nat} {hv : Value} {M : TR}
theorem TbR.typ {W : World} (h : TbR W r hy he ti ma M) {k : Nat} (hk : TbB r hy he k) : ∃ cs t fz, W.heap[k]? = some (.cells cs t fz) ∧ (t = 98 ∨ t = 145) := by
  rcases hk with e | e | e
  · rw [e]; exact ⟨_, _, _, h.blk, .inl rfl⟩
  · rw [e]; obtain ⟨cur, hb, _⟩ := h.ry.row; exact ⟨_, _, _, hb, .inr rfl⟩
  · by_cases h0 : M.e.length = 0
    · rw [e, h.nil h0]; obtain ⟨cur, hb, _⟩ := h.ry.row; exact ⟨_, _, _, hb, .inr rfl⟩
    · rw [e]; obtain ⟨cur, hb, _⟩ := (h.re h0).row; exact ⟨_, _, _, hb, .inr rfl⟩
theorem apart {W : World} (ht : TbAt W z gy ge hv T) (hr : TbR W r hy he ti ma M) {k : Nat} (hk : TbB r hy he k) : ¬ TbB z gy ge k := by
  obtain ⟨cs, t, fz, h1, h2⟩ := hr.typ hk
  exact ht.notB h1 (by rcases h2 with rfl | rfl <;> decide) (by rcases h2 with rfl | rfl <;> decide)
theorem TbR.notB {W : World} (h : TbR W r hy he ti ma M) {b : Nat} {cs : Array Value} {t : TypeId} {fz : Nat × Nat} (hb : W.heap[b]? = some (.cells cs t fz)) (h1 : t ≠ 98) (h2 : t ≠ 145) : ¬ TbB r hy he b := by
  intro hk
  obtain ⟨cs', t', fz', e1, e2⟩ := h.typ hk
  rw [hb] at e1
  cases e1
  rcases e2 with e | e
  · exact h1 e
  · exact h2 e
theorem TbR.frm {W W' : World} (h : TbR W r hy he ti ma M) (ht : TbAt W z gy ge hv T) (hf : Frm W W' (TbB z gy ge)) : TbR W' r hy he ti ma M := h.same (fun k hk => hf.block k (h.lt hk) (apart ht h hk))
theorem tbAt_frmR {W W' : World} (h : TbAt W z gy ge hv T) (hr : TbR W r hy he ti ma M) (hf : Frm W W' (TbB r hy he)) : TbAt W' z gy ge hv T := h.same (fun k hk => hf.block k (h.lt hk) (fun e => apart h hr e hk))
theorem hsAt_frmR {W W' : World} {F : Nat} (h : HsAt W F bt bm ti ma) (hr : TbR W r hy he ti ma M) (hf : Frm W W' (TbB r hy he)) : HsAt W' F bt bm ti ma :=
  ⟨(hf.block bt h.t.lt (hr.notB h.t (by decide) (by decide))).trans h.t, (hf.block bm h.m.lt (hr.notB h.m (by decide) (by decide))).trans h.m, h.f⟩
theorem One.below {W W' : World} (h : One W B z gy ge bt bm r hy he ti ma T P) (hb : Below W.heap.size W W') : One W' B z gy ge bt bm r hy he ti ma T P :=
  ⟨h.tb.below hb, ⟨h.hs.t.below hb h.hs.t.lt, h.hs.m.below hb h.hs.m.lt, h.hs.f⟩, h.rb.below hb, h.inv, h.lo⟩
theorem One.lt {W : World} (h : One W B z gy ge bt bm r hy he ti ma T P) {k : Nat} (hk : Two z gy ge r hy he k) : k < W.heap.size := hk.elim h.tb.lt h.rb.lt
/-- What a step of the script leaves. -/
def DoneC (w : World) (B z gy ge bt bm r hy he : Nat) (ti ma : Int) (P : Nat) (e : Ending) (w' : World) : Prop := e = .returned (.bool true) ∧ ∃ gy' ge' hy' he' T', One w' B z gy' ge' bt bm r hy' he' ti ma T' (P + 1) ∧ Frm w w' (Two z gy ge r hy he) ∧ (∀ k, TbB z gy' ge' k → TbB z gy ge k ∨ w.heap.size ≤ k) ∧ (∀ k, TbB r hy' he' k → TbB r hy he k ∨ w.heap.size ≤ k)
theorem One.read {w w' : World} (h : One w B z gy ge bt bm r hy he ti ma T P) (hb : Below w.heap.size w w') : DoneC w B z gy ge bt bm r hy he ti ma P (.returned (.bool true)) w' := by
  have h2 := h.below hb
  exact ⟨rfl, gy, ge, hy, he, T, ⟨h2.tb, h2.hs, h2.rb, h2.inv.mono (Nat.le_succ _), h2.lo⟩, Frm.of_below hb, fun _ h => .inl h, fun _ h => .inl h⟩
theorem One.both {w W1 w2 w3 : World} {T' : TB} (h : One w B z gy ge bt bm r hy he ti ma T P) (hB : B ≤ w.heap.size) (hb : Below w.heap.size w W1) (k1 : TbS W1 w2 z gy ge (hvF FP bt bm) T') (k2 : TrS w2 w3 r hy he ti ma (imT T')) (hi : Inv (hsh ti ma) T' (P + 1)) : DoneC w B z gy ge bt bm r hy he ti ma P (.returned (.bool true)) w3 := by
  have h1 := h.below hb
  obtain ⟨⟨gy', ge', t1, n1⟩, f1⟩ := k1
  obtain ⟨⟨hy', he', t2, n2⟩, f2⟩ := k2
  have r2 := h1.rb.frm h1.tb f1
  have s2 := h1.hs.frm h1.tb f1
  have hsz := hb.size
  have hs1 := f1.size
  have m1 : ∀ k, TbB z gy' ge' k → TbB z gy ge k ∨ w.heap.size ≤ k := fun k hk => (n1 k hk).imp id (fun e => by omega)
  have m2 : ∀ k, TbB r hy' he' k → TbB r hy he k ∨ w.heap.size ≤ k := fun k hk => (n2 k hk).imp id (fun e => by omega)
  refine ⟨rfl, gy', ge', hy', he', T', ⟨tbAt_frmR t1 r2 f2, hsAt_frmR s2 r2 f2, t2, hi, fun k hk => ?_⟩, ?_, m1, m2⟩
  · rcases hk with e | e
    · rcases m1 k e with e' | e'
      · exact h.lo k (.inl e')
      · omega
    · rcases m2 k e with e' | e'
      · exact h.lo k (.inr e')
      · omega
  · have fa : Frm w W1 (Two z gy ge r hy he) := Frm.of_below hb
    exact (fa.trans f1 (fun _ _ e => .inl e)).trans f2 (fun _ _ e => .inr e)
theorem ok8_im (h : TOk T) : Ok8 (imT T) := by
  unfold Ok8
  have e : (imT T).e.length = T.e.length := List.length_map ..
  have em : (imT T).m = T.m := rfl
  rw [e, em]
  obtain ⟨a, ha⟩ := h.m8
  obtain ⟨b, hb⟩ := h.e8
  rcases h.mv with h1 | h1
  · exact .inl h1
  · right; omega
theorem growOk_im (h : GrowOk T) : GrowOk (imT T) := by
  intro h1 h2
  have e1 : cnt (imT T).y 1 = cnt T.y 1 := cnt_im _ _
  have e2 : cnt (imT T).y 2 = cnt T.y 2 := cnt_im _ _
  have e3 : (imT T).y.length = T.y.length := List.length_map ..
  rw [left_im] at h1
  rw [e1, e2, e3] at h2
  rw [e3, len_im]
  exact h h1 h2
theorem putOk_im {W : World} (h : One W B z gy ge bt bm r hy he ti ma T P) (hP : P + 1 ≤ 4398046511104) (k v : Int) : PutOk ti ma (stepT (hsR ti ma) (imT T)) (k, 0) v := by
  rw [stepT_im]
  refine ⟨ok8_im (h.inv.ok.step _), ?_, ?_⟩
  · have := growOk_im (grow_ok h.inv h.tb.ly hP k v)
    unfold imT at this
    dsimp only at this
    rw [← lay_im] at this
    exact this
  · obtain ⟨a, ha, hl⟩ := h.tb.ly
    refine ⟨a, ?_, by show ((stepT (hsh ti ma) T).y.map imS).length = _; rw [List.length_map, stepT_y, hl]⟩
    have h8 := h.inv.y8.1
    rw [hl] at h8
    rcases Nat.lt_or_ge a 3 with h3 | h3
    · have : 2 ^ a ≤ 2 ^ 2 := Nat.pow_le_pow_right (by decide) (by omega)
      omega
    · exact h3
end
end RR
end Go.Proofs.Ytnknjcnbbljagaa
