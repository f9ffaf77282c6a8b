/- A table with floats of a small domain and the document's, side by side. -/
import Derived.Test.YtnknjcnbbljagaaTS1
import Derived.Test.YtnknjcnbbljagaaTS2
import Derived.Test.YtnknjcnbbljagaaTHb
import Derived.Test.YtnknjcnbbljagaaTRC
namespace Go.Proofs.Ytnknjcnbbljagaa
set_option linter.unusedVariables false
set_option linter.unusedSimpArgs false
namespace GG
set_option maxRecDepth 100000
open Go.RowKit

abbrev FS : Nat := 42
def imR (a : Nat) : RR.KR := ((valG a : Int), tagG a)
theorem he_R (a b : Nat) : RR.eqR (imR a) (imR b) = eqG a b := by
  show ((valG a : Int) == (valG b : Int)) = (valG a == valG b)
  by_cases h : valG a = valG b
  · rw [h]; simp
  · rw [beq_eq_false_iff_ne.2 h, beq_eq_false_iff_ne.2 (by omega)]
theorem hh_R (a : Nat) : RR.hsR 1 (-1) (imR a) = hsG a := rfl
theorem hsG_eq (a b : Nat) (h : eqG a b = true) : hsG a = hsG b := by
  unfold hsG
  rw [eq_of_beq h]
theorem inv_new : Inv hsG newT 0 := by
  have c1 : cnt (List.replicate 8 (Slt.emp : SL)) 1 = 0 := by unfold cnt; rw [List.countP_replicate]; rfl
  have c2 : cnt (List.replicate 8 (Slt.emp : SL)) 2 = 0 := by unfold cnt; rw [List.countP_replicate]; rfl
  refine ⟨⟨.inl ⟨rfl, rfl⟩, ⟨0, rfl⟩, ⟨0, rfl⟩⟩, WayOk.new _ 8, WayOk.nil _, fun p hp => absurd hp (Nat.not_lt_zero _), ⟨by decide, by decide⟩, .inl ⟨rfl, ?_⟩, ?_, .inl rfl⟩
  · show 4 * (cnt (List.replicate 8 (Slt.emp : SL)) 1 + cnt (List.replicate 8 (Slt.emp : SL)) 2) ≤ 3 * 8
    omega
  · show cnt (List.replicate 8 (Slt.emp : SL)) 1 + cnt (List.replicate 8 (Slt.emp : SL)) 2 + cnt ([] : List SL) 1 ≤ 0
    have : cnt ([] : List SL) 1 = 0 := rfl
    omega
theorem im_new : MG.imT imR newT = RR.newR := rfl
theorem inv_mono {hs : Nat → Nat} {T : TB} {P Q : Nat} (h : Inv hs T P) (hq : P ≤ Q) : Inv hs T Q := ⟨h.ok, h.wy, h.we, h.el, h.y8, h.cap, by have := h.np; omega, by rcases h.bd with e | e <;> omega⟩
theorem stepT_y (hs : Nat → Nat) (T : TB) : (stepT hs T).y.length = T.y.length := by
  unfold stepT endT
  split
  · rfl
  · have := (mvN_len hs 8 T).2.1
    split
    · exact this
    · exact this
section
variable {T : TB} {P : Nat} {hf : Nat → Nat}
theorem grow_ok (h : Inv hf T P) (ly : ∃ a, a ≤ 43 ∧ T.y.length = 2 ^ a) (hP : P + 1 ≤ 4398046511104) (k : Nat) (v : Int) : GrowOk (⟨lay (stepT hf T).y (hf k) k v, (stepT hf T).e, (stepT hf T).m⟩ : TB) := by
  intro hl hg
  obtain ⟨s1, _, _⟩ := h.step
  obtain ⟨_, _, _, h4⟩ := s1.more k v
  have h5 := h4 hl (by
    have e : (lay (stepT hf T).y (hf k) k v).length = (stepT hf T).y.length := lay_length ..
    rw [← e]; exact hg)
  show growN (lay (stepT hf T).y (hf k) k v).length _ ≤ _
  rw [lay_length]
  obtain ⟨a, _, ha⟩ := ly
  rw [← stepT_y hf T] at ha
  obtain ⟨b, _, hb⟩ := dbl_pow (2 * Tb.len (⟨lay (stepT hf T).y (hf k) k v, (stepT hf T).e, (stepT hf T).m⟩ : TB) + 2) 64 a
  rw [← ha] at hb
  have hb' : growN (stepT hf T).y.length (Tb.len (⟨lay (stepT hf T).y (hf k) k v, (stepT hf T).e, (stepT hf T).m⟩ : TB)) = 2 ^ b := hb
  rw [hb'] at h5 ⊢
  rcases Nat.lt_or_ge 43 b with g | g
  · have : 2 ^ 44 ≤ 2 ^ b := Nat.pow_le_pow_right (by decide) g
    omega
  · exact Nat.pow_le_pow_right (n := 2) (by decide) g
end
section
variable {B z gy ge r hy he : Nat} {T : TB} {P : Nat} {hv : Value} {M : RR.TR} {ti ma : Int}
theorem TbAt.dm {W : World} (h : TbAt W z gy ge hv T) : MG.TD Dm T := by
  have row : ∀ g L, RowAt W g L → MG.RD Dm L := by
    intro g L hr k v hm
    obtain ⟨p, hp, e⟩ := List.getElem_of_mem hm
    refine hr.kb p k v hp ?_
    unfold sat
    rw [List.getD_eq_getElem?_getD, List.getElem?_eq_getElem hp, e]
    rfl
  refine ⟨row _ _ h.ry, ?_⟩
  by_cases h0 : T.e.length = 0
  · intro k v hm
    rw [List.eq_nil_of_length_eq_zero h0] at hm
    cases hm
  · exact row _ _ (h.re h0)
theorem TbAt.notB {W : World} (h : TbAt W z gy ge hv T) {b : Nat} {cs : Array Value} {t : TypeId} {fz : Nat × Nat} (hb : W.heap[b]? = some (.cells cs t fz)) (h1 : t ≠ 113) (h2 : t ≠ 119) : ¬ TbB z gy ge b := by
  have row : ∀ g L, RowAt W g L → b ≠ g := by
    intro g L hr e
    obtain ⟨cur, hc, _⟩ := hr.row
    rw [← e] at hc
    unfold Blk at hc
    rw [hb] at hc
    cases hc
    exact h2 rfl
  rintro (e | e | e)
  · have hz := h.blk
    rw [← e] at hz
    unfold Blk at hz
    rw [hb] at hz
    cases hz
    exact h1 rfl
  · exact row _ _ h.ry e
  · by_cases h0 : T.e.length = 0
    · exact row _ _ h.ry (by rw [e, h.nil h0])
    · exact row _ _ (h.re h0) e
theorem apart {W : World} (ht : TbAt W z gy ge hv T) (hr : RR.TbR W r hy he ti ma M) {k : Nat} (hk : TbB r hy he k) : ¬ TbB z gy ge k := by
  obtain ⟨cs, t, fz, h1, h2⟩ := hr.typ hk
  exact ht.notB h1 (by rcases h2 with rfl | rfl <;> decide) (by rcases h2 with rfl | rfl <;> decide)
theorem tbR_frm {W W' : World} (h : RR.TbR W r hy he ti ma M) (ht : TbAt W z gy ge hv T) (hf : Frm W W' (TbB z gy ge)) : RR.TbR W' r hy he ti ma M := h.same (fun k hk => hf.block k (h.lt hk) (apart ht h hk))
theorem tbAt_frmR {W W' : World} (h : TbAt W z gy ge hv T) (hr : RR.TbR W r hy he ti ma M) (hf : Frm W W' (TbB r hy he)) : TbAt W' z gy ge hv T := h.same (fun k hk => hf.block k (h.lt hk) (fun e => apart h hr e hk))
end
/-- Both tables, behind P puts and dels. -/
structure OneS (W : World) (B z gy ge r hy he : Nat) (T : TB) (P : Nat) : Prop where
  tb : TbAt W z gy ge (hvF FS 0 0) T
  rb : RR.TbR W r hy he 1 (-1) (MG.imT imR T)
  inv : Inv hsG T P
  lo : ∀ k, RR.Two z gy ge r hy he k → B ≤ k
section
variable {B z gy ge r hy he : Nat} {T : TB} {P : Nat}
theorem OneS.below {W W' : World} (h : OneS W B z gy ge r hy he T P) (hb : Below W.heap.size W W') : OneS W' B z gy ge r hy he T P := ⟨h.tb.below hb, h.rb.below hb, h.inv, h.lo⟩
theorem OneS.drewN {W : World} (h : OneS W B z gy ge r hy he T P) (n : Nat) : OneS (W.drewN n) B z gy ge r hy he T P := h.below (below_dN (Below.refl _ _) n)
theorem ok8 (h : TOk T) : RR.Ok8 (MG.imT imR T) := by
  unfold RR.Ok8
  have e : (MG.imT imR T).e.length = T.e.length := List.length_map ..
  have em : (MG.imT imR T).m = T.m := rfl
  rw [e, em]
  obtain ⟨a, ha⟩ := h.m8
  obtain ⟨b, hb⟩ := h.e8
  rcases h.mv with h1 | h1
  · exact .inl h1
  · right; omega
theorem growOk_im (h : GrowOk T) : GrowOk (MG.imT imR T) := by
  intro h1 h2
  have e1 : cnt (MG.imT imR T).y 1 = cnt T.y 1 := MG.cnt_im _ _
  have e2 : cnt (MG.imT imR T).y 2 = cnt T.y 2 := MG.cnt_im _ _
  have e3 : (MG.imT imR T).y.length = T.y.length := List.length_map ..
  rw [MG.left_im] at h1
  rw [e1, e2, e3] at h2
  rw [e3, MG.len_im]
  exact h h1 h2
theorem OneS.putOk {W : World} (h : OneS W B z gy ge r hy he T P) (hP : P + 1 ≤ 4398046511104) (k : Nat) (v : Int) : RR.PutOk 1 (-1) (stepT (RR.hsR 1 (-1)) (MG.imT imR T)) (imR k) v := by
  rw [MG.stepT_im hh_R]
  refine ⟨ok8 (tok_step h.inv.ok _), ?_, ?_⟩
  · have := growOk_im (grow_ok h.inv h.tb.ly hP k v)
    unfold MG.imT at this
    dsimp only at this
    rw [← MG.lay_im] at this
    exact this
  · obtain ⟨a, ha, hl⟩ := h.tb.ly
    refine ⟨a, ?_, by show ((stepT hsG T).y.map (MG.imS imR)).length = _; rw [List.length_map, stepT_y, hl]⟩
    have h8 := h.inv.y8.1
    rw [hl] at h8
    rcases Nat.lt_or_ge a 3 with h3 | h3
    · have : 2 ^ a ≤ 2 ^ 2 := Nat.pow_le_pow_right (by decide) (by omega)
      omega
    · exact h3
/-- What a put or a del of both answers. -/
def ans1 (T : TB) (k : Nat) : Int := valT 0 (stepT hsG T) (seek eqG hsG (stepT hsG T) k).1
def ans2 (T : TB) (k : Nat) : Bool := (seek eqG hsG (stepT hsG T) k).1.isSome
theorem ansV_is {W : World} (h : TbAt W z gy ge (hvF FS 0 0) T) {k : Nat} (hk : Dm k) : ansV (stepT hsG T) (seek eqK hsG (stepT hsG T) k).1 = .tuple #[.int .i64 (ans1 T k), .bool (ans2 T k)] := by
  rw [MG.seek_on eq_on h.dm.step hk]
  rfl
theorem ansR_is (T : TB) (k : Nat) : RR.ansR (stepT (RR.hsR 1 (-1)) (MG.imT imR T)) (seek RR.eqR (RR.hsR 1 (-1)) (stepT (RR.hsR 1 (-1)) (MG.imT imR T)) (imR k)).1 = .tuple #[.int .i64 (ans1 T k), .bool (ans2 T k)] := by
  unfold RR.ansR
  rw [MG.stepT_im hh_R, MG.seek_im he_R hh_R, MG.valT_im]
  rfl
/-- The program's half of a step is done, the document's is not. -/
structure Half (w : World) (B z gy ge r hy he : Nat) (T T' : TB) (P : Nat) (W : World) : Prop where
  one : OneS w B z gy ge r hy he T P
  inv : Inv hsG T' (P + 1)
  st : TbS w W z gy ge (hvF FS 0 0) T'
theorem Half.rb {w W : World} {T' : TB} (h : Half w B z gy ge r hy he T T' P W) : RR.TbR W r hy he 1 (-1) (MG.imT imR T) := tbR_frm h.one.rb h.one.tb h.st.fr
theorem OneS.put1 {w : World} (h : OneS w B z gy ge r hy he T P) (hP : P + 1 ≤ 4398046511104) (k : Nat) (v : Int) (hk : Dm k) : Calls Try.prog 28 #[.pointer (some ⟨z, 0, none⟩), .float .f64 k, .int .i64 v] w fun e W => e = .returned (.tuple #[.int .i64 (ans1 T k), .bool (ans2 T k)]) ∧ Half w B z gy ge r hy he T (putT eqG hsG T k v) P W := by
  refine (put_any w h.tb hash_is h.inv.ok k v hk (grow_ok h.inv h.tb.ly hP k v)).mono (fun e W hc => ?_)
  obtain ⟨h1, h2⟩ := hc
  rw [MG.putT_on eq_on h.tb.dm hk] at h2
  exact ⟨by rw [h1, ansV_is h.tb hk], h, ((h.inv.step).1.put hsG_eq k v (0 : Int)).inv, h2⟩
theorem OneS.del1 {w : World} (h : OneS w B z gy ge r hy he T P) (k : Nat) (hk : Dm k) : Calls Try.prog 27 #[.pointer (some ⟨z, 0, none⟩), .float .f64 k] w fun e W => e = .returned (.tuple #[.int .i64 (ans1 T k), .bool (ans2 T k)]) ∧ Half w B z gy ge r hy he T (delT eqG hsG T k) P W := by
  refine (del_any w h.tb hash_is h.inv.ok k hk).mono (fun e W hc => ?_)
  obtain ⟨h1, h2⟩ := hc
  rw [MG.delT_on eq_on h.tb.dm hk] at h2
  exact ⟨by rw [h1, ansV_is h.tb hk], h, inv_mono (((h.inv.step).1.del hsG_eq k (0 : Int)).inv) (Nat.le_succ _), h2⟩
/-- What a step of both leaves. -/
def Both (w : World) (B z r : Nat) (P : Nat) (W : World) : Prop := (∃ gy ge hy he T, OneS W B z gy ge r hy he T P) ∧ Below B w W
theorem Half.both {w W W2 : World} {T' : TB} (h : Half w B z gy ge r hy he T T' P W) (hB : B ≤ w.heap.size) (k : RR.TrS W W2 r hy he 1 (-1) (MG.imT imR T')) : Both w B z r (P + 1) W2 := by
  have r2 := h.rb
  obtain ⟨⟨gy', ge', t1, n1⟩, f1⟩ := h.st
  obtain ⟨⟨hy', he', t2, n2⟩, f2⟩ := k
  have hs1 := f1.size
  refine ⟨⟨gy', ge', hy', he', T', tbAt_frmR t1 r2 f2, t2, h.inv, fun k hk => ?_⟩, ?_⟩
  · rcases hk with e | e
    · rcases n1 k e with e' | e'
      · exact h.one.lo k (.inl e')
      · omega
    · rcases n2 k e with e' | e'
      · exact h.one.lo k (.inr e')
      · omega
  · refine ⟨f2.os.trans f1.os, f2.tape.trans f1.tape, f2.output.trans f1.output, Nat.le_trans f1.size f2.size, fun k hk => ?_⟩
    rw [f2.block k (by omega) (fun e => by have := h.one.lo k (.inr e); omega), f1.block k (by omega) (fun e => by have := h.one.lo k (.inl e); omega)]
theorem Half.put2 {w W : World} (k : Nat) (v : Int) (h : Half w B z gy ge r hy he T (putT eqG hsG T k v) P W) (hB : B ≤ w.heap.size) (hP : P + 1 ≤ 4398046511104) : Calls Try.prog 45 #[.pointer (some ⟨r, 0, none⟩), .int .i64 (valG k : Int), .int .i64 (tagG k), .int .i64 v] W fun e W2 => e = .returned (.tuple #[.int .i64 (ans1 T k), .bool (ans2 T k)]) ∧ Both w B z r (P + 1) W2 := by
  refine (RR.putAs_any W h.rb (ok8 h.one.inv.ok) (imR k) v (h.one.putOk hP k v)).mono (fun e W2 hc => ?_)
  obtain ⟨h1, h2⟩ := hc
  rw [MG.putT_im he_R hh_R] at h2
  exact ⟨by rw [h1, ansR_is], h.both hB h2⟩
theorem Half.put3 {w W : World} (k : Nat) (v : Int) (ht : tagG k = 0) (h : Half w B z gy ge r hy he T (putT eqG hsG T k v) P W) (hB : B ≤ w.heap.size) (hP : P + 1 ≤ 4398046511104) : Calls Try.prog 46 #[.pointer (some ⟨r, 0, none⟩), .int .i64 (valG k : Int), .int .i64 v] W fun e W2 => e = .returned (.tuple #[.int .i64 (ans1 T k), .bool (ans2 T k)]) ∧ Both w B z r (P + 1) W2 := by
  have e0 : ((valG k : Int), (0 : Int)) = imR k := by unfold imR; rw [ht]
  have hp := h.one.putOk hP k v
  rw [← e0] at hp
  refine (RR.put_any W h.rb (ok8 h.one.inv.ok) (valG k : Int) v hp).mono (fun e W2 hc => ?_)
  rw [e0] at hc
  obtain ⟨h1, h2⟩ := hc
  rw [MG.putT_im he_R hh_R] at h2
  exact ⟨by rw [h1, ansR_is], h.both hB h2⟩
theorem Half.del2 {w W : World} (k : Nat) (h : Half w B z gy ge r hy he T (delT eqG hsG T k) P W) (hB : B ≤ w.heap.size) : Calls Try.prog 44 #[.pointer (some ⟨r, 0, none⟩), .int .i64 (valG k : Int)] W fun e W2 => e = .returned (.tuple #[.int .i64 (ans1 T k), .bool (ans2 T k)]) ∧ Both w B z r (P + 1) W2 := by
  refine (RR.del_any W h.rb (ok8 h.one.inv.ok) (imR k)).mono (fun e W2 hc => ?_)
  obtain ⟨h1, h2⟩ := hc
  rw [MG.delT_im he_R hh_R] at h2
  exact ⟨by rw [h1, ansR_is], h.both hB h2⟩
end
end GG
end Go.Proofs.Ytnknjcnbbljagaa
