/- A table as a map. -/
import Derived.Test.YtjhbebaephmcgaaVXL
namespace Go.Proofs.Ytjhbebaephmcgaa
set_option linter.unusedVariables false
set_option linter.unusedSimpArgs false
namespace TX
set_option maxRecDepth 100000
open Go.RowKit Go.Sort

theorem stepT_y (hs : KY → Nat) (T : TB) : (stepT hs T).y.length = T.y.length := by
  unfold stepT
  split
  · rfl
  · obtain ⟨l1, l2, l3⟩ := mvN_len hs 8 T
    unfold endT
    split <;> exact l2
theorem growN_pow (a l : Nat) : ∃ b, a ≤ b ∧ growN (2 ^ a) l = 2 ^ b := by
  unfold growN
  exact dbl_pow _ _ a
theorem eqK_iff (a b : KY) : eqK a b = true ↔ a = b := by
  obtain ⟨a0, a1, a2, a3⟩ := a
  obtain ⟨b0, b1, b2, b3⟩ := b
  unfold eqK
  simp only [Bool.and_eq_true, beq_iff_eq, List.cons.injEq, and_true, KY.mk.injEq]
  exact ⟨fun ⟨h1, ⟨h2, h3⟩, h4⟩ => ⟨h1, h2, h3, h4⟩, fun ⟨h1, h2, h3, h4⟩ => ⟨h1, ⟨h2, h3⟩, h4⟩⟩
theorem eqK_self (a : KY) : eqK a a = true := (eqK_iff a a).2 rfl
theorem eqK_hs (hs : KY → Nat) : ∀ a b, eqK a b = true → hs a = hs b := fun a b h => by rw [(eqK_iff a b).1 h]
/-- A map with another entry, or none, under a key. -/
def upd (g : KY → Option EN) (k : KY) (o : Option EN) : KY → Option EN := fun q => if eqK q k then o else g q
theorem upd_same (g : KY → Option EN) (k : KY) (o : Option EN) : upd g k o k = o := by unfold upd; rw [if_pos (eqK_self k)]
theorem upd_other (g : KY → Option EN) {k q : KY} (o : Option EN) (h : q ≠ k) : upd g k o q = g q := by
  unfold upd
  rw [if_neg (fun e => h ((eqK_iff q k).1 e))]
/-- Pairs, as a map. -/
structure Maps (A : List (KY × EN)) (g : KY → Option EN) : Prop where
  nd : (A.map Prod.fst).Nodup
  mem : ∀ k e, (k, e) ∈ A ↔ g k = some e
theorem Maps.perm {A B : List (KY × EN)} {g : KY → Option EN} (h : Maps A g) (p : B.Perm A) : Maps B g :=
  ⟨(p.map _).nodup_iff.2 h.nd, fun k e => (p.mem_iff).trans (h.mem k e)⟩
theorem Maps.fresh {A : List (KY × EN)} {g : KY → Option EN} (h : Maps A g) {k : KY} (hk : ∀ x ∈ A, eqK x.1 k = false) : g k = none := by
  cases hg : g k with
  | none => rfl
  | some e => have := hk _ ((h.mem k e).2 hg); rw [eqK_self] at this; cases this
theorem Maps.out {A R : List (KY × EN)} {g : KY → Option EN} {k : KY} {a : EN} (h : Maps A g) (p : A.Perm ((k, a) :: R)) : Maps R (upd g k none) ∧ g k = some a ∧ k ∉ R.map Prod.fst := by
  have h1 := h.perm p.symm
  have hn := h1.nd
  rw [List.map_cons, List.nodup_cons] at hn
  refine ⟨⟨hn.2, fun q e => ?_⟩, (h1.mem k a).1 (by simp), hn.1⟩
  by_cases hq : q = k
  · subst hq
    rw [upd_same]
    exact ⟨fun m => absurd (List.mem_map_of_mem (f := Prod.fst) m) hn.1, fun e => by cases e⟩
  · rw [upd_other g none hq, ← h1.mem q e, List.mem_cons]
    exact ⟨.inr, fun m => m.elim (fun e => absurd (congrArg Prod.fst e) hq) id⟩
theorem Maps.lay {R : List (KY × EN)} {g : KY → Option EN} {k : KY} (h : Maps R g) (hk : k ∉ R.map Prod.fst) (v : EN) : Maps ((k, v) :: R) (upd g k (some v)) := by
  refine ⟨by rw [List.map_cons, List.nodup_cons]; exact ⟨hk, h.nd⟩, fun q e => ?_⟩
  rw [List.mem_cons]
  by_cases hq : q = k
  · subst hq
    rw [upd_same]
    refine ⟨fun m => m.elim (fun e => by cases e; rfl) (fun m => absurd (List.mem_map_of_mem (f := Prod.fst) m) hk), fun e => .inl (by cases e; rfl)⟩
  · rw [upd_other g _ hq, ← h.mem q e]
    exact ⟨fun m => m.elim (fun e => absurd (congrArg Prod.fst e) hq) id, .inr⟩
theorem upd_upd (g : KY → Option EN) (k : KY) (a b : Option EN) : upd (upd g k a) k b = upd g k b := by
  funext q
  unfold upd
  split <;> rfl
theorem upd_id {g : KY → Option EN} {k : KY} {o : Option EN} (h : g k = o) : upd g k o = g := by
  funext q
  unfold upd
  split
  · next e => rw [(eqK_iff q k).1 e, h]
  · rfl
theorem mem_sat {L : List SL} {p : Nat} (hp : p < L.length) {k : KY} {v : EN} (hs : sat L p = .ful k v) : (k, v) ∈ prs L := by
  obtain ⟨A, B, h, _⟩ := prs_split L p hp
  rw [h, hs]
  simp [prS]
section
variable {T : TB} {hs : KY → Nat} {g : KY → Option EN} {P : Nat}
/-- What seeking finds. -/
theorem maps_seek (wy : WayOk hs T.y) (we : WayOk hs T.e) (h : Maps T.prs g) (k : KY) : valT eZ T (seek eqK hs T k).1 = (g k).getD eZ ∧ (seek eqK hs T k).1.isSome = (g k).isSome := by
  cases hsk : seek eqK hs T k with
  | mk r n =>
    cases r with
    | none =>
      have := h.fresh (seek_no wy we (eqK_hs hs) hsk)
      rw [this]
      exact ⟨rfl, rfl⟩
    | some bp =>
      obtain ⟨b, p⟩ := bp
      have hm : (k, valT eZ T (some (b, p))) ∈ T.prs := by
        unfold Tb.prs
        rcases seek_some hsk with ⟨rfl, hp, ⟨k', v', hs', he⟩, _⟩ | ⟨rfl, hp, ⟨k', v', hs', he⟩, _⟩
        · have e := (eqK_iff _ _).1 he
          subst e
          have := mem_sat hp hs'
          simp [valT, hs', valS, this]
        · have e := (eqK_iff _ _).1 he
          subst e
          have := mem_sat hp hs'
          simp [valT, hs', valS, this]
      rw [(h.mem _ _).1 hm]
      exact ⟨rfl, rfl⟩
theorem Inv.mono {P' : Nat} (h : Inv hs T P) (hp : P ≤ P') : Inv hs T P' := ⟨h.ok, h.wy, h.we, h.el, h.y8, h.cap, Nat.le_trans h.np hp, h.bd.imp id (fun e => by omega)⟩
end
/-- An answer of Get, Put, Del. -/
def optV (o : Option EN) : Value := .tuple #[eV (o.getD eZ), .bool o.isSome]
/-- A table that has what g tells, behind at most P puts. -/
structure TbM (w : World) (z gy ge F : Nat) (hf : KY → Nat) (g : KY → Option EN) (P : Nat) : Prop where
  ex : ∃ T : TB, TbAt w z gy ge (hvF F) T ∧ Inv hf T P ∧ Maps T.prs g
structure TbN (w w' : World) (z gy ge F : Nat) (hf : KY → Nat) (g : KY → Option EN) (P : Nat) : Prop where
  ex : ∃ gy' ge', TbM w' z gy' ge' F hf g P ∧ ∀ k, TbB z gy' ge' k → TbB z gy ge k ∨ w.heap.size ≤ k
  fr : Frm w w' (TbB z gy ge)
section
variable {w : World} {z gy ge F : Nat} {hf : KY → Nat} {g : KY → Option EN} {P : Nat}
theorem TbM.lt (h : TbM w z gy ge F hf g P) {k : Nat} (hk : TbB z gy ge k) : k < w.heap.size := by
  obtain ⟨T, ht, _⟩ := h.ex
  exact ht.lt hk
theorem TbM.same {w' : World} (h : TbM w z gy ge F hf g P) (hs : ∀ k, TbB z gy ge k → w'.heap[k]? = w.heap[k]?) : TbM w' z gy ge F hf g P := by
  obtain ⟨T, ht, h1, h2⟩ := h.ex
  exact ⟨T, ht.same hs, h1, h2⟩
theorem TbM.below {w' : World} (h : TbM w z gy ge F hf g P) (hb : Below w.heap.size w w') : TbM w' z gy ge F hf g P := h.same (fun k hk => hb.block k (h.lt hk))
theorem TbM.more {P' : Nat} (h : TbM w z gy ge F hf g P) (hp : P ≤ P') : TbM w z gy ge F hf g P' := by
  obtain ⟨T, ht, h1, h2⟩ := h.ex
  exact ⟨T, ht, h1.mono hp, h2⟩
theorem TbM.notB (h : TbM w z gy ge F hf g P) {b : Nat} {cs : Array Value} {t : TypeId} (hb : Blk w b cs t) (h1 : t ≠ TT) (h2 : t ≠ ST) : ¬ TbB z gy ge b := by
  obtain ⟨T, ht, _⟩ := h.ex
  exact ht.notB hb h1 h2
theorem tget_any (h : TbM w z gy ge F hf g P) (HF : HsAt F hf) (k : KY) : Calls Try.prog 8 #[.pointer (some ⟨z, 0, none⟩), kV k] w fun e w' => e = .returned (optV (g k)) ∧ Below w.heap.size w w' := by
  obtain ⟨T, ht, h1, h2⟩ := h.ex
  refine (get_any w ht HF k).mono ?_
  rintro e w' ⟨rfl, hb⟩
  obtain ⟨m1, m2⟩ := maps_seek h1.wy h1.we h2 k
  exact ⟨by unfold ansV optV; rw [m1, m2], hb⟩
theorem tnew_any (w : World) (F : Nat) (hf : KY → Nat) : Calls Try.prog 4 #[hvF F] w fun e w' => ∃ z g, e = .returned (.pointer (some ⟨z, 0, none⟩)) ∧ TbM w' z g g F hf (fun _ => none) 0 ∧ w.heap.size ≤ z ∧ w.heap.size ≤ g ∧ Below w.heap.size w w' := by
  refine (new_any w F).mono ?_
  rintro e w' ⟨z, g, rfl, ht, h1, h2, hb⟩
  refine ⟨z, g, rfl, ⟨newT, ht, ⟨⟨.inl ⟨rfl, rfl⟩, ⟨0, rfl⟩, ⟨0, rfl⟩⟩, WayOk.new hf 8, WayOk.nil hf, fun p hp => absurd hp (Nat.not_lt_zero _), ⟨Nat.le_refl _, ⟨1, rfl⟩⟩, .inl ⟨rfl, by decide⟩, by decide, .inl rfl⟩, ⟨by show (([] : List (KY × EN)).map Prod.fst).Nodup; simp, fun k e => ?_⟩⟩, h1, h2, hb⟩
  exact ⟨fun m => absurd m (by show (k, e) ∉ ([] : List (KY × EN)); simp), fun m => by cases m⟩
theorem tdel_any (h : TbM w z gy ge F hf g P) (HF : HsAt F hf) (k : KY) : Calls Try.prog 6 #[.pointer (some ⟨z, 0, none⟩), kV k] w fun e w' => e = .returned (optV (g k)) ∧ TbN w w' z gy ge F hf (upd g k none) P := by
  obtain ⟨T, ht, h1, h2⟩ := h.ex
  refine (del_any w ht HF h1.ok k).mono ?_
  rintro e w' ⟨rfl, ⟨gy', ge', ht', hn⟩, hfr⟩
  obtain ⟨hst, hpm, _⟩ := h1.step
  have hm2 := h2.perm hpm
  obtain ⟨m1, m2⟩ := maps_seek hst.wy hst.we hm2 k
  have hd := hst.del (eqK_hs hf) k eZ
  refine ⟨by unfold ansV optV; rw [m1, m2], ⟨gy', ge', ⟨_, ht', hd.inv, ?_⟩, hn⟩, hfr⟩
  by_cases hr : (seek eqK hf (stepT hf T) k).1 = none
  · obtain ⟨e, hx⟩ := hd.no hr
    unfold delT
    rw [e, upd_id (hm2.fresh hx)]
    exact hm2
  · obtain ⟨k0, he, hp⟩ := hd.yes hr
    have e := (eqK_iff _ _).1 he
    subst e
    exact (hm2.out hp).1
theorem tput_any (h : TbM w z gy ge F hf g P) (HF : HsAt F hf) (hP : P < 3298534883327) (k : KY) (v : EN) : Calls Try.prog 7 #[.pointer (some ⟨z, 0, none⟩), kV k, eV v] w fun e w' => e = .returned (optV (g k)) ∧ TbN w w' z gy ge F hf (upd g k (some v)) (P + 1) := by
  obtain ⟨T, ht, h1, h2⟩ := h.ex
  obtain ⟨hst, hpm, _⟩ := h1.step
  have hm2 := h2.perm hpm
  have hG : GrowOk (⟨lay (stepT hf T).y (hf k) k v, (stepT hf T).e, (stepT hf T).m⟩ : TB) := by
    intro hl hu
    have h4 := (hst.more k v).2.2.2 hl (by
      have e : (⟨lay (stepT hf T).y (hf k) k v, (stepT hf T).e, (stepT hf T).m⟩ : TB).y.length = (stepT hf T).y.length := lay_length ..
      rw [e] at hu
      exact hu)
    rw [show (⟨lay (stepT hf T).y (hf k) k v, (stepT hf T).e, (stepT hf T).m⟩ : TB).y.length = (stepT hf T).y.length from lay_length ..]
    obtain ⟨a, _, hna⟩ := ht.ly
    have hl2 : (stepT hf T).y.length = 2 ^ a := by rw [stepT_y]; exact hna
    rw [hl2] at h4 ⊢
    obtain ⟨b, _, hb⟩ := growN_pow a (Tb.len (⟨lay (stepT hf T).y (hf k) k v, (stepT hf T).e, (stepT hf T).m⟩ : TB))
    rw [hb] at h4 ⊢
    rcases Nat.lt_or_ge 42 b with h | h
    · have : 2 ^ 43 ≤ 2 ^ b := Nat.pow_le_pow_right (by decide) h
      omega
    · have : 2 ^ b ≤ 2 ^ 42 := Nat.pow_le_pow_right (by decide) h
      omega
  refine (put_any w ht HF h1.ok k v hG).mono ?_
  rintro e w' ⟨rfl, ⟨gy', ge', ht', hn⟩, hfr⟩
  obtain ⟨m1, m2⟩ := maps_seek hst.wy hst.we hm2 k
  have hd := hst.put (eqK_hs hf) k v eZ
  refine ⟨by unfold ansV optV; rw [m1, m2], ⟨gy', ge', ⟨_, ht', hd.inv, ?_⟩, hn⟩, hfr⟩
  by_cases hr : (seek eqK hf (stepT hf T) k).1 = none
  · obtain ⟨hp, hx⟩ := hd.no hr
    refine Maps.perm (Maps.lay hm2 (fun m => ?_) v) hp
    obtain ⟨x, hx1, hx2⟩ := List.mem_map.1 m
    have := hx x hx1
    rw [hx2, eqK_self] at this
    cases this
  · obtain ⟨k0, k1, R, he, hk, hp, hp'⟩ := hd.yes hr
    have e := (eqK_iff _ _).1 he
    subst e
    have e1 : k1 = k0 := by rcases hk with h | h <;> exact h
    subst e1
    obtain ⟨r1, _, r3⟩ := hm2.out hp
    have := (r1.lay r3 v).perm hp'
    rw [upd_upd] at this
    exact this
end
end TX
end Go.Proofs.Ytjhbebaephmcgaa
