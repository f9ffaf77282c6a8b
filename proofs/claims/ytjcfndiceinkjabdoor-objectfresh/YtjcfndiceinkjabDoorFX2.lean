/- ObjectFresh: what is kept while some of it is written over. -/
import Derived.Test.YtjcfndiceinkjabDoorFX1
namespace Go.Proofs.YtjcfndiceinkjabDoor
set_option linter.unusedVariables false
set_option linter.unusedSimpArgs false
set_option maxRecDepth 100000
open Go.RowKit

/-- The two objects that came in, boxed. -/
structure FrS (w W : World) (A B : Array Value) : Prop where
  old : Below w.heap.size w W
  A : Blk W w.heap.size A 30
  B : Blk W (w.heap.size + 1) B 30
theorem FrS.below {w W W' : World} {A B : Array Value} (h : FrS w W A B) (hb : Below W.heap.size W W') : FrS w W' A B :=
  ⟨h.old.trans (hb.mono h.old.size), h.A.below hb h.A.lt, h.B.below hb h.B.lt⟩
theorem FrS.zn {w W W' : World} {A B : Array Value} {N M : Nat} (h : FrS w W A B) (hz : Zn N M W W') (hN : w.heap.size + 2 ≤ N) : FrS w W' A B :=
  ⟨h.old.trans (hz.low (by omega) h.old.size), hz.blk h.A (.inl (by omega)), hz.blk h.B (.inl (by omega))⟩
/-- What Encode tells, either way. -/
def EncF (W : World) (L : List UInt8) (n : Nat) (k : Int) (e : Ending) (w' : World) : Prop := ∃ a c, e = .returned (.tuple #[.slice a n c, .int .i64 k]) ∧ w'.ownsRow W.heap.size 5 1 (.slice a n c) n (L.map u8c) ∧ Below W.heap.size W w'
theorem encF_of {W : World} {o : ObjR} {L : List UInt8} {n : Nat} {k : Int} {e : Ending} {w' : World} (hL : encO o = L) (hn : L.length = n) (hk : checkO o = k) (h : EncC W o e w') : EncF W L n k e w' := by
  obtain ⟨v', rfl, h1, h2⟩ := h
  rw [hL] at h1
  obtain ⟨a, c, rfl⟩ := own_sl h1
  rw [hn] at h1 ⊢
  exact ⟨a, c, by rw [hk], h1, h2⟩
def CopF (W : World) (o : ObjR) (e : Ending) (w' : World) : Prop := ∃ u cs, e = .returned (.agg cs) ∧ cs = (objL o u).toArray ∧ ObjRd w' o u ∧ Below W.heap.size W w'
/-- Four encodings beside one that is written over. -/
structure K4 (w W : World) (A B : Array Value) (N M : Nat) (vw vb vc vt : Value) (no nr : Nat) (Lo Lr : List UInt8) : Prop where
  E : FrS w W A B
  n2 : w.heap.size + 2 ≤ N
  w_ : W.ownsRow 0 5 1 vw no (Lo.map u8c)
  b_ : W.ownsRow 0 5 1 vb no (Lo.map u8c)
  c_ : W.ownsRow 0 5 1 vc nr (Lr.map u8c)
  t_ : W.ownsRow 0 5 1 vt nr (Lr.map u8c)
  gw : ∀ g, vw.ownBlock = some g → g < N
  gb : ∀ g, vb.ownBlock = some g → M ≤ g
  gc : ∀ g, vc.ownBlock = some g → M ≤ g
  gt : ∀ g, vt.ownBlock = some g → M ≤ g
theorem K4.zn {w W W' : World} {A B : Array Value} {N M : Nat} {vw vb vc vt : Value} {no nr : Nat} {Lo Lr : List UInt8} (h : K4 w W A B N M vw vb vc vt no nr Lo Lr) (hz : Zn N M W W') : K4 w W' A B N M vw vb vc vt no nr Lo Lr :=
  ⟨h.E.zn hz h.n2, h.n2, hz.own h.w_ (fun g e => .inl (h.gw g e)), hz.own h.b_ (fun g e => .inr (h.gb g e)), hz.own h.c_ (fun g e => .inr (h.gc g e)), hz.own h.t_ (fun g e => .inr (h.gt g e)), h.gw, h.gb, h.gc, h.gt⟩
theorem own_low {w : World} {base n k : Nat} {e : TypeId} {v : Value} {ys : List Value} (h : w.ownsRow base e k v n ys) : w.ownsRow 0 e k v n ys := by
  obtain ⟨h0, h1 | ⟨g, cap, cur, e1, hg, hr⟩⟩ := h
  · exact ⟨h0, .inl h1⟩
  · exact ⟨h0, .inr ⟨g, cap, cur, e1, Nat.zero_le _, hr⟩⟩
theorem rd_own {w : World} {base n : Nat} {v : Value} {xs : List UInt8} (hn : xs.length = n) (h : w.ownsRow base 5 1 v n (xs.map u8c)) : RdA w v xs := .inl (Rd_owned (by rw [hn]; exact h))
theorem flat_get {k : Nat} : ∀ (L : List (List Value)), (∀ c ∈ L, c.length = k) → ∀ i (h : i < L.length) j, j < k → L.flatten[i * k + j]? = (L[i])[j]?
  | [], _, i, h, j, _ => by simp at h
  | c :: L, hk, 0, h, j, hj => by
    have hc := hk c (List.mem_cons_self ..)
    rw [List.flatten_cons, Nat.zero_mul, Nat.zero_add, List.getElem?_append_left (by omega)]
    rfl
  | c :: L, hk, i + 1, h, j, hj => by
    have hc := hk c (List.mem_cons_self ..)
    rw [List.flatten_cons, List.getElem?_append_right (by rw [hc, Nat.succ_mul]; omega), hc, show (i + 1) * k + j - k = i * k + j by rw [Nat.succ_mul]; omega]
    exact flat_get L (fun c hc => hk c (List.mem_cons_of_mem _ hc)) i (by simpa using h) j hj
/-- An object whose lists are written over: its box at z, its rows in the zone. -/
structure PS (W0 W : World) (N M z : Nat) (cp : Array Value) (vd vp vi vk : Value) (nd np ni nk : Nat) : Prop where
  zn : Zn N M W0 W
  at' : Blk W z cp 30
  zz : N ≤ z ∧ z < M
  d : ∃ zs : List UInt8, zs.length = nd ∧ W.ownsRow N 5 1 vd nd (zs.map u8c)
  p : ∃ ys, W.ownsRow N 49 33 vp np ys ∧ ∀ i, i < np → ∃ q : Nat, q ≤ 18446744073709551615 ∧ ys[i * 33 + 32]? = some (.int .u64 (q : Int))
  i : ∃ ys, W.ownsRow N 52 35 vi ni ys ∧ ∀ i, i < ni → ∃ s, ys[i * 35]? = some (.string s)
  k : ∃ ys, W.ownsRow N 27 32 vk nk ys ∧ ∀ i, i < nk → ∃ x : UInt8, ys[i * 32 + 5]? = some (u8c x)
  gd : ∀ g, vd.ownBlock = some g → g < z
  gp : ∀ g, vp.ownBlock = some g → g < z
  gi : ∀ g, vi.ownBlock = some g → g < z
  gk : ∀ g, vk.ownBlock = some g → g < z
theorem own_away {w : World} {base n k : Nat} {e : TypeId} {v : Value} {ys : List Value} (h : w.ownsRow base e k v n ys) {g : Nat} (hne : v.ownBlock ≠ some g) (i : Nat) (x : Value) : (w.setCell ⟨g, i, none⟩ x).ownsRow base e k v n ys :=
  (Zn.set (N := g) (M := g + 1) w i x (Nat.le_refl _) (by omega)).own h (fun b hb => by have : b ≠ g := fun e => hne (by rw [← e]; exact hb); omega)
theorem PS.drew {W0 W : World} {N M z : Nat} {cp : Array Value} {vd vp vi vk : Value} {nd np ni nk : Nat} (h : PS W0 W N M z cp vd vp vi vk nd np ni nk) : PS W0 W.drew N M z cp vd vp vi vk nd np ni nk :=
  ⟨h.zn.trans (Zn.drew _), h.at'.drew, h.zz, h.d, h.p, h.i, h.k, h.gd, h.gp, h.gi, h.gk⟩
theorem PS.set_d {W0 W : World} {N M z : Nat} {cp : Array Value} {vd vp vi vk : Value} {nd np ni nk : Nat} {g c : Nat} (hv : vd = .slice (some ⟨g, 0, none⟩) nd c) (h : PS W0 W N M z cp vd vp vi vk nd np ni nk) (j : Nat) (y : UInt8) : PS W0 (W.setCell ⟨g, j, none⟩ (.int .u8 (y.toNat : Int))) N M z cp vd vp vi vk nd np ni nk := by
  have hg : g < z := h.gd g (by rw [hv]; rfl)
  have hx0 := h.d
  obtain ⟨xs, hxl, hx⟩ := hx0
  skip
  rw [hv] at hx
  have hN : N ≤ g := (own_lim hx g rfl).1
  have hM := h.zz
  exact ⟨h.zn.trans (Zn.set _ j _ hN (by omega)), h.at'.setOther _ _ (by show z ≠ g; omega), h.zz, ⟨xs.set j y, by rw [List.length_set]; exact hxl, by rw [hv]; have := own_setK hx j (u8c y); rwa [← List.map_set] at this⟩, (by obtain ⟨ys, ho, hs⟩ := h.p; exact ⟨ys, own_away ho (kind_ne hx ho (by decide) g rfl) j _, hs⟩), (by obtain ⟨ys, ho, hs⟩ := h.i; exact ⟨ys, own_away ho (kind_ne hx ho (by decide) g rfl) j _, hs⟩), (by obtain ⟨ys, ho, hs⟩ := h.k; exact ⟨ys, own_away ho (kind_ne hx ho (by decide) g rfl) j _, hs⟩), h.gd, h.gp, h.gi, h.gk⟩
theorem PS.set_p {W0 W : World} {N M z : Nat} {cp : Array Value} {vd vp vi vk : Value} {nd np ni nk : Nat} {g c : Nat} (hv : vp = .slice (some ⟨g, 0, none⟩) np c) (h : PS W0 W N M z cp vd vp vi vk nd np ni nk) (j : Nat) (i0 : Nat) (hj : j = i0 * 33 + 32) (hi0 : i0 < np) (q : Nat) (hq : q ≤ 18446744073709551615) : PS W0 (W.setCell ⟨g, j, none⟩ (.int .u64 (q : Int))) N M z cp vd vp vi vk nd np ni nk := by
  have hg : g < z := h.gp g (by rw [hv]; rfl)
  have hx0 := h.p
  obtain ⟨xs, hx⟩ := hx0
  obtain ⟨hx, hxs⟩ := hx
  rw [hv] at hx
  have hN : N ≤ g := (own_lim hx g rfl).1
  have hM := h.zz
  exact ⟨h.zn.trans (Zn.set _ j _ hN (by omega)), h.at'.setOther _ _ (by show z ≠ g; omega), h.zz, (by obtain ⟨zs, hl, ho⟩ := h.d; exact ⟨zs, hl, own_away ho (kind_ne hx ho (by decide) g rfl) j _⟩), ⟨_, by rw [hv]; exact own_setK hx j _, fun i hi => by
    by_cases e : i * 33 + 32 = j
    · obtain ⟨q0, _, h0⟩ := hxs i hi
      exact ⟨q, hq, by rw [e, List.getElem?_set_self (by rw [← e]; exact (List.getElem?_eq_some_iff.1 h0).1)]⟩
    · obtain ⟨q0, h1, h0⟩ := hxs i hi
      exact ⟨q0, h1, by rw [List.getElem?_set_ne (fun h => e h.symm)]; exact h0⟩⟩, (by obtain ⟨ys, ho, hs⟩ := h.i; exact ⟨ys, own_away ho (kind_ne hx ho (by decide) g rfl) j _, hs⟩), (by obtain ⟨ys, ho, hs⟩ := h.k; exact ⟨ys, own_away ho (kind_ne hx ho (by decide) g rfl) j _, hs⟩), h.gd, h.gp, h.gi, h.gk⟩
theorem PS.set_i {W0 W : World} {N M z : Nat} {cp : Array Value} {vd vp vi vk : Value} {nd np ni nk : Nat} {g c : Nat} (hv : vi = .slice (some ⟨g, 0, none⟩) ni c) (h : PS W0 W N M z cp vd vp vi vk nd np ni nk) (j : Nat) (s : ByteArray) : PS W0 (W.setCell ⟨g, j, none⟩ (.string s)) N M z cp vd vp vi vk nd np ni nk := by
  have hg : g < z := h.gi g (by rw [hv]; rfl)
  have hx0 := h.i
  obtain ⟨xs, hx⟩ := hx0
  obtain ⟨hx, hxs⟩ := hx
  rw [hv] at hx
  have hN : N ≤ g := (own_lim hx g rfl).1
  have hM := h.zz
  exact ⟨h.zn.trans (Zn.set _ j _ hN (by omega)), h.at'.setOther _ _ (by show z ≠ g; omega), h.zz, (by obtain ⟨zs, hl, ho⟩ := h.d; exact ⟨zs, hl, own_away ho (kind_ne hx ho (by decide) g rfl) j _⟩), (by obtain ⟨ys, ho, hs⟩ := h.p; exact ⟨ys, own_away ho (kind_ne hx ho (by decide) g rfl) j _, hs⟩), ⟨_, by rw [hv]; exact own_setK hx j _, fun i hi => by
    by_cases e : i * 35 = j
    · obtain ⟨q0, h0⟩ := hxs i hi
      exact ⟨s, by rw [e, List.getElem?_set_self (by rw [← e]; exact (List.getElem?_eq_some_iff.1 h0).1)]⟩
    · obtain ⟨q0, h0⟩ := hxs i hi
      exact ⟨q0, by rw [List.getElem?_set_ne (fun h => e h.symm)]; exact h0⟩⟩, (by obtain ⟨ys, ho, hs⟩ := h.k; exact ⟨ys, own_away ho (kind_ne hx ho (by decide) g rfl) j _, hs⟩), h.gd, h.gp, h.gi, h.gk⟩
theorem PS.set_k {W0 W : World} {N M z : Nat} {cp : Array Value} {vd vp vi vk : Value} {nd np ni nk : Nat} {g c : Nat} (hv : vk = .slice (some ⟨g, 0, none⟩) nk c) (h : PS W0 W N M z cp vd vp vi vk nd np ni nk) (j : Nat) (y : UInt8) : PS W0 (W.setCell ⟨g, j, none⟩ (.int .u8 (y.toNat : Int))) N M z cp vd vp vi vk nd np ni nk := by
  have hg : g < z := h.gk g (by rw [hv]; rfl)
  have hx0 := h.k
  obtain ⟨xs, hx⟩ := hx0
  obtain ⟨hx, hxs⟩ := hx
  rw [hv] at hx
  have hN : N ≤ g := (own_lim hx g rfl).1
  have hM := h.zz
  exact ⟨h.zn.trans (Zn.set _ j _ hN (by omega)), h.at'.setOther _ _ (by show z ≠ g; omega), h.zz, (by obtain ⟨zs, hl, ho⟩ := h.d; exact ⟨zs, hl, own_away ho (kind_ne hx ho (by decide) g rfl) j _⟩), (by obtain ⟨ys, ho, hs⟩ := h.p; exact ⟨ys, own_away ho (kind_ne hx ho (by decide) g rfl) j _, hs⟩), (by obtain ⟨ys, ho, hs⟩ := h.i; exact ⟨ys, own_away ho (kind_ne hx ho (by decide) g rfl) j _, hs⟩), ⟨_, by rw [hv]; exact own_setK hx j _, fun i hi => by
    by_cases e : i * 32 + 5 = j
    · obtain ⟨q0, h0⟩ := hxs i hi
      exact ⟨y, by rw [e, List.getElem?_set_self (by rw [← e]; exact (List.getElem?_eq_some_iff.1 h0).1)]; rfl⟩
    · obtain ⟨q0, h0⟩ := hxs i hi
      exact ⟨q0, by rw [List.getElem?_set_ne (fun h => e h.symm)]; exact h0⟩⟩, h.gd, h.gp, h.gi, h.gk⟩
theorem PS.start {W0 : World} {N M z : Nat} {cp : Array Value} {o : ObjR} {v : ObjV} (ho : ObjOwn N W0 o v) (tx : TxtSz o) (hz : Blk W0 z cp 30) (hN : N ≤ z) (hM : z < M) (hg : ∀ x g, Value.ownBlock x = some g → (x = v.d ∨ x = v.p ∨ x = v.i ∨ x = v.k) → g < z) : PS W0 W0 N M z cp v.d v.p v.i v.k o.data.length o.parts.length o.items.length o.parents.length := by
  refine ⟨Zn.refl _ _ _, hz, ⟨hN, hM⟩, ⟨o.data, rfl, ho.d⟩, ⟨_, ho.p, fun i hi => ?_⟩, ⟨_, ho.i, fun i hi => ?_⟩, ⟨_, ho.k, fun i hi => ?_⟩, fun g e => hg _ g e (.inl rfl), fun g e => hg _ g e (.inr (.inl rfl)), fun g e => hg _ g e (.inr (.inr (.inl rfl))), fun g e => hg _ g e (.inr (.inr (.inr rfl)))⟩
  · refine ⟨o.parts[i].2, tx.q _ (List.getElem_mem hi), ?_⟩
    rw [flat_get _ (partsC_len o ho.ok) i (by simpa using hi) 32 (by decide), List.getElem_map]
    have hk : o.parts[i].1.length = 32 := ho.ok.p _ (List.getElem_mem hi)
    unfold partC
    rw [List.getElem?_append_right (by simp [hk])]
    simp [hk]
  · refine ⟨⟨o.items[i].1.toArray⟩, ?_⟩
    have := flat_get _ (itemsC_len o ho.ok) i (by simpa using hi) 0 (by decide)
    rw [Nat.add_zero, List.getElem_map] at this
    rw [this]
    rfl
  · have hk : o.parents[i].length = 32 := ho.ok.k _ (List.getElem_mem hi)
    refine ⟨o.parents[i][5]'(by omega), ?_⟩
    rw [flat_get _ (keysC_len o ho.ok) i (by simpa using hi) 5 (by decide), List.getElem_map]
    unfold keyC
    rw [List.getElem?_map, List.getElem?_eq_getElem (by omega)]
    rfl
end Go.Proofs.YtjcfndiceinkjabDoor
