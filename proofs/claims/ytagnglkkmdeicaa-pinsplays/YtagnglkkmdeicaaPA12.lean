/- PinsPlays: the program's pins and the document's, side by side. -/
import Derived.Test.YtagnglkkmdeicaaPA11
namespace Go.Proofs.Ytagnglkkmdeicaa
set_option linter.unusedVariables false
set_option linter.unusedSimpArgs false
open Go.RowKit Go.Shelf
set_option maxRecDepth 100000

/-- No byte lies in a block. -/
def NoB (w : World) (z : Nat) : Prop := ∀ o v, w.cell? ⟨z, o, none⟩ = some v → ∀ b : UInt8, v ≠ u8c b
theorem KRow.keepB {w w' : World} {z : Nat} {ao : Option Addr} {L : List (List UInt8)} (h : KRow w ao L) (hg : w.grownBy w' (some z)) (hz : NoB w z) : KRow w' ao L := by
  refine ⟨fun i hi => ?_, h.len⟩
  obtain ⟨g, o, e, hr⟩ := h.at' i hi
  refine ⟨g, o, e, fun j v hj => ?_⟩
  have h1 := hr j v hj
  rw [← h1]
  unfold World.cell?
  simp only
  rw [hg.block g (World.block_lt_of_cell? w _ h1) (fun e2 => ?_)]
  have e3 : g = z := Option.some.inj e2
  subst e3
  obtain ⟨b, _, hb⟩ := List.mem_map.1 (List.mem_of_getElem? hj)
  exact hz _ _ h1 b hb.symm
theorem RfAt.keepB {w w' : World} {z zr : Nat} {D : List RfV} (h : RfAt w zr D) (hg : w.grownBy w' (some z)) (hz : NoB w z) (hne : zr ≠ z) : RfAt w' zr D := ⟨h.blk.grown hg (fun e => hne (Option.some.inj e)), h.len, fun s d e => (h.row s d e).keepB hg hz, h.far⟩
theorem noB_pins {w : World} {zp : Nat} {os : List (Option SesV)} (h : PinsAt w zp os) : NoB w zp := fun o v hv b e => by
  rw [h.blk.cell] at hv
  have hm : v ∈ pinL os := by
    have := Array.mem_of_getElem? hv
    simpa using this
  unfold pinL at hm
  rcases List.mem_cons.1 hm with e1 | hm
  · rw [e] at e1; cases e1
  · obtain ⟨q, _, hq⟩ := List.mem_map.1 hm
    rw [e] at hq
    cases hq
theorem noB_ses {w : World} {v : SesV} (h : SesAt w v) : NoB w v.zs := fun o u hu b e => by
  rw [h.blk.cell] at hu
  have hm := Array.mem_of_getElem? hu
  simp only [sesL, List.mem_toArray, List.mem_cons, List.not_mem_nil, or_false] at hm
  rcases hm with e1 | e1
  · rw [e] at e1; cases e1
  · rw [e] at e1; cases e1
theorem noB_map {w : World} {v : SesV} (h : SesAt w v) : NoB w v.b := fun o u hu b e => by
  obtain ⟨D, ⟨es, clock, hb, _⟩, _⟩ := h.set.set
  unfold World.cell? at hu
  simp [hb] at hu
/-- The document's block is written: the program's pins stay. -/
theorem PinsAt.keepD {w w' : World} {zp zr : Nat} {os : List (Option SesV)} {cs : Array Value} (h : PinsAt w zp os) (hr : Blk w zr cs 58) (hg : w.grownBy w' (some zr)) : PinsAt w' zp os := by
  refine ⟨h.blk.grown hg (fun e => blk_ne h.blk hr (by decide) (Option.some.inj e)), h.len, fun s v e => ?_, h.apart⟩
  have hs := h.ses s v e
  exact hs.grown hg (fun e => blk_ne hs.blk hr (by decide) (Option.some.inj e)) (fun e => blk_ne hs.set.blk hr (by decide) (Option.some.inj e)) (fun e => blk_map_ne hr hs.set (Option.some.inj e).symm)
/-- The same is told by both. -/
structure Rel (os : List (Option SesV)) (D : List RfV) (n : Nat) : Prop where
  shut : ∀ (k : Nat) (d : RfV), k < 16 → D[k]? = some d → d.op = false → os[k]? = some none ∧ d.busy = 0 ∧ d.L = []
  open' : ∀ (k : Nat) (d : RfV), k < 16 → D[k]? = some d → d.op = true → ∃ v : SesV, os[k]? = some (some v) ∧ v.busy = d.busy ∧ d.L.Pairwise (fun a b => cmpK a b < 0) ∧ (∀ x, x ∈ d.L ↔ x ∈ v.S) ∧ v.S.length ≤ n ∧ d.busy ≤ n
  few : ∀ (k : Nat) (d : RfV), D[k]? = some d → d.L.length ≤ n
  none' : ∀ (k : Nat) (d : RfV), D[k]? = some d → d.L = [] → d.ao = none ∧ d.cap = 0
theorem Rel.more {os : List (Option SesV)} {D : List RfV} {n m : Nat} (h : Rel os D n) (hn : n ≤ m) : Rel os D m :=
  ⟨h.shut, fun k d h1 h2 h3 => by obtain ⟨v, a1, a2, a3, a4, a5, a6⟩ := h.open' k d h1 h2 h3; exact ⟨v, a1, a2, a3, a4, by omega, by omega⟩, fun k d e => Nat.le_trans (h.few k d e) hn, h.none'⟩
theorem Rel.begin : Rel (List.replicate 16 none) (List.replicate 16 rf0) 0 := by
  have hd : ∀ {k : Nat} {d : RfV}, (List.replicate 16 rf0)[k]? = some d → d = rf0 := fun e => List.eq_of_mem_replicate (List.mem_of_getElem? e)
  refine ⟨fun k d hk e _ => ?_, fun k d hk e ho => ?_, fun k d e => ?_, fun k d e _ => ?_⟩
  · obtain rfl := hd e
    exact ⟨by rw [List.getElem?_replicate, if_pos hk], rfl, rfl⟩
  · obtain rfl := hd e
    cases ho
  · obtain rfl := hd e
    exact Nat.le_refl _
  · obtain rfl := hd e
    exact ⟨rfl, rfl⟩
structure One (w : World) (zp zr : Nat) (os : List (Option SesV)) (D : List RfV) (n : Nat) : Prop where
  p : PinsAt w zp os
  r : RfAt w zr D
  rel : Rel os D n
theorem One.below {w w' : World} {zp zr n : Nat} {os : List (Option SesV)} {D : List RfV} (h : One w zp zr os D n) (hb : Below w.heap.size w w') : One w' zp zr os D n := ⟨h.p.below hb, h.r.below hb, h.rel⟩
theorem One.at' {w : World} {zp zr n : Nat} {os : List (Option SesV)} {D : List RfV} (h : One w zp zr os D n) {k : Nat} (hk : k < 16) : ∃ d, D[k]? = some d := ⟨_, List.getElem?_eq_getElem (by rw [h.r.len]; exact hk)⟩
/-- Which session a number means, on both sides. -/
theorem One.cases {w : World} {zp zr n : Nat} {os : List (Option SesV)} {D : List RfV} (h : One w zp zr os D n) (s : Int) : (opD D s = false ∧ sel os s = none) ∨ ∃ (k : Nat) (d : RfV) (v : SesV), s = k ∧ k < 16 ∧ D[k]? = some d ∧ d.op = true ∧ os[k]? = some (some v) ∧ v.busy = d.busy ∧ d.L.Pairwise (fun a b => cmpK a b < 0) ∧ (∀ x, x ∈ d.L ↔ x ∈ v.S) ∧ v.S.length ≤ n ∧ d.busy ≤ n := by
  by_cases hs : 0 ≤ s ∧ s < 16
  · obtain ⟨k, rfl⟩ : ∃ k : Nat, s = k := ⟨s.toNat, by omega⟩
    have hk : k < 16 := by omega
    obtain ⟨d, hd⟩ := h.at' hk
    cases ho : d.op with
    | false =>
      obtain ⟨q, _⟩ := h.rel.shut k d hk hd ho
      exact .inl ⟨by rw [opD_in hk hd, ho], sel_in hk q⟩
    | true =>
      obtain ⟨v, a1, a2, a3, a4, a5, a6⟩ := h.rel.open' k d hk hd ho
      exact .inr ⟨k, d, v, rfl, hk, hd, ho, a1, a2, a3, a4, a5, a6⟩
  · exact .inl ⟨opD_out hs, sel_out hs⟩
/-- A place of both is set. -/
theorem Rel.set {os : List (Option SesV)} {D : List RfV} {n m k : Nat} {d' : RfV} {o' : Option SesV} (h : Rel os D n) (hn : n ≤ m) (hl : D.length = 16) (ho : os.length = 16) (hk : k < 16) (h1 : d'.op = false → o' = none ∧ d'.busy = 0 ∧ d'.L = []) (h2 : d'.op = true → ∃ v : SesV, o' = some v ∧ v.busy = d'.busy ∧ d'.L.Pairwise (fun a b => cmpK a b < 0) ∧ (∀ x, x ∈ d'.L ↔ x ∈ v.S) ∧ v.S.length ≤ m ∧ d'.busy ≤ m) (h3 : d'.L.length ≤ m) (h4 : d'.L = [] → d'.ao = none ∧ d'.cap = 0) : Rel (os.set k o') (D.set k d') m := by
  have h' := h.more hn
  refine ⟨fun j d hj e hop => ?_, fun j d hj e hop => ?_, fun j d e => ?_, fun j d e => ?_⟩
  · rcases get_set e with ⟨rfl, rfl⟩ | ⟨hne, e⟩
    · obtain ⟨a, b, c⟩ := h1 hop
      exact ⟨by rw [List.getElem?_set_self (by omega), a], b, c⟩
    · obtain ⟨a, b, c⟩ := h'.shut j d hj e hop
      exact ⟨by rw [List.getElem?_set_ne (fun q => hne q.symm)]; exact a, b, c⟩
  · rcases get_set e with ⟨rfl, rfl⟩ | ⟨hne, e⟩
    · obtain ⟨v, a, b⟩ := h2 hop
      exact ⟨v, by rw [List.getElem?_set_self (by omega), a], b⟩
    · obtain ⟨v, a, b⟩ := h'.open' j d hj e hop
      exact ⟨v, by rw [List.getElem?_set_ne (fun q => hne q.symm)]; exact a, b⟩
  · rcases get_set e with ⟨_, rfl⟩ | ⟨_, e⟩
    · exact h3
    · exact h'.few j d e
  · rcases get_set e with ⟨_, rfl⟩ | ⟨_, e⟩
    · exact h4
    · exact h'.none' j d e
/-- What may change where a pair is asked. -/
def Ft (zp zr : Nat) (os : List (Option SesV)) (i : Nat) : Prop := i = zp ∨ i = zr ∨ ∃ (k : Nat) (v : SesV), os[k]? = some (some v) ∧ (i = v.zs ∨ i = v.b)
/-- Two calls, one of the program and one of the document, with one answer. -/
def TwoC (f g : FuncId) (a b : Array Value) (zp zr n : Nat) (os : List (Option SesV)) (w : World) : Prop :=
  ∃ (r : Int) (Mid : World → Prop), (Calls Try.prog f a w fun e w1 => e = .returned (.int .i64 r) ∧ Mid w1 ∧ Chg (Ft zp zr os) w w1) ∧ ∀ w1, Mid w1 → Calls Try.prog g b w1 fun e w2 => e = .returned (.int .i64 r) ∧ Chg (Ft zp zr os) w1 w2 ∧ ∃ os' D', One w2 zp zr os' D' (n + 1) ∧ ∀ i, Ft zp zr os' i → Ft zp zr os i ∨ w.heap.size ≤ i
theorem Ft.set {zp zr k i B : Nat} {os : List (Option SesV)} {o' : Option SesV} (h : Ft zp zr (os.set k o') i) (ho : ∀ v, o' = some v → (i = v.zs ∨ i = v.b) → Ft zp zr os i ∨ B ≤ i) : Ft zp zr os i ∨ B ≤ i := by
  rcases h with h | h | ⟨j, v, e, h⟩
  · exact .inl (.inl h)
  · exact .inl (.inr (.inl h))
  · rcases get_set e with ⟨_, q⟩ | ⟨_, e⟩
    · exact ho v q.symm h
    · exact .inl (.inr (.inr ⟨j, v, e, h⟩))
section
variable {w : World} {zp zr n : Nat} {os : List (Option SesV)} {D : List RfV}
theorem two_still (h : One w zp zr os D n) {f g : FuncId} {a b : Array Value} (r : Int) (h1 : Calls Try.prog f a w fun e w' => e = .returned (.int .i64 r) ∧ Below w.heap.size w w') (h2 : ∀ w1, One w1 zp zr os D n → Calls Try.prog g b w1 fun e w' => e = .returned (.int .i64 r) ∧ Below w1.heap.size w1 w') : TwoC f g a b zp zr n os w := by
  refine ⟨r, fun w1 => One w1 zp zr os D n, h1.mono fun e w1 q => ⟨q.1, h.below q.2, Chg.of_below q.2⟩, fun w1 hm => (h2 w1 hm).mono fun e w2 q => ⟨q.1, Chg.of_below q.2, os, D, ⟨(hm.below q.2).p, (hm.below q.2).r, hm.rel.more (by omega)⟩, fun i hi => .inl hi⟩⟩
theorem zr_ne (h : One w zp zr os D n) : zp ≠ zr := blk_ne h.p.blk h.r.blk (by decide)
theorem two_open (h : One w zp zr os D n) (s : Int) : TwoC 9 16 #[.pointer (some ⟨zp, 0, none⟩), .int .i64 s] #[.pointer (some ⟨zr, 0, none⟩), .int .i64 s] zp zr n os w := by
  by_cases hs : 0 ≤ s ∧ s < 16
  · obtain ⟨k, rfl⟩ : ∃ k : Nat, s = k := ⟨s.toNat, by omega⟩
    have hk : k < 16 := by omega
    obtain ⟨d, hd⟩ := h.at' hk
    cases ho : d.op with
    | true =>
      obtain ⟨v, a1, _⟩ := h.rel.open' k d hk hd ho
      exact two_still h 141 (drop_eq (open_again w zp os k v hk h.p a1)) (fun w1 h1 => drop_eq (ropen_again w1 zr D k d hk h1.r hd ho))
    | false =>
      obtain ⟨a1, a2, a3⟩ := h.rel.shut k d hk hd ho
      refine ⟨0, fun w1 => ∃ v : SesV, v.busy = 0 ∧ v.S = [] ∧ w.heap.size ≤ v.zs ∧ w.heap.size ≤ v.b ∧ PinsAt w1 zp (os.set k (some v)) ∧ RfAt w1 zr D, (open_yes w zp os k hk h.p a1).mono ?_, ?_⟩
      · rintro e w1 ⟨he, v, b1, b2, b3, b4, b5, b6, b7⟩
        exact ⟨he, ⟨v, b1, b2, b3, b5, b6, h.r.keepB b7 (noB_pins h.p) (fun e => zr_ne h e.symm)⟩, Chg.of_grown b7 (.inl rfl)⟩
      · rintro w1 ⟨v, b1, b2, b3, b4, b5, b6⟩
        refine (ropen_yes w1 zr D k d hk b6 hd ho).mono ?_
        rintro e w2 ⟨he, c1, c2⟩
        refine ⟨he, Chg.of_grown c2 (.inr (.inl rfl)), os.set k (some v), _, ⟨b5.keepD b6.blk c2, c1, ?_⟩, fun i hi => hi.set (fun u e q => ?_)⟩
        · refine h.rel.set (by omega) h.r.len h.p.len hk (fun q => by cases q) (fun _ => ⟨v, rfl, by rw [b1, a2], by rw [a3]; exact List.Pairwise.nil, fun x => by rw [a3, b2], by rw [b2]; exact Nat.zero_le _, by rw [a2]; exact Nat.zero_le _⟩) (by show d.L.length ≤ n + 1; rw [a3]; exact Nat.zero_le _) (h.rel.none' k d hd)
        · cases e
          rcases q with q | q
          · exact .inr (by omega)
          · exact .inr (by omega)
  · exact two_still h 140 (drop_eq (open_out w zp os s hs h.p)) (fun w1 h1 => drop_eq (ropen_out w1 _ s hs))
theorem two_close (h : One w zp zr os D n) (s : Int) : TwoC 17 18 #[.pointer (some ⟨zp, 0, none⟩), .int .i64 s] #[.pointer (some ⟨zr, 0, none⟩), .int .i64 s] zp zr n os w := by
  rcases h.cases s with ⟨h1, h2⟩ | ⟨k, d, v, rfl, hk, hd, ho, a1, a2, a3, a4, a5, a6⟩
  · exact two_still h 140 (drop_eq (close_no w _ s 140 (by decide) (opened_no h.p h2))) (fun w1 q => drop_eq (rclose_no w1 zr D s q.r h1))
  · by_cases hb : d.busy = 0
    · refine ⟨0, fun w1 => PinsAt w1 zp (os.set k none) ∧ RfAt w1 zr D, (close_yes w zp os k v hk h.p a1 (by rw [a2, hb])).mono ?_, ?_⟩
      · rintro e w1 ⟨he, b6, b7⟩
        exact ⟨he, ⟨b6, h.r.keepB b7 (noB_pins h.p) (fun e => zr_ne h e.symm)⟩, Chg.of_grown b7 (.inl rfl)⟩
      · rintro w1 ⟨b5, b6⟩
        refine (rclose_yes w1 zr D k d hk b6 hd ho hb).mono ?_
        rintro e w2 ⟨he, c1, c2⟩
        refine ⟨he, Chg.of_grown c2 (.inr (.inl rfl)), os.set k none, _, ⟨b5.keepD b6.blk c2, c1, ?_⟩, fun i hi => hi.set (fun u e q => by cases e)⟩
        exact h.rel.set (by omega) h.r.len h.p.len hk (fun _ => ⟨rfl, hb, rfl⟩) (fun q => by cases q) (Nat.zero_le _) (fun _ => ⟨rfl, rfl⟩)
    · exact two_still h 142 (drop_eq (close_busy w zp os k v hk h.p a1 (by rw [a2]; exact hb))) (fun w1 q => drop_eq (rclose_busy w1 zr D k d hk q.r hd ho hb))
theorem two_enter (h : One w zp zr os D n) (s : Int) (hn : n + 1 ≤ 9223372036854775807) : TwoC 20 21 #[.pointer (some ⟨zp, 0, none⟩), .int .i64 s] #[.pointer (some ⟨zr, 0, none⟩), .int .i64 s] zp zr n os w := by
  rcases h.cases s with ⟨h1, h2⟩ | ⟨k, d, v, rfl, hk, hd, ho, a1, a2, a3, a4, a5, a6⟩
  · exact two_still h 140 (drop_eq (enter_no w _ s 140 (by decide) (opened_no h.p h2))) (fun w1 q => drop_eq (renter_no w1 zr D s q.r h1))
  · refine ⟨0, fun w1 => PinsAt w1 zp (os.set k (some { v with busy := v.busy + 1 })) ∧ RfAt w1 zr D, (enter_yes w zp os k v hk h.p a1 (by omega)).mono ?_, ?_⟩
    · rintro e w1 ⟨he, b6, b7⟩
      have hz := noB_ses (h.p.ses k v a1)
      exact ⟨he, ⟨b6, h.r.keepB b7 hz (fun e => blk_ne h.r.blk (h.p.ses k v a1).blk (by decide) e)⟩, Chg.of_grown b7 (.inr (.inr ⟨k, v, a1, .inl rfl⟩))⟩
    · rintro w1 ⟨b5, b6⟩
      refine (renter_yes w1 zr D k d hk b6 hd ho (by omega)).mono ?_
      rintro e w2 ⟨he, c1, c2⟩
      refine ⟨he, Chg.of_grown c2 (.inr (.inl rfl)), _, _, ⟨b5.keepD b6.blk c2, c1, ?_⟩, fun i hi => hi.set (fun u e q => ?_)⟩
      · exact h.rel.set (by omega) h.r.len h.p.len hk (fun q => by rw [show ({ d with busy := d.busy + 1 } : RfV).op = d.op from rfl, ho] at q; cases q) (fun _ => ⟨_, rfl, by show v.busy + 1 = d.busy + 1; omega, a3, a4, by show v.S.length ≤ n + 1; omega, by show d.busy + 1 ≤ n + 1; omega⟩) (Nat.le_trans (h.rel.few k d hd) (by omega)) (h.rel.none' k d hd)
      · cases e
        exact .inl (.inr (.inr ⟨k, v, a1, q⟩))
theorem two_leave (h : One w zp zr os D n) (s : Int) (hn : n + 1 ≤ 9223372036854775807) : TwoC 22 23 #[.pointer (some ⟨zp, 0, none⟩), .int .i64 s] #[.pointer (some ⟨zr, 0, none⟩), .int .i64 s] zp zr n os w := by
  rcases h.cases s with ⟨h1, h2⟩ | ⟨k, d, v, rfl, hk, hd, ho, a1, a2, a3, a4, a5, a6⟩
  · exact two_still h 140 (drop_eq (leave_no w _ s 140 (by decide) (opened_no h.p h2))) (fun w1 q => drop_eq (rleave_no w1 zr D s q.r h1))
  · by_cases hb : d.busy = 0
    · exact two_still h 3 (drop_eq (leave_idle w zp os k v hk h.p a1 (by rw [a2, hb]))) (fun w1 q => drop_eq (rleave_idle w1 zr D k d hk q.r hd ho hb))
    · refine ⟨0, fun w1 => PinsAt w1 zp (os.set k (some { v with busy := v.busy - 1 })) ∧ RfAt w1 zr D, (leave_yes w zp os k v hk h.p a1 (by omega) (by omega)).mono ?_, ?_⟩
      · rintro e w1 ⟨he, b6, b7⟩
        have hz := noB_ses (h.p.ses k v a1)
        exact ⟨he, ⟨b6, h.r.keepB b7 hz (fun e => blk_ne h.r.blk (h.p.ses k v a1).blk (by decide) e)⟩, Chg.of_grown b7 (.inr (.inr ⟨k, v, a1, .inl rfl⟩))⟩
      · rintro w1 ⟨b5, b6⟩
        refine (rleave_yes w1 zr D k d hk b6 hd ho (by omega) hb).mono ?_
        rintro e w2 ⟨he, c1, c2⟩
        refine ⟨he, Chg.of_grown c2 (.inr (.inl rfl)), _, _, ⟨b5.keepD b6.blk c2, c1, ?_⟩, fun i hi => hi.set (fun u e q => ?_)⟩
        · exact h.rel.set (by omega) h.r.len h.p.len hk (fun q => by rw [show ({ d with busy := d.busy - 1 } : RfV).op = d.op from rfl, ho] at q; cases q) (fun _ => ⟨_, rfl, by show v.busy - 1 = d.busy - 1; omega, a3, a4, by show v.S.length ≤ n + 1; omega, by show d.busy - 1 ≤ n + 1; omega⟩) (Nat.le_trans (h.rel.few k d hd) (by omega)) (h.rel.none' k d hd)
        · cases e
          exact .inl (.inr (.inr ⟨k, v, a1, q⟩))
end
end Go.Proofs.Ytagnglkkmdeicaa
