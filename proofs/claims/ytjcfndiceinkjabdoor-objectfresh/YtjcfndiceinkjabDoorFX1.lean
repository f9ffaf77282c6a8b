/- What may be changed: the blocks of a zone; rows that lie elsewhere stay; grown, Few. -/
import Derived.Test.YtjcfndiceinkjabDoorYE6
import Derived.Lib.OwnKind
namespace Go.Proofs.YtjcfndiceinkjabDoor
set_option linter.unusedVariables false
set_option linter.unusedSimpArgs false
set_option maxRecDepth 100000
open Go.RowKit

/-- Of the old blocks those from N up to M alone have changed. -/
structure Zn (N M : Nat) (w w' : World) : Prop where
  os : w'.os = w.os
  tape : w'.tape = w.tape
  output : w'.output = w.output
  size : w.heap.size ≤ w'.heap.size
  block : ∀ k, k < w.heap.size → (k < N ∨ M ≤ k) → w'.heap[k]? = w.heap[k]?
theorem Zn.refl (N M : Nat) (w : World) : Zn N M w w := ⟨rfl, rfl, rfl, Nat.le_refl _, fun _ _ _ => rfl⟩
theorem Zn.trans {N M : Nat} {a b c : World} (h : Zn N M a b) (k : Zn N M b c) : Zn N M a c :=
  ⟨k.os.trans h.os, k.tape.trans h.tape, k.output.trans h.output, Nat.le_trans h.size k.size, fun i hi hz => (k.block i (Nat.lt_of_lt_of_le hi h.size) hz).trans (h.block i hi hz)⟩
theorem Zn.of_below {N M : Nat} {w w' : World} (h : Below w.heap.size w w') : Zn N M w w' := ⟨h.os, h.tape, h.output, h.size, fun k hk _ => h.block k hk⟩
theorem Zn.grown {N M : Nat} {w w' : World} {row : Option Nat} (h : w.grownBy w' row) (hr : ∀ g, row = some g → N ≤ g ∧ g < M) : Zn N M w w' :=
  ⟨h.os, h.tape, h.output, h.size, fun k hk hz => h.block k hk (fun e => by have := hr k e.symm; omega)⟩
theorem Zn.set {N M : Nat} (w : World) {g : Nat} (i : Nat) (v : Value) (hN : N ≤ g) (hM : g < M) : Zn N M w (w.setCell ⟨g, i, none⟩ v) := Zn.grown (grownBy_set w g i v) (fun k e => by cases e; exact ⟨hN, hM⟩)
theorem Zn.drew {N M : Nat} (w : World) : Zn N M w w.drew := Zn.of_below (below_d w)
theorem Zn.low {N M B : Nat} {w w' : World} (h : Zn N M w w') (hB : B ≤ N) (hs : B ≤ w.heap.size) : Below B w w' := ⟨h.os, h.tape, h.output, h.size, fun k hk => h.block k (by omega) (by omega)⟩
theorem Zn.blk {N M : Nat} {w w' : World} {b : Nat} {cs : Array Value} {t : TypeId} (h : Zn N M w w') (hb : Blk w b cs t) (hz : b < N ∨ M ≤ b) : Blk w' b cs t := (h.block b hb.lt hz).trans hb
theorem Zn.own {N M : Nat} {w w' : World} {base n k : Nat} {e : TypeId} {v : Value} {ys : List Value} (h : Zn N M w w') (ho : w.ownsRow base e k v n ys) (hz : ∀ g, v.ownBlock = some g → g < N ∨ M ≤ g) : w'.ownsRow base e k v n ys := by
  obtain ⟨h0, h1 | ⟨g, cap, cur, rfl, hg, hr, hc⟩⟩ := ho
  · exact ⟨h0, .inl h1⟩
  · have hB : Blk w g cur e := hr
    exact ⟨h0, .inr ⟨g, cap, cur, rfl, hg, (h.block g hB.lt (hz g rfl)).trans hr, hc⟩⟩
theorem own_lim {w : World} {base n k : Nat} {e : TypeId} {v : Value} {ys : List Value} (ho : w.ownsRow base e k v n ys) : ∀ g, v.ownBlock = some g → base ≤ g ∧ g < w.heap.size := by
  obtain ⟨_, ⟨rfl, _⟩ | ⟨g, cap, cur, rfl, hg, hr, _⟩⟩ := ho
  · intro g e; cases e
  · intro g' e'
    cases e'
    have hB : Blk w g cur e := hr
    exact ⟨hg, hB.lt⟩
theorem own_keep {w w' : World} {base n k : Nat} {e : TypeId} {v : Value} {ys : List Value} (ho : w.ownsRow base e k v n ys) (hb : Below w.heap.size w w') : w'.ownsRow base e k v n ys := Zn.own (N := 0) (M := 0) (Zn.of_below hb) ho (fun g _ => .inr (Nat.zero_le _))
theorem own_atK {w : World} {base g cap n k : Nat} {ys : List Value} {e : TypeId} (h : w.ownsRow base e k (.slice (some ⟨g, 0, none⟩) n cap) n ys) (j : Nat) (x : Value) (hj : ys[j]? = some x) : w.cell? ⟨g, j, none⟩ = some x ∧ w.frozen? ⟨g, j, none⟩ = false := by
  obtain ⟨h0, ⟨e1, _⟩ | ⟨g', cap', cur, e1, hg, hr, hc, hmx, hs, ht⟩⟩ := h
  · cases e1
  · cases e1
    have hB : Blk w g cur e := hr
    refine ⟨?_, hB.frozen j⟩
    rw [← ht] at hj
    have hjl : j < (cur.toList.take (n * k)).length := (List.getElem?_eq_some_iff.1 hj).1
    rw [List.length_take] at hjl
    rw [hB.cell, ← Array.getElem?_toList]
    rwa [List.getElem?_take, if_pos (by omega)] at hj
theorem own_setK {w : World} {base g cap n k : Nat} {ys : List Value} {e : TypeId} (h : w.ownsRow base e k (.slice (some ⟨g, 0, none⟩) n cap) n ys) (j : Nat) (x : Value) : (w.setCell ⟨g, j, none⟩ x).ownsRow base e k (.slice (some ⟨g, 0, none⟩) n cap) n (ys.set j x) := by
  obtain ⟨h0, ⟨e1, _⟩ | ⟨g', cap', cur, e1, hg, hr, hc, hmx, hs, ht⟩⟩ := h
  · cases e1
  · cases e1
    have hB : Blk w g cur e := hr
    refine ⟨by rw [List.length_set]; exact h0, .inr ⟨g, cap, cur.setIfInBounds j x, rfl, hg, hB.set j x, hc, hmx, by rw [Array.size_setIfInBounds]; exact hs, ?_⟩⟩
    rw [Array.toList_setIfInBounds, ← ht, List.take_set]
theorem kind_ne {w : World} {B B' s s' : Nat} {e e' : TypeId} {v u : Value} {n m : Nat} {ys zs : List Value} (ho : w.ownsRow B e s v n ys) (hu : w.ownsRow B' e' s' u m zs) (hte : e ≠ e') : ∀ g, v.ownBlock = some g → u.ownBlock ≠ some g := by
  intro g h1 h2
  obtain ⟨c, fz, k1⟩ := Go.Lib.ownsRow_kind ho g h1
  obtain ⟨c', fz', k2⟩ := Go.Lib.ownsRow_kind hu g h2
  rw [k1] at k2
  cases k2
  exact hte rfl
theorem grown_via {w a b : World} {row r2 : Option Nat} (h : w.grownBy a row) (k : a.grownBy b r2) (hr : ∀ g, r2 = some g → row = some g ∨ w.heap.size ≤ g) : w.grownBy b row :=
  ⟨k.os.trans h.os, k.tape.trans h.tape, k.output.trans h.output, Nat.le_trans h.size k.size, fun i hi hne => (k.block i (Nat.lt_of_lt_of_le hi h.size) (fun e => by rcases hr i e.symm with h1 | h1; exact hne h1.symm; omega)).trans (h.block i hi hne)⟩
theorem xor_u8 (x : UInt8) : ∃ y : UInt8, bits .xor .u8 (x.toNat : Int) 255 = (y.toNat : Int) := by
  have h : x.toNat < 256 := x.toNat_lt
  have h2 : x.toNat ^^^ 255 < 2 ^ 8 := Nat.xor_lt_two_pow h (by decide)
  refine ⟨UInt8.ofNat (x.toNat ^^^ 255), ?_⟩
  rw [show (255 : Int) = ((255 : Nat) : Int) from rfl, u8_xor_nat x.toNat 255 h (by decide)]
  simp only [UInt8.toNat_ofNat']
  rw [Nat.mod_eq_of_lt h2]
def z100 : List UInt8 := List.replicate 100 0
theorem z100_len : z100.length = 100 := by decide
theorem zero_100 (W : World) : (zeroValue 78).run Tryd.prog W = .ok (.agg (z100.map u8c).toArray) W := by kernel_rfl
theorem rd_100 {W : World} {z : Nat} {ms : List UInt8} (h : Blk W z (ms.map u8c).toArray 78) (hl : ms.length = 100) : RdA W (.slice (some ⟨z, 0, none⟩) 100 100) ms := by
  refine .inl ⟨some ⟨z, 0, none⟩, 100, by rw [hl], by omega, by decide, .inr ⟨z, 0, rfl, fun i hi => ?_⟩⟩
  rw [Nat.zero_add, h.cell]
  simp [List.getElem?_eq_getElem hi]
def GrwC (w : World) (row : Option Nat) (e : Ending) (w' : World) : Prop := ∃ a n c, e = .returned (.slice a n c) ∧ w.grownBy w' row
set_option maxRecDepth 20000 in
set_option maxHeartbeats 2000000 in
theorem grown_any (w : World) (v : Value) (xs : List UInt8) (base : Nat) (hO : w.ownsRow base 5 1 v xs.length (xs.map u8c)) (hb : base ≤ w.heap.size) (hl : xs.length ≤ 1000000) : Calls Tryd.prog 19 #[v] w (GrwC w v.ownBlock) := by
  obtain ⟨ao, cap, hv, _⟩ := own_formB hO
  obtain ⟨n, hn⟩ : ∃ n, n = xs.length := ⟨_, rfl⟩
  have HO : Hid (OwnsB w base v xs) := hide hO
  have HB := hide hb
  have HN := hide hn
  have hl' : n ≤ 1000000 := by omega
  obtain ⟨row, hrow⟩ : ∃ r, r = v.ownBlock := ⟨_, rfl⟩
  rw [← hrow]
  have HROW := hide hrow
  rw [← hn] at hv
  subst hv
  clear hO hb hl hn hrow
  go_enter Tryd.func19, Tryd.ntmps19
  go_wp2
  go_loopw [0, 3] (fun s0 s3 wr => ∃ (k : Nat) (vk : Value) (zs : List UInt8), vk = s0 ∧ s3 = .int .i64 k ∧ k ≤ 16 ∧ zs.length ≤ 1000000 + k ∧ OwnsB wr base vk zs ∧ w.grownBy wr row ∧ (∀ g, vk.ownBlock = some g → row = some g ∨ w.heap.size ≤ g)) (fun _ s3 _ => 16 - (intOf s3).toNat)
  case atStart => exact ⟨0, _, xs, rfl, rfl, by omega, by have := HN.out; omega, HO.out, ⟨rfl, rfl, rfl, Nat.le_refl _, fun _ _ _ => rfl⟩, fun g hg => .inl (by rw [HROW.out]; exact hg)⟩
  case round =>
    obtain ⟨k, vk, zs, hvk, rfl, hk, hzl, hOk, hG, hR⟩ := hrel
    have HOk := hide hOk
    have HG := hide hG
    have HR := hide hR
    have HZL := hide hzl
    obtain ⟨ak, ck, hvf, _⟩ := own_formB hOk
    obtain ⟨m, hm⟩ : ∃ m, m = zs.length := ⟨_, rfl⟩
    rw [← hm] at hvf
    rw [hvf] at HOk HR hvk
    subst hvk
    clear hOk hG hR hzl hvf HO hm
    by_cases hlt : k < 16
    · have hki : (k : Int) < 16 := by omega
      have HOA : Hid ((wr.alloc (.cells #[.int .u8 119] 5)).ownsRow base 5 1 (.slice ak m ck) zs.length (zs.map u8c)) := hide (owns_below HOk.out (below_alloc _ _))
      have RD0 : Hid (RdA (wr.alloc (.cells #[.int .u8 119] 5)) (.slice (some ⟨wr.heap.size, 0, none⟩) 1 1) [119]) := hide (.inl (Rd_owned (owns_made wr [119] (by decide) wr.heap.size (Nat.le_refl _))))
      have LN0 : Hid (zs.length + ([119] : List UInt8).length ≤ 140737488355000) := hide (by have := HZL.out; simp; omega)
      have BS0 : Hid (base ≤ (wr.alloc (.cells #[.int .u8 119] 5)).heap.size) := hide (by have := HB.out; have := HG.out.size; simp; omega)
      have HG1 := hide (grown_via HG.out (grownBy_below (row := none) (below_alloc wr (.cells #[.int .u8 119] 5))) (fun g e => by cases e))
      go_wp2_with ((with_reducible refine wpList_append_rdX ?_ (.tmp 9) (.tmp 10) ?_ base (.slice ak m ck) (.slice (some ⟨wr.heap.size, 0, none⟩) 1 1) zs [119] ?_ HOA.out ?_ RD0.out LN0.out BS0.out ?_); rfl; rfl; rfl; rfl; intro vL WL hoL hgL hlL)
      go_roundw
      case rel =>
        refine ⟨k + 1, vL, zs ++ [119], rfl, by go_num, by omega, by have := HZL.out; simp; omega, hoL.out, grown_via HG1.out hgL.out (fun g e => HR.out g e), fun g e => ?_⟩
        rcases hlL.out with e1 | e1
        · exact HR.out g (by rw [← e1]; exact e)
        · rw [e1] at e
          have := Option.some.inj e
          have hs := HG1.out.size
          exact .inr (by omega)
      case measure => simp [intOf]; omega
    · have hki : ¬ (k : Int) < 16 := by omega
      have hz1 := zero_100
      obtain ⟨ms, hms⟩ : ∃ m, m = z100 := ⟨_, rfl⟩
      have HML : Hid (ms.length = 100) := hide (by rw [hms]; exact z100_len)
      rw [← hms] at hz1
      clear hms
      have HOA : Hid ((wr.alloc (.cells (ms.map u8c).toArray 78)).ownsRow base 5 1 (.slice ak m ck) zs.length (zs.map u8c)) := hide (owns_below HOk.out (below_alloc _ _))
      have RD0 : Hid (RdA (wr.alloc (.cells (ms.map u8c).toArray 78)) (.slice (some ⟨wr.heap.size, 0, none⟩) 100 100) ms) := hide (rd_100 (Blk.made _ _ _) HML.out)
      have LN0 : Hid (zs.length + ms.length ≤ 140737488355000) := hide (by have := HZL.out; have := HML.out; omega)
      have BS0 : Hid (base ≤ (wr.alloc (.cells (ms.map u8c).toArray 78)).heap.size) := hide (by have := HB.out; have := HG.out.size; simp; omega)
      have HG1 := hide (grown_via HG.out (grownBy_below (row := none) (below_alloc wr (.cells (ms.map u8c).toArray 78))) (fun g e => by cases e))
      go_wp2_with ((with_reducible refine wpList_append_rdX ?_ (.tmp 12) (.tmp 13) ?_ base (.slice ak m ck) (.slice (some ⟨wr.heap.size, 0, none⟩) 100 100) zs ms ?_ HOA.out ?_ RD0.out LN0.out BS0.out ?_); rfl; rfl; rfl; rfl; intro vL WL hoL hgL hlL)
      obtain ⟨aL, cL, hvL, _⟩ := own_formB hoL.out
      subst hvL
      go_ret
      exact ⟨_, _, _, rfl, grown_via HG1.out hgL.out (fun g e => HR.out g e)⟩
theorem name_world {P : Program} {c : Code} {Q : Exit → Act → World → Prop} {a : Act} {w : World} (R : World → Prop) (h : R w) (k : ∀ W, R W → c.wp P Q a W) : c.wp P Q a w := k w h
/-- Is it small enough? -/
def fewP (o : ObjR) : Prop := o.data.length ≤ 65536 ∧ o.parts.length ≤ 4096 ∧ o.items.length ≤ 4096 ∧ o.parents.length ≤ 4096
theorem few_yes (w : World) (o : ObjR) (v : ObjV) (hr : ObjRd w o v) (h : fewP o) : Calls Tryd.prog 16 #[.agg (objL o v).toArray] w (BoolC w true) := by
  obtain ⟨ad, cd, ed, _⟩ := hr.d.slice
  obtain ⟨ap, cp, ep, _⟩ := hr.p.slice
  obtain ⟨ai, ci, ei, _⟩ := hr.i.slice
  obtain ⟨ak, ck, ek, _⟩ := hr.k.slice
  rw [List.length_map] at ep ei ek
  obtain ⟨nd, hnd⟩ : ∃ n, n = o.data.length := ⟨_, rfl⟩
  obtain ⟨np, hnp⟩ : ∃ n, n = o.parts.length := ⟨_, rfl⟩
  obtain ⟨ni, hni⟩ : ∃ n, n = o.items.length := ⟨_, rfl⟩
  obtain ⟨nk, hnk⟩ : ∃ n, n = o.parents.length := ⟨_, rfl⟩
  rw [← hnd] at ed
  rw [← hnp] at ep
  rw [← hni] at ei
  rw [← hnk] at ek
  have OKT := hide hr.ok.t
  obtain ⟨arr, harr⟩ : ∃ x, x = (objL o v).toArray := ⟨_, rfl⟩
  have HAR := hide harr
  rw [← harr]
  have ED := hide ed
  have EP := hide ep
  have EI := hide ei
  have EK := hide ek
  obtain ⟨q1, q2, q3, q4⟩ := h
  rw [← hnd] at q1
  rw [← hnp] at q2
  rw [← hni] at q3
  rw [← hnk] at q4
  clear hr hnd hnp hni hnk harr ed ep ei ek
  have h1 : (nd : Int) ≤ 65536 := by omega
  have h2 : (np : Int) ≤ 4096 := by omega
  have h3 : (ni : Int) ≤ 4096 := by omega
  have h4 : (nk : Int) ≤ 4096 := by omega
  clear q1 q2 q3 q4
  go_enter Tryd.func16, Tryd.ntmps16
  go_upto_region 1 with fail
  refine name_world (fun W => Blk W w.heap.size arr 30 ∧ Below w.heap.size w W) ⟨Blk.made _ _ _, below_alloc _ _⟩ ?_
  rintro W ⟨hB, hW⟩
  have HB := hide hW
  rw [HAR.out] at hB
  have c1 : W.cell? ⟨w.heap.size, 1, none⟩ = some (.slice ad nd cd) := by rw [← ED.out]; exact ObjAt.cD hB
  have c2 : W.cell? ⟨w.heap.size, 2, none⟩ = some (.slice ap np cp) := by rw [← EP.out]; exact ObjAt.cP hB
  have c3 : W.cell? ⟨w.heap.size, 3, none⟩ = some (.slice ai ni ci) := by rw [← EI.out]; exact ObjAt.cI hB
  have c4 : W.cell? ⟨w.heap.size, 36, none⟩ = some (.slice ak nk ck) := by rw [← EK.out]; exact ObjAt.cK hB OKT.out
  clear hB hW
  go_wp2
  go_ret
  exact ⟨rfl, HB.out⟩
theorem few_no (w : World) (o : ObjR) (v : ObjV) (hr : ObjRd w o v) (h : ¬ fewP o) : Calls Tryd.prog 16 #[.agg (objL o v).toArray] w (BoolC w false) := by
  obtain ⟨ad, cd, ed, _⟩ := hr.d.slice
  obtain ⟨ap, cp, ep, _⟩ := hr.p.slice
  obtain ⟨ai, ci, ei, _⟩ := hr.i.slice
  obtain ⟨ak, ck, ek, _⟩ := hr.k.slice
  rw [List.length_map] at ep ei ek
  obtain ⟨nd, hnd⟩ : ∃ n, n = o.data.length := ⟨_, rfl⟩
  obtain ⟨np, hnp⟩ : ∃ n, n = o.parts.length := ⟨_, rfl⟩
  obtain ⟨ni, hni⟩ : ∃ n, n = o.items.length := ⟨_, rfl⟩
  obtain ⟨nk, hnk⟩ : ∃ n, n = o.parents.length := ⟨_, rfl⟩
  rw [← hnd] at ed
  rw [← hnp] at ep
  rw [← hni] at ei
  rw [← hnk] at ek
  have OKT := hide hr.ok.t
  obtain ⟨arr, harr⟩ : ∃ x, x = (objL o v).toArray := ⟨_, rfl⟩
  have HAR := hide harr
  rw [← harr]
  have ED := hide ed
  have EP := hide ep
  have EI := hide ei
  have EK := hide ek
  have hne : ¬ (nd ≤ 65536 ∧ np ≤ 4096 ∧ ni ≤ 4096 ∧ nk ≤ 4096) := by rw [hnd, hnp, hni, hnk]; exact h
  clear hr h hnd hnp hni hnk harr ed ep ei ek
  go_enter Tryd.func16, Tryd.ntmps16
  go_upto_region 1 with fail
  refine name_world (fun W => Blk W w.heap.size arr 30 ∧ Below w.heap.size w W) ⟨Blk.made _ _ _, below_alloc _ _⟩ ?_
  rintro W ⟨hB, hW⟩
  have HB := hide hW
  rw [HAR.out] at hB
  have c1 : W.cell? ⟨w.heap.size, 1, none⟩ = some (.slice ad nd cd) := by rw [← ED.out]; exact ObjAt.cD hB
  have c2 : W.cell? ⟨w.heap.size, 2, none⟩ = some (.slice ap np cp) := by rw [← EP.out]; exact ObjAt.cP hB
  have c3 : W.cell? ⟨w.heap.size, 3, none⟩ = some (.slice ai ni ci) := by rw [← EI.out]; exact ObjAt.cI hB
  have c4 : W.cell? ⟨w.heap.size, 36, none⟩ = some (.slice ak nk ck) := by rw [← EK.out]; exact ObjAt.cK hB OKT.out
  clear hB hW
  by_cases h1 : nd ≤ 65536
  · have h1i : (nd : Int) ≤ 65536 := by omega
    by_cases h2 : np ≤ 4096
    · have h2i : (np : Int) ≤ 4096 := by omega
      by_cases h3 : ni ≤ 4096
      · have h3i : (ni : Int) ≤ 4096 := by omega
        have h4i : ¬ (nk : Int) ≤ 4096 := by omega
        clear h1 h2 h3 hne
        go_wp2
        go_ret
        exact ⟨rfl, HB.out⟩
      · have h3i : ¬ (ni : Int) ≤ 4096 := by omega
        clear h1 h2 h3 hne
        go_wp2
        go_ret
        exact ⟨rfl, HB.out⟩
    · have h2i : ¬ (np : Int) ≤ 4096 := by omega
      clear h1 h2 hne
      go_wp2
      go_ret
      exact ⟨rfl, HB.out⟩
  · have h1i : ¬ (nd : Int) ≤ 65536 := by omega
    clear h1 hne
    go_wp2
    go_ret
    exact ⟨rfl, HB.out⟩
end Go.Proofs.YtjcfndiceinkjabDoor
