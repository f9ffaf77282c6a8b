/- TableMaps, walked. -/
import Derived.Test.YtnknjcnbbljagaaTN5
namespace Go.Proofs.Ytnknjcnbbljagaa
set_option linter.unusedVariables false
set_option linter.unusedSimpArgs false
set_option maxRecDepth 100000
open Go.RowKit

section
variable {B z gy ge mb F bt bm : Nat} {ti ma : Int} {kv vv : Value} {T : TB} {M : List (Int × Int)} {P : Nat}
theorem step_all (w : World) (H : St w B z gy ge mb F bt bm ti ma kv vv T M) (R : Rel ti ma T M P) (hP : P + 1 ≤ 4398046511104) (d : Int) (o : Bool) (k v : Int) : Calls Try.prog 14 #[.pointer (some ⟨mb, 0, none⟩), .pointer (some ⟨z, 0, none⟩), .agg #[.int .i64 d, .bool o, .int .i64 k, .int .i64 v]] w (StpC w B z mb F bt bm ti ma T P) := by
  by_cases h0 : d = 0
  · subst h0; exact step_put w H R hP o k v
  · by_cases h1 : d = 1
    · subst h1; exact step_del w H R hP o k v
    · exact step_get w H R hP d o k v h0 h1
theorem rel_new (ti ma : Int) : Rel ti ma newT [] 0 := by
  have c1 : cnt (List.replicate 8 (Slt.emp : SL)) 1 = 0 := by unfold cnt; rw [List.countP_replicate]; rfl
  have c2 : cnt (List.replicate 8 (Slt.emp : SL)) 2 = 0 := by unfold cnt; rw [List.countP_replicate]; rfl
  refine ⟨⟨⟨.inl ⟨rfl, rfl⟩, ⟨0, rfl⟩, ⟨0, rfl⟩⟩, WayOk.new _ 8, WayOk.nil _, fun p hp => absurd hp (Nat.not_lt_zero _), ⟨by decide, by decide⟩, .inl ⟨rfl, ?_⟩, ?_, .inl rfl⟩, List.Perm.refl _, by simp⟩
  · show 4 * (cnt (List.replicate 8 (Slt.emp : SL)) 1 + cnt (List.replicate 8 (Slt.emp : SL)) 2) ≤ 3 * 8
    omega
  · show cnt (List.replicate 8 (Slt.emp : SL)) 1 + cnt (List.replicate 8 (Slt.emp : SL)) 2 + cnt ([] : List SL) 1 ≤ 0
    have : cnt ([] : List SL) 1 = 0 := rfl
    omega
theorem seek_le (hs : Int → Nat) (T : TB) (k : Int) : (seek eqK hs T k).2 ≤ T.y.length + T.e.length := by
  have h1 := find_le eqK T.y (hs k) k
  have h2 := find_le eqK T.e (hs k) k
  unfold seek
  split
  · next e => rw [e] at h1; simp at h1 ⊢; omega
  · next e =>
    rw [e] at h1
    split
    · next e2 => rw [e2] at h2; simp at h1 h2 ⊢; omega
    · next e2 => rw [e2] at h2; simp at h1 h2 ⊢; omega
/-- A script's steps. -/
def StepsAt (w : World) (aa : Option Addr) (n : Nat) : Prop := ∀ i, i < n → ∃ b o, aa = some ⟨b, o, none⟩ ∧ b < w.heap.size ∧ ∃ (d : Int) (oo : Bool) (k v : Int), w.cell? ⟨b, o + i * 4, none⟩ = some (.int .i64 d) ∧ w.cell? ⟨b, o + i * 4 + 1, none⟩ = some (.bool oo) ∧ w.cell? ⟨b, o + i * 4 + 2, none⟩ = some (.int .i64 k) ∧ w.cell? ⟨b, o + i * 4 + 3, none⟩ = some (.int .i64 v)
def TrueC (w : World) (e : Ending) (w' : World) : Prop := e = .returned (.bool true) ∧ Below w.heap.size w w'
/-- Between two steps of the script. -/
structure LpS (W3 : World) (B z mb F bt bm : Nat) (ti ma : Int) (j l : Nat) (W : World) : Prop where
  st : ∃ gy ge kv vv T M, St W B z gy ge mb F bt bm ti ma kv vv T M ∧ Rel ti ma T M j ∧ T.left = l
  bel : Below B W3 W
/-- Between two pairs that are taken out. -/
structure LsS (W3 : World) (B mb B6 : Nat) (lv : Value) (L : List (Int × Int)) (j : Nat) (W : World) : Prop where
  md : ∃ kv vv M, MdAt W B mb kv vv M ∧ (L.drop j).Perm M ∧ (M.map Prod.fst).Nodup
  own : OwnsI W B6 lv (flat L)
  bel : Below B W3 W
theorem flat_at (L : List (Int × Int)) (j : Nat) (h : j < L.length) : (flat L)[2 * j]? = some (L.getD j (0, 0)).1 ∧ (flat L)[2 * j + 1]? = some (L.getD j (0, 0)).2 := by
  induction L generalizing j with
  | nil => simp at h
  | cons x L ih =>
    have e : flat (x :: L) = x.1 :: x.2 :: flat L := rfl
    cases j with
    | zero => rw [e]; simp
    | succ j =>
      have := ih j (by simpa using h)
      rw [e, show 2 * (j + 1) = 2 * j + 1 + 1 by omega]
      simpa using this
theorem flat_cell {W : World} {B6 gl m2 lcap : Nat} {L : List (Int × Int)} (h : OwnsI W B6 (.slice (some ⟨gl, 0, none⟩) m2 lcap) (flat L)) (jj i : Nat) (hi : i = 2 * jj) (hj : jj < L.length) : W.cell? ⟨gl, i, none⟩ = some (.int .i64 (L.getD jj (0, 0)).1) ∧ W.cell? ⟨gl, i + 1, none⟩ = some (.int .i64 (L.getD jj (0, 0)).2) := by
  subst hi
  obtain ⟨f1, f2⟩ := flat_at L jj hj
  have hfl := flat_len L
  have x0 : 2 * jj < (flat L).length := by omega
  have x1 : 2 * jj + 1 < (flat L).length := by omega
  rw [List.getElem?_eq_getElem x0] at f1
  rw [List.getElem?_eq_getElem x1] at f2
  rw [h.at _ x0, h.at _ x1, Option.some.inj f1, Option.some.inj f2]
  exact ⟨rfl, rfl⟩
set_option maxHeartbeats 16000000 in
theorem maps_any (w : World) (t0 t1 m0 m1 : Int) (ap : Option Addr) (n c : Nat) (hS : StepsAt w ap n) (hn : n ≤ 4398046510976) : Calls Try.prog 4 #[.agg #[.int .i64 t0, .int .i64 t1, .int .i64 m0, .int .i64 m1, .slice ap n c]] w (TrueC w) := by
  obtain ⟨W3, hW3⟩ : ∃ W, W = ((w.alloc (.cells #[.int .i64 t0, .int .i64 t1, .int .i64 m0, .int .i64 m1, .slice ap n c] 25)).alloc (.cells #[.int .i64 t0] 3)).alloc (.cells #[.int .i64 m0] 3) := ⟨_, rfl⟩
  have hs3 : W3.heap.size = w.heap.size + 3 := by rw [hW3]; simp
  have HB3 : Hid (Below w.heap.size w W3) := hide (by rw [hW3]; exact ((below_alloc w _).alloc (by simp) _).alloc (by simp; omega) _)
  have HX3 : Hid (Blk W3 w.heap.size #[.int .i64 t0, .int .i64 t1, .int .i64 m0, .int .i64 m1, .slice ap n c] 25) := hide (by rw [hW3]; exact ((Blk.made w _ _).alloc _).alloc _)
  have HT3 : Hid (Blk W3 (w.heap.size + 1) #[.int .i64 t0] 3) := hide (by
    rw [hW3]
    have h := Blk.made (w.alloc (.cells #[.int .i64 t0, .int .i64 t1, .int .i64 m0, .int .i64 m1, .slice ap n c] 25)) #[.int .i64 t0] 3
    rw [World.size_alloc] at h
    exact h.alloc _)
  have HM3 : Hid (Blk W3 (w.heap.size + 1 + 1) #[.int .i64 m0] 3) := hide (by
    rw [hW3]
    have h := Blk.made ((w.alloc (.cells #[.int .i64 t0, .int .i64 t1, .int .i64 m0, .int .i64 m1, .slice ap n c] 25)).alloc (.cells #[.int .i64 t0] 3)) #[.int .i64 m0] 3
    rw [World.size_alloc, World.size_alloc] at h
    exact h)
  have HS := hide hS
  have HNew := hide (new_any W3 13 (w.heap.size + 1) (w.heap.size + 1 + 1))
  unfold hvF at HNew
  have hW3' := hW3.symm
  have HS3 := hide hs3
  clear hS hW3 hs3
  go_enter Try.func4, Try.ntmps4
  go_upto_region 3 with fail
  clear hW3'
  go_upto_region 6 with (go_at_call 8; refine HNew.out.mono ?_; rintro e w4 ⟨z, g, rfl, ht, hz, hg, hb⟩; have HT4 := hide ht; have HB4 := hide hb; have HZ := hide hz; have HG := hide hg; clear ht hb hz hg)
  have HS5 : Hid (LpS W3 W3.heap.size z w4.heap.size 13 (w.heap.size + 1) (w.heap.size + 1 + 1) t0 m0 0 0 (w4.alloc (.cells #[.slice none 0 0, .slice none 0 0] 42))) := hide (by
    have hba := below_alloc w4 (.cells #[.slice none 0 0, .slice none 0 0] 42)
    refine ⟨⟨g, g, .slice none 0 0, .slice none 0 0, newT, [], ⟨HT4.out.below hba, ⟨?_, ?_, .inl rfl⟩, ⟨Blk.made w4 _ _, World.ownsRow_nil _ _ _ _, World.ownsRow_nil _ _ _ _, (fun g e => by cases e)⟩, HZ.out, HG.out, HG.out, HB4.out.size, by have := HS3.out; omega, by have := HS3.out; omega, Nat.le_trans HB4.out.size (by simp)⟩, rel_new t0 m0, rfl⟩, HB4.out.trans (hba.mono HB4.out.size)⟩
    · exact (HT3.out.below HB4.out HT3.out.lt).alloc _
    · exact (HM3.out.below HB4.out HM3.out.lt).alloc _)
  clear HT4 HB4 HZ HG HNew HT3 HM3
  go_upto_region 7 with fail
  refine name_world (fun W => LpS W3 W3.heap.size z w4.heap.size 13 (w.heap.size + 1) (w.heap.size + 1 + 1) t0 m0 0 0 W) HS5.out ?_
  intro W5 hL5
  have HL5 := hide hL5
  generalize w4.heap.size = mb at *
  clear HS5 hL5
  go_wp2
  go_loopw [7, 8] (fun a t wr => ∃ (j l : Nat), a = .int .i64 l ∧ t = .int .i64 j ∧ j ≤ n ∧ LpS W3 W3.heap.size z mb 13 (w.heap.size + 1) (w.heap.size + 1 + 1) t0 m0 j l wr) (fun _ t _ => n - (intOf t).toNat)
  case atStart => exact ⟨0, 0, rfl, rfl, Nat.zero_le _, HL5.out⟩
  case round =>
    clear HL5
    obtain ⟨j, l, rfl, rfl, hj, hL⟩ := hrel
    have hxr := HX3.out.below hL.bel HX3.out.lt
    have x4 : wr.cell? ⟨w.heap.size, 4, none⟩ = some (.slice ap n c) := by rw [hxr.cell]; rfl
    have hxl := hxr.lt
    obtain ⟨gy, ge, kv, vv, T, M, hst, hrel, hleft⟩ := hL.st
    have HSt := hide hst
    have HRel := hide hrel
    have HBel := hide hL.bel
    by_cases hlt : j < n
    · have hji : (j : Int) < (n : Int) := by omega
      obtain ⟨b, o, rfl, hbl, d, oo, k, v, e0, e1, e2, e3⟩ := HS.out j hlt
      have hbw := HB3.out.trans (HBel.out.mono (by have := HS3.out; omega))
      have d0 := (hbw.cell (p := ⟨b, o + j * 4, none⟩) hbl).trans e0
      have d1 := (hbw.cell (p := ⟨b, o + j * 4 + 1, none⟩) hbl).trans e1
      have d2 := (hbw.cell (p := ⟨b, o + j * 4 + 2, none⟩) hbl).trans e2
      have d3 := (hbw.cell (p := ⟨b, o + j * 4 + 3, none⟩) hbl).trans e3
      have HE2 := hide e2
      have HBL := hide hbl
      have hbl2 := World.block_lt_of_cell? wr _ d0
      have HStep := hide (step_all wr hst hrel (by omega) d oo k v)
      have HLeft := hide hleft
      clear hst hrel hL hxr e0 e1 e2 e3 hbl hbw hleft
      go_upto_region 13 with (go_at_call 14; refine HStep.out.mono ?_; rintro e w6 ⟨rfl, ⟨gy', ge', kv', vv', T', M', h1, h2, h3⟩, h4⟩; have H1 := hide h1; have H2 := hide h2; have H3 := hide h3; have H4 := hide h4; clear h1 h2 h3 h4)
      have hxb : Below W3.heap.size W3 w6 := HBel.out.trans H4.out
      have hxr := HX3.out.below hxb HX3.out.lt
      have x5 : w6.cell? ⟨w.heap.size, 4, none⟩ = some (.slice (some ⟨b, o, none⟩) n c) := by rw [hxr.cell]; rfl
      have hxl6 := hxr.lt
      have hbw6 := HB3.out.trans (hxb.mono (by have := HS3.out; omega))
      have y2 := (hbw6.cell (p := ⟨b, o + j * 4 + 2, none⟩) HBL.out).trans HE2.out
      have hbl6 := World.block_lt_of_cell? w6 _ y2
      have HLf := hide (fun q => left_any (w6.drewN q) (H1.out.tb.drewN q))
      have HLn := hide (fun q => len_any (w6.drewN q) (H1.out.tb.drewN q))
      have HCp := hide (fun q => cap_any (w6.drewN q) (H1.out.tb.drewN q))
      have HPr := hide (fun q => probes_any (w6.drewN q) (H1.out.tb.drewN q) (H1.out.hs.drewN q) k)
      have HXB := hide hxb
      have b1 := H1.out.tb.b43
      have b2 := H2.out.inv.small
      have b3 := seek_le (hsh t0 m0) T' k
      have b4 : T'.left ≤ T'.e.length := Nat.sub_le _ _
      have h38 := H3.out
      rw [HLeft.out] at h38
      obtain ⟨l', hl'⟩ : ∃ x, x = T'.left := ⟨_, rfl⟩
      obtain ⟨ln, hln⟩ : ∃ x, x = T'.len := ⟨_, rfl⟩
      obtain ⟨cp, hcp⟩ : ∃ x, x = T'.y.length := ⟨_, rfl⟩
      obtain ⟨pr, hpr⟩ : ∃ x, x = (seek eqK (hsh t0 m0) T' k).2 := ⟨_, rfl⟩
      rw [← hl'] at HLf h38 b4
      rw [← hln] at HLn b2
      rw [← hcp] at HCp b1 b2 b3
      rw [← hpr] at HPr b3
      have HL' := hide hl'
      have hcb : cp ≤ 8796093022208 := b1.1
      have hlb : l' ≤ 8796093022208 := by omega
      have hnb : ln ≤ 8796093022208 := by omega
      have hpb : pr ≤ 17592186044416 := by omega
      have hLC : ¬ (cp : Int) < (ln : Int) := by omega
      have hPC : ¬ (cp : Int) + (l' : Int) + (cp : Int) < (pr : Int) := by omega
      have hH : 8 < l → l' ≤ l := h38
      have hlbb : l ≤ 8796093022208 := by
        have := HSt.out.tb.b43.2
        have h : T.left ≤ T.e.length := Nat.sub_le _ _
        rw [HLeft.out] at h
        omega
      have hjb : j ≤ 4398046510976 := by omega
      have HLp : Hid (∀ q, LpS W3 W3.heap.size z mb 13 (w.heap.size + 1) (w.heap.size + 1 + 1) t0 m0 (j + 1) l' (w6.drewN q)) := hide (fun q => ⟨⟨gy', ge', kv', vv', T', M', H1.out.drewN q, H2.out, HL'.out.symm⟩, below_dN HXB.out q⟩)
      clear hxb hxr hbw6 d0 d1 d2 d3 x4 hxl hbl2 hl' hln hcp hpr b1 b2 b3 b4 h38 HE2 HStep
      by_cases hgt : l < l'
      · have hgi : (l : Int) < (l' : Int) := by omega
        have h8 : ¬ (8 : Int) < (l : Int) := by omega
        clear hH hgt
        go_wp2_with (first | (go_at_call 15; refine (HLf.out 0).mono ?_; rintro e w' ⟨rfl, q1, hw⟩; rw [hw]; clear hw) | (go_at_call 16; refine (HLn.out _).mono ?_; rintro e w' ⟨rfl, q2, hw⟩; rw [hw]; clear hw) | (go_at_call 17; refine (HCp.out _).mono ?_; rintro e w' ⟨rfl, hw⟩; rw [hw]; clear hw) | (go_at_call 18; refine (HPr.out _).mono ?_; rintro e w' ⟨rfl, q3, hw⟩; rw [hw]; clear hw))
        go_roundw
        case rel => exact ⟨j + 1, l', rfl, by go_num, by omega, HLp.out _⟩
        case measure => simp [intOf]; omega
      · have hgi : ¬ (l : Int) < (l' : Int) := by omega
        clear hH hgt
        go_wp2_with (first | (go_at_call 15; refine (HLf.out 0).mono ?_; rintro e w' ⟨rfl, q1, hw⟩; rw [hw]; clear hw) | (go_at_call 16; refine (HLn.out _).mono ?_; rintro e w' ⟨rfl, q2, hw⟩; rw [hw]; clear hw) | (go_at_call 17; refine (HCp.out _).mono ?_; rintro e w' ⟨rfl, hw⟩; rw [hw]; clear hw) | (go_at_call 18; refine (HPr.out _).mono ?_; rintro e w' ⟨rfl, q3, hw⟩; rw [hw]; clear hw))
        go_roundw
        case rel => exact ⟨j + 1, l', rfl, by go_num, by omega, HLp.out _⟩
        case measure => simp [intOf]; omega
    · have hji : ¬ (j : Int) < (n : Int) := by omega
      obtain rfl : j = n := by omega
      have HStep := hide (step_all wr hst hrel (by omega) 0 false 1 2)
      clear hst hrel hL hxr hleft HSt
      go_upto_region 19 with (go_at_call 14; refine HStep.out.mono ?_; rintro e w6 ⟨rfl, ⟨gy', ge', kv', vv', T', M', h1, h2, h3⟩, h4⟩; have H1 := hide h1; have H2 := hide h2; have H4 := hide h4; clear h1 h2 h3 h4)
      have hPl : T'.prs.length ≤ 8796093022208 := by
        have h1 := H2.out.lenP
        have h2 := H2.out.pm.length_eq
        omega
      have HPrs := hide (pairs_any w6 H1.out.tb 0 hPl)
      have hst0 : stopL 0 T'.prs = T'.prs := by unfold stopL; rw [if_neg (by omega)]
      rw [hst0] at HPrs
      have HPM := hide H2.out.pm
      have HND := hide H2.out.nd
      have HMD := hide H1.out.md
      have HB6 := hide (HBel.out.trans H4.out)
      have HLO := hide H1.out.lo
      have HMB : Hid (W3.heap.size ≤ mb) := hide H1.out.lo.2.2.2.1
      obtain ⟨L, hL⟩ : ∃ L, L = T'.prs := ⟨_, rfl⟩
      rw [← hL] at HPrs HPM hPl
      clear hst0 hL H1 H2 H4 HRel HBel HStep x4 hxl HS
      go_upto_region 20 with (go_at_call 19; refine HPrs.out.mono ?_; rintro e w7 ⟨v7, rfl, ho, hb⟩; have HO := hide ho; have HB7 := hide hb; clear ho hb)
      have HM7 := hide (HMD.out.below HB7.out)
      obtain ⟨ao, kcap, hkf, _⟩ := HM7.out.ks.form
      rw [List.length_map, ← HPM.out.length_eq] at hkf
      obtain ⟨al, lcap, hlf, hlg⟩ := HO.out.form
      rw [flat_len] at hlf hlg
      subst hlf
      have k0 : w7.cell? ⟨mb, 0, none⟩ = some (.slice ao L.length kcap) := by rw [HM7.out.blk.cell, ← hkf]; rfl
      have hmb7 := HM7.out.blk.lt
      have HLG := hide hlg
      have HB37 : Hid (Below W3.heap.size W3 w7) := hide (HB6.out.trans (HB7.out.mono HLO.out.2.2.2.2.2.2))
      have HL7 : Hid (LsS W3 W3.heap.size mb w6.heap.size (.slice al (2 * L.length) lcap) L 0 w7) := hide ⟨⟨_, _, M', HM7.out, HPM.out, HND.out⟩, HO.out, HB37.out⟩
      obtain ⟨m, hm⟩ : ∃ m, m = L.length := ⟨_, rfl⟩
      have HMm := hide hm
      rw [← hm] at k0 hPl HL7 HLG ⊢
      obtain ⟨m2, hm2⟩ : ∃ x, x = 2 * m := ⟨_, rfl⟩
      rw [← hm2] at HL7 HLG ⊢
      have hmm : 2 * (m : Int) = (m2 : Int) := by omega
      have HM2 := hide hm2
      have hm2b : m2 ≤ 17592186044416 := by omega
      clear hkf hlg hm hm2 HPrs HPM HND HMD HB6 HLO HO HB7 HM7 HB37
      go_wp2
      go_loopw [11] (fun t wr => ∃ (i jj : Nat), t = .int .i64 i ∧ Hid (i = 2 * jj) ∧ jj ≤ m ∧ LsS W3 W3.heap.size mb w6.heap.size (.slice al m2 lcap) L jj wr) (fun t _ => m2 - (intOf t).toNat)
      case atStart => exact ⟨0, 0, rfl, hide rfl, Nat.zero_le _, HL7.out⟩
      case round =>
        clear HL7 k0 hmb7
        obtain ⟨i, jj, rfl, hi, hjj, hLs⟩ := hrel
        obtain ⟨kv2, vv2, M2, hmd, hpm, hnd⟩ := hLs.md
        by_cases hlt2 : jj < m
        · have hi2 : i + 1 < m2 := by have := hi.out; have := HM2.out; omega
          have hii : (i : Int) < (m2 : Int) := by omega
          obtain ⟨gl, rfl⟩ := HLG.out (by omega)
          have hjL : jj < L.length := by rw [← HMm.out]; exact hlt2
          obtain ⟨r0, r1'⟩ := flat_cell hLs.own jj i hi.out hjL
          obtain ⟨i1, hi1⟩ : ∃ x, x = i + 1 := ⟨_, rfl⟩
          have r1 : wr.cell? ⟨gl, i1, none⟩ = some (.int .i64 (L.getD jj (0, 0)).2) := by rw [hi1]; exact r1'
          have hw1 : IntKind.i64.wrap ((i : Int) + 1) = (i1 : Int) := by rw [show (i : Int) + 1 = (i1 : Int) by omega]; exact wrapi64_nat i1 (by omega)
          have hii1 : (i1 : Int) < (m2 : Int) := by omega
          clear r1'
          have hdr : L.drop jj = L.getD jj (0, 0) :: L.drop (jj + 1) := by
            rw [List.drop_eq_getElem_cons hjL]
            simp [List.getD_eq_getElem?_getD, List.getElem?_eq_getElem hjL]
          obtain ⟨X, hX⟩ : ∃ X, X = L.getD jj (0, 0) := ⟨_, rfl⟩
          rw [← hX] at r0 r1 hdr
          obtain ⟨kx, vx⟩ := X
          dsimp only at r0 r1
          rw [hdr] at hpm
          have hml : M2.length ≤ 8796093022208 := by
            have h1 := hpm.length_eq
            have h2 := congrArg List.length hdr
            have h3 := HMm.out
            simp at h1 h2
            omega
          have HAt := hide (at_any wr hmd kx hml)
          obtain ⟨q, hq, hat, hk⟩ : ∃ q, q < M2.length ∧ atM M2 kx = (q : Int) ∧ (M2.getD q (0, 0)).1 = kx := by
            rcases atM_spec M2 kx with ⟨_, h2⟩ | h
            · exact absurd rfl (h2 (kx, vx) (hpm.mem_iff.1 (by simp)))
            · exact h
          obtain ⟨A, C, g1, _, _, g4⟩ := split_at M2 q hq
          have hx : M2.getD q (0, 0) = (kx, (M2.getD q (0, 0)).2) := Prod.ext hk rfl
          rw [hx] at g1
          have hval := key_one hnd g1 (b := vx) (hpm.mem_iff.1 (by simp))
          rw [← hval] at g1
          have HPM2 : Hid ((L.drop (jj + 1)).Perm (M2.eraseIdx q)) := hide (by
            rw [g4]
            have h5 : ((kx, vx) :: L.drop (jj + 1)).Perm ((kx, vx) :: (A ++ C)) := hpm.trans (by rw [g1]; exact List.perm_middle)
            exact h5.cons_inv)
          have HND2 : Hid (((M2.eraseIdx q).map Prod.fst).Nodup) := hide (by
            rw [g4]
            rw [g1] at hnd
            exact hnd.sublist (by simp))
          rw [hat] at HAt
          obtain ⟨gv, vcap, hvf, hc, hm1⟩ := hmd.val hq
          rw [← hval] at hc
          have hgl := World.block_lt_of_cell? wr _ r0
          have hgv := World.block_lt_of_cell? wr _ hc
          have hmbr := hmd.blk.lt
          have hq0 : ¬ (q : Int) < 0 := by omega
          have hqi : (q : Int) < (M2.length : Int) := by omega
          have hqb : q ≤ 8796093022208 := by omega
          have HMdr := hide hmd
          have HOwn := hide hLs.own
          have HBelr := hide hLs.bel
          have HML := hide hml
          have HQ := hide hq
          have hW3r : W3.heap.size ≤ wr.heap.size := hLs.bel.size
          have HW3r := hide hW3r
          have HOut : Hid (∀ p, Calls Try.prog 21 #[.pointer (some ⟨mb, 0, none⟩), .int .i64 (q : Int)] (wr.drewN p) fun e w' => e = .returned (.tuple #[]) ∧ (∃ kv' vv', MdAt w' W3.heap.size mb kv' vv' (M2.eraseIdx q)) ∧ Frm (wr.drewN p) w' (fun k => k = mb)) := hide (fun p => out_any (wr.drewN p) (HMdr.out.drewN p) q HQ.out HW3r.out HML.out)
          generalize hM2l : M2.length = l2 at *
          have hib : i ≤ 17592186044416 := by omega
          have HI := hi
          clear hpm hnd hmd hLs hdr hX hi1 hjL g1 g4 hx hval hat hk hvf hq hml hW3r hM2l hi
          go_upto_region 26 with (go_at_call 20; refine HAt.out.mono ?_; rintro e w' ⟨rfl, hw⟩; rw [hw]; clear hw)
          go_quiet (fail)
          go_wp2_with (go_at_call 21; refine (HOut.out _).mono ?_; rintro e w9 ⟨rfl, ⟨kv', vv', hm9⟩, hf9⟩; have HM9 := hide hm9; have HF9 := hide hf9; clear hm9 hf9)
          have HF9b : Hid (Below W3.heap.size wr w9) := hide (by
            have h := HF9.out
            exact ⟨h.os, h.tape, h.output, h.size, fun q hq => h.block q (Nat.lt_of_lt_of_le hq HW3r.out) (fun e => by have := HMB.out; omega)⟩)
          have HL9 : Hid (LsS W3 W3.heap.size mb w6.heap.size (.slice (some ⟨gl, 0, none⟩) m2 lcap) L (jj + 1) w9) := hide ⟨⟨kv', vv', _, HM9.out, HPM2.out, HND2.out⟩, owns_frm (W := wr.drewN nq) (HOwn.out.below (below_dN (Below.refl _ _) nq)) HF9.out (fun g e e2 => blk_own_ne HMdr.out.blk HOwn.out (by decide) g e e2), HBelr.out.trans HF9b.out⟩
          go_roundw
          case rel => exact ⟨i + 2, jj + 1, by go_num, hide (by have := HI.out; omega), by omega, HL9.out⟩
          case measure => simp [intOf]; omega
        · have hii : ¬ (i : Int) < (m2 : Int) := by have := hi.out; have := HM2.out; omega
          obtain rfl : M2 = [] := by
            have h1 := hpm.length_eq
            have h3 := HMm.out
            simp at h1
            exact List.eq_nil_of_length_eq_zero (by omega)
          obtain ⟨aok, kc, hkf, _⟩ := hmd.ks.form
          have z0 : wr.cell? ⟨mb, 0, none⟩ = some (.slice aok 0 kc) := by rw [hmd.blk.cell, hkf]; rfl
          have hmbr := hmd.blk.lt
          have HBelr := hide hLs.bel
          clear hLs hpm hnd hmd hkf
          go_wp2
          go_ret
          exact ⟨rfl, HB3.out.trans (HBelr.out.mono (by have := HS3.out; omega))⟩
end
end Go.Proofs.Ytnknjcnbbljagaa
