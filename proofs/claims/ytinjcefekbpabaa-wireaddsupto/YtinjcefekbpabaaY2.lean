/- WireAdds: the walk. -/
import Derived.Test.YtinjcefekbpabaaY1
namespace Go.Proofs.Ytinjcefekbpabaa
set_option linter.unusedVariables false
set_option linter.unusedSimpArgs false
open Go.RowKit

theorem own_formB {w : World} {base : Nat} {v : Value} {n : Nat} {ys : List Value} {e : TypeId} (h : w.ownsRow base e 1 v n ys) : ∃ ao cap, v = .slice ao n cap ∧ (0 < n → ∃ g, ao = some ⟨g, 0, none⟩) := by
  obtain ⟨_, ⟨rfl, rfl⟩ | ⟨g, cap, cur, rfl, _⟩⟩ := h
  · exact ⟨none, 0, rfl, fun h => absurd h (by omega)⟩
  · exact ⟨_, cap, rfl, fun _ => ⟨g, rfl⟩⟩
theorem u8_allB (xs : List UInt8) : ∀ y ∈ xs.map u8c, ∃ q, y = .int .u8 q := by
  intro y hy; obtain ⟨u, _, rfl⟩ := List.mem_map.1 hy; exact ⟨_, rfl⟩
theorem own_at {w : World} {base g n cap : Nat} {ys : List Value} {e : TypeId} (h : w.ownsRow base e 1 (.slice (some ⟨g, 0, none⟩) n cap) n ys) (j : Nat) (hj : j < n) : w.cell? ⟨g, j, none⟩ = ys[j]? := by
  obtain ⟨hl, ⟨h1, _⟩ | ⟨g', cap', cur, e1, hb, hg, hc, hm, hs, ht⟩⟩ := h
  · cases h1
  · cases e1
    have hB : Blk w g cur e := hg
    rw [hB.cell, ← Array.getElem?_toList, ← ht, List.getElem?_take_of_lt (by omega)]
/-- A slice of bools, as its cells lie. -/
def BoolsAt (w : World) (qa : Option Addr) (n : Nat) : Prop :=
  n ≤ maxLen ∧ (n = 0 ∨ ∃ qb qo, qa = some ⟨qb, qo, none⟩ ∧ qb < w.heap.size ∧ ∀ i, i < n → ∃ b : Bool, w.cell? ⟨qb, qo + i, none⟩ = some (.bool b))
theorem infoStr : (Try.prog.info? 9).map (fun i => (i.zero, i.size, i.bytes)) = some (some (.string ⟨#[]⟩), 1, 16) := by kernel_rfl
theorem infoSl : (Try.prog.info? 28).map (fun i => (i.zero, i.size, i.bytes)) = some (some (.slice none 0 0), 1, 24) := by kernel_rfl
theorem len_tot : ∀ (rs : List AddR), rs.length ≤ totR rs
  | [] => by simp [totR]
  | a :: rs => by
    have := len_tot rs
    simp only [totR, List.length_cons, List.map_cons, List.sum_cons] at this ⊢
    omega
theorem below_drew (w : World) : Below w.heap.size w w.drew := ⟨rfl, rfl, rfl, Nat.le_refl _, fun _ _ => rfl⟩

set_option maxRecDepth 20000 in
set_option maxHeartbeats 6400000 in
theorem wireAdds_any (w : World) (aa : Option Addr) (ca : Nat) (rs : List AddR) (hA : AddsR w aa rs) (hb : totR rs ≤ 1099511627776) (qa : Option Addr) (qn qc : Nat) (hQ : BoolsAt w qa qn) :
    Calls Try.prog 3 #[.slice aa rs.length ca, .slice qa qn qc] w fun e w' => e = .returned (.bool true) ∧ Below w.heap.size w w' := by
  have KA := hide hA.at
  have hna : rs.length ≤ 1099511627776 := Nat.le_trans (len_tot rs) hb
  have HQ := hide hQ.2
  have hqn : qn ≤ 9223372036854775807 := hQ.1
  have H1 := hide (WA.start w w.heap.size)
  have HB0 : Hid (Below w.heap.size w (w.alloc (.cells Try.zeroCells27 27))) := hide ((Below.refl _ _).alloc (Nat.le_refl _) _)
  clear hA hQ
  obtain ⟨na, ha⟩ : ∃ n, rs.length = n := ⟨_, rfl⟩
  rw [ha] at hna ⊢
  go_enter Try.func3, Try.ntmps3
  go_wp2_with fail
  refine (elen_enc _ _ _ [] H1.out.e1).mono ?_
  rintro e w1 ⟨rfl, rfl⟩
  go_wp2_with fail
  refine (ebytes_enc _ _ _ [] H1.out.e1 (by decide)).mono ?_
  rintro e w2 ⟨v0, rfl, hown2, hb2⟩
  have H2 := hide (H1.out.below hb2)
  have HB2 : Hid (Below w.heap.size w w2) := hide (HB0.out.trans (hb2.mono HB0.out.size))
  obtain ⟨ao0, cap0, rfl, _⟩ := own_formB hown2
  obtain ⟨z, hz⟩ : ∃ z, w.heap.size = z := ⟨_, rfl⟩
  have HZ := hide hz
  generalize hX0 : (fun b => b = w.heap.size) = X0 at H2
  rw [hz] at H2 ⊢
  clear hz hX0 hown2 hb2 H1 HB0
  rw [List.length_nil]
  go_wp2_with fail
  go_loopw [6, 7, 8, 9] (fun s6 s7 s8 i wr => ∃ (va vk vw : Value) (k : Nat) (X : Nat → Prop) (ks : List (Value × List UInt8)), va = s6 ∧ vk = s7 ∧ vw = s8 ∧ i = .int .i64 k ∧ k ≤ na ∧ ks.length ≤ k ∧ WA z wr X z (catB (rs.take k)) va (catB (rs.take k)) vk (ks.map (·.1)) vw (ks.map strW) ks ∧ Below w.heap.size w wr) (fun _ _ _ i _ => na - (intOf i).toNat)
  case atStart => exact ⟨_, _, _, 0, X0, [], rfl, rfl, rfl, rfl, Nat.zero_le _, Nat.zero_le _, by simpa [catB] using H2.out, HB2.out⟩
  case round =>
    obtain ⟨va, vk, vw, k, X, ks, rfl, rfl, rfl, rfl, hk, hkl, hwa, hbw⟩ := hrel
    have HW := hide hwa
    have HB := hide hbw
    have HKL := hide hkl
    clear hwa hbw hkl
    by_cases hlt : k < na
    · obtain ⟨aB, ao, cs, bv, rfl, hab, hai, hr, hbv⟩ := KA.out k (by omega)
      have HR := hide (rangeAt_below hr HB.out hab)
      have HSZ := hide hai.size
      have HON := hide (addOne hai)
      have htot := KA.out.tot1 k (by omega)
      have HAI := hide hai
      have HBV := hide hbv
      have HAB := hide hab
      have HR0 := hide (fun W hb => rangeAt_below (w' := W) hr hb hab)
      have HN := hide (catB_next rs k (by omega))
      have hadd := addB_le rs[k] hai.kl
      have HLEN : Hid ((catB (rs.take k)).length + (addB rs[k]).length ≤ 140737488355000 ∧ (catB (rs.take k)).length + rs[k].S.length + rs[k].B.length ≤ 1125899906842624 ∧ rs[k].S.length + rs[k].B.length ≤ 140737488354000) := hide (by omega)
      have c3 : ∀ W, Below w.heap.size w W → W.cell? ⟨aB, ao + k * 36 + 3, none⟩ = some bv := fun W hW => (hW.cell (p := ⟨aB, ao + k * 36 + 3, none⟩) hab).trans (hr 3 bv (by rw [Array.getElem?_toList]; exact hai.c3))
      have HC3 := hide c3
      clear hai hr hbv hab htot hadd c3
      go_wp2_with (first | ((with_reducible refine wpList_load_add ?_ (.tmp 29) ?_ aB (ao + k * 36) ?_ cs HR.out HSZ.out ?_); rfl; rfl; rfl) | ((with_reducible refine wpList_store_blk ?_ 37 (.tmp 10) (.tmp 30) ?_ wr.heap.size 36 _ cs 37 HSZ.out ?_ ?_ ?_ (Blk.made wr _ _) infoAdd HON.out ?_); rfl; rfl; rfl; rfl; rfl))
      intro w3 hk3 hg3
      have hb3 : Below wr.heap.size wr w3 := ((Below.refl _ _).alloc (Nat.le_refl _) _).trans (below_grownBy hg3 (Nat.le_refl _) (by simp))
      have HK3 := hide hk3
      have HB3' := hide hb3
      have HB3 : Hid (Below w.heap.size w w3) := hide (HB.out.trans (hb3.mono HB.out.size))
      have d3 := HC3.out w3 HB3.out
      have HCP := hide (copied_arg w3 bv rs[k].B (HAI.out.rd.below HB3.out) (by have := HLEN.out; omega))
      clear hk3 hg3 hb3 HR
      go_wp2_with fail
      refine (HCP.out).mono ?_
      rintro e w4 ⟨v4, rfl, hown4, hb4⟩
      obtain ⟨m, hm⟩ : ∃ m, rs[k].B.length = m := ⟨_, rfl⟩
      obtain ⟨ao4, cap4, hv4e, hnn4⟩ := own_formB hown4
      rw [hm] at hv4e hnn4
      subst hv4e
      have HNN := hide hnn4
      have HM := hide hm
      obtain ⟨sa, hsa⟩ : ∃ sa, wr.heap.size = sa := ⟨_, rfl⟩
      have hsz3 := HK3.out.lt
      have HK4 := hide (HK3.out.below hb4 HK3.out.lt)
      have HB4 : Hid (Below w.heap.size w w4) := hide (HB3.out.trans (hb4.mono HB3.out.size))
      have HB4' : Hid (Below wr.heap.size wr w4) := hide (HB3'.out.trans (hb4.mono HB3'.out.size))
      have HO4 := hide hown4
      rw [hsa] at HK4 hsz3 ⊢
      have hc3 : w4.cell? ⟨sa, 3, none⟩ = some bv := (HK4.out.cell 3).trans HAI.out.c3
      have hf3 : w4.frozen? ⟨sa, 3, none⟩ = false := HK4.out.frozen 3
      have HK5 : Hid (Blk (w4.setCell ⟨sa, 3, none⟩ (.slice ao4 m cap4)) sa (cs.setIfInBounds 3 (.slice ao4 m cap4)) 37) := hide (HK4.out.set 3 (.slice ao4 m cap4))
      have HB5' : Hid (Below wr.heap.size wr (w4.setCell ⟨sa, 3, none⟩ (.slice ao4 m cap4))) := hide (HB4'.out.setCell (by show wr.heap.size ≤ sa; omega) _)
      have HB5 : Hid (Below w.heap.size w (w4.setCell ⟨sa, 3, none⟩ (.slice ao4 m cap4))) := hide (HB.out.trans (HB5'.out.mono HB.out.size))
      have hv4 : ∀ b, (Value.slice ao4 m cap4).ownBlock = some b → w3.heap.size ≤ b ∧ b < w4.heap.size := owns_lt hown4
      have HO5 : Hid ((w4.setCell ⟨sa, 3, none⟩ (.slice ao4 m cap4)).ownsRow w3.heap.size 5 1 (.slice ao4 m cap4) rs[k].B.length (rs[k].B.map u8c)) := hide (owns_grown hown4 (grownBy_set _ _ _ _) (fun g e e2 => by have := hv4 g e; have := Option.some.inj e2; omega))
      obtain ⟨g, hgs⟩ : ∃ g, g = (Value.slice ao4 m cap4).ownBlock.getD sa := ⟨_, rfl⟩
      have hgv : ∀ b, (Value.slice ao4 m cap4).ownBlock = some b → b = g := fun b e => by rw [hgs, e]; rfl
      have hgr : sa ≤ g ∧ g < w4.heap.size := by
        rw [hgs]
        cases h : (Value.slice ao4 m cap4).ownBlock with
        | none => exact ⟨Nat.le_refl _, HK4.out.lt⟩
        | some b => have := hv4 b h; exact ⟨by simp only [Option.getD_some]; omega, this.2⟩
      have HW5 := hide ((HW.out).addX HB5'.out g (by omega) (by simp only [World.size_setCell]; exact hgr.2))
      have HZW : Hid (z < sa) := hide (by have := HW.out.e1.zlt; omega)
      have HGV : Hid (∀ b, (Value.slice ao4 m cap4).ownBlock = some b → b = g ∧ sa < b) := hide (fun b e => ⟨hgv b e, by have := hv4 b e; omega⟩)
      have HGR : Hid (sa ≤ g) := hide hgr.1
      have HWg : Hid (va.ownBlock ≠ some g ∧ vk.ownBlock ≠ some g ∧ vw.ownBlock ≠ some g) := hide ⟨fun e => by have := (owns_lt HW.out.ra g e).2; omega, fun e => by have := (owns_lt HW.out.rk g e).2; omega, fun e => by have := (owns_lt HW.out.rs g e).2; omega⟩
      have HAI5 := hide (HAI.out.turned (w' := w4.setCell ⟨sa, 3, none⟩ (.slice ao4 m cap4)) (.inl (Rd_owned HO5.out)))
      clear hnn4 hm hown4 hb4 hsa hsz3 HK3 HK4 HB4 HB4' HO4 HB3 HB3' HCP d3 hv4 hgs hgv hgr HW HON HB5'
      obtain ⟨X1, hX1⟩ : ∃ X1 : Nat → Prop, X1 = fun b => X b ∨ b = g := ⟨_, rfl⟩
      have HXg : Hid (X1 g) := hide (by rw [hX1]; exact .inr rfl)
      rw [← hX1] at HW5
      clear hX1
      have HSZ5 : Hid ((cs.setIfInBounds 3 (.slice ao4 m cap4)).size = 36) := hide HAI5.out.size
      have HRB := hide (range_blk HK5.out)
      have HP := hide (put_enc (w4.setCell ⟨sa, 3, none⟩ (.slice ao4 m cap4)) X1 z (catB (rs.take k)) _ _ rs[k] HAI5.out HW5.out.e1 (fun b o l c e hc => by
        have hx : (Value.slice ao4 m cap4).ownBlock = some b := by rw [e]; rfl
        have := HGV.out b hx
        have := HZW.out
        omega) (by have := HLEN.out; omega))
      go_wp2_with ((with_reducible refine wpList_load_add ?_ (.tmp 10) ?_ sa 0 ?_ (cs.setIfInBounds 3 (.slice ao4 m cap4)) HRB.out HSZ5.out ?_); rfl; rfl; rfl)
      clear hc3 hf3
      refine (HP.out).mono ?_
      rintro e w6 ⟨rfl, h1, h2⟩
      have HW6 := hide (HW5.out.put h1 h2)
      have HK6 := hide (HK5.out.grown h2 (fun e => by have := Option.some.inj e; have := HZW.out; omega))
      have HO6 := hide (owns_grown HO5.out h2 (fun b e e2 => by have := HGV.out b e; have := Option.some.inj e2; have := HZW.out; omega))
      have HB6 : Hid (Below w.heap.size w w6) := hide (HB5.out.trans (below_grownBy h2 (by have := HZ.out; omega) HB5.out.size))
      have HL := hide (fun W hb => laid_st W cs bv rs[k] (HAI.out.below hb) (by have := HLEN.out; omega))
      have c36 : (cs.setIfInBounds 3 (.slice ao4 m cap4))[3]? = some (.slice ao4 m cap4) := HAI5.out.c3
      have HC36 := hide c36
      have hmB := HM.out
      clear h1 h2 HP HRB HK5 HO5 HB5 HW5 HAI5 HSZ5
      generalize hcs' : cs.setIfInBounds 3 (.slice ao4 m cap4) = cs' at HK6 c36 HC36 ⊢
      clear hcs'
      have e1 : w6.cell? ⟨sa, 3, none⟩ = some (.slice ao4 m cap4) := (HK6.out.cell 3).trans c36
      go_wp2_with fail
      refine y13_walk _ (fun _ _ _ _ _ h => h) w6 sa aB ao na ca k (.slice ao4 m cap4) bv rs[k].B hlt e1 (HC3.out w6 HB6.out) (.inl (Rd_owned HO6.out)) (HAI.out.rd.below HB6.out) _ (Nat.lt_of_sub_pos (by exact Nat.succ_pos _)) rfl rfl rfl ?_
      simp only [Act.put, List.setIfInBounds_toArray, List.set_cons_zero, List.set_cons_succ]
      have hbd := below_drew w6
      have HW7 := hide (HW6.out.below hbd)
      have HK7 := hide (HK6.out.below hbd HK6.out.lt)
      have HO7 := hide (owns_below HO6.out hbd)
      have HB7 : Hid (Below w.heap.size w w6.drew) := hide (HB6.out.trans (hbd.mono HB6.out.size))
      have hall := u8_allB rs[k].B
      obtain ⟨ys0, hys⟩ : ∃ ys, rs[k].B.map u8c = ys := ⟨_, rfl⟩
      rw [hmB, hys] at HO7
      rw [hys] at hall
      have HALL := hide hall
      have hm63 : m ≤ 9223372036854775807 := by have := HLEN.out; omega
      clear e1 c36 hbd HW6 HK6 HO6 HB6 hall hys hmB
      generalize w6.drew = w7 at HW7 HK7 HO7 HB7 ⊢
      generalize addB rs[k] = yk at HN HL HLEN HW7
      generalize catB (rs.take k) = xk at HN HLEN HW7
      generalize rs[k].B.length = mB at *
      go_wp2_with fail
      go_loopw [11] (fun j wq => ∃ (t : Nat) (ys : List Value), j = .int .i64 t ∧ t ≤ m ∧ wq.ownsRow w3.heap.size 5 1 (.slice ao4 m cap4) m ys ∧ (∀ y ∈ ys, ∃ q, y = .int .u8 q) ∧ Blk wq sa cs' 37 ∧ WA z wq X1 z (xk ++ yk) va xk vk (ks.map (·.1)) vw (ks.map strW) ks ∧ Below w.heap.size w wq) (fun j _ => m - (intOf j).toNat)
      case atStart => exact ⟨0, ys0, rfl, Nat.zero_le _, HO7.out, HALL.out, HK7.out, HW7.out, HB7.out⟩
      case round =>
        obtain ⟨t, ys, rfl, ht, hown, hall, hblk, hwa, hbq⟩ := hrel
        have HBQ := hide hbq
        have HWQ := hide hwa
        have HKQ := hide hblk
        have e1 : wr.cell? ⟨sa, 3, none⟩ = some (.slice ao4 m cap4) := (hblk.cell 3).trans HC36.out
        clear hbq hwa hblk
        by_cases hlt2 : t < m
        · obtain ⟨gg, rfl⟩ := HNN.out (by omega)
          obtain ⟨⟨q, hq⟩, hf, hbg⟩ := own_cell hown hall t hlt2
          have HS := hide (own_set (owns_below hown (below_drew wr)) hall t hlt2)
          obtain ⟨hgg, hsg⟩ := HGV.out gg rfl
          subst hgg
          clear hown hall
          go_wp2_with fail
          refine y18_walk _ (fun _ _ _ _ _ h => h) wr sa gg m cap4 t q hlt2 e1 hq hf (by omega) _ (Nat.lt_of_sub_pos (by exact Nat.succ_pos _)) rfl rfl ?_
          simp only [Act.put, List.setIfInBounds_toArray, List.set_cons_zero, List.set_cons_succ]
          have hzg : z < gg := by have := HZW.out; omega
          have HR8 : Hid (∃ ys2, (wr.drew.setCell ⟨gg, t, none⟩ (.int .u8 (IntKind.u8.wrap (q + 1)))).ownsRow w3.heap.size 5 1 (.slice (some ⟨gg, 0, none⟩) m cap4) m ys2 ∧ (∀ y ∈ ys2, ∃ q, y = .int .u8 q)) := hide (HS.out _)
          have HK8 : Hid (Blk (wr.drew.setCell ⟨gg, t, none⟩ (.int .u8 (IntKind.u8.wrap (q + 1)))) sa cs' 37) := hide (HKQ.out.drew.setOther ⟨gg, t, none⟩ _ (by show sa ≠ gg; omega))
          have HW8 := hide ((HWQ.out.below (below_drew wr)).other gg (grownBy_set wr.drew gg t (.int .u8 (IntKind.u8.wrap (q + 1)))) HXg.out (by omega) HWg.out.1 HWg.out.2.1 HWg.out.2.2)
          have HB8 : Hid (Below w.heap.size w (wr.drew.setCell ⟨gg, t, none⟩ (.int .u8 (IntKind.u8.wrap (q + 1))))) := hide ((HBQ.out.trans ((below_drew wr).mono HBQ.out.size)).setCell (by show w.heap.size ≤ gg; have := HZ.out; omega) _)
          generalize wr.drew.setCell ⟨gg, t, none⟩ (.int .u8 (IntKind.u8.wrap (q + 1))) = w8 at HR8 HK8 HW8 HB8 ⊢
          clear HS HKQ HWQ HBQ e1 hq hf
          go_wp2
          go_roundw
          case rel =>
            obtain ⟨ys2, h1, h2⟩ := HR8.out
            exact ⟨t + 1, ys2, by go_num, by omega, h1, h2, HK8.out, HW8.out, HB8.out⟩
          case measure => simp [intOf]; omega
        · clear hown hall
          have HR7 := hide (HR0.out wr HBQ.out)
          have HL7 := hide (HL.out wr HBQ.out)
          go_wp2_with ((with_reducible refine wpList_load_add ?_ (.tmp 70) ?_ aB (ao + k * 36) ?_ cs HR7.out HSZ.out ?_); rfl; rfl; rfl)
          refine (HL7.out).mono ?_
          rintro e w8 ⟨u8, rfl, ho8, hb8⟩
          have HW8 := hide (HWQ.out.below hb8)
          have HB8 : Hid (Below w.heap.size w w8) := hide (HBQ.out.trans (hb8.mono HBQ.out.size))
          have HU : Hid (RdA w8 u8 yk) := hide (.inl (Rd_owned ho8))
          clear ho8 hb8 HL7 HR7 HWQ HBQ HKQ e1
          go_wp2_with (at_builtin; refine wpList_append_rdX rfl _ _ rfl z _ u8 xk yk rfl HW8.out.ra rfl HU.out HLEN.out.1 ?c2 ?_)
          case c2 => have := HB8.out.size; have := HZ.out; omega
          intro v9 w9 ho9 hg9 hl9
          have HW9 := hide (HW8.out.all ho9.out hg9.out hl9.out)
          have HB9 : Hid (Below w.heap.size w w9) := hide (row_below HB8.out (HZ.out ▸ HW8.out.ra) hg9.out HB8.out.size)
          generalize hX2 : (fun b => X1 b ∨ v9.ownBlock = some b) = X2 at HW9
          clear ho9 hg9 hl9 hX2 HW8 HB8 HU HW7 HB7 HK7 HO7 HALL
          by_cases hq : k < qn
          · obtain ⟨qb, qo, rfl, hqb, hcel⟩ := HQ.out.resolve_left (by omega)
            obtain ⟨b, hbc⟩ := hcel k hq
            have hbc9 : w9.cell? ⟨qb, qo + k, none⟩ = some (.bool b) := (HB9.out.cell (p := ⟨qb, qo + k, none⟩) hqb).trans hbc
            clear hcel hbc
            cases b with
            | false =>
              go_wp2
              go_roundw
              case rel => exact ⟨_, _, _, k + 1, _, ks, rfl, rfl, rfl, by go_num, by omega, by have := HKL.out; omega, by rw [HN.out]; exact HW9.out, HB9.out⟩
              case measure => simp [intOf]; omega
            | true =>
              have HBYT := hide (ebytes_enc w9 X2 z (xk ++ yk) HW9.out.e1 (by have := HLEN.out.1; rw [List.length_append]; omega))
              go_wp2_with fail
              clear hbc9
              refine (HBYT.out).mono ?_
              rintro e w10 ⟨v10, rfl, ho10, hb10⟩
              have HW10 := hide (HW9.out.bytes hb10 ho10)
              have HB10 : Hid (Below w.heap.size w w10) := hide (HB9.out.trans (hb10.mono HB9.out.size))
              obtain ⟨ao10, cap10, hv10, _⟩ := own_formB ho10
              obtain ⟨n10, hn10⟩ : ∃ n10, (xk ++ yk).length = n10 := ⟨_, rfl⟩
              rw [hn10] at hv10
              subst hv10
              have HWa := hide (HW10.out.below ((Below.refl _ _).alloc (Nat.le_refl _) (.cells #[.slice ao10 n10 cap10] 28)))
              have HBa := hide (HB10.out.alloc HB10.out.size (.cells #[.slice ao10 n10 cap10] 28))
              obtain ⟨i1, hi1, y10, y11, y12⟩ := info_parts infoSl
              have hkk := HKL.out
              have hkl : (ks.map (·.1)).length ≤ k := by rw [List.length_map]; exact hkk
              clear ho10 hb10 HBYT hn10
              go_wp2_with (at_builtin; refine wpList_append_own_at _ rfl _ _ 29 rfl z 28 i1 (.slice none 0 0) 1 24 Try.underlying29 hi1 y10 y11 y12 rfl (by decide) _ _ _ rfl HWa.out.rk ⟨w10.heap.size, 0, none⟩ 1 1 [.slice ao10 n10 cap10] rfl rfl (cell_one_new _ _ _) ?c2 ?c3 ?c4 ?c5 ?_)
              case c2 => intro u hu; simp at hu; subst hu; rfl
              case c3 => unfold maxLen; omega
              case c4 => omega
              case c5 => have := HB10.out.size; have := HZ.out; rw [World.size_alloc]; omega
              intro v11 w11 ho11 hg11 _ hl11
              have HW11 := hide (HWa.out.kept (kv' := ks.map (·.1) ++ [.slice ao10 n10 cap10]) (by rw [List.length_append, List.length_singleton, List.length_map]; exact ho11) hg11 (by simpa using hl11))
              have HB11 : Hid (Below w.heap.size w w11) := hide (own_below HBa.out (HZ.out ▸ HWa.out.rk) (by have := HB10.out.size; rw [World.size_alloc]; omega) hg11)
              generalize hX3 : (fun b => X2 b ∨ v11.ownBlock = some b) = X3 at HW11
              clear ho11 hg11 hl11 hX3 HWa HBa HW10 HB10 HW9 HB9
              have cv := conv_rd w11 v9 (xk ++ yk) (Rd_owned HW11.out.ra)
              obtain ⟨sx, hsx⟩ : ∃ s : ByteArray, s = ⟨(xk ++ yk).toArray⟩ := ⟨_, rfl⟩
              rw [← hsx] at cv
              have HSX := hide hsx
              have HWb := hide (HW11.out.below ((Below.refl _ _).alloc (Nat.le_refl _) (.cells #[.string sx] 9)))
              have HBb := hide (HB11.out.alloc HB11.out.size (.cells #[.string sx] 9))
              obtain ⟨i2, hi2, x20, x21, x22⟩ := info_parts infoStr
              have hwl : (ks.map strW).length ≤ k := by rw [List.length_map]; exact hkk
              clear hsx
              go_wp2_with (at_builtin; refine wpList_append_own_at _ rfl _ _ 30 rfl z 9 i2 (.string ⟨#[]⟩) 1 16 Try.underlying30 hi2 x20 x21 x22 rfl (by decide) _ _ _ rfl HWb.out.rs ⟨w11.heap.size, 0, none⟩ 1 1 [.string sx] rfl rfl (cell_one_new _ _ _) ?c2 ?c3 ?c4 ?c5 ?_)
              case c2 => intro u hu; simp at hu; subst hu; rfl
              case c3 => unfold maxLen; omega
              case c4 => omega
              case c5 => have := HB11.out.size; have := HZ.out; rw [World.size_alloc]; omega
              intro v12 w12 ho12 hg12 _ hl12
              have HW12 := hide (HWb.out.want (wv' := ks.map strW ++ [.string sx]) (by rw [List.length_append, List.length_singleton, List.length_map]; exact ho12) hg12 (by simpa using hl12))
              have HB12 : Hid (Below w.heap.size w w12) := hide (own_below HBb.out (HZ.out ▸ HWb.out.rs) (by have := HB11.out.size; rw [World.size_alloc]; omega) hg12)
              generalize hX4 : (fun b => X3 b ∨ v12.ownBlock = some b) = X4 at HW12
              clear ho12 hg12 hl12 hX4 HWb HBb HW11 HB11 cv
              go_wp2
              go_roundw
              case rel => exact ⟨_, _, _, k + 1, _, ks ++ [(.slice ao10 n10 cap10, xk ++ yk)], rfl, rfl, rfl, by go_num, by omega, by rw [List.length_append, List.length_singleton]; omega, by
                rw [HN.out, List.map_append, List.map_append]
                have := HW12.out
                rw [HSX.out] at this
                exact this, HB12.out⟩
              case measure => simp [intOf]; omega
          · go_wp2
            go_roundw
            case rel => exact ⟨_, _, _, k + 1, _, ks, rfl, rfl, rfl, by go_num, by omega, by have := HKL.out; omega, by rw [HN.out]; exact HW9.out, HB9.out⟩
            case measure => simp [intOf]; omega
    · obtain rfl : k = na := by omega
      have hla := KA.out.tot k
      have HWF : Hid (WA z wr X z (catB rs) va (catB rs) vk (ks.map (·.1)) vw (ks.map strW) ks) := hide (by have := HW.out; rwa [← ha, List.take_length] at this)
      rw [← ha, List.take_length] at hla
      generalize catB rs = xs at HWF hla
      go_wp2_with fail
      refine y24_walk _ (fun _ _ _ _ _ h => h) wr X z xs va HWF.out.e1 (by omega) (.inl (Rd_owned HWF.out.ra)) _ (Nat.lt_of_sub_pos (by exact Nat.succ_pos _)) rfl rfl ?_
      intro v20 w20 hb20
      simp only [Act.put, List.setIfInBounds_toArray, List.set_cons_zero, List.set_cons_succ]
      have HW20 := hide (HWF.out.below hb20)
      have HB20 : Hid (Below w.heap.size w w20) := hide (HB.out.trans (hb20.mono HB.out.size))
      obtain ⟨aok, capk, hvk, hnk⟩ := own_formB HW20.out.rk
      obtain ⟨aow, capw, hvw, hnw⟩ := own_formB HW20.out.rs
      obtain ⟨n, hn⟩ : ∃ n, ks.length = n := ⟨_, rfl⟩
      rw [List.length_map, hn] at hvk hvw hnk hnw
      subst hvk
      subst hvw
      have HNK := hide hnk
      have HNW := hide hnw
      have HKN := hide hn
      have hn63 : n ≤ 9223372036854775807 := by have := HKL.out; omega
      clear hb20 HW HB HWF hnk hnw hn
      go_wp2_with fail
      go_loopw [13] (fun i wq => ∃ (j mm : Nat), i = .int .i64 j ∧ j ≤ n ∧ wq = w20.drewN mm) (fun i _ => n - (intOf i).toNat)
      case atStart => exact ⟨0, 0, rfl, Nat.zero_le _, rfl⟩
      case round =>
        obtain ⟨j, mm, rfl, hj, rfl⟩ := hrel
        by_cases hlt3 : j < n
        · obtain ⟨gk, rfl⟩ := HNK.out (by omega)
          obtain ⟨gw, rfl⟩ := HNW.out (by omega)
          have hjl : j < ks.length := by have := HKN.out; omega
          have HW21 := hide (HW20.out.below (Below.drewN' w20 mm))
          have rk := HW21.out.rk
          have rs' := HW21.out.rs
          rw [List.length_map, HKN.out] at rk rs'
          have c1 := own_at rk j hlt3
          have c2 := own_at rs' j hlt3
          rw [List.getElem?_map, List.getElem?_eq_getElem hjl] at c1 c2
          simp only [Option.map_some, strW] at c1 c2
          have hkp := (HW21.out.kp ks[j] (List.getElem_mem hjl)).1
          clear rk rs'
          generalize ks[j].1 = kv at c1 hkp
          generalize ks[j].2 = kb at c2 hkp
          go_wp2_with fail
          refine y29_walk _ (fun _ _ _ _ _ h => h) _ gk gw n capk capw j kv kb hlt3 c1 c2 hkp _ (Nat.lt_of_sub_pos (by exact Nat.succ_pos _)) rfl rfl rfl ?_
          simp only [Act.put, List.setIfInBounds_toArray, List.set_cons_zero, List.set_cons_succ]
          clear c1 c2 hkp
          go_wp2
          go_roundw
          case rel => exact ⟨j + 1, mm + 1, by go_num, by omega, rfl⟩
          case measure => simp [intOf]; omega
        · go_wp2
          go_ret
          exact ⟨rfl, HB20.out.trans ((Below.drewN' w20 mm).mono HB20.out.size)⟩
end Go.Proofs.Ytinjcefekbpabaa
