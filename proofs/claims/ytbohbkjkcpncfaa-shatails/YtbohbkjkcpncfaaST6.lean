/- ShaTails: the walk. -/
import Derived.Test.YtbohbkjkcpncfaaST5
namespace Go.Proofs.Ytbohbkjkcpncfaa
set_option linter.unusedVariables false
set_option linter.unusedSimpArgs false
open Go.RowKit

theorem Al.first {B : Nat} {w : World} {v : Value} {xs : List UInt8} (h : OwnsB w B v xs) (h0 : 0 < xs.length) : ∃ g c, v = .slice (some ⟨g, 0, none⟩) xs.length c ∧ Al B w g xs.length c v xs ∧ B ≤ g ∧ g < w.heap.size := by
  obtain ⟨g, c, rfl, h1, h2, h3, h4⟩ := h.form h0
  refine ⟨g, c, rfl, ⟨h, Rd.owned_take h (Nat.le_refl _) h3 h4, h2, Nat.le_refl _, h0⟩, h1, h2⟩
theorem dsg_first {g h n m : Nat} {c d : Nat} {xs ys : List UInt8} (hne : g ≠ h) : Dsg ⟨g, c, .slice (some ⟨g, 0, none⟩) n c, xs⟩ ⟨h, d, .slice (some ⟨h, 0, none⟩) m d, ys⟩ := by
  rintro b (rfl | h1) (h2 | h2)
  · exact hne h2
  · exact hne (Option.some.inj h2).symm
  · exact hne ((Option.some.inj h1).trans h2)
  · exact hne ((Option.some.inj h1).trans (Option.some.inj h2).symm)
set_option maxRecDepth 40000 in
set_option maxHeartbeats 4000000 in
theorem tails_any (w : World) (n : Nat) (hn : n < 18446744073709551616) : Calls Try.prog 3 #[.int .u64 n] w fun e w' => e = .returned (.bool true) ∧ Below w.heap.size w w' := by
  have HR := hide (fun w => rtail w n hn)
  have HS := hide (fun w => stail w n hn)
  obtain ⟨tl, htl⟩ : ∃ tl, tl = tailL n := ⟨_, rfl⟩
  have hlen : 9 ≤ tl.length ∧ tl.length ≤ 72 := by rw [htl, tailL_length]; omega
  unfold TailC at HR HS
  rw [← htl] at HR HS
  clear htl
  go_enter Try.func3, Try.ntmps3
  go_wp2_with fail
  refine (HR.out _).mono ?_
  rintro e w1 ⟨v0, rfl, ho0, hb0⟩
  go_wp2_with fail
  refine (HS.out _).mono ?_
  rintro e w2 ⟨va, rfl, hoa, hba⟩
  go_wp2_with fail
  refine (HS.out _).mono ?_
  rintro e w3 ⟨vb, rfl, hob, hbb⟩
  go_wp2_with fail
  refine (HS.out _).mono ?_
  rintro e w4 ⟨vc, rfl, hoc, hbc⟩
  have H4 : ∃ gw cw ga ca gb cb gc cc, v0 = .slice (some ⟨gw, 0, none⟩) tl.length cw ∧ va = .slice (some ⟨ga, 0, none⟩) tl.length ca ∧ vb = .slice (some ⟨gb, 0, none⟩) tl.length cb ∧ vc = .slice (some ⟨gc, 0, none⟩) tl.length cc ∧
      G4 w.heap.size w4 tl.length ⟨gw, cw, v0, tl⟩ ⟨ga, ca, va, tl⟩ ⟨gb, cb, vb, tl⟩ ⟨gc, cc, vc, tl⟩ ∧ w.heap.size ≤ ga ∧ w.heap.size ≤ gb := by
    obtain ⟨gw, cw, rfl, aw, lw, lw'⟩ := Al.first ho0 (by omega)
    obtain ⟨ga, ca, rfl, aa, la, la'⟩ := Al.first (own_base hoa hb0.size) (by omega)
    obtain ⟨gb, cb, rfl, ab, lb, lb'⟩ := Al.first (own_base hob (Nat.le_trans hb0.size hba.size)) (by omega)
    obtain ⟨gc, cc, rfl, ac, lc, lc'⟩ := Al.first (own_base hoc (Nat.le_trans hb0.size (Nat.le_trans hba.size hbb.size))) (by omega)
    have ma := (owns_lt hoa ga rfl).1
    have mb := (owns_lt hob gb rfl).1
    have mc := (owns_lt hoc gc rfl).1
    have s2 := hba.size
    have s3 := hbb.size
    exact ⟨gw, cw, ga, ca, gb, cb, gc, cc, rfl, rfl, rfl, rfl, ⟨((aw.below hba).below hbb).below hbc, (aa.below hbb).below hbc, ab.below hbc, ac, dsg_first (by omega), dsg_first (by omega), dsg_first (by omega), dsg_first (by omega), dsg_first (by omega), dsg_first (by omega)⟩, la, lb⟩
  have hbel4 : Below w.heap.size w w4 := ((hb0.trans (hba.mono hb0.size)).trans (hbb.mono (Nat.le_trans hb0.size hba.size))).trans (hbc.mono (Nat.le_trans hb0.size (Nat.le_trans hba.size hbb.size)))
  clear ho0 hoa hob hoc hb0 hba hbb hbc
  obtain ⟨gw, cw, ga, ca, gb, cb, gc, cc, rfl, rfl, rfl, rfl, hG, lga, lgb⟩ := H4
  obtain ⟨m, hm⟩ : ∃ m, m = tl.length := ⟨_, rfl⟩
  rw [← hm] at hG hlen ⊢
  have HM := hide hm
  clear hm
  have HG := hide hG
  clear hG
  have tk : tl.take m = tl := by rw [HM.out]; exact List.take_length
  have HT := hide tk
  clear tk
  go_wp2_with fail
  refine (same_any _ _ _ tl (by have := HG.out.aX.rd; rwa [HT.out] at this) (by have := HG.out.aW.rd; rwa [HT.out] at this)).mono ?_
  rintro e w5 ⟨rfl, hb5⟩
  have HG5 := hide (HG.out.below hb5)
  clear HG
  go_wp2_with fail
  refine (same_any _ _ _ tl (by have := HG5.out.aY.rd; rwa [HT.out] at this) (by have := HG5.out.aW.rd; rwa [HT.out] at this)).mono ?_
  rintro e w6 ⟨rfl, hb6⟩
  have HG6 := hide (HG5.out.below hb6)
  clear HG5
  go_wp2_with fail
  refine (same_any _ _ _ tl (by have := HG6.out.aZ.rd; rwa [HT.out] at this) (by have := HG6.out.aW.rd; rwa [HT.out] at this)).mono ?_
  rintro e w7 ⟨rfl, hb7⟩
  have HG7 := hide (HG6.out.below hb7)
  clear HG6
  have hbel7 : Below w.heap.size w w7 := ((hbel4.trans (hb5.mono hbel4.size)).trans (hb6.mono (Nat.le_trans hbel4.size hb5.size))).trans (hb7.mono (Nat.le_trans hbel4.size (Nat.le_trans hb5.size hb6.size)))
  clear hbel4 hb5 hb6 hb7
  go_wp2
  go_loopw [7] (fun i wr => ∃ k : Nat, i = .int .i64 k ∧ k ≤ m ∧ G4 w.heap.size wr m ⟨gw, cw, .slice (some ⟨gw, 0, none⟩) m cw, tl⟩ ⟨ga, ca, .slice (some ⟨ga, 0, none⟩) m ca, List.replicate k 17 ++ tl.drop k⟩ ⟨gb, cb, .slice (some ⟨gb, 0, none⟩) m cb, tl⟩ ⟨gc, cc, .slice (some ⟨gc, 0, none⟩) m cc, tl⟩ ∧ Below w.heap.size w wr) (fun i _ => m - (intOf i).toNat)
  case atStart => exact ⟨0, rfl, by omega, HG7.out, hbel7⟩
  case round =>
    clear HG7 hbel7
    obtain ⟨k, rfl, hk, hG, hbel⟩ := hrel
    by_cases hlt : k < m
    · have hm := HM.out
      obtain ⟨h1, h2, _⟩ := OwnsB.at hG.aX.own k (by simp; omega)
      obtain ⟨q, hq⟩ : ∃ q : Int, wr.cell? ⟨ga, k, none⟩ = some (.int .u8 q) := ⟨_, h1⟩
      have HN := hide (hG.overX rfl k 17)
      clear hm h1 hG
      go_wp2
      refine ⟨⟨k + 1, by go_num, by omega, ?_, hbel.setCell lga _⟩, by simp [intOf]; omega⟩
      have h := HN.out
      rw [fill_set tl k 17 (by rw [← HM.out]; exact hlt)] at h
      exact h
    · obtain rfl : k = m := by omega
      have HGa := hide hG
      clear hG
      go_wp2
      go_loopw [8] (fun i wr => ∃ l : Nat, i = .int .i64 l ∧ l ≤ k ∧ G4 w.heap.size wr k ⟨gw, cw, .slice (some ⟨gw, 0, none⟩) k cw, tl⟩ ⟨ga, ca, .slice (some ⟨ga, 0, none⟩) k ca, List.replicate k 17⟩ ⟨gb, cb, .slice (some ⟨gb, 0, none⟩) k cb, List.replicate l 34 ++ tl.drop l⟩ ⟨gc, cc, .slice (some ⟨gc, 0, none⟩) k cc, tl⟩ ∧ Below w.heap.size w wr) (fun i _ => k - (intOf i).toNat)
      case atStart =>
        refine ⟨0, rfl, by omega, ?_, hbel⟩
        have h := HGa.out
        rw [List.drop_of_length_le (by rw [← HM.out]; omega), List.append_nil] at h
        exact h
      case round =>
        clear HGa hbel
        obtain ⟨l, rfl, hl, hG, hbel⟩ := hrel
        by_cases hlt : l < k
        · have hm := HM.out
          obtain ⟨h1, h2, _⟩ := OwnsB.at hG.aY.own l (by simp; omega)
          obtain ⟨q, hq⟩ : ∃ q : Int, wr.cell? ⟨gb, l, none⟩ = some (.int .u8 q) := ⟨_, h1⟩
          have HN := hide (hG.rot.overX rfl l 34).rot.rot
          clear hm h1 hG
          go_wp2
          refine ⟨⟨l + 1, by go_num, by omega, ?_, hbel.setCell lgb _⟩, by simp [intOf]; omega⟩
          have h := HN.out
          rw [fill_set tl l 34 (by rw [← HM.out]; exact hlt)] at h
          exact h
        · obtain rfl : l = k := by omega
          have HGb := hide hG
          clear hG
          go_wp2
          go_loopw [9, 10, 11, 12] (fun x y z i wr => ∃ (vx vy vz : Value) (k : Nat), vx = x ∧ vy = y ∧ vz = z ∧ i = .int .i64 k ∧ k ≤ 80 ∧ G4 w.heap.size wr l ⟨gw, cw, .slice (some ⟨gw, 0, none⟩) l cw, tl⟩ ⟨ga, ca, vx, List.replicate (l + k) 17⟩ ⟨gb, cb, vy, List.replicate (l + k) 34⟩ ⟨gc, cc, vz, tl ++ List.replicate k 51⟩ ∧ Below w.heap.size w wr) (fun _ _ _ i _ => 80 - (intOf i).toNat)
          case atStart =>
            refine ⟨_, _, _, 0, rfl, rfl, rfl, rfl, by omega, ?_, hbel⟩
            have h := HGb.out
            rw [List.drop_of_length_le (by rw [← HM.out]; omega), List.append_nil] at h
            simpa using h
          case round =>
            clear HGb hbel
            obtain ⟨vx, vy, vz, k, rfl, rfl, rfl, rfl, hk, hG, hbel⟩ := hrel
            have hsz : w.heap.size ≤ wr.heap.size := hbel.size
            by_cases hlt : k < 80
            · have HGx := hide (hG.below ((Below.refl _ _).alloc (Nat.le_refl _) (.cells #[.int .u8 17] 5)))
              have hbx := hbel.alloc hsz (.cells #[.int .u8 17] 5)
              clear hG hbel
              go_wp2_with (at_builtin; refine wpList_append_byteX rfl _ _ rfl w.heap.size _ (List.replicate (l + k) 17) rfl HGx.out.aX.own wr.heap.size 1 rfl 17 17 rfl ?c2 ?c3 ?c4 ?_)
              case c2 => exact (Blk.made _ _ _).cell 0
              case c3 => simp; omega
              case c4 => simp; omega
              intro vx' w1 HO HG HL
              have hb1 : Below w.heap.size w w1 := own_below hbx HGx.out.aX.own (by simp; omega) HG.out
              have hG := HGx.out.putX HO.out HG.out (by simpa using HL.out)
              clear HGx HO HG HL hbx
              have hsz1 := hb1.size
              have HGx := hide (hG.below ((Below.refl _ _).alloc (Nat.le_refl _) (.cells #[.int .u8 34] 5)))
              have hbx := hb1.alloc hsz1 (.cells #[.int .u8 34] 5)
              clear hG
              go_wp2_with (at_builtin; refine wpList_append_byteX rfl _ _ rfl w.heap.size _ (List.replicate (l + k) 34) rfl HGx.out.aY.own w1.heap.size 1 rfl 34 34 rfl ?d2 ?d3 ?d4 ?_)
              case d3 => omega
              case d4 => omega
              intro vy' w2 HO HG HL
              have hb2 : Below w.heap.size w w2 := own_below hbx HGx.out.aY.own (by simp; omega) HG.out
              have hG := (HGx.out.rot.putX HO.out HG.out (by simpa using HL.out)).rot.rot
              clear HGx HO HG HL hbx
              have hsz2 := hb2.size
              have HGx := hide (hG.below ((Below.refl _ _).alloc (Nat.le_refl _) (.cells #[.int .u8 51] 5)))
              have hbx := hb2.alloc hsz2 (.cells #[.int .u8 51] 5)
              clear hG
              go_wp2_with (at_builtin; refine wpList_append_byteX rfl _ _ rfl w.heap.size _ (tl ++ List.replicate k 51) rfl HGx.out.aZ.own w2.heap.size 1 rfl 51 51 rfl ?e2 ?e3 ?e4 ?_)
              case e3 => have := HM.out; simp; omega
              case e4 => omega
              intro vz' w3 HO HG HL
              have hb3 : Below w.heap.size w w3 := own_below hbx HGx.out.aZ.own (by simp; omega) HG.out
              have hG := (HGx.out.rot.rot.putX (y := 51) (by rw [List.append_assoc]; exact HO.out) HG.out (by simpa using HL.out)).rot
              have HGx := hide hG
              clear hG HO HG HL hbx
              go_wp2
              refine ⟨⟨_, _, _, k + 1, rfl, rfl, rfl, by go_num, by omega, ?_, hb3⟩, by simp [intOf]; omega⟩
              have h := HGx.out
              simp only [Gr.now] at h
              rw [← List.replicate_succ', ← List.replicate_succ', List.append_assoc, ← List.replicate_succ'] at h
              exact h
            · obtain rfl : k = 80 := by omega
              obtain ⟨az, kz, hvz, _⟩ := own_formB hG.aZ.own
              have hzl : (tl ++ List.replicate 80 (51 : UInt8)).length = l + 80 := by have := HM.out; simp; omega
              simp only [] at hvz
              rw [hzl] at hvz
              subst hvz
              have HGx := hide hG
              clear hG hzl
              go_wp2_with fail
              refine (HS.out _).mono ?_
              rintro e w8 ⟨vd, rfl, hod, hbd⟩
              have HG8 := hide (HGx.out.below hbd)
              have HOD := hide hod
              have hb8 := hbel.trans (hbd.mono hsz)
              clear HGx hod
              go_wp2_with fail
              refine (all_any _ _ (l + 80) 17 17 rfl (Rd_owned HG8.out.aX.own)).mono ?_
              rintro e w9 ⟨rfl, hb9⟩
              have HG9 := hide (HG8.out.below hb9)
              clear HG8
              go_wp2_with fail
              refine (all_any _ _ (l + 80) 34 34 rfl (Rd_owned HG9.out.aY.own)).mono ?_
              rintro e w10 ⟨rfl, hb10⟩
              have HG10 := hide (HG9.out.below hb10)
              clear HG9
              go_wp2_with fail
              refine (all_any _ _ l 17 17 rfl (by have := HG10.out.aX.rd; rwa [List.take_replicate, Nat.min_eq_left (by omega)] at this)).mono ?_
              rintro e w11 ⟨rfl, hb11⟩
              have HG11 := hide (HG10.out.below hb11)
              clear HG10
              go_wp2_with fail
              refine (all_any _ _ l 34 34 rfl (by have := HG11.out.aY.rd; rwa [List.take_replicate, Nat.min_eq_left (by omega)] at this)).mono ?_
              rintro e w12 ⟨rfl, hb12⟩
              have HG12 := hide (HG11.out.below hb12)
              clear HG11
              have HTZ : Hid ((tl ++ List.replicate 80 (51 : UInt8)).take l = tl) := by
                have := HM.out
                have h := HT.out
                unfold Hid
                rw [List.take_append_of_le_length (by omega)]; exact h
              have b12 : Below w8.heap.size w8 w12 := ((hb9.trans (hb10.mono hb9.size)).trans (hb11.mono (Nat.le_trans hb9.size hb10.size))).trans (hb12.mono (Nat.le_trans hb9.size (Nat.le_trans hb10.size hb11.size)))
              go_wp2_with fail
              refine (same_any _ _ _ tl (by have := HG12.out.aZ.rd; rwa [HTZ.out] at this) (by have := HG12.out.aW.rd; rwa [HT.out] at this)).mono ?_
              rintro e w13 ⟨rfl, hb13⟩
              have HG13 := hide (HG12.out.below hb13)
              clear HG12
              have b13 : Below w8.heap.size w8 w13 := b12.trans (hb13.mono b12.size)
              go_wp2_with fail
              refine (same_any _ _ _ tl ((Rd_owned HOD.out).below b13) (by have := HG13.out.aW.rd; rwa [HT.out] at this)).mono ?_
              rintro e w14 ⟨rfl, hb14⟩
              have b14 : Below w.heap.size w w14 := hb8.trans ((b13.trans (hb14.mono b13.size)).mono hb8.size)
              clear HG13 HOD b13 b12 hb9 hb10 hb11 hb12 hb13 hb14 hb8 hbd hbel
              go_wp2
              go_ret
              exact ⟨rfl, b14⟩
end Go.Proofs.Ytbohbkjkcpncfaa
