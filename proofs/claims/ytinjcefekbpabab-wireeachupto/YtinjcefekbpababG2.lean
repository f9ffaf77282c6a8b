/- Each of strings on a Dec, with the literal. -/
import Derived.Test.YtinjcefekbpababG1
namespace Go.Proofs.Ytinjcefekbpabab
set_option linter.unusedVariables false
set_option linter.unusedSimpArgs false
open Go.RowKit

theorem lit_notnil (cb sb : Nat) (w : World) : (binOp BinOp.eql 30 (.func (.func 8) #[] #[.pointer (some ⟨cb, 0, none⟩), .pointer (some ⟨sb, 0, none⟩)]) .nilFunc).run Try.prog w = .ok (.bool false) w := by kernel_rfl

/-- All that Each answers, by the plain machine. -/
def mEachS (bs zs : List UInt8) (s : S) (most : Nat) : List (List UInt8) × S × Nat := eachS bs zs (mNum bs s most).1 (mNum bs s most).2.2 0 []
def gotS (q : List (List UInt8) × S × Nat) : List (List UInt8) := if q.2.1.code ≠ 0 then [] else q.1

def EachSC (w0 w : World) (z : Nat) (sv : Value) (y : Nat) (rv : Value) (bs : List UInt8) (r : S) (cb sb : Nat) (sz : Value) (q : List (List UInt8) × S × Nat) (e : Ending) (w' : World) : Prop :=
  (∃ v, e = .returned v ∧ w'.ownsRow w.heap.size 9 1 v (gotS q).length ((gotS q).map strc)) ∧ Lit1 w0 w' z sv y rv bs q.2.1 r cb q.2.2 sb sz ∧ w.heap.size ≤ w'.heap.size

theorem own_keep {w w' : World} {base n : Nat} {v : Value} {xs : List Value} {e : TypeId} (h : w.ownsRow base e 1 v n xs) (hk : ∀ i, i < w.heap.size → base ≤ i → w'.heap[i]? = w.heap[i]?) : w'.ownsRow base e 1 v n xs := by
  obtain ⟨h0, h1 | ⟨g, cap, cur, e1, hb, hg, hc⟩⟩ := h
  · exact ⟨h0, .inl h1⟩
  · exact ⟨h0, .inr ⟨g, cap, cur, e1, hb, (hk g (Blk.lt hg) hb).trans hg, hc⟩⟩
theorem Lit1.own {w0 w wE w' : World} {z y cb c sb n : Nat} {sv rv sz v : Value} {bs : List UInt8} {s r : S} {xs : List Value} {e : TypeId} (h : Lit1 w0 w z sv y rv bs s r cb c sb sz) (hE : Lit1 w0 wE z sv y rv bs s0 r cb 0 sb sz ∨ True) (hz : z < wE.heap.size) (hy : y < wE.heap.size) (hc : cb < wE.heap.size) (hs : sb < wE.heap.size) (h0 : w0.heap.size ≤ wE.heap.size)
    (hsv : ∀ b, sv = .slice (some ⟨b, 0, none⟩) bs.length bs.length → b < wE.heap.size) (hrv : ∀ b cap, rv = .slice (some ⟨b, 0, none⟩) bs.length cap → b < wE.heap.size) (ho : w.ownsRow wE.heap.size e 1 v n xs) (hg : w.grownBy w' v.ownBlock) : Lit1 w0 w' z sv y rv bs s r cb c sb sz := by
  have hb : ∀ k, v.ownBlock = some k → wE.heap.size ≤ k := fun k hk => (ho.lt k hk).1
  refine ⟨h.two.grown hg (fun e => ?_) (fun e => ?_) (fun b e1 e => ?_) (fun b cap e1 e => ?_), ?_, h.cc.grown hg (fun e => ?_), h.ss.grown hg (fun e => ?_)⟩
  · have := hb z e.symm; omega
  · have := hb y e.symm; omega
  · have := hb b e.symm; have := hsv b e1; omega
  · have := hb b e.symm; have := hrv b cap e1; omega
  · exact h.bel.trans ⟨hg.os, hg.tape, hg.output, hg.size, fun i hi => hg.block i (Nat.lt_of_lt_of_le hi h.bel.size) (fun e => by have := hb i e.symm; omega)⟩
  · have := hb cb e.symm; omega
  · have := hb sb e.symm; omega
theorem Lit1.alloc {w0 w : World} {z y cb c sb : Nat} {sv rv sz : Value} {bs : List UInt8} {s r : S} (h : Lit1 w0 w z sv y rv bs s r cb c sb sz) (o : Obj) : Lit1 w0 (w.alloc o) z sv y rv bs s r cb c sb sz :=
  ⟨h.two.below ((Below.refl _ _).alloc (Nat.le_refl _) _), h.bel.alloc h.bel.size _, h.cc.alloc _, h.ss.alloc _⟩

set_option maxRecDepth 20000 in
set_option maxHeartbeats 3200000 in
theorem each_str (w0 w : World) (z : Nat) (sv : Value) (y : Nat) (rv : Value) (bs zs : List UInt8) (s r : S) (cb sb : Nat) (sz : Value) (n : Int) (h1 : -9223372036854775808 ≤ n) (h2 : n ≤ 9223372036854775807) (ha : Apart1 w0 z sv y rv bs cb sb) (hz : RdA w0 sz zs) (hlen : bs.length + zs.length ≤ 1099511627776) (h : Lit1 w0 w z sv y rv bs s r cb 0 sb sz) :
    Calls Try.prog 7 #[.pointer (some ⟨z, 0, none⟩), .int .i64 n, .func (.func 8) #[] #[.pointer (some ⟨cb, 0, none⟩), .pointer (some ⟨sb, 0, none⟩)]] w (EachSC w0 w z sv y rv bs r cb sb sz (mEachS bs zs s n.toNat)) := by
  obtain ⟨i0, hi, hz0, hz1, hz2⟩ := info_parts infoStr
  have HB := hide (fun w => bound_any w n h1 h2)
  have HV := hide (fun w h => var_st w z sv bs s n.toNat h)
  obtain ⟨r', hr'⟩ : ∃ r', mEachS bs zs s n.toNat = r' := ⟨_, rfl⟩
  rw [hr']
  unfold mEachS at hr'
  have hle := mNum_ok_le bs s n.toNat
  generalize mNum bs s n.toNat = rr at HV hr' hle
  obtain ⟨v, ok, s1⟩ := rr
  simp only [] at hr' hle
  have HR := hide hr'
  clear hr'
  have hv63 : v ≤ 9223372036854775807 := by omega
  clear hle
  generalize n.toNat = m at HB HV
  have hzl := h.two.d.lt
  have hyl := h.two.r.lt
  have hcl := h.cc.lt
  have hsl := h.ss.lt
  have h00 := h.bel.size
  have HSVB := hide (fun b => h.two.d.1.blk (b := b))
  have HRVB := hide (fun b cap => h.two.r.1.blk (b := b) (cap := cap))
  have hnn := lit_notnil cb sb
  have HLT := hide (fun W s c hc h => lit_st w0 W z sv y rv bs zs s r cb c sb sz ha hz hc (by omega) h)
  have HAP := hide ha
  have H0 := hide h
  clear ha h hz
  go_enter Try.func7, Try.ntmps7
  go_wp2_with fail
  refine (HB.out _).mono ?_
  rintro e w' ⟨rfl, rfl⟩
  go_wp2_with fail
  refine (HV.out _ H0.out.two.d).mono ?_
  rintro e w1 ⟨rfl, hd1, hg1⟩
  simp only [] at hd1
  have HL1 := hide (H0.out.step HAP.out hd1 hg1)
  have hs1 := hg1.size
  clear HV HB hd1 hg1
  go_wp2_with fail
  go_loopw [7, 8] (fun l c wr => ∃ (k : Nat) (acc : List (List UInt8)) (s' : S) (cl : Nat), c = .int .u64 k ∧ k ≤ 9223372036854775807 ∧ wr.ownsRow w'.heap.size 9 1 l acc.length (acc.map strc) ∧ acc.length = cl ∧ cl ≤ zs.length + s'.p + exS s' ∧ Lit1 w0 wr z sv y rv bs s' r cb cl sb sz ∧ w'.heap.size ≤ wr.heap.size ∧ eachS bs zs v s1 0 [] = eachS bs zs k s' cl acc) (fun _ c _ => (intOf c).toNat)
  case atStart => exact ⟨v, [], s1, 0, rfl, hv63, World.ownsRow_nil _ _ _ _, rfl, Nat.zero_le _, HL1.out, hs1, rfl⟩
  case round =>
    obtain ⟨k, acc, s', cl, rfl, hk, hown, hacl, hcls, hlit, hsw, heq⟩ := hrel
    have HE := hide heq
    have HA := hide (And.intro hacl hcls)
    have hpb := hlit.two.d.2.1
    clear heq hacl hcls
    have HO := hide (fun w h => over_st w z sv bs s' h)
    by_cases hk0 : 0 < k
    · by_cases hc : s'.code = 0
      · have hdc : decide (s'.code ≠ 0) = false := by simp [hc]
        have hex : exS s' = 0 := by rw [exS, if_neg (by omega)]
        have hcl2 : cl ≤ zs.length + s'.p := by have := HA.out.2; omega
        have HT := hide (HLT.out _ s' cl (by omega) hlit)
        have HP := hide (fun kk => mNext_code bs s' (mPlace s') kk hc)
        have HG := hide (eachS_more bs zs k s' cl acc hc hk0)
        have HD := hide hlit.two.d
        clear hc hlit
        go_wp2_with fail
        refine (HO.out _ HD.out).mono ?_
        rintro e w2 ⟨rfl, rfl⟩
        rw [hdc]
        go_wp2_with fail
        refine (HT.out).mono ?_
        rintro e w3 ⟨rfl, hl3, hs3, hkeep⟩
        have hown3 : w3.ownsRow w'.heap.size 9 1 u7 acc.length (acc.map strc) := own_keep hown (fun i hi hbi => hkeep i hi (by omega) (by omega))
        have hsz3 : w'.heap.size ≤ w3.heap.size := Nat.le_trans hsw hs3
        have HL3 := hide hl3
        clear hown hl3 hkeep HT HLT
        have hacl : acc.length = cl := HA.out.1
        have hlen3 : acc.length + 1 ≤ 2199023255552 := by omega
        generalize hst : (mNext bs s' (mPlace s') (szOf zs cl)).1.getD [] = st at HG ⊢
        have HST := hide hst
        clear hst
        unfold strc
        obtain ⟨stb, hstb⟩ : ∃ stb : ByteArray, stb = ⟨st.toArray⟩ := ⟨_, rfl⟩
        rw [← hstb]
        have HSTB := hide hstb
        clear hstb
        go_wp2_with (at_builtin; (refine wpList_append_own _ rfl _ _ 27 rfl w'.heap.size 9 i0 (.string ⟨#[]⟩) 1 16 Try.underlying27 hi hz0 hz1 hz2 rfl (by decide) _ _ _ rfl (hown3.alloc _) ⟨w3.heap.size, 0, none⟩ 1 1 [.string stb] rfl rfl (cell_one_new _ _ _) ?c2 ?c3 ?c4 (by rw [World.size_alloc]; omega) ?_))
        case c2 => intro u hu; simp at hu; subst hu; rfl
        case c3 => unfold maxLen; omega
        case c4 => omega
        intro v' w4 hown' hgrow _
        have hl4 := (HL3.out.alloc (.cells #[.string stb] 9)).own (wE := w') (.inr trivial) hzl hyl hcl hsl h00 HSVB.out HRVB.out (hown3.alloc _) hgrow
        have hs4 : w'.heap.size ≤ w4.heap.size := by have := hgrow.size; simp at this; omega
        clear hown3 hgrow
        go_wp2
        go_roundw
        case rel =>
          refine ⟨k - 1, acc ++ [st], (mNext bs s' (mPlace s') (szOf zs cl)).2, cl + 1, by go_num, by omega, ?_, by simp [hacl], ?_, hl4, hs4, ?_⟩
          · rw [List.map_append, List.length_append]
            have e : [st].map strc = [.string stb] := by rw [HSTB.out]; rfl
            rw [e, hacl]
            exact hown'
          · by_cases hlt : cl < zs.length
            · omega
            · have h5 := HP.out 1
              have hsz : szOf zs cl = 1 := by rw [szOf, dif_neg hlt]
              rw [hsz, exS, Nat.add_assoc, h5]
              omega
          · rw [HE.out, HG.out]
        case measure => simp [intOf]; omega
      · have hdc : decide (s'.code ≠ 0) = true := by simp [hc]
        have h6 := HR.out
        rw [HE.out, eachS_stop bs zs k s' cl acc hc] at h6
        have hg6 : gotS r' = [] := by rw [← h6, gotS, if_pos hc]
        have HD := hide hlit.two.d
        have HL := hide hlit
        have H6 := hide h6
        have HC := hide hc
        clear hlit hown h6 hc HLT
        go_wp2_with fail
        refine (HO.out _ HD.out).mono ?_
        rintro e w2 ⟨rfl, rfl⟩
        rw [hdc]
        go_wp2_with fail
        refine (HO.out _ HD.out).mono ?_
        rintro e w2 ⟨rfl, rfl⟩
        rw [hdc]
        go_wp2
        go_ret
        refine ⟨⟨_, rfl, by rw [hg6]; exact World.ownsRow_nil _ _ _ _⟩, ?_, hsw⟩
        rw [← H6.out]
        exact HL.out
    · obtain rfl : k = 0 := by omega
      have h6 := HR.out
      rw [HE.out, eachS] at h6
      have HD := hide hlit.two.d
      have HL := hide hlit
      have H6 := hide h6
      clear hlit h6 HLT
      by_cases hc : s'.code = 0
      · have hdc : decide (s'.code ≠ 0) = false := by simp [hc]
        have hg6 : gotS r' = acc := by rw [← H6.out, gotS, if_neg (by simp; exact hc)]
        clear hc
        have HOW := hide hown
        clear hown
        go_wp2_with fail
        refine (HO.out _ HD.out).mono ?_
        rintro e w2 ⟨rfl, rfl⟩
        rw [hdc]
        go_wp2
        go_ret
        refine ⟨⟨_, rfl, by rw [hg6]; exact HOW.out⟩, ?_, hsw⟩
        rw [← H6.out]
        exact HL.out
      · have hdc : decide (s'.code ≠ 0) = true := by simp [hc]
        have hg6 : gotS r' = [] := by rw [← H6.out, gotS, if_pos (by exact hc)]
        clear hc hown
        go_wp2_with fail
        refine (HO.out _ HD.out).mono ?_
        rintro e w2 ⟨rfl, rfl⟩
        rw [hdc]
        go_wp2
        go_ret
        refine ⟨⟨_, rfl, by rw [hg6]; exact World.ownsRow_nil _ _ _ _⟩, ?_, hsw⟩
        rw [← H6.out]
        exact HL.out
end Go.Proofs.Ytinjcefekbpabab
