/- The document's Pin: a key is laid into a rising list, at its place. -/
import Derived.Test.YtagnglkkmdeicaaPA6
namespace Go.Proofs.Ytagnglkkmdeicaa
set_option linter.unusedVariables false
set_option linter.unusedSimpArgs false
open Go.RowKit
set_option maxRecDepth 100000

theorem insK_yes {x : List UInt8} : ∀ {A : List (List UInt8)} (B : List (List UInt8)), (∃ y ∈ A, cmpK x y < 0) → insK x (A ++ B) = insK x A ++ B
  | [], _, h => by obtain ⟨y, hy, _⟩ := h; cases hy
  | a :: A, B, h => by
    rw [List.cons_append, insK, insK]
    by_cases e : cmpK x a = -1
    · rw [if_pos e, if_pos e]; rfl
    · rw [if_neg e, if_neg e, insK_yes B (by
        obtain ⟨y, hy, hc⟩ := h
        rcases List.mem_cons.1 hy with rfl | hy
        · rcases cmpK_range x y with q | q | q
          · exact absurd q e
          · omega
          · omega
        · exact ⟨y, hy, hc⟩)]
      rfl
theorem insK_no {x : List UInt8} : ∀ {A : List (List UInt8)} (B : List (List UInt8)), (∀ y ∈ A, ¬ cmpK x y < 0) → insK x (A ++ B) = A ++ insK x B
  | [], _, _ => rfl
  | a :: A, B, h => by
    have h1 := h a (List.mem_cons_self ..)
    rw [List.cons_append, insK, if_neg (by omega), insK_no B (fun y hy => h y (List.mem_cons_of_mem _ hy))]; rfl
/-- Between two rounds of Pin. -/
def LayP (x : List UInt8) (L : List (List UInt8)) (i : Nat) (laid : Bool) (M : List (List UInt8)) : Prop := (laid = true ∧ (∃ y ∈ L.take i, cmpK x y < 0) ∧ M = insK x (L.take i)) ∨ (laid = false ∧ (∀ y ∈ L.take i, ¬ cmpK x y < 0) ∧ M = L.take i)
theorem take_snoc {L : List (List UInt8)} {i : Nat} (h : i < L.length) {y : List UInt8} (hy : y = L[i]) : L.take (i + 1) = L.take i ++ [y] := by rw [List.take_succ_eq_append_getElem h, hy]
theorem LayP.kept {x y : List UInt8} {L M : List (List UInt8)} {i : Nat} (h : LayP x L i true M) (hi : i < L.length) (hy : y = L[i]) : LayP x L (i + 1) true (M ++ [y]) := by
  rcases h with ⟨_, ⟨q, hq, hc⟩, rfl⟩ | ⟨h, _⟩
  · refine .inl ⟨rfl, ⟨q, by rw [take_snoc hi hy]; exact List.mem_append.2 (.inl hq), hc⟩, ?_⟩
    rw [take_snoc hi hy, insK_yes [y] ⟨q, hq, hc⟩]
  · cases h
theorem LayP.laid {x y : List UInt8} {L M : List (List UInt8)} {i : Nat} (h : LayP x L i false M) (hi : i < L.length) (hy : y = L[i]) (hc : cmpK x y < 0) : LayP x L (i + 1) true (M ++ [x] ++ [y]) := by
  rcases h with ⟨h, _⟩ | ⟨_, hn, rfl⟩
  · cases h
  · refine .inl ⟨rfl, ⟨y, by rw [take_snoc hi hy]; simp, hc⟩, ?_⟩
    rw [take_snoc hi hy, insK_no [y] hn]
    have h1 : cmpK x y = -1 := by rcases cmpK_range x y with q | q | q <;> omega
    rw [insK, if_pos h1, List.append_assoc]; rfl
theorem LayP.past {x y : List UInt8} {L M : List (List UInt8)} {i : Nat} (h : LayP x L i false M) (hi : i < L.length) (hy : y = L[i]) (hc : ¬ cmpK x y < 0) : LayP x L (i + 1) false (M ++ [y]) := by
  rcases h with ⟨h, _⟩ | ⟨_, hn, rfl⟩
  · cases h
  · refine .inr ⟨rfl, fun q hq => ?_, (take_snoc hi hy).symm⟩
    rw [take_snoc hi hy] at hq
    rcases List.mem_append.1 hq with hq | hq
    · exact hn q hq
    · rw [List.mem_singleton.1 hq]; exact hc
theorem LayP.endT {x : List UInt8} {L M : List (List UInt8)} {i : Nat} (h : LayP x L i true M) (hi : L.length ≤ i) : M = insK x L := by
  rcases h with ⟨_, _, rfl⟩ | ⟨h, _⟩
  · rw [List.take_of_length_le hi]
  · cases h
theorem LayP.endF {x : List UInt8} {L M : List (List UInt8)} {i : Nat} (h : LayP x L i false M) (hi : L.length ≤ i) : M ++ [x] = insK x L := by
  rcases h with ⟨h, _⟩ | ⟨_, hn, rfl⟩
  · cases h
  · rw [List.take_of_length_le hi] at hn ⊢
    have := insK_no [] hn
    rw [List.append_nil] at this
    rw [this]; rfl
theorem LayP.len {x : List UInt8} {L M : List (List UInt8)} {i : Nat} {b : Bool} (h : LayP x L i b M) : M.length ≤ L.length + 1 := by
  rcases h with ⟨_, _, rfl⟩ | ⟨_, _, rfl⟩
  · rw [len_insK, List.length_take]; omega
  · rw [List.length_take]; omega
theorem ownQ_block {W : World} {B n cap : Nat} {ao : Option Addr} {a : Addr} {ks : List (List UInt8)} (h : OwnQ W B (.slice ao n cap) ks) (e : ao = some a) : (Value.slice (some a) n cap).ownBlock = some a.block := by
  subst e
  obtain ⟨h0, ⟨h1, h2⟩ | ⟨g, cap', cur, h1, _⟩⟩ := h
  · cases h1
  · cases h1; rfl
theorem ownQ_krow {W : World} {B n cap : Nat} {ao : Option Addr} {ks : List (List UInt8)} (h32 : ∀ k ∈ ks, k.length = 32) (h : OwnQ W B (.slice ao n cap) ks) : KRow W ao ks := by
  refine ⟨fun i hi => ?_, h32⟩
  obtain ⟨ao', cap', hv, hg⟩ := h.form
  obtain ⟨rfl, rfl, rfl⟩ := (Value.slice.injEq ..).mp hv
  obtain ⟨g, rfl⟩ := hg (by omega)
  refine ⟨g, 0, rfl, ?_⟩
  rw [Nat.zero_add]
  exact h.read h32 i hi
def RPinC (w : World) (zr : Nat) (D : List RfV) (k : Nat) (d : RfV) (x : List UInt8) (e : Ending) (w' : World) : Prop := e = .returned (.int .i64 0) ∧ ∃ ao cap, RfAt w' zr (D.set k { d with ao := ao, cap := cap, L := insK x d.L }) ∧ (∀ a : Addr, ao = some a → w.heap.size ≤ a.block) ∧ w.grownBy w' (some zr)
theorem rpin_no (w : World) (zr : Nat) (D : List RfV) (s : Int) (x : List UInt8) (h : RfAt w zr D) (ho : opD D s = false) : Calls Try.prog 19 #[.pointer (some ⟨zr, 0, none⟩), .int .i64 s, keyV x] w fun e w' => e = .returned (.int .i64 140) ∧ Below w.heap.size w w' := by
  have hB : Below w.heap.size w (w.alloc (.cells (x.map u8c).toArray 30)) := (Below.refl _ _).alloc (Nat.le_refl _) _
  have HI := hide (risNo (h.below hB) ho)
  have HB := hide hB
  clear h ho hB
  show Calls Try.prog 19 #[.pointer (some ⟨zr, 0, none⟩), .int .i64 s, .agg (x.map u8c).toArray] w _
  go_enter Try.func19, Try.ntmps19
  go_wp2_with (go_at_call 37; (with_reducible refine HI.out.mono ?_); rintro e w' ⟨rfl, rfl⟩)
  go_ret
  exact ⟨rfl, HB.out⟩
theorem rpin_has (w : World) (zr : Nat) (D : List RfV) (k : Nat) (d : RfV) (x : List UInt8) (hk : k < 16) (hx : x.length = 32) (h : RfAt w zr D) (hd : D[k]? = some d) (ho : d.op = true) (hl : d.L.length ≤ 4398046511104) (hin : x ∈ d.L) : Calls Try.prog 19 #[.pointer (some ⟨zr, 0, none⟩), .int .i64 (k : Int), keyV x] w fun e w' => e = .returned (.int .i64 0) ∧ Below w.heap.size w w' := by
  have hB : Below w.heap.size w (w.alloc (.cells (x.map u8c).toArray 30)) := (Below.refl _ _).alloc (Nat.le_refl _) _
  have HKA : Hid (KeyAt (w.alloc (.cells (x.map u8c).toArray 30)) w.heap.size x) := hide ⟨Blk.made w _ _, hx⟩
  have HI := hide (risYes (h.below hB) hk hd ho)
  have HH := hide (rhas_yes _ zr D k d x hk hx (h.below hB) hd ho hl)
  rw [decide_eq_true hin] at HH
  have HB := hide hB
  clear h ho hB hd hin hl
  show Calls Try.prog 19 #[.pointer (some ⟨zr, 0, none⟩), .int .i64 (k : Int), .agg (x.map u8c).toArray] w _
  go_enter Try.func19, Try.ntmps19
  go_wp2_with (first | (go_at_call 37; (with_reducible refine HI.out.mono ?_); rintro e w' ⟨rfl, hw⟩; rw [hw]; clear hw) | ((with_reducible refine wpList_key (.tmp 5) w.heap.size x HKA.out ?_ ?_ ?_ ?_); rfl; rfl; rfl) | (go_at_call 38; (with_reducible refine HH.out.mono ?_); rintro e w2 ⟨rfl, hb2⟩))
  go_ret
  exact ⟨rfl, HB.out.trans (hb2.mono HB.out.size)⟩
set_option maxHeartbeats 4000000 in
theorem rpin_new (w : World) (zr : Nat) (D : List RfV) (k : Nat) (d : RfV) (x : List UInt8) (hk : k < 16) (hx : x.length = 32) (h : RfAt w zr D) (hd : D[k]? = some d) (ho : d.op = true) (hl : d.L.length ≤ 4398046510976) (hin : x ∉ d.L) : Calls Try.prog 19 #[.pointer (some ⟨zr, 0, none⟩), .int .i64 (k : Int), keyV x] w (RPinC w zr D k d x) := by
  obtain ⟨W, hW⟩ : ∃ W, W = w.alloc (.cells (x.map u8c).toArray 30) := ⟨_, rfl⟩
  have hB : Below w.heap.size w W := by rw [hW]; exact (Below.refl _ _).alloc (Nat.le_refl _) _
  have hKA : KeyAt W w.heap.size x := by rw [hW]; exact ⟨Blk.made w _ _, hx⟩
  have HI := hide (risYes (h.below hB) hk hd ho)
  have HH := hide (rhas_yes W zr D k d x hk hx (h.below hB) hd ho (by omega))
  rw [decide_eq_false hin] at HH
  have HR : Hid (Rw w zr D w.heap.size x W) := hide ⟨h.below hB, hKA, hB⟩
  have HKA := hide hKA
  have HX := hide hx
  have HK := hide hk
  have HD := hide hd
  have HZR := hide h.blk.lt
  have H32 : Hid (∀ q ∈ d.L, q.length = 32) := hide (h.row k d hd).len
  obtain ⟨m, hm⟩ : ∃ m, m = d.L.length := ⟨_, rfl⟩
  have HM := hide hm
  rw [← hm] at hl
  have HML : Hid (d.L.length ≤ 4398046510976) := hide (by rw [← hm]; exact hl)
  have h2 : (k : Int) < 16 := by omega
  clear h ho hB hx hm hk hd hin hKA
  show Calls Try.prog 19 #[.pointer (some ⟨zr, 0, none⟩), .int .i64 (k : Int), .agg (x.map u8c).toArray] w _
  go_enter Try.func19, Try.ntmps19
  go_upto_region 1 with fail
  rw [← hW]
  clear hW
  go_upto_region 7 with (first | (go_at_call 37; (with_reducible refine HI.out.mono ?_); rintro e w' ⟨rfl, hw⟩; rw [hw]; clear hw) | ((with_reducible refine wpList_key (.tmp 5) w.heap.size x HKA.out ?_ ?_ ?_ ?_); rfl; rfl; rfl) | (go_at_call 38; (with_reducible refine HH.out.mono ?_); rintro e W0 ⟨rfl, hb2⟩))
  have HR0 := hide (HR.out.below hb2)
  have HW0 := hide HR0.out.bel
  have HRF : Hid (∀ w', Below W0.heap.size W0 w' → RfAt w' zr D) := hide (fun w' hb => HR0.out.rf.below hb)
  have HKX0 : Hid (∀ w', Below W0.heap.size W0 w' → KeyAt w' w.heap.size x) := hide (fun w' hb => HR0.out.key.below hb)
  have HZR0 : Hid (zr < W0.heap.size) := hide (Nat.lt_of_lt_of_le HZR.out HW0.out.size)
  clear HI HH HKA hb2 HR HZR
  have HZR := HZR0
  clear HZR0
  go_wp2
  go_loopw [7, 8, 9] (fun t b u wr => ∃ (i : Nat) (laid : Bool) (am : Option Addr) (mm cap : Nat) (M : List (List UInt8)), u = .int .i64 i ∧ i ≤ m ∧ b = .bool laid ∧ t = .slice am mm cap ∧ mm = M.length ∧ OwnQ wr W0.heap.size (.slice am mm cap) M ∧ LayP x d.L i laid M ∧ Below W0.heap.size W0 wr) (fun _ _ u _ => m - (intOf u).toNat)
  case atStart => exact ⟨0, false, none, 0, 0, [], rfl, by omega, rfl, rfl, rfl, World.ownsRow_nil _ _ _ _, .inr ⟨rfl, fun y hy => by simp at hy, by simp⟩, Below.refl _ _⟩
  case round =>
    obtain ⟨i, laid, am, mm, cap, M, rfl, hi, rfl, rfl, hmm, hO, hLay, hBr⟩ := hrel
    have hMl := hLay.len
    have HMM0 := hide hmm
    have HLAY := hide hLay
    have HBr := hide hBr
    have HOw := hide hO
    have HMM : Hid (mm = M.length) := HMM0
    have HML2 : Hid (M.length ≤ d.L.length + 1) := hide hMl
    have hck := (HRF.out wr hBr).cK HD.out
    rw [← HM.out] at hck
    clear hmm hLay hO hMl HMM0
    have HMLd := HML
    clear HML
    have HML : Hid (M.length + 2 ≤ 4398046511104) := hide (by have := HML2.out; have := HMLd.out; omega)
    by_cases hlt : i < m
    · have hii : (i : Int) < (m : Int) := by omega
      have hil : i < d.L.length := by rw [← HM.out]; exact hlt
      obtain ⟨y, hy⟩ : ∃ y, y = d.L[i] := ⟨_, rfl⟩
      obtain ⟨g, o, hao, hrd⟩ := HR0.out.at' HD.out hil hy
      have hyl : y.length = 32 := by rw [hy]; exact H32.out _ (List.getElem_mem _)
      rw [hao] at hck
      rw [← HM.out] at hrd
      have HRD := hide hrd
      have HY := hide hyl
      have HYE : Hid (∀ h : i < d.L.length, y = d.L[i]) := hide (fun _ => hy)
      have HIL := hide hil
      have HLS := hide (less_any x y HX.out hyl wr.drew)
      clear hrd hyl hao hy hil hBr
      go_upto_region 10 with fail
      cases laid with
      | true =>
        refine rp_walk _ (fun _ _ _ _ _ h => h) wr _ (Nat.lt_of_sub_pos (by exact Nat.succ_pos _)) rfl ?_
        simp only [Act.put, List.setIfInBounds_toArray, List.set_cons_zero, List.set_cons_succ]
        have HBd := hide (HBr.out.trans ((below_d wr).mono HBr.out.size))
        have HOd := hide (HOw.out.below (below_d wr))
        obtain ⟨wd, hwd⟩ : ∃ wd, wd = wr.drew := ⟨_, rfl⟩
        rw [← hwd] at HBd HOd ⊢
        clear hwd HLS HOw HBr hck
        go_upto_region 13 with fail
        have HRY := hide (HRD.out _ HBd.out).2.1
        have hckwd := (HRD.out _ HBd.out).1
        have HL_wz : Hid ((M).length + 1 ≤ 4398046511104) := hide (by have := HMM.out; have := HML.out; omega)
        have HZ_wz : Hid (W0.heap.size ≤ (wd.alloc (.cells (y.map u8c).toArray 30)).heap.size) := hide (by have := HBd.out.size; simp; omega)
        have HOA_wz : Hid (OwnQ (wd.alloc (.cells (y.map u8c).toArray 30)) W0.heap.size (.slice am mm cap) (M)) := hide (HOd.out.below ((Below.refl _ _).alloc (Nat.le_refl _) _))
        have HBK_wz : Hid (Blk (wd.alloc (.cells (y.map u8c).toArray 30)) wd.heap.size (y.map u8c).toArray 30) := hide (Blk.made wd _ _)
        go_upto_region 9 with (first | ((with_reducible refine wpList_load_keyAt (.tmp 56) g (o + i * 32) y HY.out HRY.out ?_ ?_ ?_ ?_); rfl; rfl; rfl) | ((with_reducible refine wpList_bsQ (.tmp 57) y HY.out ?_ ?_ ?_ ?_); rfl; rfl; rfl) | ((with_reducible refine wpList_appendQ ?_ (.tmp 48) (.tmp 58) ?_ W0.heap.size (.slice am mm cap) (M) ?_ HOA_wz.out wd.heap.size ?_ y HY.out HBK_wz.out HL_wz.out HZ_wz.out ?_); rfl; rfl; rfl; rfl; intro v_wz wz O_wz G_wz))
        have HBz : Hid (Below W0.heap.size W0 wz) := hide (by
          have ha : Below wd.heap.size wd (wd.alloc (.cells (y.map u8c).toArray 30)) := (Below.refl _ _).alloc (Nat.le_refl _) _
          have hown := HOA_wz.out.own
          have h3 : Below W0.heap.size (wd.alloc (.cells (y.map u8c).toArray 30)) wz := (Below.refl _ _).grown G_wz.out HZ_wz.out (fun g hg => hown g hg)
          exact (HBd.out.trans (ha.mono HBd.out.size)).trans h3)
        obtain ⟨amz, capz, hv_wz, _⟩ := O_wz.out.form
        subst hv_wz
        obtain ⟨mz, hmm_wz⟩ : ∃ q, q = (M ++ [y]).length := ⟨_, rfl⟩
        have HMM_wz := hide hmm_wz
        rw [← hmm_wz] at O_wz ⊢
        have HOz := O_wz
        clear HL_wz HZ_wz HOA_wz HBK_wz G_wz hmm_wz O_wz
        clear hckwd HRY
        go_wp2
        exact ⟨⟨i + 1, true, amz, mz, capz, M ++ [y], by go_num, by omega, rfl, rfl, HMM_wz.out, HOz.out, HLAY.out.kept HIL.out (HYE.out HIL.out), HBz.out⟩, by simp [intOf]; omega⟩
      | false =>
        by_cases hlc : cmpK x y < 0
        · rw [decide_eq_true hlc] at HLS
          have HLC : Hid (cmpK x y < 0) := hide hlc
          clear hlc
          refine rq_walk _ (fun _ _ _ _ _ h => h) wr zr k g o m d.cap i w.heap.size x y HX.out HY.out HK.out hlt (fun w' hb => HRD.out w' (HBr.out.trans (hb.mono HBr.out.size))) true HLS.out _ (Nat.lt_of_sub_pos (by exact Nat.succ_pos _)) rfl rfl rfl rfl rfl ?_
          intro wd hb1
          simp only [Act.put, List.setIfInBounds_toArray, List.set_cons_zero, List.set_cons_succ]
          have HBd := hide (HBr.out.trans (hb1.mono HBr.out.size))
          have HOd := hide (HOw.out.below hb1)
          clear HLS HOw HBr hb1 hck
          have HKX := hide (HRD.out _ HBd.out).2.2
          have HL_we : Hid ((M).length + 1 ≤ 4398046511104) := hide (by have := HMM.out; have := HML.out; omega)
          have HZ_we : Hid (W0.heap.size ≤ (wd.alloc (.cells (x.map u8c).toArray 30)).heap.size) := hide (by have := HBd.out.size; simp; omega)
          have HOA_we : Hid (OwnQ (wd.alloc (.cells (x.map u8c).toArray 30)) W0.heap.size (.slice am mm cap) (M)) := hide (HOd.out.below ((Below.refl _ _).alloc (Nat.le_refl _) _))
          have HBK_we : Hid (Blk (wd.alloc (.cells (x.map u8c).toArray 30)) wd.heap.size (x.map u8c).toArray 30) := hide (Blk.made wd _ _)
          go_upto_region 12 with (first | ((with_reducible refine wpList_key (.tmp 5) w.heap.size x HKX.out ?_ ?_ ?_ ?_); rfl; rfl; rfl) | ((with_reducible refine wpList_bsQ (.tmp 45) x HX.out ?_ ?_ ?_ ?_); rfl; rfl; rfl) | ((with_reducible refine wpList_appendQ ?_ (.tmp 44) (.tmp 46) ?_ W0.heap.size (.slice am mm cap) (M) ?_ HOA_we.out wd.heap.size ?_ x HX.out HBK_we.out HL_we.out HZ_we.out ?_); rfl; rfl; rfl; rfl; intro v_we we O_we G_we))
          have HBe : Hid (Below W0.heap.size W0 we) := hide (by
            have ha : Below wd.heap.size wd (wd.alloc (.cells (x.map u8c).toArray 30)) := (Below.refl _ _).alloc (Nat.le_refl _) _
            have hown := HOA_we.out.own
            have h3 : Below W0.heap.size (wd.alloc (.cells (x.map u8c).toArray 30)) we := (Below.refl _ _).grown G_we.out HZ_we.out (fun g hg => hown g hg)
            exact (HBd.out.trans (ha.mono HBd.out.size)).trans h3)
          obtain ⟨ame, cape, hv_we, _⟩ := O_we.out.form
          subst hv_we
          obtain ⟨me, hmm_we⟩ : ∃ q, q = (M ++ [x]).length := ⟨_, rfl⟩
          have HMM_we := hide hmm_we
          rw [← hmm_we] at O_we ⊢
          have HOe := O_we
          clear HL_we HZ_we HOA_we HBK_we G_we hmm_we O_we
          go_upto_region 13 with fail
          have HRY := hide (HRD.out _ HBe.out).2.1
          have hckwe := (HRD.out _ HBe.out).1
          have HL_wz : Hid ((M ++ [x]).length + 1 ≤ 4398046511104) := hide (by have := HMM.out; have := HML.out; rw [List.length_append, List.length_singleton]; omega)
          have HZ_wz : Hid (W0.heap.size ≤ (we.alloc (.cells (y.map u8c).toArray 30)).heap.size) := hide (by have := HBe.out.size; simp; omega)
          have HOA_wz : Hid (OwnQ (we.alloc (.cells (y.map u8c).toArray 30)) W0.heap.size (.slice ame me cape) (M ++ [x])) := hide (HOe.out.below ((Below.refl _ _).alloc (Nat.le_refl _) _))
          have HBK_wz : Hid (Blk (we.alloc (.cells (y.map u8c).toArray 30)) we.heap.size (y.map u8c).toArray 30) := hide (Blk.made we _ _)
          go_upto_region 9 with (first | ((with_reducible refine wpList_load_keyAt (.tmp 56) g (o + i * 32) y HY.out HRY.out ?_ ?_ ?_ ?_); rfl; rfl; rfl) | ((with_reducible refine wpList_bsQ (.tmp 57) y HY.out ?_ ?_ ?_ ?_); rfl; rfl; rfl) | ((with_reducible refine wpList_appendQ ?_ (.tmp 48) (.tmp 58) ?_ W0.heap.size (.slice ame me cape) (M ++ [x]) ?_ HOA_wz.out we.heap.size ?_ y HY.out HBK_wz.out HL_wz.out HZ_wz.out ?_); rfl; rfl; rfl; rfl; intro v_wz wz O_wz G_wz))
          have HBz : Hid (Below W0.heap.size W0 wz) := hide (by
            have ha : Below we.heap.size we (we.alloc (.cells (y.map u8c).toArray 30)) := (Below.refl _ _).alloc (Nat.le_refl _) _
            have hown := HOA_wz.out.own
            have h3 : Below W0.heap.size (we.alloc (.cells (y.map u8c).toArray 30)) wz := (Below.refl _ _).grown G_wz.out HZ_wz.out (fun g hg => hown g hg)
            exact (HBe.out.trans (ha.mono HBe.out.size)).trans h3)
          obtain ⟨amz, capz, hv_wz, _⟩ := O_wz.out.form
          subst hv_wz
          obtain ⟨mz, hmm_wz⟩ : ∃ q, q = (M ++ [x] ++ [y]).length := ⟨_, rfl⟩
          have HMM_wz := hide hmm_wz
          rw [← hmm_wz] at O_wz ⊢
          have HOz := O_wz
          clear HL_wz HZ_wz HOA_wz HBK_wz G_wz hmm_wz O_wz
          clear hckwe HRY
          go_wp2
          exact ⟨⟨i + 1, true, amz, mz, capz, M ++ [x] ++ [y], by go_num, by omega, rfl, rfl, HMM_wz.out, HOz.out, HLAY.out.laid HIL.out (HYE.out HIL.out) HLC.out, HBz.out⟩, by simp [intOf]; omega⟩
        · rw [decide_eq_false hlc] at HLS
          have HLC : Hid (¬ cmpK x y < 0) := hide hlc
          clear hlc
          refine rq_walk _ (fun _ _ _ _ _ h => h) wr zr k g o m d.cap i w.heap.size x y HX.out HY.out HK.out hlt (fun w' hb => HRD.out w' (HBr.out.trans (hb.mono HBr.out.size))) false HLS.out _ (Nat.lt_of_sub_pos (by exact Nat.succ_pos _)) rfl rfl rfl rfl rfl ?_
          intro wd hb1
          simp only [Act.put, List.setIfInBounds_toArray, List.set_cons_zero, List.set_cons_succ]
          have HBd := hide (HBr.out.trans (hb1.mono HBr.out.size))
          have HOd := hide (HOw.out.below hb1)
          clear HLS HOw HBr hb1 hck
          go_upto_region 13 with fail
          have HRY := hide (HRD.out _ HBd.out).2.1
          have hckwd := (HRD.out _ HBd.out).1
          have HL_wz : Hid ((M).length + 1 ≤ 4398046511104) := hide (by have := HMM.out; have := HML.out; omega)
          have HZ_wz : Hid (W0.heap.size ≤ (wd.alloc (.cells (y.map u8c).toArray 30)).heap.size) := hide (by have := HBd.out.size; simp; omega)
          have HOA_wz : Hid (OwnQ (wd.alloc (.cells (y.map u8c).toArray 30)) W0.heap.size (.slice am mm cap) (M)) := hide (HOd.out.below ((Below.refl _ _).alloc (Nat.le_refl _) _))
          have HBK_wz : Hid (Blk (wd.alloc (.cells (y.map u8c).toArray 30)) wd.heap.size (y.map u8c).toArray 30) := hide (Blk.made wd _ _)
          go_upto_region 9 with (first | ((with_reducible refine wpList_load_keyAt (.tmp 56) g (o + i * 32) y HY.out HRY.out ?_ ?_ ?_ ?_); rfl; rfl; rfl) | ((with_reducible refine wpList_bsQ (.tmp 57) y HY.out ?_ ?_ ?_ ?_); rfl; rfl; rfl) | ((with_reducible refine wpList_appendQ ?_ (.tmp 48) (.tmp 58) ?_ W0.heap.size (.slice am mm cap) (M) ?_ HOA_wz.out wd.heap.size ?_ y HY.out HBK_wz.out HL_wz.out HZ_wz.out ?_); rfl; rfl; rfl; rfl; intro v_wz wz O_wz G_wz))
          have HBz : Hid (Below W0.heap.size W0 wz) := hide (by
            have ha : Below wd.heap.size wd (wd.alloc (.cells (y.map u8c).toArray 30)) := (Below.refl _ _).alloc (Nat.le_refl _) _
            have hown := HOA_wz.out.own
            have h3 : Below W0.heap.size (wd.alloc (.cells (y.map u8c).toArray 30)) wz := (Below.refl _ _).grown G_wz.out HZ_wz.out (fun g hg => hown g hg)
            exact (HBd.out.trans (ha.mono HBd.out.size)).trans h3)
          obtain ⟨amz, capz, hv_wz, _⟩ := O_wz.out.form
          subst hv_wz
          obtain ⟨mz, hmm_wz⟩ : ∃ q, q = (M ++ [y]).length := ⟨_, rfl⟩
          have HMM_wz := hide hmm_wz
          rw [← hmm_wz] at O_wz ⊢
          have HOz := O_wz
          clear HL_wz HZ_wz HOA_wz HBK_wz G_wz hmm_wz O_wz
          clear hckwd HRY
          go_wp2
          exact ⟨⟨i + 1, false, amz, mz, capz, M ++ [y], by go_num, by omega, rfl, rfl, HMM_wz.out, HOz.out, HLAY.out.past HIL.out (HYE.out HIL.out) HLC.out, HBz.out⟩, by simp [intOf]; omega⟩
    · have hii : ¬ (i : Int) < (m : Int) := by omega
      have HIM : Hid (d.L.length ≤ i) := hide (by rw [← HM.out]; omega)
      clear hBr hlt
      cases laid with
      | true =>
        go_upto_region 16 with fail
        have hckf := (HRF.out wr HBr.out).cK HD.out
        rw [← HM.out] at hckf
        have hff := (HRF.out wr HBr.out).blk.frozen (32 + k)
        obtain ⟨Mn, hMn⟩ : ∃ Mn, Mn = insK x d.L := ⟨_, rfl⟩
        have HMN : Hid (M = Mn) := hide (by rw [hMn]; exact HLAY.out.endT HIM.out)
        rw [HMN.out] at HOw
        have HLEN : Hid (mm = Mn.length) := hide (by rw [← HMN.out]; exact HMM.out)
        have HKR : Hid (KRow wr am Mn) := hide (ownQ_krow (by rw [hMn]; intro q hq; rcases (mem_insK x d.L q).1 hq with e | e; exact e ▸ HX.out; exact H32.out q e) HOw.out)
        have HFR : Hid (∀ a : Addr, am = some a → W0.heap.size ≤ a.block) := hide (fun a e => HOw.out.own a.block (by rw [e]; exact ownQ_block HOw.out e))
        have HGO : Hid (∀ v, v = Value.slice am mm cap → RfAt (wr.setCell ⟨zr, 32 + k, none⟩ v) zr (D.set k { d with ao := am, cap := cap, L := Mn })) := hide (fun v e => by
          rw [e, HLEN.out]
          exact (HRF.out wr HBr.out).setK HD.out am cap Mn HKR.out (fun a ea e2 => by have h1 := HFR.out a ea; have h2 := HZR.out; omega))
        clear HKR HOw
        go_wp2
        go_ret
        exact ⟨rfl, am, cap, by rw [← hMn]; exact HGO.out _ rfl, fun a e => Nat.le_trans HW0.out.size (HFR.out a e), grownBy_trans (grownBy_below (HW0.out.trans (HBr.out.mono HW0.out.size))) (grownBy_set _ _ _ _)⟩
      | false =>
        have HKX : Hid (KeyAt wr w.heap.size x) := hide (HKX0.out _ HBr.out)
        have HL_we : Hid ((M).length + 1 ≤ 4398046511104) := hide (by have := HMM.out; have := HML.out; omega)
        have HZ_we : Hid (W0.heap.size ≤ (wr.alloc (.cells (x.map u8c).toArray 30)).heap.size) := hide (by have := HBr.out.size; simp; omega)
        have HOA_we : Hid (OwnQ (wr.alloc (.cells (x.map u8c).toArray 30)) W0.heap.size (.slice am mm cap) (M)) := hide (HOw.out.below ((Below.refl _ _).alloc (Nat.le_refl _) _))
        have HBK_we : Hid (Blk (wr.alloc (.cells (x.map u8c).toArray 30)) wr.heap.size (x.map u8c).toArray 30) := hide (Blk.made wr _ _)
        go_upto_region 16 with (first | ((with_reducible refine wpList_key (.tmp 5) w.heap.size x HKX.out ?_ ?_ ?_ ?_); rfl; rfl; rfl) | ((with_reducible refine wpList_bsQ (.tmp 63) x HX.out ?_ ?_ ?_ ?_); rfl; rfl; rfl) | ((with_reducible refine wpList_appendQ ?_ (.tmp 62) (.tmp 64) ?_ W0.heap.size (.slice am mm cap) (M) ?_ HOA_we.out wr.heap.size ?_ x HX.out HBK_we.out HL_we.out HZ_we.out ?_); rfl; rfl; rfl; rfl; intro v_we we O_we G_we))
        have HBe : Hid (Below W0.heap.size W0 we) := hide (by
          have ha : Below wr.heap.size wr (wr.alloc (.cells (x.map u8c).toArray 30)) := (Below.refl _ _).alloc (Nat.le_refl _) _
          have hown := HOA_we.out.own
          have h3 : Below W0.heap.size (wr.alloc (.cells (x.map u8c).toArray 30)) we := (Below.refl _ _).grown G_we.out HZ_we.out (fun g hg => hown g hg)
          exact (HBr.out.trans (ha.mono HBr.out.size)).trans h3)
        obtain ⟨ame, cape, hv_we, _⟩ := O_we.out.form
        subst hv_we
        obtain ⟨me, hmm_we⟩ : ∃ q, q = (M ++ [x]).length := ⟨_, rfl⟩
        have HMM_we := hide hmm_we
        rw [← hmm_we] at O_we ⊢
        have HOe := O_we
        clear HL_we HZ_we HOA_we HBK_we G_we hmm_we O_we
        have hckf := (HRF.out we HBe.out).cK HD.out
        rw [← HM.out] at hckf
        have hff := (HRF.out we HBe.out).blk.frozen (32 + k)
        obtain ⟨Mn, hMn⟩ : ∃ Mn, Mn = insK x d.L := ⟨_, rfl⟩
        have HMN : Hid ((M ++ [x]) = Mn) := hide (by rw [hMn]; exact HLAY.out.endF HIM.out)
        rw [HMN.out] at HOe
        have HLEN : Hid (me = Mn.length) := hide (by rw [← HMN.out]; exact HMM_we.out)
        have HKR : Hid (KRow we ame Mn) := hide (ownQ_krow (by rw [hMn]; intro q hq; rcases (mem_insK x d.L q).1 hq with e | e; exact e ▸ HX.out; exact H32.out q e) HOe.out)
        have HFR : Hid (∀ a : Addr, ame = some a → W0.heap.size ≤ a.block) := hide (fun a e => HOe.out.own a.block (by rw [e]; exact ownQ_block HOe.out e))
        have HGO : Hid (∀ v, v = Value.slice ame me cape → RfAt (we.setCell ⟨zr, 32 + k, none⟩ v) zr (D.set k { d with ao := ame, cap := cape, L := Mn })) := hide (fun v e => by
          rw [e, HLEN.out]
          exact (HRF.out we HBe.out).setK HD.out ame cape Mn HKR.out (fun a ea e2 => by have h1 := HFR.out a ea; have h2 := HZR.out; omega))
        clear HKR HOe
        go_wp2
        go_ret
        exact ⟨rfl, ame, cape, by rw [← hMn]; exact HGO.out _ rfl, fun a e => Nat.le_trans HW0.out.size (HFR.out a e), grownBy_trans (grownBy_below (HW0.out.trans (HBe.out.mono HW0.out.size))) (grownBy_set _ _ _ _)⟩
end Go.Proofs.Ytagnglkkmdeicaa
