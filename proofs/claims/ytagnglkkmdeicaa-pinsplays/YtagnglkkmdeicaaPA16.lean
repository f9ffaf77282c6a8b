/- PinsPlays: told, given what spoilt leaves. -/
import Derived.Test.YtagnglkkmdeicaaPA14
namespace Go.Proofs.Ytagnglkkmdeicaa
set_option linter.unusedVariables false
set_option linter.unusedSimpArgs false
open Go.RowKit Go.Shelf
set_option maxRecDepth 100000

/-- What spoilt answers: every list is marked, grown and looked at; of the old blocks only its own have changed. -/
def SpoH : Prop := ∀ (w : World) (B : Nat) (v : Value) (E : List SeV) (q : Int), LstS w B v E → B ≤ w.heap.size → E.length ≤ 16 → (∀ e ∈ E, e.xs.length ≤ 4398046510976) → q = 1 ∨ q = 2 → Calls Try.prog 44 #[v, .int .i64 q] w fun e w' => e = .returned (.bool true) ∧ Chg (OwnT v E) w w'
theorem tellT_few (f : Nat → Option (Nat × List (List UInt8))) : ∀ m, (tellT f m).length ≤ m
  | 0 => Nat.le_refl _
  | m + 1 => by
    have := tellT_few f m
    rw [tellT, List.length_append]
    split
    · simp; omega
    · simp; omega
theorem tellT_mem {f : Nat → Option (Nat × List (List UInt8))} {b : Nat} (hf : ∀ k p, f k = some p → p.2.length ≤ b) : ∀ m, ∀ t ∈ tellT f m, t.2.2.length ≤ b
  | 0, t, h => by cases h
  | m + 1, t, h => by
    rw [tellT] at h
    rcases List.mem_append.1 h with h | h
    · exact tellT_mem hf m t h
    · cases e : f m with
      | none => rw [e] at h; cases h
      | some p => rw [e] at h; rw [List.mem_singleton.1 h]; exact hf m p e
/-- A row of sessions that tells what both tell. -/
structure SesG (D : List RfV) (W : World) (B : Nat) (v : Value) (E : List SeV) : Prop where
  row : LstS W B v E
  tell : E.map projS = tellT (fD D) 16
theorem SesG.below {D : List RfV} {W W' : World} {B : Nat} {v : Value} {E : List SeV} (h : SesG D W B v E) (hb : Below W.heap.size W W') : SesG D W' B v E := ⟨h.row.below hb, h.tell⟩
theorem SesG.few {D : List RfV} {W : World} {B : Nat} {v : Value} {E : List SeV} (h : SesG D W B v E) : E.length ≤ 16 := by
  have := tellT_few (fD D) 16
  rw [← h.tell, List.length_map] at this
  exact this
theorem SesG.small {D : List RfV} {W : World} {B n : Nat} {v : Value} {E : List SeV} (h : SesG D W B v E) (hf : ∀ (k : Nat) (d : RfV), D[k]? = some d → d.L.length ≤ n) : ∀ e ∈ E, e.xs.length ≤ n := fun e he => by
  have hm : projS e ∈ tellT (fD D) 16 := by rw [← h.tell]; exact List.mem_map.2 ⟨e, he, rfl⟩
  refine tellT_mem (b := n) (fun k p e2 => ?_) 16 (projS e) hm
  unfold fD at e2
  cases e3 : D[k]? with
  | none => rw [e3] at e2; cases e2
  | some d =>
    rw [e3] at e2
    simp only [Option.bind_some] at e2
    split at e2
    · cases e2; exact hf k d e3
    · cases e2
theorem SesG.same {D : List RfV} {W : World} {B C n : Nat} {v u : Value} {E F : List SeV} (h : SesG D W B v E) (g : SesG D W C u F) (hn : n ≤ 4398046510976) (hf : ∀ (k : Nat) (d : RfV), D[k]? = some d → d.L.length ≤ n) : Calls Try.prog 43 #[v, u] W fun e w' => e = .returned (.bool true) ∧ Below W.heap.size W w' :=
  same_any W v u E F h.row.read g.row.read (h.tell.trans g.tell.symm) (fun e he => by have := h.small hf e he; omega) (by have := h.few; omega)
section
variable {w : World} {zp zr n : Nat} {os : List (Option SesV)} {D : List RfV}
def ToldOk (w : World) (e : Ending) (w' : World) : Prop := e = .returned (.bool true) ∧ Below w.heap.size w w'
set_option maxHeartbeats 4000000 in
theorem told_any (SP : SpoH) (h : One w zp zr os D n) (hn : n ≤ 4398046510976) (dd s : Int) (ot al : Bool) (x : List UInt8) (hx : x.length = 32) : Calls Try.prog 24 #[.pointer (some ⟨zp, 0, none⟩), .pointer (some ⟨zr, 0, none⟩), .agg (stL dd ot s x al).toArray] w (ToldOk w) := by
  obtain ⟨A, hA⟩ : ∃ A : Array Value, A = (stL dd ot s x al).toArray := ⟨_, rfl⟩
  rw [← hA]
  obtain ⟨W, hW⟩ : ∃ W, W = w.alloc (.cells A 32) := ⟨_, rfl⟩
  obtain ⟨zx, hzx⟩ : ∃ zx, zx = w.heap.size := ⟨_, rfl⟩
  have hb : Below w.heap.size w W := by rw [hW]; exact (Below.refl _ _).alloc (Nat.le_refl _) _
  have hO := h.below hb
  have hSt : StAt W zx dd s x al := by rw [hW, hA, hzx]; exact StAt.made w dd ot s x al hx
  have HSt := hide hSt
  have hc0 := hSt.c0
  have HO := hide hO
  have HB := hide hb
  have HX := hide hx
  have HN := hide hn
  have HFW := hide h.rel.few
  have hAsz : A.size = 36 := by rw [hA]; simp [stL, hx]
  have HAS := hide hAsz
  clear h hb hO hSt hn hx hA hAsz
  go_enter Try.func24, Try.ntmps24
  go_upto_region 1 with fail
  rw [← hW, ← hzx]
  clear hW hzx
  by_cases d5 : dd = 5
  · subst d5
    go_upto_region 3 with fail
    refine tl3_walk _ (fun _ _ _ _ _ h => h) W zp zr zx s x HX.out (opD D s) (fun w1 => Below W.heap.size W w1) (fun w2 => Below W.heap.size W w2) ⟨(HSt.out.below (below_d W)).c2, (HSt.out.below (below_d W)).key⟩ ?a1 (fun w1 q => ⟨(HSt.out.below q).c2, (HSt.out.below q).key⟩) ?a2 (fun w1 q => ⟨(HSt.out.below q).c2, (HSt.out.below q).key⟩) _ (Nat.lt_of_sub_pos (by exact Nat.succ_pos _)) rfl rfl rfl ?a3
    case a1 =>
      have := isOpen_any W.drew zp os s (HO.out.below (below_d W)).p
      rw [HO.out.open' s] at this
      exact this.mono fun e w' q => ⟨q.1, by rw [q.2]; exact below_d W⟩
    case a2 => exact fun w1 q => (risOpen_any w1 zr D s (HO.out.below q).r).mono fun e w' r => ⟨r.1, by rw [r.2]; exact q⟩
    case a3 =>
      intro w2 hb2
      have HB2 := hide (HB.out.trans (hb2.mono HB.out.size))
      simp only [Act.put, List.setIfInBounds_toArray, List.set_cons_zero, List.set_cons_succ]
      go_wp2
      go_ret
      exact ⟨rfl, HB2.out⟩
  by_cases d6 : dd = 6
  · subst d6
    go_upto_region 5 with fail
    refine tl5_walk _ (fun _ _ _ _ _ h => h) W zp zr zx s x HX.out (hasO (sel os s) x) (fun w1 => Below W.heap.size W w1) (fun w2 => Below W.heap.size W w2) ⟨(HSt.out.below (below_d W)).c2, (HSt.out.below (below_d W)).key⟩ ?a1 (fun w1 q => ⟨(HSt.out.below q).c2, (HSt.out.below q).key⟩) ?a2 (fun w1 q => ⟨(HSt.out.below q).c2, (HSt.out.below q).key⟩) _ (Nat.lt_of_sub_pos (by exact Nat.succ_pos _)) rfl rfl rfl ?a3
    case a1 => exact (phas_any W.drew zp os s x HX.out (HO.out.below (below_d W)).p).mono fun e w' q => ⟨q.1, (below_d W).trans q.2⟩
    case a2 => exact fun w1 q => (rhas_one (HO.out.below q) HN.out s x HX.out).mono fun e w' r => ⟨r.1, q.trans (r.2.mono q.size)⟩
    case a3 =>
      intro w2 hb2
      have HB2 := hide (HB.out.trans (hb2.mono HB.out.size))
      simp only [Act.put, List.setIfInBounds_toArray, List.set_cons_zero, List.set_cons_succ]
      go_wp2
      go_ret
      exact ⟨rfl, HB2.out⟩
  by_cases d7 : dd = 7
  · subst d7
    go_upto_region 7 with fail
    refine tl7_walk _ (fun _ _ _ _ _ h => h) W zp zr zx s x HX.out (busyO (sel os s) : Nat) (fun w1 => Below W.heap.size W w1) (fun w2 => Below W.heap.size W w2) ⟨(HSt.out.below (below_d W)).c2, (HSt.out.below (below_d W)).key⟩ ?a1 (fun w1 q => ⟨(HSt.out.below q).c2, (HSt.out.below q).key⟩) ?a2 (fun w1 q => ⟨(HSt.out.below q).c2, (HSt.out.below q).key⟩) _ (Nat.lt_of_sub_pos (by exact Nat.succ_pos _)) rfl rfl rfl ?a3
    case a1 => exact (busy_any W.drew zp os s (HO.out.below (below_d W)).p).mono fun e w' q => ⟨q.1, by rw [q.2]; exact below_d W⟩
    case a2 => exact fun w1 q => (rbusy_any (HO.out.below q) s).mono fun e w' r => ⟨r.1, q.trans (r.2.mono q.size)⟩
    case a3 =>
      intro w2 hb2
      have HB2 := hide (HB.out.trans (hb2.mono HB.out.size))
      simp only [Act.put, List.setIfInBounds_toArray, List.set_cons_zero, List.set_cons_succ]
      go_wp2
      go_ret
      exact ⟨rfl, HB2.out⟩
  by_cases d9 : dd = 9
  · subst d9
    go_upto_region 13 with fail
    refine tl13_walk _ (fun _ _ _ _ _ h => h) W zp zr zx s x HX.out (cnt os x 16 : Nat) (fun w1 => Below W.heap.size W w1) (fun w2 => Below W.heap.size W w2) ⟨(HSt.out.below (below_d W)).c2, (HSt.out.below (below_d W)).key⟩ ?a1 (fun w1 q => ⟨(HSt.out.below q).c2, (HSt.out.below q).key⟩) ?a2 (fun w1 q => ⟨(HSt.out.below q).c2, (HSt.out.below q).key⟩) _ (Nat.lt_of_sub_pos (by exact Nat.succ_pos _)) rfl rfl rfl ?a3
    case a1 => exact (count_any W.drew zp os x HX.out (HO.out.below (below_d W)).p).mono fun e w' q => ⟨q.1, (below_d W).trans q.2⟩
    case a2 => exact fun w1 q => (rcount_one (HO.out.below q) HN.out x HX.out).mono fun e w' r => ⟨r.1, q.trans (r.2.mono q.size)⟩
    case a3 =>
      intro w2 hb2
      have HB2 := hide (HB.out.trans (hb2.mono HB.out.size))
      simp only [Act.put, List.setIfInBounds_toArray, List.set_cons_zero, List.set_cons_succ]
      go_wp2
      go_ret
      exact ⟨rfl, HB2.out⟩
  by_cases d8 : dd = 8
  · subst d8
    have hc2 := HSt.out.c2
    have hc35 := HSt.out.c35
    have HKR := hide HSt.out.key
    have HNX := hide (pnext_any W zp os s x al HX.out HO.out.p)
    have hz := zero_key
    go_upto_region 10 with (first | ((with_reducible refine wpList_load_keyAt (.tmp 60) zx 3 x HX.out HKR.out ?_ ?_ ?_ ?_); rfl; rfl; rfl) | (go_at_call 11; (with_reducible refine HNX.out.mono ?_); rintro e w2 ⟨k1, ok1, rfl, hk1, hL1, hb2⟩; have HK1 := hide hk1; have HL1 := hide hL1; have HB2 := hide hb2; clear hk1 hL1 hb2) | ((with_reducible refine wpList_put_key ?_ (.tmp 7) (.tmp 65) ?_ w2.heap.size ?_ w2 ?_ ?_ k1 HK1.out ?_ ?_); rfl; rfl; rfl; rfl; rfl; rfl; intro w3 HKA hb3))
    have hbw : Below W.heap.size W w3 := HB2.out.trans (hb3.mono HB2.out.size)
    have hS3 := HSt.out.below hbw
    have hc23 := hS3.c2
    have hc353 := hS3.c35
    have HKR3 := hide hS3.key
    have HRX := hide (rnext_any (HO.out.below hbw) HN.out s x al HX.out)
    have HBW := hide hbw
    obtain ⟨za, hza⟩ : ∃ za, za = w2.heap.size := ⟨_, rfl⟩
    rw [← hza] at HKA ⊢
    clear hbw hb3 HNX HKR hc2 hc35 hS3 hza
    go_upto_region 11 with (first | ((with_reducible refine wpList_load_keyAt (.tmp 71) zx 3 x HX.out HKR3.out ?_ ?_ ?_ ?_); rfl; rfl; rfl) | (go_at_call 40; (with_reducible refine HRX.out.mono ?_); rintro e w4 ⟨k2, ok2, rfl, hk2, hL2, hb4⟩; have HK2 := hide hk2; have HL2 := hide hL2; have HB4 := hide hb4; clear hk2 hL2 hb4) | ((with_reducible refine wpList_put_key ?_ (.tmp 9) (.tmp 76) ?_ w4.heap.size ?_ w4 ?_ ?_ k2 HK2.out ?_ ?_); rfl; rfl; rfl; rfl; rfl; rfl; intro w5 HKB hb5))
    obtain ⟨rfl, rfl⟩ := leastN_unique (fun y => (⟨fun q => (HO.out.keys s y).1 q.2, fun q => ⟨HO.out.l32 s y q, (HO.out.keys s y).2 q⟩⟩ : (y.length = 32 ∧ y ∈ keysO (sel os s)) ↔ y ∈ keysD D s)) HL1.out HL2.out
    have HKA5 := hide ((HKA.out.below HB4.out).below hb5)
    have HB5 := hide (HB.out.trans ((HBW.out.trans ((HB4.out.trans (hb5.mono HB4.out.size)).mono HBW.out.size)).mono HB.out.size))
    have hg := keyGuard .eql k1
    have he := keyEql k1 HK1.out
    clear HKA HB2 HBW HB4 hb5 HRX hc23 hc353 HKR3 HL1 HL2
    go_wp2_with (first | ((with_reducible refine wpList_key (.tmp 7) za k1 HKA5.out ?_ ?_ ?_ ?_); rfl; rfl; rfl) | ((with_reducible refine wpList_key (.tmp 9) w4.heap.size k1 HKB.out ?_ ?_ ?_ ?_); rfl; rfl; rfl))
    go_ret
    exact ⟨rfl, HB5.out⟩
  by_cases d10 : dd = 10
  · subst d10
    have HR0 := hide (ses_r HO.out HN.out)
    have HPS : Hid (∀ W', Below W.heap.size W W' → Calls Try.prog 27 #[.pointer (some ⟨zp, 0, none⟩)] W' (SesC W' (fD D))) := hide (fun W' q => ses_p (HO.out.below q) HN.out)
    go_upto_region 16 with (go_at_call 42; (with_reducible refine HR0.out.mono ?_); rintro e w1 ⟨v0, E0, rfl, h01, h02, h03⟩; have G0 : Hid (SesG D w1 W.heap.size v0 E0) := hide ⟨h01, h02⟩; have B1 := hide h03; obtain ⟨a0, c0, f0, -⟩ := h01.form; subst f0; clear h01 h02 h03)
    have HA1 := hide (HPS.out w1 B1.out)
    go_upto_region 17 with (go_at_call 27; (with_reducible refine HA1.out.mono ?_); rintro e w2 ⟨v1, E1, rfl, h11, h12, h13⟩; have G1 : Hid (SesG D w2 w1.heap.size v1 E1) := hide ⟨h11, h12⟩; have B2 := hide h13; obtain ⟨a1, c1, f1, -⟩ := h11.form; subst f1; clear h11 h12 h13)
    have B12 := hide (B1.out.trans (B2.out.mono B1.out.size))
    have HA2 := hide (HPS.out w2 B12.out)
    go_upto_region 18 with (go_at_call 27; (with_reducible refine HA2.out.mono ?_); rintro e w3 ⟨v2, E2, rfl, h21, h22, h23⟩; have G2 : Hid (SesG D w3 w2.heap.size v2 E2) := hide ⟨h21, h22⟩; have B3 := hide h23; obtain ⟨a2, c2, f2, -⟩ := h21.form; subst f2; clear h21 h22 h23)
    have B13 := hide (B12.out.trans (B3.out.mono B12.out.size))
    have HA3 := hide (HPS.out w3 B13.out)
    go_upto_region 19 with (go_at_call 27; (with_reducible refine HA3.out.mono ?_); rintro e w4 ⟨v3, E3, rfl, h31, h32, h33⟩; have G3 : Hid (SesG D w4 w3.heap.size v3 E3) := hide ⟨h31, h32⟩; have B4 := hide h33; obtain ⟨a3, c3, f3, -⟩ := h31.form; subst f3; clear h31 h32 h33)
    have B14 := hide (B13.out.trans (B4.out.mono B13.out.size))
    have K0 := hide (((G0.out.below B2.out).below B3.out).below B4.out)
    have K1 := hide ((G1.out.below B3.out).below B4.out)
    have K2 := hide (G2.out.below B4.out)
    have Z1 := hide B2.out.size
    have Z2 := hide B3.out.size
    have Z3 := hide B4.out.size
    have I0 : Hid (∀ i, OwnT (.slice a0 E0.length c0) E0 i → W.heap.size ≤ i ∧ i < w1.heap.size) := hide (fun i q => G0.out.row.inb q)
    have I1 : Hid (∀ i, OwnT (.slice a1 E1.length c1) E1 i → w1.heap.size ≤ i ∧ i < w2.heap.size) := hide (fun i q => G1.out.row.inb q)
    have I2 : Hid (∀ i, OwnT (.slice a2 E2.length c2) E2 i → w2.heap.size ≤ i ∧ i < w3.heap.size) := hide (fun i q => G2.out.row.inb q)
    have I3 : Hid (∀ i, OwnT (.slice a3 E3.length c3) E3 i → w3.heap.size ≤ i ∧ i < w4.heap.size) := hide (fun i q => G3.out.row.inb q)
    clear HR0 HA1 HA2 HA3 B12 B13 G0 G1 G2
    have S1 := hide (K1.out.same K0.out HN.out HFW.out)
    have S2 : Hid (∀ W', Below w4.heap.size w4 W' → Calls Try.prog 43 #[.slice a2 E2.length c2, .slice a0 E0.length c0] W' fun e w' => e = .returned (.bool true) ∧ Below W'.heap.size W' w') := hide (fun W' q => (K2.out.below q).same (K0.out.below q) HN.out HFW.out)
    have S3 : Hid (∀ W', Below w4.heap.size w4 W' → Calls Try.prog 43 #[.slice a3 E3.length c3, .slice a0 E0.length c0] W' fun e w' => e = .returned (.bool true) ∧ Below W'.heap.size W' w') := hide (fun W' q => (G3.out.below q).same (K0.out.below q) HN.out HFW.out)
    generalize hl0 : E0.length = l0 at *
    generalize hl1 : E1.length = l1 at *
    generalize hl2 : E2.length = l2 at *
    generalize hl3 : E3.length = l3 at *
    clear hl0 hl1 hl2 hl3
    go_upto_region 21 with (first | (go_at_call 43; (with_reducible refine S1.out.mono ?_); rintro e w5 ⟨rfl, hb5⟩; have B5 := hide hb5; clear hb5) | (go_at_call 43; (with_reducible refine (S2.out w5 B5.out).mono ?_); rintro e w6 ⟨rfl, hb6⟩; have B6 := hide (B5.out.trans (hb6.mono B5.out.size)); clear hb6) | (go_at_call 43; (with_reducible refine (S3.out w6 B6.out).mono ?_); rintro e w7 ⟨rfl, hb7⟩; have B7 := hide (B6.out.trans (hb7.mono B6.out.size)); clear hb7))
    have Q0 := hide (K0.out.below B7.out)
    have Q1 := hide (K1.out.below B7.out)
    have Q2 := hide (K2.out.below B7.out)
    have Q3 := hide (G3.out.below B7.out)
    have Z7 := hide B7.out.size
    have BW7 := hide (B14.out.trans (B7.out.mono B14.out.size))
    have P1 := hide (SP w7 w1.heap.size (.slice a1 l1 c1) E1 1 Q1.out.row (by have := Z1.out; have := Z2.out; have := Z3.out; have := Z7.out; omega) Q1.out.few (Q1.out.small (fun k d e => Nat.le_trans (HFW.out k d e) HN.out)) (.inl rfl))
    have P2 : Hid (∀ W', Chg (OwnT (.slice a1 l1 c1) E1) w7 W' → Calls Try.prog 44 #[.slice a2 l2 c2, .int .i64 2] W' fun e w' => e = .returned (.bool true) ∧ Chg (OwnT (.slice a2 l2 c2) E2) W' w') := hide (fun W' q => by
      have r : SesG D W' w2.heap.size (.slice a2 l2 c2) E2 := ⟨Q2.out.row.chg q (fun i h1 h2 => by have := (I2.out i h1).1; have := (I1.out i h2).2; omega), Q2.out.tell⟩
      exact SP W' w2.heap.size _ E2 2 r.row (by have := q.size; have := Z2.out; have := Z3.out; have := Z7.out; omega) r.few (r.small (fun k d e => Nat.le_trans (HFW.out k d e) HN.out)) (.inr rfl))
    have R3 : Hid (∀ W' W2, Chg (OwnT (.slice a1 l1 c1) E1) w7 W' → Chg (OwnT (.slice a2 l2 c2) E2) W' W2 → SesG D W2 w3.heap.size (.slice a3 l3 c3) E3 ∧ SesG D W2 W.heap.size (.slice a0 l0 c0) E0 ∧ Below W.heap.size W W2) := hide (fun W' W2 q q2 => by
      have z1 := B1.out.size
      have z2 := Z1.out
      have z3 := Z2.out
      have z4 := Z3.out
      refine ⟨⟨(Q3.out.row.chg q (fun i h1 h2 => by have := (I3.out i h1).1; have := (I1.out i h2).2; omega)).chg q2 (fun i h1 h2 => by have := (I3.out i h1).1; have := (I2.out i h2).2; omega), Q3.out.tell⟩, ⟨(Q0.out.row.chg q (fun i h1 h2 => by have := (I0.out i h1).2; have := (I1.out i h2).1; omega)).chg q2 (fun i h1 h2 => by have := (I0.out i h1).2; have := (I2.out i h2).1; omega), Q0.out.tell⟩, ?_⟩
      have b1 := q.below (N := W.heap.size) BW7.out.size (fun i h => by have := (I1.out i h).1; omega)
      have b2 := q2.below (N := W.heap.size) (Nat.le_trans BW7.out.size q.size) (fun i h => by have := (I2.out i h).1; omega)
      exact (BW7.out.trans b1).trans b2)
    clear S1 S2 S3 K0 K1 K2 G3 B5 B6 B7 Q0 Q1 Q2 Q3 I0 I1 I2 I3 B14 B1 B2 B3 B4 hc0
    go_wp2_with (first | (go_at_call 44; (with_reducible refine P1.out.mono ?_); rintro e w8 ⟨rfl, hc8⟩; have C8 := hide hc8; clear hc8) | (go_at_call 44; (with_reducible refine (P2.out w8 C8.out).mono ?_); rintro e w9 ⟨rfl, hc9⟩; obtain ⟨t3, t0, tb⟩ := R3.out w8 w9 C8.out hc9; have T3 := hide t3; have T0 := hide t0; have TB := hide tb; have SS9 := hide (t3.same t0 HN.out HFW.out); clear t3 t0 tb hc9) | (go_at_call 43; (with_reducible refine SS9.out.mono ?_); rintro e w10 ⟨rfl, hb10⟩; have TB10 := hide (TB.out.trans (hb10.mono TB.out.size)); have T010 := hide (T0.out.below hb10); have PS10 := hide (HPS.out w10 TB10.out); clear hb10) | (go_at_call 27; (with_reducible refine PS10.out.mono ?_); rintro e w11 ⟨v11, E11, rfl, h111, h112, h113⟩; have G11 : SesG D w11 w10.heap.size v11 E11 := ⟨h111, h112⟩; have SS11 := hide (G11.same (T010.out.below h113) HN.out HFW.out); have TB11 := hide (TB10.out.trans (h113.mono TB10.out.size)); obtain ⟨a11, c11, f11, -⟩ := h111.form; subst f11; clear h111 h112 h113 G11) | (go_at_call 43; (with_reducible refine SS11.out.mono ?_); rintro e w12 ⟨rfl, hb12⟩; have TB12 := hide (TB11.out.trans (hb12.mono TB11.out.size)); clear hb12))
    go_ret
    exact ⟨rfl, HB.out.trans (TB12.out.mono HB.out.size)⟩
  · have e5 : (dd == 5) = false := by simpa using d5
    have e6 : (dd == 6) = false := by simpa using d6
    have e7 : (dd == 7) = false := by simpa using d7
    have e8 : (dd == 8) = false := by simpa using d8
    have e9 : (dd == 9) = false := by simpa using d9
    have e10 : (dd == 10) = false := by simpa using d10
    clear d5 d6 d7 d8 d9 d10
    go_wp2
    go_ret
    exact ⟨rfl, HB.out⟩
end
end Go.Proofs.Ytagnglkkmdeicaa
