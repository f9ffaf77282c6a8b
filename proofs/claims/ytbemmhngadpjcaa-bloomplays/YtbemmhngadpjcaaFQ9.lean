/- BloomPlays: a step done: Bytes, Open. -/
import Derived.Test.YtbemmhngadpjcaaFQ8
namespace Go.Proofs.Ytbemmhngadpjcaa
set_option linter.unusedVariables false
set_option linter.unusedSimpArgs false
open Go.RowKit

theorem le_fixB : ∀ n x, x < 256 ^ n → leNat (fixB n x) = x
  | 0, x, h => by
    rw [Nat.pow_zero] at h
    show (0 : Nat) = x
    omega
  | n + 1, x, h => by
    have ih := le_fixB n (x / 256) (by rw [Nat.pow_succ] at h; omega)
    show (UInt8.ofNat x).toNat + 256 * leNat (fixB n (x / 256)) = x
    rw [ih, UInt8.toNat_ofNat']
    omega
theorem flat_chunk : ∀ (ws : List Nat) (k : Nat) (h : k < ws.length), ((ws.flatMap (fixB 8)).drop (8 * k)).take 8 = fixB 8 ws[k]
  | x :: r, 0, _ => by
    rw [List.flatMap_cons, Nat.mul_zero, List.drop_zero, List.take_append_of_le_length (by rw [fixB_len]; omega), List.take_of_length_le (by rw [fixB_len]; omega)]
    rfl
  | x :: r, k + 1, h => by
    rw [List.flatMap_cons, show 8 * (k + 1) = (fixB 8 x).length + 8 * k by rw [fixB_len]; omega, ← List.drop_drop, List.drop_left]
    exact flat_chunk r k (by rw [List.length_cons] at h; omega)
/-- The bytes of a filter are opened to it. -/
theorem open_bytes (h : Nat) (ws : List Nat) (hh : 1 ≤ h ∧ h ≤ 16) (hn : 1 ≤ ws.length ∧ ws.length ≤ 16384) (hok : ∀ x ∈ ws, x < 18446744073709551616) : OkB (bytesF h ws) ∧ hF (bytesF h ws) = h ∧ wsF (bytesF h ws) (cntF (bytesF h ws)) = ws := by
  have e1 : hF (bytesF h ws) = h := by
    unfold hF bytesF
    rw [List.take_append_of_le_length (by rw [fixB_len]; omega), List.take_of_length_le (by rw [fixB_len]; omega), le_fixB 1 h (by omega)]
  have d1 : (bytesF h ws).drop 1 = fixB 2 ws.length ++ ws.flatMap (fixB 8) := by
    unfold bytesF
    rw [show 1 = (fixB 1 h).length by rw [fixB_len]]
    exact List.drop_left
  have e2 : cntF (bytesF h ws) = ws.length := by
    unfold cntF
    rw [d1, List.take_append_of_le_length (by rw [fixB_len]; omega), List.take_of_length_le (by rw [fixB_len]; omega), le_fixB 2 _ (by omega)]
  have d3 : (bytesF h ws).drop 3 = ws.flatMap (fixB 8) := by
    rw [show 3 = 1 + 2 from rfl, ← List.drop_drop, d1, show 2 = (fixB 2 ws.length).length by rw [fixB_len]]
    exact List.drop_left
  refine ⟨?_, e1, ?_⟩
  · unfold OkB
    rw [e1, e2, bytesF_len]
    omega
  · rw [e2]
    refine List.ext_getElem (wsF_len _ _) fun k h1 h2 => ?_
    have hg : ∀ (xs : List UInt8) (n : Nat) (q : k < (wsF xs n).length), (wsF xs n)[k] = leNat ((xs.drop (3 + 8 * k)).take 8) := fun xs n q => by simp [wsF]
    rw [hg, ← List.drop_drop, d3, flat_chunk ws k h2, le_fixB 8 _ (hok _ (List.getElem_mem h2))]
/-- A row of bytes of one's own, whatever they are. -/
def AnyRow (w : World) (B : Nat) (ao : Option Addr) (n cap : Nat) : Prop := ∃ ys, w.ownsRow B 5 1 (.slice ao n cap) n ys ∧ ∀ y ∈ ys, ∃ q, y = .int .u8 q
theorem AnyRow.form {w : World} {B : Nat} {ao : Option Addr} {n cap : Nat} (h : AnyRow w B ao n cap) (h0 : 0 < n) : ∃ g, ao = some ⟨g, 0, none⟩ := by
  obtain ⟨ys, ⟨hl, ⟨e, e2⟩ | ⟨g, cap', cur, e, _⟩⟩, _⟩ := h
  · omega
  · cases e; exact ⟨g, rfl⟩
theorem PQ.any8 {w0 w : World} {s t : Option Sl} {gi k B n cap : Nat} {v : Value} (p : PQ w0 w s t) (ha : AnyRow w B (some ⟨gi, 0, none⟩) n cap) (hl : w0.heap.size ≤ gi) : PQ w0 (w.setCell ⟨gi, k, none⟩ v) s t := by
  obtain ⟨ys, ⟨hl', ⟨e, e2⟩ | ⟨g, cap', cur, e, hb, hh, hr⟩⟩, _⟩ := ha
  · cases e
  · cases e
    exact p.grownX (grownBy_set w gi k v) (show Blk w gi cur 5 from hh) tpU8 hl
theorem blk_any8 {w : World} {gi k B n cap b : Nat} {cs : Array Value} {ty : TypeId} {v : Value} (hk : Blk w b cs ty) (hty : ty ≠ 5) (ha : AnyRow w B (some ⟨gi, 0, none⟩) n cap) : Blk (w.setCell ⟨gi, k, none⟩ v) b cs ty := by
  obtain ⟨ys, ⟨hl', ⟨e, e2⟩ | ⟨g, cap', cur, e, hb, hh, hr⟩⟩, _⟩ := ha
  · cases e
  · cases e
    exact hk.grown (grownBy_set w gi k v) (snn (blk_ne hk (show Blk w gi cur 5 from hh) hty))
set_option maxRecDepth 20000 in
set_option maxHeartbeats 8000000 in
theorem done_bytesN0 (w0 w : World) (q : Nat) (t : Option Sl) (SC : Array Value) (F B H : Int) (kb : List UInt8) (sa : StepAt SC 6 F B H kb) (hF : bits .and .i64 F 1 = 0) (p : PQ w0 w none t) (hs : syO none) (ht : syO t) (hq : Blk w q (cells2 0 none t) 30) : Calls Try.prog 11 #[.slice (some ⟨q, 0, none⟩) 2 2, .agg SC] w (DoneC w0 w q 0 t) := by
  obtain ⟨W1, hW1⟩ : ∃ W1, W1 = w.alloc (.cells SC 38) := ⟨_, rfl⟩
  have hb1 : Below w.heap.size w W1 := by rw [hW1]; exact (Below.refl _ _).alloc (Nat.le_refl _) _
  have hk1 : Blk W1 w.heap.size SC 38 := by rw [hW1]; exact Blk.made w _ _
  have hs1 : W1.heap.size = w.heap.size + 1 := by rw [hW1, World.size_alloc]
  have hq1 := hq.below hb1 hq.lt
  have c1 : W1.cell? ⟨w.heap.size, 1, none⟩ = some (.int .i64 F) := (hk1.cell 1).trans sa.c1
  have d0 : W1.cell? ⟨q, 0, none⟩ = some (.pointer none) := hq1.cell 0
  have d1 : W1.cell? ⟨q, 1, none⟩ = some (.pointer none) := hq1.cell 1
  obtain ⟨W3, hW3⟩ : ∃ W3, W3 = W1.alloc (.cells #[.pointer none, .pointer none] 30) := ⟨_, rfl⟩
  have hb3 : Below W1.heap.size W1 W3 := by rw [hW3]; exact (Below.refl _ _).alloc (Nat.le_refl _) _
  have hd3 : DS W3 w.heap.size (w.heap.size + 1) SC (.pointer none) (.pointer none) := ⟨hk1.below hb3 hk1.lt, by rw [hW3, ← hs1]; exact Blk.made W1 _ _⟩
  have hbw : Below w.heap.size w W3 := hb1.trans (hb3.mono hb1.size)
  have HQ := hide (hq.below hbw hq.lt)
  have HD := hide hd3
  have HP := hide (p.below hbw)
  have HBw := hide hbw
  have HSY := hide (And.intro hs ht)
  have e0 : W3.cell? ⟨w.heap.size, 0, none⟩ = some (.int .i64 6) := (hd3.st.cell 0).trans sa.c0
  have e1 : W3.cell? ⟨w.heap.size + 1, 0, none⟩ = some (.pointer none) := hd3.pr.cell 0
  have e2 : W3.cell? ⟨w.heap.size + 1, 1, none⟩ = some (.pointer none) := hd3.pr.cell 1
  have n1 := eqNilR
  have n2 := eqSomeR
  have HSA := hide sa
  have HKey := hide (key_range hd3.st sa)
  have HK32 : Hid ((kb.map u8c).length = 32) := hide (by rw [List.length_map]; exact sa.k32)
  have C := hide (bytes_nil W3)
  clear hb1 hk1 hs1 hq1 hb3 hd3 hbw p hq hs ht sa
  go_enter Try.func11, Try.ntmps11
  rw [hW1] at hW3
  rw [hW3] at e0 e1 e2
  rw [hW1] at c1 d0 d1
  go_wp2_with fail
  rw [← hW3]
  refine C.out.mono ?_
  rintro e w4 ⟨rfl, hw4⟩
  subst hw4
  rw [← hW3] at e0 e1 e2
  clear hW3 hW1
  go_wp2
  go_ret
  exact ⟨rfl, none, trivial, HP.out, HQ.out, fun b cs hb => hb.below HBw.out hb.lt⟩
set_option maxRecDepth 20000 in
set_option maxHeartbeats 8000000 in
theorem done_openN0 (w0 w : World) (q : Nat) (t : Option Sl) (SC : Array Value) (F B H : Int) (kb : List UInt8) (sa : StepAt SC 7 F B H kb) (hF : bits .and .i64 F 1 = 0) (p : PQ w0 w none t) (hs : syO none) (ht : syO t) (hq : Blk w q (cells2 0 none t) 30) : Calls Try.prog 11 #[.slice (some ⟨q, 0, none⟩) 2 2, .agg SC] w (DoneC w0 w q 0 t) := by
  obtain ⟨W1, hW1⟩ : ∃ W1, W1 = w.alloc (.cells SC 38) := ⟨_, rfl⟩
  have hb1 : Below w.heap.size w W1 := by rw [hW1]; exact (Below.refl _ _).alloc (Nat.le_refl _) _
  have hk1 : Blk W1 w.heap.size SC 38 := by rw [hW1]; exact Blk.made w _ _
  have hs1 : W1.heap.size = w.heap.size + 1 := by rw [hW1, World.size_alloc]
  have hq1 := hq.below hb1 hq.lt
  have c1 : W1.cell? ⟨w.heap.size, 1, none⟩ = some (.int .i64 F) := (hk1.cell 1).trans sa.c1
  have d0 : W1.cell? ⟨q, 0, none⟩ = some (.pointer none) := hq1.cell 0
  have d1 : W1.cell? ⟨q, 1, none⟩ = some (.pointer none) := hq1.cell 1
  obtain ⟨W3, hW3⟩ : ∃ W3, W3 = W1.alloc (.cells #[.pointer none, .pointer none] 30) := ⟨_, rfl⟩
  have hb3 : Below W1.heap.size W1 W3 := by rw [hW3]; exact (Below.refl _ _).alloc (Nat.le_refl _) _
  have hd3 : DS W3 w.heap.size (w.heap.size + 1) SC (.pointer none) (.pointer none) := ⟨hk1.below hb3 hk1.lt, by rw [hW3, ← hs1]; exact Blk.made W1 _ _⟩
  have hbw : Below w.heap.size w W3 := hb1.trans (hb3.mono hb1.size)
  have HQ := hide (hq.below hbw hq.lt)
  have HD := hide hd3
  have HP := hide (p.below hbw)
  have HBw := hide hbw
  have HSY := hide (And.intro hs ht)
  have e0 : W3.cell? ⟨w.heap.size, 0, none⟩ = some (.int .i64 7) := (hd3.st.cell 0).trans sa.c0
  have e1 : W3.cell? ⟨w.heap.size + 1, 0, none⟩ = some (.pointer none) := hd3.pr.cell 0
  have e2 : W3.cell? ⟨w.heap.size + 1, 1, none⟩ = some (.pointer none) := hd3.pr.cell 1
  have n1 := eqNilR
  have n2 := eqSomeR
  have HSA := hide sa
  have HKey := hide (key_range hd3.st sa)
  have HK32 : Hid ((kb.map u8c).length = 32) := hide (by rw [List.length_map]; exact sa.k32)
  have C := hide (bytes_nil W3)
  clear hb1 hk1 hs1 hq1 hb3 hd3 hbw p hq hs ht sa
  go_enter Try.func11, Try.ntmps11
  rw [hW1] at hW3
  rw [hW3] at e0 e1 e2
  rw [hW1] at c1 d0 d1
  go_wp2_with fail
  rw [← hW3]
  refine C.out.mono ?_
  rintro e w4 ⟨rfl, hw4⟩
  subst hw4
  rw [← hW3] at e0 e1 e2
  clear hW3 hW1
  go_wp2
  go_ret
  exact ⟨rfl, none, trivial, HP.out, HQ.out, fun b cs hb => hb.below HBw.out hb.lt⟩
set_option maxRecDepth 20000 in
set_option maxHeartbeats 8000000 in
theorem done_bytesS0 (w0 w : World) (q : Nat) (s : Sl) (t : Option Sl) (SC : Array Value) (F B H : Int) (kb : List UInt8) (sa : StepAt SC 6 F B H kb) (hF : bits .and .i64 F 1 = 0) (p : PQ w0 w (some s) t) (hs : syO (some s)) (ht : syO t) (hq : Blk w q (cells2 0 (some s) t) 30) : Calls Try.prog 11 #[.slice (some ⟨q, 0, none⟩) 2 2, .agg SC] w (DoneC w0 w q 0 t) := by
  obtain ⟨W1, hW1⟩ : ∃ W1, W1 = w.alloc (.cells SC 38) := ⟨_, rfl⟩
  have hb1 : Below w.heap.size w W1 := by rw [hW1]; exact (Below.refl _ _).alloc (Nat.le_refl _) _
  have hk1 : Blk W1 w.heap.size SC 38 := by rw [hW1]; exact Blk.made w _ _
  have hs1 : W1.heap.size = w.heap.size + 1 := by rw [hW1, World.size_alloc]
  have hq1 := hq.below hb1 hq.lt
  have c1 : W1.cell? ⟨w.heap.size, 1, none⟩ = some (.int .i64 F) := (hk1.cell 1).trans sa.c1
  have d0 : W1.cell? ⟨q, 0, none⟩ = some (.pointer (some ⟨s.zf, 0, none⟩)) := hq1.cell 0
  have d1 : W1.cell? ⟨q, 1, none⟩ = some (.pointer (some ⟨s.zr, 0, none⟩)) := hq1.cell 1
  obtain ⟨W3, hW3⟩ : ∃ W3, W3 = W1.alloc (.cells #[.pointer (some ⟨s.zf, 0, none⟩), .pointer (some ⟨s.zr, 0, none⟩)] 30) := ⟨_, rfl⟩
  have hb3 : Below W1.heap.size W1 W3 := by rw [hW3]; exact (Below.refl _ _).alloc (Nat.le_refl _) _
  have hd3 : DS W3 w.heap.size (w.heap.size + 1) SC (.pointer (some ⟨s.zf, 0, none⟩)) (.pointer (some ⟨s.zr, 0, none⟩)) := ⟨hk1.below hb3 hk1.lt, by rw [hW3, ← hs1]; exact Blk.made W1 _ _⟩
  have hbw : Below w.heap.size w W3 := hb1.trans (hb3.mono hb1.size)
  have HQ := hide (hq.below hbw hq.lt)
  have HD := hide hd3
  have HP := hide (p.below hbw)
  have HBw := hide hbw
  have HSY := hide (And.intro hs ht)
  have e0 : W3.cell? ⟨w.heap.size, 0, none⟩ = some (.int .i64 6) := (hd3.st.cell 0).trans sa.c0
  have e1 : W3.cell? ⟨w.heap.size + 1, 0, none⟩ = some (.pointer (some ⟨s.zf, 0, none⟩)) := hd3.pr.cell 0
  have e2 : W3.cell? ⟨w.heap.size + 1, 1, none⟩ = some (.pointer (some ⟨s.zr, 0, none⟩)) := hd3.pr.cell 1
  have n1 := eqNilR
  have n2 := eqSomeR
  have HSA := hide sa
  have HKey := hide (key_range hd3.st sa)
  have HK32 : Hid ((kb.map u8c).length = 32) := hide (by rw [List.length_map]; exact sa.k32)
  have ka : SlOk W3 s := HP.out.a
  have hsy : s.ws = s.us := hs
  obtain ⟨xs, hxs⟩ : ∃ xs, xs = bytesF s.h s.ws := ⟨_, rfl⟩
  have hxl : xs.length ≤ 200000 := by rw [hxs, bytesF_len]; have := ka.f.hn; omega
  have C := hide (fbytes_any W3 s.zf s.gf s.h s.ws ka.f)
  rw [← hxs] at C
  have C2 : Hid (∀ W, PQ w0 W (some s) t → Calls Try.prog 33 #[.pointer (some ⟨s.zr, 0, none⟩)] W (BytesC W xs)) := hide (fun W pW => by
    have kW : SlOk W s := pW.a
    have := rbytes_any W s.zr s.gr s.c s.h s.us kW.r
    rw [← hsy, ← hxs] at this
    exact this)
  have HXS := hide hxs
  have HFo := hide (And.intro ka.f.hh (And.intro ka.f.hn ka.f.ok))
  have hKc : (W3.cell? ⟨w.heap.size, 0, none⟩ = some (.int .i64 6)) := (hd3.st.cell 0).trans sa.c0
  have HKc := hide hKc
  clear ka hsy hxs hKc
  clear hb1 hk1 hs1 hq1 hb3 hd3 hbw p hq hs ht sa
  go_enter Try.func11, Try.ntmps11
  rw [hW1] at hW3
  rw [hW3] at e0 e1 e2
  rw [hW1] at c1 d0 d1
  go_wp2_with fail
  rw [← hW3]
  refine C.out.mono ?_
  rintro e w4 ⟨vb, rfl, ho4, hb4⟩
  have HP4 := hide (HP.out.below hb4)
  have HQ4 := hide (HQ.out.below hb4 HQ.out.lt)
  have HD4 := hide (HD.out.keep (KeepT.below hb4))
  have HBw4 := hide (HBw.out.trans (hb4.mono HBw.out.size))
  have HO4 : Hid (OwnsB w4 W3.heap.size vb xs) := hide ho4
  have HR4 : Hid (RdA w4 vb xs) := hide (.inl (Rd_owned ho4))
  obtain ⟨io, ic, hvb⟩ : ∃ io ic, vb = .slice io xs.length ic := by
    obtain ⟨a, c, e, _⟩ := HR4.out.slice
    exact ⟨a, c, e⟩
  subst hvb
  have C3 := hide (C2.out w4.drew (HP4.out.below (below_drewN' (Below.refl _ _) 1)))
  have hlo3 : w0.heap.size ≤ W3.heap.size := HP.out.bel.size
  clear e0 e1 e2
  have e1 : w4.cell? ⟨w.heap.size + 1, 0, none⟩ = some (.pointer (some ⟨s.zf, 0, none⟩)) := HD4.out.pr.cell 0
  have e2 : w4.cell? ⟨w.heap.size + 1, 1, none⟩ = some (.pointer (some ⟨s.zr, 0, none⟩)) := HD4.out.pr.cell 1
  clear ho4 hb4 hW1 hW3 c1 d0 d1 HKey C C2 HP HQ HBw
  go_wp2
  refine dc_walk _ (fun _ _ _ _ _ h => h) w4 w.heap.size (w.heap.size + 1) _ s.zr SC _ xs HR4.out HD4.out C3.out _ (Nat.lt_of_sub_pos (by exact Nat.succ_pos _)) rfl rfl ?_
  intro v1 w5 hb5
  have HP5 := hide (HP4.out.below hb5)
  have HQ5 := hide (HQ4.out.below hb5 HQ4.out.lt)
  have HD5 := hide (HD4.out.keep (KeepT.below hb5))
  have HBw5 := hide (HBw4.out.trans (hb5.mono HBw4.out.size))
  have HO5 := hide (owns_below HO4.out hb5)
  have HR5 := hide (HR4.out.below hb5)
  have e0 : w5.cell? ⟨w.heap.size, 0, none⟩ = some (.int .i64 6) := (HD5.out.st.cell 0).trans HSA.out.c0
  clear hb5 e1 e2 HP4 HQ4 HD4 HBw4 HO4 HR4 C3 HD HKc
  simp only [Act.put, List.setIfInBounds_toArray, List.set_cons_zero, List.set_cons_succ]
  go_wp2
  go_ret
  exact ⟨rfl, some s, HSY.out.1, HP5.out, HQ5.out, fun b cs hb => hb.below HBw5.out hb.lt⟩
set_option maxRecDepth 20000 in
set_option maxHeartbeats 8000000 in
theorem done_openS0 (w0 w : World) (q : Nat) (s : Sl) (t : Option Sl) (SC : Array Value) (F B H : Int) (kb : List UInt8) (sa : StepAt SC 7 F B H kb) (hF : bits .and .i64 F 1 = 0) (p : PQ w0 w (some s) t) (hs : syO (some s)) (ht : syO t) (hq : Blk w q (cells2 0 (some s) t) 30) (hlo : w0.heap.size ≤ q) : Calls Try.prog 11 #[.slice (some ⟨q, 0, none⟩) 2 2, .agg SC] w (DoneC w0 w q 0 t) := by
  obtain ⟨W1, hW1⟩ : ∃ W1, W1 = w.alloc (.cells SC 38) := ⟨_, rfl⟩
  have hb1 : Below w.heap.size w W1 := by rw [hW1]; exact (Below.refl _ _).alloc (Nat.le_refl _) _
  have hk1 : Blk W1 w.heap.size SC 38 := by rw [hW1]; exact Blk.made w _ _
  have hs1 : W1.heap.size = w.heap.size + 1 := by rw [hW1, World.size_alloc]
  have hq1 := hq.below hb1 hq.lt
  have c1 : W1.cell? ⟨w.heap.size, 1, none⟩ = some (.int .i64 F) := (hk1.cell 1).trans sa.c1
  have d0 : W1.cell? ⟨q, 0, none⟩ = some (.pointer (some ⟨s.zf, 0, none⟩)) := hq1.cell 0
  have d1 : W1.cell? ⟨q, 1, none⟩ = some (.pointer (some ⟨s.zr, 0, none⟩)) := hq1.cell 1
  obtain ⟨W3, hW3⟩ : ∃ W3, W3 = W1.alloc (.cells #[.pointer (some ⟨s.zf, 0, none⟩), .pointer (some ⟨s.zr, 0, none⟩)] 30) := ⟨_, rfl⟩
  have hb3 : Below W1.heap.size W1 W3 := by rw [hW3]; exact (Below.refl _ _).alloc (Nat.le_refl _) _
  have hd3 : DS W3 w.heap.size (w.heap.size + 1) SC (.pointer (some ⟨s.zf, 0, none⟩)) (.pointer (some ⟨s.zr, 0, none⟩)) := ⟨hk1.below hb3 hk1.lt, by rw [hW3, ← hs1]; exact Blk.made W1 _ _⟩
  have hbw : Below w.heap.size w W3 := hb1.trans (hb3.mono hb1.size)
  have HQ := hide (hq.below hbw hq.lt)
  have HD := hide hd3
  have HP := hide (p.below hbw)
  have HBw := hide hbw
  have HSY := hide (And.intro hs ht)
  have e0 : W3.cell? ⟨w.heap.size, 0, none⟩ = some (.int .i64 7) := (hd3.st.cell 0).trans sa.c0
  have e1 : W3.cell? ⟨w.heap.size + 1, 0, none⟩ = some (.pointer (some ⟨s.zf, 0, none⟩)) := hd3.pr.cell 0
  have e2 : W3.cell? ⟨w.heap.size + 1, 1, none⟩ = some (.pointer (some ⟨s.zr, 0, none⟩)) := hd3.pr.cell 1
  have n1 := eqNilR
  have n2 := eqSomeR
  have HSA := hide sa
  have HKey := hide (key_range hd3.st sa)
  have HK32 : Hid ((kb.map u8c).length = 32) := hide (by rw [List.length_map]; exact sa.k32)
  have ka : SlOk W3 s := HP.out.a
  have hsy : s.ws = s.us := hs
  obtain ⟨xs, hxs⟩ : ∃ xs, xs = bytesF s.h s.ws := ⟨_, rfl⟩
  have hxl : xs.length ≤ 200000 := by rw [hxs, bytesF_len]; have := ka.f.hn; omega
  have C := hide (fbytes_any W3 s.zf s.gf s.h s.ws ka.f)
  rw [← hxs] at C
  have C2 : Hid (∀ W, PQ w0 W (some s) t → Calls Try.prog 33 #[.pointer (some ⟨s.zr, 0, none⟩)] W (BytesC W xs)) := hide (fun W pW => by
    have kW : SlOk W s := pW.a
    have := rbytes_any W s.zr s.gr s.c s.h s.us kW.r
    rw [← hsy, ← hxs] at this
    exact this)
  have HXS := hide hxs
  have HFo := hide (And.intro ka.f.hh (And.intro ka.f.hn ka.f.ok))
  have hKc : (W3.cell? ⟨w.heap.size, 0, none⟩ = some (.int .i64 7)) := (hd3.st.cell 0).trans sa.c0
  have HKc := hide hKc
  clear ka hsy hxs hKc
  clear hb1 hk1 hs1 hq1 hb3 hd3 hbw p hq hs ht sa
  go_enter Try.func11, Try.ntmps11
  rw [hW1] at hW3
  rw [hW3] at e0 e1 e2
  rw [hW1] at c1 d0 d1
  go_wp2_with fail
  rw [← hW3]
  refine C.out.mono ?_
  rintro e w4 ⟨vb, rfl, ho4, hb4⟩
  have HP4 := hide (HP.out.below hb4)
  have HQ4 := hide (HQ.out.below hb4 HQ.out.lt)
  have HD4 := hide (HD.out.keep (KeepT.below hb4))
  have HBw4 := hide (HBw.out.trans (hb4.mono HBw.out.size))
  have HO4 : Hid (OwnsB w4 W3.heap.size vb xs) := hide ho4
  have HR4 : Hid (RdA w4 vb xs) := hide (.inl (Rd_owned ho4))
  obtain ⟨io, ic, hvb⟩ : ∃ io ic, vb = .slice io xs.length ic := by
    obtain ⟨a, c, e, _⟩ := HR4.out.slice
    exact ⟨a, c, e⟩
  subst hvb
  have C3 := hide (C2.out w4.drew (HP4.out.below (below_drewN' (Below.refl _ _) 1)))
  have hlo3 : w0.heap.size ≤ W3.heap.size := HP.out.bel.size
  clear e0 e1 e2
  have e1 : w4.cell? ⟨w.heap.size + 1, 0, none⟩ = some (.pointer (some ⟨s.zf, 0, none⟩)) := HD4.out.pr.cell 0
  have e2 : w4.cell? ⟨w.heap.size + 1, 1, none⟩ = some (.pointer (some ⟨s.zr, 0, none⟩)) := HD4.out.pr.cell 1
  clear ho4 hb4 hW1 hW3 c1 d0 d1 HKey C C2 HP HQ HBw
  go_wp2
  refine dc_walk _ (fun _ _ _ _ _ h => h) w4 w.heap.size (w.heap.size + 1) _ s.zr SC _ xs HR4.out HD4.out C3.out _ (Nat.lt_of_sub_pos (by exact Nat.succ_pos _)) rfl rfl ?_
  intro v1 w5 hb5
  have HP5 := hide (HP4.out.below hb5)
  have HQ5 := hide (HQ4.out.below hb5 HQ4.out.lt)
  have HD5 := hide (HD4.out.keep (KeepT.below hb5))
  have HBw5 := hide (HBw4.out.trans (hb5.mono HBw4.out.size))
  have HO5 := hide (owns_below HO4.out hb5)
  have HR5 := hide (HR4.out.below hb5)
  have e0 : w5.cell? ⟨w.heap.size, 0, none⟩ = some (.int .i64 7) := (HD5.out.st.cell 0).trans HSA.out.c0
  clear hb5 e1 e2 HP4 HQ4 HD4 HBw4 HO4 HR4 C3 HD HKc
  simp only [Act.put, List.setIfInBounds_toArray, List.set_cons_zero, List.set_cons_succ]
  have hob := open_bytes s.h s.ws HFo.out.1 HFo.out.2.1 HFo.out.2.2
  rw [← HXS.out] at hob
  have HOB := hide hob
  have CO := hide (fopen_any w5 _ xs HR5.out (by omega))
  clear hob HFo
  go_wp2_with fail
  refine CO.out.mono ?_
  rintro e w6 (⟨hno, _⟩ | ⟨-, z, g, rfl, hf6, hz6, hg6, hb6⟩)
  · exact absurd HOB.out.1 hno
  rw [HOB.out.2.1, HOB.out.2.2] at hf6
  have HP6 := hide (HP5.out.setN hf6 hg6 hb6)
  have HQ6 := hide (HQ5.out.below hb6 HQ5.out.lt)
  have HBw6 := hide (HBw5.out.trans (hb6.mono HBw5.out.size))
  have HA6 : Hid (AnyRow w6 W3.heap.size io xs.length ic) := hide ⟨_, owns_below HO5.out hb6, fun y hy => by
    obtain ⟨u, _, rfl⟩ := List.mem_map.1 hy
    exact ⟨_, rfl⟩⟩
  have HS6 : Hid (∀ b cs, Blk w b cs 25 → Blk w6 b cs 25) := hide (fun b cs hb => hb.below HBw6.out hb.lt)
  have n3 := eqSomeF
  clear hf6 hz6 hg6 hb6 CO HOB HP5 HQ5 HBw5 HO5 HR5 HD5 e0 HXS HSA HBw6
  go_wp2
  go_loopw [10] (fun s10 wr => ∃ k : Nat, s10 = .int .i64 k ∧ k ≤ xs.length ∧ AnyRow wr W3.heap.size io xs.length ic ∧ PQ w0 wr (some { s with zf := z, gf := g, ws := s.ws }) t ∧ Blk wr q (cells2 0 (some s) t) 30 ∧ Hid (∀ b cs, Blk w b cs 25 → Blk wr b cs 25)) (fun s10 _ => xs.length - (intOf s10).toNat)
  case atStart => exact ⟨0, rfl, by omega, HA6.out, HP6.out, HQ6.out, HS6⟩
  case round =>
    clear HA6 HP6 HQ6 HS6
    obtain ⟨k, rfl, hk, hA, hP, hQ, HS⟩ := hrel
    have HA := hide hA
    have HP := hide hP
    have HQ := hide hQ
    clear hP hQ
    by_cases hlt : k < xs.length
    · have hki : (k : Int) < xs.length := by omega
      obtain ⟨gi, hgi⟩ := hA.form (by omega)
      subst hgi
      obtain ⟨ys, hy1, hy2⟩ := hA
      obtain ⟨⟨q0, hq0⟩, hfz, hgb⟩ := own_cell hy1 hy2 k hlt
      have HY := hide (fun q' => own_set hy1 hy2 k hlt q')
      obtain ⟨q2, hq2⟩ : ∃ q2, q2 = bits .xor .u8 q0 255 := ⟨_, rfl⟩
      have hq2' : bits .xor .u8 q0 255 = q2 := hq2.symm
      have HP7 := hide (HP.out.any8 (k := k) (v := .int .u8 q2) HA.out (Nat.le_trans hlo3 hgb))
      have HQ7 := hide (blk_any8 (k := k) (v := .int .u8 q2) HQ.out (by decide) HA.out)
      have HS7 : Hid (∀ b cs, Blk w b cs 25 → Blk (wr.setCell ⟨gi, k, none⟩ (.int .u8 q2)) b cs 25) := hide (fun b cs hb => blk_any8 (HS.out b cs hb) (by decide) HA.out)
      clear hy1 hy2 hq2 HA HP HQ HS
      go_wp2
      obtain ⟨ys', h1, h2⟩ := HY.out q2
      exact ⟨⟨k + 1, by go_num, by omega, ⟨ys', h1, h2⟩, HP7.out, HQ7.out, HS7⟩, by simp [intOf]; omega⟩
    · have hki : ¬ (k : Int) < xs.length := by omega
      have y0 : wr.cell? ⟨q, 0, none⟩ = some (.pointer (some ⟨s.zf, 0, none⟩)) := HQ.out.cell 0
      have z0 : wr.frozen? ⟨q, 0, none⟩ = false := HQ.out.frozen 0
      clear hA HA
      go_wp2
      go_ret
      have hg : wr.grownBy (wr.setCell ⟨q, 0, none⟩ (.pointer (some ⟨z, 0, none⟩))) (some q) := grownBy_set _ _ _ _
      refine ⟨rfl, some { s with zf := z, gf := g, ws := s.ws }, HSY.out.1, HP.out.grownX hg HQ.out tpPair hlo, HQ.out.set 0 _, fun b cs hb => ?_⟩
      have h1 := HS.out b cs hb
      exact h1.grown hg (snn (blk_ne h1 HQ.out (by decide)))
set_option maxRecDepth 20000 in
set_option maxHeartbeats 8000000 in
theorem done_bytesN1 (w0 w : World) (q : Nat) (t : Option Sl) (SC : Array Value) (F B H : Int) (kb : List UInt8) (sa : StepAt SC 6 F B H kb) (hF : bits .and .i64 F 1 = 1) (p : PQ w0 w none t) (hs : syO none) (ht : syO t) (hq : Blk w q (cells2 1 none t) 30) : Calls Try.prog 11 #[.slice (some ⟨q, 0, none⟩) 2 2, .agg SC] w (DoneC w0 w q 1 t) := by
  obtain ⟨W1, hW1⟩ : ∃ W1, W1 = w.alloc (.cells SC 38) := ⟨_, rfl⟩
  have hb1 : Below w.heap.size w W1 := by rw [hW1]; exact (Below.refl _ _).alloc (Nat.le_refl _) _
  have hk1 : Blk W1 w.heap.size SC 38 := by rw [hW1]; exact Blk.made w _ _
  have hs1 : W1.heap.size = w.heap.size + 1 := by rw [hW1, World.size_alloc]
  have hq1 := hq.below hb1 hq.lt
  have c1 : W1.cell? ⟨w.heap.size, 1, none⟩ = some (.int .i64 F) := (hk1.cell 1).trans sa.c1
  have d0 : W1.cell? ⟨q, 2, none⟩ = some (.pointer none) := hq1.cell 2
  have d1 : W1.cell? ⟨q, 3, none⟩ = some (.pointer none) := hq1.cell 3
  obtain ⟨W3, hW3⟩ : ∃ W3, W3 = W1.alloc (.cells #[.pointer none, .pointer none] 30) := ⟨_, rfl⟩
  have hb3 : Below W1.heap.size W1 W3 := by rw [hW3]; exact (Below.refl _ _).alloc (Nat.le_refl _) _
  have hd3 : DS W3 w.heap.size (w.heap.size + 1) SC (.pointer none) (.pointer none) := ⟨hk1.below hb3 hk1.lt, by rw [hW3, ← hs1]; exact Blk.made W1 _ _⟩
  have hbw : Below w.heap.size w W3 := hb1.trans (hb3.mono hb1.size)
  have HQ := hide (hq.below hbw hq.lt)
  have HD := hide hd3
  have HP := hide (p.below hbw)
  have HBw := hide hbw
  have HSY := hide (And.intro hs ht)
  have e0 : W3.cell? ⟨w.heap.size, 0, none⟩ = some (.int .i64 6) := (hd3.st.cell 0).trans sa.c0
  have e1 : W3.cell? ⟨w.heap.size + 1, 0, none⟩ = some (.pointer none) := hd3.pr.cell 0
  have e2 : W3.cell? ⟨w.heap.size + 1, 1, none⟩ = some (.pointer none) := hd3.pr.cell 1
  have n1 := eqNilR
  have n2 := eqSomeR
  have HSA := hide sa
  have HKey := hide (key_range hd3.st sa)
  have HK32 : Hid ((kb.map u8c).length = 32) := hide (by rw [List.length_map]; exact sa.k32)
  have C := hide (bytes_nil W3)
  clear hb1 hk1 hs1 hq1 hb3 hd3 hbw p hq hs ht sa
  go_enter Try.func11, Try.ntmps11
  rw [hW1] at hW3
  rw [hW3] at e0 e1 e2
  rw [hW1] at c1 d0 d1
  go_wp2_with fail
  rw [← hW3]
  refine C.out.mono ?_
  rintro e w4 ⟨rfl, hw4⟩
  subst hw4
  rw [← hW3] at e0 e1 e2
  clear hW3 hW1
  go_wp2
  go_ret
  exact ⟨rfl, none, trivial, HP.out, HQ.out, fun b cs hb => hb.below HBw.out hb.lt⟩
set_option maxRecDepth 20000 in
set_option maxHeartbeats 8000000 in
theorem done_openN1 (w0 w : World) (q : Nat) (t : Option Sl) (SC : Array Value) (F B H : Int) (kb : List UInt8) (sa : StepAt SC 7 F B H kb) (hF : bits .and .i64 F 1 = 1) (p : PQ w0 w none t) (hs : syO none) (ht : syO t) (hq : Blk w q (cells2 1 none t) 30) : Calls Try.prog 11 #[.slice (some ⟨q, 0, none⟩) 2 2, .agg SC] w (DoneC w0 w q 1 t) := by
  obtain ⟨W1, hW1⟩ : ∃ W1, W1 = w.alloc (.cells SC 38) := ⟨_, rfl⟩
  have hb1 : Below w.heap.size w W1 := by rw [hW1]; exact (Below.refl _ _).alloc (Nat.le_refl _) _
  have hk1 : Blk W1 w.heap.size SC 38 := by rw [hW1]; exact Blk.made w _ _
  have hs1 : W1.heap.size = w.heap.size + 1 := by rw [hW1, World.size_alloc]
  have hq1 := hq.below hb1 hq.lt
  have c1 : W1.cell? ⟨w.heap.size, 1, none⟩ = some (.int .i64 F) := (hk1.cell 1).trans sa.c1
  have d0 : W1.cell? ⟨q, 2, none⟩ = some (.pointer none) := hq1.cell 2
  have d1 : W1.cell? ⟨q, 3, none⟩ = some (.pointer none) := hq1.cell 3
  obtain ⟨W3, hW3⟩ : ∃ W3, W3 = W1.alloc (.cells #[.pointer none, .pointer none] 30) := ⟨_, rfl⟩
  have hb3 : Below W1.heap.size W1 W3 := by rw [hW3]; exact (Below.refl _ _).alloc (Nat.le_refl _) _
  have hd3 : DS W3 w.heap.size (w.heap.size + 1) SC (.pointer none) (.pointer none) := ⟨hk1.below hb3 hk1.lt, by rw [hW3, ← hs1]; exact Blk.made W1 _ _⟩
  have hbw : Below w.heap.size w W3 := hb1.trans (hb3.mono hb1.size)
  have HQ := hide (hq.below hbw hq.lt)
  have HD := hide hd3
  have HP := hide (p.below hbw)
  have HBw := hide hbw
  have HSY := hide (And.intro hs ht)
  have e0 : W3.cell? ⟨w.heap.size, 0, none⟩ = some (.int .i64 7) := (hd3.st.cell 0).trans sa.c0
  have e1 : W3.cell? ⟨w.heap.size + 1, 0, none⟩ = some (.pointer none) := hd3.pr.cell 0
  have e2 : W3.cell? ⟨w.heap.size + 1, 1, none⟩ = some (.pointer none) := hd3.pr.cell 1
  have n1 := eqNilR
  have n2 := eqSomeR
  have HSA := hide sa
  have HKey := hide (key_range hd3.st sa)
  have HK32 : Hid ((kb.map u8c).length = 32) := hide (by rw [List.length_map]; exact sa.k32)
  have C := hide (bytes_nil W3)
  clear hb1 hk1 hs1 hq1 hb3 hd3 hbw p hq hs ht sa
  go_enter Try.func11, Try.ntmps11
  rw [hW1] at hW3
  rw [hW3] at e0 e1 e2
  rw [hW1] at c1 d0 d1
  go_wp2_with fail
  rw [← hW3]
  refine C.out.mono ?_
  rintro e w4 ⟨rfl, hw4⟩
  subst hw4
  rw [← hW3] at e0 e1 e2
  clear hW3 hW1
  go_wp2
  go_ret
  exact ⟨rfl, none, trivial, HP.out, HQ.out, fun b cs hb => hb.below HBw.out hb.lt⟩
set_option maxRecDepth 20000 in
set_option maxHeartbeats 8000000 in
theorem done_bytesS1 (w0 w : World) (q : Nat) (s : Sl) (t : Option Sl) (SC : Array Value) (F B H : Int) (kb : List UInt8) (sa : StepAt SC 6 F B H kb) (hF : bits .and .i64 F 1 = 1) (p : PQ w0 w (some s) t) (hs : syO (some s)) (ht : syO t) (hq : Blk w q (cells2 1 (some s) t) 30) : Calls Try.prog 11 #[.slice (some ⟨q, 0, none⟩) 2 2, .agg SC] w (DoneC w0 w q 1 t) := by
  obtain ⟨W1, hW1⟩ : ∃ W1, W1 = w.alloc (.cells SC 38) := ⟨_, rfl⟩
  have hb1 : Below w.heap.size w W1 := by rw [hW1]; exact (Below.refl _ _).alloc (Nat.le_refl _) _
  have hk1 : Blk W1 w.heap.size SC 38 := by rw [hW1]; exact Blk.made w _ _
  have hs1 : W1.heap.size = w.heap.size + 1 := by rw [hW1, World.size_alloc]
  have hq1 := hq.below hb1 hq.lt
  have c1 : W1.cell? ⟨w.heap.size, 1, none⟩ = some (.int .i64 F) := (hk1.cell 1).trans sa.c1
  have d0 : W1.cell? ⟨q, 2, none⟩ = some (.pointer (some ⟨s.zf, 0, none⟩)) := hq1.cell 2
  have d1 : W1.cell? ⟨q, 3, none⟩ = some (.pointer (some ⟨s.zr, 0, none⟩)) := hq1.cell 3
  obtain ⟨W3, hW3⟩ : ∃ W3, W3 = W1.alloc (.cells #[.pointer (some ⟨s.zf, 0, none⟩), .pointer (some ⟨s.zr, 0, none⟩)] 30) := ⟨_, rfl⟩
  have hb3 : Below W1.heap.size W1 W3 := by rw [hW3]; exact (Below.refl _ _).alloc (Nat.le_refl _) _
  have hd3 : DS W3 w.heap.size (w.heap.size + 1) SC (.pointer (some ⟨s.zf, 0, none⟩)) (.pointer (some ⟨s.zr, 0, none⟩)) := ⟨hk1.below hb3 hk1.lt, by rw [hW3, ← hs1]; exact Blk.made W1 _ _⟩
  have hbw : Below w.heap.size w W3 := hb1.trans (hb3.mono hb1.size)
  have HQ := hide (hq.below hbw hq.lt)
  have HD := hide hd3
  have HP := hide (p.below hbw)
  have HBw := hide hbw
  have HSY := hide (And.intro hs ht)
  have e0 : W3.cell? ⟨w.heap.size, 0, none⟩ = some (.int .i64 6) := (hd3.st.cell 0).trans sa.c0
  have e1 : W3.cell? ⟨w.heap.size + 1, 0, none⟩ = some (.pointer (some ⟨s.zf, 0, none⟩)) := hd3.pr.cell 0
  have e2 : W3.cell? ⟨w.heap.size + 1, 1, none⟩ = some (.pointer (some ⟨s.zr, 0, none⟩)) := hd3.pr.cell 1
  have n1 := eqNilR
  have n2 := eqSomeR
  have HSA := hide sa
  have HKey := hide (key_range hd3.st sa)
  have HK32 : Hid ((kb.map u8c).length = 32) := hide (by rw [List.length_map]; exact sa.k32)
  have ka : SlOk W3 s := HP.out.a
  have hsy : s.ws = s.us := hs
  obtain ⟨xs, hxs⟩ : ∃ xs, xs = bytesF s.h s.ws := ⟨_, rfl⟩
  have hxl : xs.length ≤ 200000 := by rw [hxs, bytesF_len]; have := ka.f.hn; omega
  have C := hide (fbytes_any W3 s.zf s.gf s.h s.ws ka.f)
  rw [← hxs] at C
  have C2 : Hid (∀ W, PQ w0 W (some s) t → Calls Try.prog 33 #[.pointer (some ⟨s.zr, 0, none⟩)] W (BytesC W xs)) := hide (fun W pW => by
    have kW : SlOk W s := pW.a
    have := rbytes_any W s.zr s.gr s.c s.h s.us kW.r
    rw [← hsy, ← hxs] at this
    exact this)
  have HXS := hide hxs
  have HFo := hide (And.intro ka.f.hh (And.intro ka.f.hn ka.f.ok))
  have hKc : (W3.cell? ⟨w.heap.size, 0, none⟩ = some (.int .i64 6)) := (hd3.st.cell 0).trans sa.c0
  have HKc := hide hKc
  clear ka hsy hxs hKc
  clear hb1 hk1 hs1 hq1 hb3 hd3 hbw p hq hs ht sa
  go_enter Try.func11, Try.ntmps11
  rw [hW1] at hW3
  rw [hW3] at e0 e1 e2
  rw [hW1] at c1 d0 d1
  go_wp2_with fail
  rw [← hW3]
  refine C.out.mono ?_
  rintro e w4 ⟨vb, rfl, ho4, hb4⟩
  have HP4 := hide (HP.out.below hb4)
  have HQ4 := hide (HQ.out.below hb4 HQ.out.lt)
  have HD4 := hide (HD.out.keep (KeepT.below hb4))
  have HBw4 := hide (HBw.out.trans (hb4.mono HBw.out.size))
  have HO4 : Hid (OwnsB w4 W3.heap.size vb xs) := hide ho4
  have HR4 : Hid (RdA w4 vb xs) := hide (.inl (Rd_owned ho4))
  obtain ⟨io, ic, hvb⟩ : ∃ io ic, vb = .slice io xs.length ic := by
    obtain ⟨a, c, e, _⟩ := HR4.out.slice
    exact ⟨a, c, e⟩
  subst hvb
  have C3 := hide (C2.out w4.drew (HP4.out.below (below_drewN' (Below.refl _ _) 1)))
  have hlo3 : w0.heap.size ≤ W3.heap.size := HP.out.bel.size
  clear e0 e1 e2
  have e1 : w4.cell? ⟨w.heap.size + 1, 0, none⟩ = some (.pointer (some ⟨s.zf, 0, none⟩)) := HD4.out.pr.cell 0
  have e2 : w4.cell? ⟨w.heap.size + 1, 1, none⟩ = some (.pointer (some ⟨s.zr, 0, none⟩)) := HD4.out.pr.cell 1
  clear ho4 hb4 hW1 hW3 c1 d0 d1 HKey C C2 HP HQ HBw
  go_wp2
  refine dc_walk _ (fun _ _ _ _ _ h => h) w4 w.heap.size (w.heap.size + 1) _ s.zr SC _ xs HR4.out HD4.out C3.out _ (Nat.lt_of_sub_pos (by exact Nat.succ_pos _)) rfl rfl ?_
  intro v1 w5 hb5
  have HP5 := hide (HP4.out.below hb5)
  have HQ5 := hide (HQ4.out.below hb5 HQ4.out.lt)
  have HD5 := hide (HD4.out.keep (KeepT.below hb5))
  have HBw5 := hide (HBw4.out.trans (hb5.mono HBw4.out.size))
  have HO5 := hide (owns_below HO4.out hb5)
  have HR5 := hide (HR4.out.below hb5)
  have e0 : w5.cell? ⟨w.heap.size, 0, none⟩ = some (.int .i64 6) := (HD5.out.st.cell 0).trans HSA.out.c0
  clear hb5 e1 e2 HP4 HQ4 HD4 HBw4 HO4 HR4 C3 HD HKc
  simp only [Act.put, List.setIfInBounds_toArray, List.set_cons_zero, List.set_cons_succ]
  go_wp2
  go_ret
  exact ⟨rfl, some s, HSY.out.1, HP5.out, HQ5.out, fun b cs hb => hb.below HBw5.out hb.lt⟩
set_option maxRecDepth 20000 in
set_option maxHeartbeats 8000000 in
theorem done_openS1 (w0 w : World) (q : Nat) (s : Sl) (t : Option Sl) (SC : Array Value) (F B H : Int) (kb : List UInt8) (sa : StepAt SC 7 F B H kb) (hF : bits .and .i64 F 1 = 1) (p : PQ w0 w (some s) t) (hs : syO (some s)) (ht : syO t) (hq : Blk w q (cells2 1 (some s) t) 30) (hlo : w0.heap.size ≤ q) : Calls Try.prog 11 #[.slice (some ⟨q, 0, none⟩) 2 2, .agg SC] w (DoneC w0 w q 1 t) := by
  obtain ⟨W1, hW1⟩ : ∃ W1, W1 = w.alloc (.cells SC 38) := ⟨_, rfl⟩
  have hb1 : Below w.heap.size w W1 := by rw [hW1]; exact (Below.refl _ _).alloc (Nat.le_refl _) _
  have hk1 : Blk W1 w.heap.size SC 38 := by rw [hW1]; exact Blk.made w _ _
  have hs1 : W1.heap.size = w.heap.size + 1 := by rw [hW1, World.size_alloc]
  have hq1 := hq.below hb1 hq.lt
  have c1 : W1.cell? ⟨w.heap.size, 1, none⟩ = some (.int .i64 F) := (hk1.cell 1).trans sa.c1
  have d0 : W1.cell? ⟨q, 2, none⟩ = some (.pointer (some ⟨s.zf, 0, none⟩)) := hq1.cell 2
  have d1 : W1.cell? ⟨q, 3, none⟩ = some (.pointer (some ⟨s.zr, 0, none⟩)) := hq1.cell 3
  obtain ⟨W3, hW3⟩ : ∃ W3, W3 = W1.alloc (.cells #[.pointer (some ⟨s.zf, 0, none⟩), .pointer (some ⟨s.zr, 0, none⟩)] 30) := ⟨_, rfl⟩
  have hb3 : Below W1.heap.size W1 W3 := by rw [hW3]; exact (Below.refl _ _).alloc (Nat.le_refl _) _
  have hd3 : DS W3 w.heap.size (w.heap.size + 1) SC (.pointer (some ⟨s.zf, 0, none⟩)) (.pointer (some ⟨s.zr, 0, none⟩)) := ⟨hk1.below hb3 hk1.lt, by rw [hW3, ← hs1]; exact Blk.made W1 _ _⟩
  have hbw : Below w.heap.size w W3 := hb1.trans (hb3.mono hb1.size)
  have HQ := hide (hq.below hbw hq.lt)
  have HD := hide hd3
  have HP := hide (p.below hbw)
  have HBw := hide hbw
  have HSY := hide (And.intro hs ht)
  have e0 : W3.cell? ⟨w.heap.size, 0, none⟩ = some (.int .i64 7) := (hd3.st.cell 0).trans sa.c0
  have e1 : W3.cell? ⟨w.heap.size + 1, 0, none⟩ = some (.pointer (some ⟨s.zf, 0, none⟩)) := hd3.pr.cell 0
  have e2 : W3.cell? ⟨w.heap.size + 1, 1, none⟩ = some (.pointer (some ⟨s.zr, 0, none⟩)) := hd3.pr.cell 1
  have n1 := eqNilR
  have n2 := eqSomeR
  have HSA := hide sa
  have HKey := hide (key_range hd3.st sa)
  have HK32 : Hid ((kb.map u8c).length = 32) := hide (by rw [List.length_map]; exact sa.k32)
  have ka : SlOk W3 s := HP.out.a
  have hsy : s.ws = s.us := hs
  obtain ⟨xs, hxs⟩ : ∃ xs, xs = bytesF s.h s.ws := ⟨_, rfl⟩
  have hxl : xs.length ≤ 200000 := by rw [hxs, bytesF_len]; have := ka.f.hn; omega
  have C := hide (fbytes_any W3 s.zf s.gf s.h s.ws ka.f)
  rw [← hxs] at C
  have C2 : Hid (∀ W, PQ w0 W (some s) t → Calls Try.prog 33 #[.pointer (some ⟨s.zr, 0, none⟩)] W (BytesC W xs)) := hide (fun W pW => by
    have kW : SlOk W s := pW.a
    have := rbytes_any W s.zr s.gr s.c s.h s.us kW.r
    rw [← hsy, ← hxs] at this
    exact this)
  have HXS := hide hxs
  have HFo := hide (And.intro ka.f.hh (And.intro ka.f.hn ka.f.ok))
  have hKc : (W3.cell? ⟨w.heap.size, 0, none⟩ = some (.int .i64 7)) := (hd3.st.cell 0).trans sa.c0
  have HKc := hide hKc
  clear ka hsy hxs hKc
  clear hb1 hk1 hs1 hq1 hb3 hd3 hbw p hq hs ht sa
  go_enter Try.func11, Try.ntmps11
  rw [hW1] at hW3
  rw [hW3] at e0 e1 e2
  rw [hW1] at c1 d0 d1
  go_wp2_with fail
  rw [← hW3]
  refine C.out.mono ?_
  rintro e w4 ⟨vb, rfl, ho4, hb4⟩
  have HP4 := hide (HP.out.below hb4)
  have HQ4 := hide (HQ.out.below hb4 HQ.out.lt)
  have HD4 := hide (HD.out.keep (KeepT.below hb4))
  have HBw4 := hide (HBw.out.trans (hb4.mono HBw.out.size))
  have HO4 : Hid (OwnsB w4 W3.heap.size vb xs) := hide ho4
  have HR4 : Hid (RdA w4 vb xs) := hide (.inl (Rd_owned ho4))
  obtain ⟨io, ic, hvb⟩ : ∃ io ic, vb = .slice io xs.length ic := by
    obtain ⟨a, c, e, _⟩ := HR4.out.slice
    exact ⟨a, c, e⟩
  subst hvb
  have C3 := hide (C2.out w4.drew (HP4.out.below (below_drewN' (Below.refl _ _) 1)))
  have hlo3 : w0.heap.size ≤ W3.heap.size := HP.out.bel.size
  clear e0 e1 e2
  have e1 : w4.cell? ⟨w.heap.size + 1, 0, none⟩ = some (.pointer (some ⟨s.zf, 0, none⟩)) := HD4.out.pr.cell 0
  have e2 : w4.cell? ⟨w.heap.size + 1, 1, none⟩ = some (.pointer (some ⟨s.zr, 0, none⟩)) := HD4.out.pr.cell 1
  clear ho4 hb4 hW1 hW3 c1 d0 d1 HKey C C2 HP HQ HBw
  go_wp2
  refine dc_walk _ (fun _ _ _ _ _ h => h) w4 w.heap.size (w.heap.size + 1) _ s.zr SC _ xs HR4.out HD4.out C3.out _ (Nat.lt_of_sub_pos (by exact Nat.succ_pos _)) rfl rfl ?_
  intro v1 w5 hb5
  have HP5 := hide (HP4.out.below hb5)
  have HQ5 := hide (HQ4.out.below hb5 HQ4.out.lt)
  have HD5 := hide (HD4.out.keep (KeepT.below hb5))
  have HBw5 := hide (HBw4.out.trans (hb5.mono HBw4.out.size))
  have HO5 := hide (owns_below HO4.out hb5)
  have HR5 := hide (HR4.out.below hb5)
  have e0 : w5.cell? ⟨w.heap.size, 0, none⟩ = some (.int .i64 7) := (HD5.out.st.cell 0).trans HSA.out.c0
  clear hb5 e1 e2 HP4 HQ4 HD4 HBw4 HO4 HR4 C3 HD HKc
  simp only [Act.put, List.setIfInBounds_toArray, List.set_cons_zero, List.set_cons_succ]
  have hob := open_bytes s.h s.ws HFo.out.1 HFo.out.2.1 HFo.out.2.2
  rw [← HXS.out] at hob
  have HOB := hide hob
  have CO := hide (fopen_any w5 _ xs HR5.out (by omega))
  clear hob HFo
  go_wp2_with fail
  refine CO.out.mono ?_
  rintro e w6 (⟨hno, _⟩ | ⟨-, z, g, rfl, hf6, hz6, hg6, hb6⟩)
  · exact absurd HOB.out.1 hno
  rw [HOB.out.2.1, HOB.out.2.2] at hf6
  have HP6 := hide (HP5.out.setN hf6 hg6 hb6)
  have HQ6 := hide (HQ5.out.below hb6 HQ5.out.lt)
  have HBw6 := hide (HBw5.out.trans (hb6.mono HBw5.out.size))
  have HA6 : Hid (AnyRow w6 W3.heap.size io xs.length ic) := hide ⟨_, owns_below HO5.out hb6, fun y hy => by
    obtain ⟨u, _, rfl⟩ := List.mem_map.1 hy
    exact ⟨_, rfl⟩⟩
  have HS6 : Hid (∀ b cs, Blk w b cs 25 → Blk w6 b cs 25) := hide (fun b cs hb => hb.below HBw6.out hb.lt)
  have n3 := eqSomeF
  clear hf6 hz6 hg6 hb6 CO HOB HP5 HQ5 HBw5 HO5 HR5 HD5 e0 HXS HSA HBw6
  go_wp2
  go_loopw [10] (fun s10 wr => ∃ k : Nat, s10 = .int .i64 k ∧ k ≤ xs.length ∧ AnyRow wr W3.heap.size io xs.length ic ∧ PQ w0 wr (some { s with zf := z, gf := g, ws := s.ws }) t ∧ Blk wr q (cells2 1 (some s) t) 30 ∧ Hid (∀ b cs, Blk w b cs 25 → Blk wr b cs 25)) (fun s10 _ => xs.length - (intOf s10).toNat)
  case atStart => exact ⟨0, rfl, by omega, HA6.out, HP6.out, HQ6.out, HS6⟩
  case round =>
    clear HA6 HP6 HQ6 HS6
    obtain ⟨k, rfl, hk, hA, hP, hQ, HS⟩ := hrel
    have HA := hide hA
    have HP := hide hP
    have HQ := hide hQ
    clear hP hQ
    by_cases hlt : k < xs.length
    · have hki : (k : Int) < xs.length := by omega
      obtain ⟨gi, hgi⟩ := hA.form (by omega)
      subst hgi
      obtain ⟨ys, hy1, hy2⟩ := hA
      obtain ⟨⟨q0, hq0⟩, hfz, hgb⟩ := own_cell hy1 hy2 k hlt
      have HY := hide (fun q' => own_set hy1 hy2 k hlt q')
      obtain ⟨q2, hq2⟩ : ∃ q2, q2 = bits .xor .u8 q0 255 := ⟨_, rfl⟩
      have hq2' : bits .xor .u8 q0 255 = q2 := hq2.symm
      have HP7 := hide (HP.out.any8 (k := k) (v := .int .u8 q2) HA.out (Nat.le_trans hlo3 hgb))
      have HQ7 := hide (blk_any8 (k := k) (v := .int .u8 q2) HQ.out (by decide) HA.out)
      have HS7 : Hid (∀ b cs, Blk w b cs 25 → Blk (wr.setCell ⟨gi, k, none⟩ (.int .u8 q2)) b cs 25) := hide (fun b cs hb => blk_any8 (HS.out b cs hb) (by decide) HA.out)
      clear hy1 hy2 hq2 HA HP HQ HS
      go_wp2
      obtain ⟨ys', h1, h2⟩ := HY.out q2
      exact ⟨⟨k + 1, by go_num, by omega, ⟨ys', h1, h2⟩, HP7.out, HQ7.out, HS7⟩, by simp [intOf]; omega⟩
    · have hki : ¬ (k : Int) < xs.length := by omega
      have y0 : wr.cell? ⟨q, 2, none⟩ = some (.pointer (some ⟨s.zf, 0, none⟩)) := HQ.out.cell 2
      have z0 : wr.frozen? ⟨q, 2, none⟩ = false := HQ.out.frozen 2
      clear hA HA
      go_wp2
      go_ret
      have hg : wr.grownBy (wr.setCell ⟨q, 2, none⟩ (.pointer (some ⟨z, 0, none⟩))) (some q) := grownBy_set _ _ _ _
      refine ⟨rfl, some { s with zf := z, gf := g, ws := s.ws }, HSY.out.1, HP.out.grownX hg HQ.out tpPair hlo, HQ.out.set 2 _, fun b cs hb => ?_⟩
      have h1 := HS.out b cs hb
      exact h1.grown hg (snn (blk_ne h1 HQ.out (by decide)))
end Go.Proofs.Ytbemmhngadpjcaa
