/- Block, the program's. -/
import Derived.Test.YtjcfndiceinkjabDoorZSK2
namespace Go.Proofs.YtjcfndiceinkjabDoor
set_option linter.unusedVariables false
set_option linter.unusedSimpArgs false
open Go.RowKit

/-- The three tables, as they start. -/
structure Tabs (w : World) : Prop where
  sz : 5 ≤ w.heap.size
  ref : ∀ t, t < 64 → w.cell? ⟨1, t, none⟩ = some (u64c (Kt[t]?.getD 0))
  beg : ∀ t, t < 8 → w.cell? ⟨0, t, none⟩ = some (u64c (begin8.nats[t]?.getD 0))
  add : ∀ t, t < 64 → w.cell? ⟨4, t, none⟩ = some (u32c (Kt[t]?.getD 0))
theorem Tabs.grown {w w' : World} {row : Option Nat} (h : Tabs w) (hg : w.grownBy w' row) (hr : ∀ b, row = some b → 5 ≤ b) : Tabs w' := by
  have hs := h.sz
  have hc : ∀ b i, b < 5 → w'.cell? ⟨b, i, none⟩ = w.cell? ⟨b, i, none⟩ := by
    intro b i hb
    unfold World.cell?
    simp only
    rw [hg.block b (by omega) (fun e => by have := hr b e.symm; omega)]
  exact ⟨Nat.le_trans hs hg.size, fun t ht => (hc _ t (by omega)).trans (h.ref t ht), fun t ht => (hc _ t (by omega)).trans (h.beg t ht), fun t ht => (hc _ t (by omega)).trans (h.add t ht)⟩
theorem Tabs.below {w w' : World} (h : Tabs w) (hb : Below w.heap.size w w') : Tabs w' := h.grown (row := none) (grownBy_below hb) (fun _ e => by cases e)
theorem Kt_lt (t : Nat) : Kt[t]?.getD 0 < 4294967296 := by
  have h : ∀ x ∈ Kt, x < 4294967296 := by decide
  rcases Nat.lt_or_ge t Kt.length with hl | hl
  · rw [List.getElem?_eq_getElem hl]; exact h _ (List.getElem_mem hl)
  · rw [List.getElem?_eq_none hl]; decide
/-- A state as a value. -/
def S8.val (s : S8) : Value := .agg #[.int .u32 s.a, .int .u32 s.b, .int .u32 s.c, .int .u32 s.d, .int .u32 s.e, .int .u32 s.f, .int .u32 s.g, .int .u32 s.h]
/-- Eight words in a block. -/
def Blk8 (w : World) (z : Nat) (s : S8) : Prop := Blk w z #[.int .u32 s.a, .int .u32 s.b, .int .u32 s.c, .int .u32 s.d, .int .u32 s.e, .int .u32 s.f, .int .u32 s.g, .int .u32 s.h] 69

theorem not_nat (e : Nat) (he : e < 4294967296) : bits .xor .u32 IntKind.u32.max (e : Int) = ((4294967295 - e : Nat) : Int) := by
  have e1 : IntKind.u32.max = ((4294967295 : Nat) : Int) := by decide
  rw [e1, u32_xor_nat _ _ (by decide) he]
  congr 1
  apply Nat.eq_of_testBit_eq
  intro i
  have := Nat.testBit_two_pow_sub_succ (n := 32) he i
  rw [show 2 ^ 32 - (e + 1) = 4294967295 - e by omega] at this
  have h1 := Nat.testBit_two_pow_sub_one 32 i
  rw [show 2 ^ 32 - 1 = 4294967295 from rfl] at h1
  rw [Nat.testBit_xor, this, h1]
  by_cases hi : i < 32
  · simp [hi]
  · have : e.testBit i = false := Nat.testBit_lt_two_pow (Nat.lt_of_lt_of_le he (Nat.pow_le_pow_right (n := 2) (by decide) (by omega : 32 ≤ i)))
    simp [hi, this]
theorem ch_bits (e f g : Nat) (he : e < 4294967296) (hf : f < 4294967296) (hg : g < 4294967296) : bits .xor .u32 (bits .and .u32 (e : Int) (f : Int)) (bits .and .u32 (bits .xor .u32 IntKind.u32.max (e : Int)) (g : Int)) = ((ch e f g : Nat) : Int) := by
  rw [not_nat e he, u32_and_nat _ _ he hf, u32_and_nat _ _ (by omega) hg, u32_xor_nat _ _ (and_lt he) (and_lt' hg), ch_xor e f g he]
theorem maj_bits (a b c : Nat) (ha : a < 4294967296) (hb : b < 4294967296) (hc : c < 4294967296) : bits .xor .u32 (bits .xor .u32 (bits .and .u32 (a : Int) (b : Int)) (bits .and .u32 (a : Int) (c : Int))) (bits .and .u32 (b : Int) (c : Int)) = ((maj a b c : Nat) : Int) := by
  rw [u32_and_nat _ _ ha hb, u32_and_nat _ _ ha hc, u32_and_nat _ _ hb hc, u32_xor_nat _ _ (and_lt ha) (and_lt ha), u32_xor_nat _ _ (xor_lt (and_lt ha) (and_lt ha)) (and_lt hb), maj_xor]
theorem xor3_bits (x y z : Nat) (hx : x < 4294967296) (hy : y < 4294967296) (hz : z < 4294967296) : bits .xor .u32 (bits .xor .u32 (x : Int) (y : Int)) (z : Int) = ((x ^^^ y ^^^ z : Nat) : Int) := by
  rw [u32_xor_nat _ _ hx hy, u32_xor_nat _ _ (xor_lt hx hy) hz]
theorem sumA (h1 p1 pc K W p0 pm : Nat) : (((h1 : Int) + p1 + pc + K + W) % 4294967296 + ((p0 : Int) + pm) % 4294967296) % 4294967296 = (((h1 + p1 + pc + K + W + (p0 + pm)) % 4294967296 : Nat) : Int) := by omega
theorem sumE (d1 h1 p1 pc K W : Nat) : ((d1 : Int) + ((h1 : Int) + p1 + pc + K + W) % 4294967296) % 4294967296 = (((d1 + (h1 + p1 + pc + K + W)) % 4294967296 : Nat) : Int) := by omega
def cells8 (x0 x1 x2 x3 x4 x5 x6 x7 : Int) : Array Value := #[.int .u32 x0, .int .u32 x1, .int .u32 x2, .int .u32 x3, .int .u32 x4, .int .u32 x5, .int .u32 x6, .int .u32 x7]
theorem cells8_one (x0 x1 x2 x3 x4 x5 x6 x7 : Int) : (cells8 x0 x1 x2 x3 x4 x5 x6 x7).all (·.oneCell') = true := by simp [cells8, Value.oneCell']
set_option maxRecDepth 40000 in
set_option maxHeartbeats 4000000 in
theorem block_any (w : World) (hT : Tabs w) (s : S8) (hs : s.ok) (b : List UInt8) (hb : b.length = 64) : Calls Tryd.prog 105 #[s.val, .agg (b.map u8c).toArray] w fun e w' => e = .returned (blk s b).val ∧ Below w.heap.size w w' := by
  have HT := hide hT
  have HSP := hide (fun w => spread_any w b hb)
  have HOK := hide hs
  obtain ⟨cs, hcs⟩ : ∃ cs, cs = (b.map u8c).toArray := ⟨_, rfl⟩
  have HCL := hide (show cs.size = 64 by rw [hcs]; simp [hb])
  obtain ⟨ws, hws⟩ : ∃ ws, ws = ((wds b 64).map u32c).toArray := ⟨_, rfl⟩
  have HWL := hide (show ws.size = 64 by rw [hws]; simp [wds_length])
  have HWO := hide (show ws.all (·.oneCell') = true by rw [hws]; exact all_oneCell_toArray (u32c_one (wds b 64)))
  rw [← hcs, ← hws] at HSP
  rw [← hcs]
  have HWS := hide hws
  clear hT hs hcs hws
  obtain ⟨sv, hsv⟩ : ∃ sv, sv = s := ⟨_, rfl⟩
  obtain ⟨a, b', c, d, e, f, g, h⟩ := s
  unfold S8.val
  simp only []
  go_enter Tryd.func105, Tryd.ntmps105
  have HB1 := hide (((Blk.made (w.alloc (.cells #[.int .u32 a, .int .u32 b', .int .u32 c, .int .u32 d, .int .u32 e, .int .u32 f, .int .u32 g, .int .u32 h] 69)) cs 105).alloc (.cells #[.int .u32 0, .int .u32 0, .int .u32 0, .int .u32 0, .int .u32 0, .int .u32 0, .int .u32 0, .int .u32 0] 69)))
  rw [World.size_alloc] at HB1
  go_wp2_with (first | fail | ((with_reducible refine wpList_load_blk ?_ 105 _ Tryd.underlying105 ?_ 64 infoB64 (.tmp 3) ?_ (w.heap.size + 1) ?_ cs _ HB1.out HCL.out ?_); rfl; rfl; rfl; rfl))
  refine (HSP.out _).mono ?_
  rintro e' w1 ⟨rfl, hb1⟩
  have hb01 : Below w.heap.size w w1 := ((((Below.refl _ _).alloc (Nat.le_refl _) _).alloc (by simp) _).alloc (by simp; omega) _).trans (hb1.mono (by simp; omega))
  have h8 : Blk8 w1 w.heap.size ⟨a, b', c, d, e, f, g, h⟩ := Blk.below (((Blk.made w _ _).alloc _).alloc _) hb1 (by simp; omega)
  have hr8 : Blk w1 (w.heap.size + 1 + 1) #[.int .u32 0, .int .u32 0, .int .u32 0, .int .u32 0, .int .u32 0, .int .u32 0, .int .u32 0, .int .u32 0] 69 := by
    refine Blk.below ?_ hb1 (by simp)
    have := Blk.made ((w.alloc (.cells #[.int .u32 a, .int .u32 b', .int .u32 c, .int .u32 d, .int .u32 e, .int .u32 f, .int .u32 g, .int .u32 h] 69)).alloc (.cells cs 105)) #[.int .u32 0, .int .u32 0, .int .u32 0, .int .u32 0, .int .u32 0, .int .u32 0, .int .u32 0, .int .u32 0] 69
    rw [World.size_alloc, World.size_alloc] at this
    exact this
  have hsz1 : w.heap.size + 1 + 1 < w1.heap.size := hr8.lt
  have HT1 := hide (HT.out.below hb01)
  have H8 := hide h8
  have HR8 := hide hr8
  clear hb1 h8 hr8 HB1 HT HSP
  go_wp2_with ((with_reducible refine wpList_store_blk ?_ 147 (.tmp 5) (.tmp 20) ?_ w1.heap.size 64 _ ws 147 HWL.out ?_ ?_ ?_ (Blk.made w1 _ _) infoW64 HWO.out ?_); rfl; rfl; rfl; rfl; rfl; intro w2 hk2 hg2)
  have hg1 : w1.grownBy w2 (some w1.heap.size) := grownBy_trans (World.grownBy_alloc _ _ _) hg2
  have hb12 : Below w1.heap.size w1 w2 := below_grownBy hg1 (Nat.le_refl _) (Nat.le_refl _)
  have HT2 := hide (HT1.out.below hb12)
  have H82 : Hid (Blk8 w2 w.heap.size ⟨a, b', c, d, e, f, g, h⟩) := hide (Blk.below H8.out hb12 (by omega))
  have HR82 : Hid (Blk w2 (w.heap.size + 1 + 1) #[.int .u32 0, .int .u32 0, .int .u32 0, .int .u32 0, .int .u32 0, .int .u32 0, .int .u32 0, .int .u32 0] 69) := hide (Blk.below HR8.out hb12 hsz1)
  have hb02 : Below w.heap.size w w2 := hb01.trans (hb12.mono hb01.size)
  obtain ⟨z, hz⟩ : ∃ z, z = w1.heap.size := ⟨_, rfl⟩
  have hzlt : w.heap.size + 1 + 1 < z := by omega
  rw [← hz] at hk2 ⊢
  have HK2 := hide hk2
  clear hg2 hg1 hb12 HT1 H8 HR8 hb01 hz hk2 hsz1
  have c0 : w2.cell? ⟨w.heap.size, 0, none⟩ = some (.int .u32 a) := H82.out.cell 0
  have c1 : w2.cell? ⟨w.heap.size, 1, none⟩ = some (.int .u32 b') := H82.out.cell 1
  have c2 : w2.cell? ⟨w.heap.size, 2, none⟩ = some (.int .u32 c) := H82.out.cell 2
  have c3 : w2.cell? ⟨w.heap.size, 3, none⟩ = some (.int .u32 d) := H82.out.cell 3
  have c4 : w2.cell? ⟨w.heap.size, 4, none⟩ = some (.int .u32 e) := H82.out.cell 4
  have c5 : w2.cell? ⟨w.heap.size, 5, none⟩ = some (.int .u32 f) := H82.out.cell 5
  have c6 : w2.cell? ⟨w.heap.size, 6, none⟩ = some (.int .u32 g) := H82.out.cell 6
  have c7 : w2.cell? ⟨w.heap.size, 7, none⟩ = some (.int .u32 h) := H82.out.cell 7
  go_quiet (fail)
  go_wp2
  go_quiet (fail)
  go_wp2
  have hsok : sv.ok := by rw [hsv]; exact HOK.out
  have HSV := hide hsv
  clear hsv c0 c1 c2 c3 c4 c5 c6 c7
  go_loopw [6, 7, 8, 9, 10, 11, 12, 13, 37] (fun s6 s7 s8 s9 s10 s11 s12 s13 i wr => ∃ (k : Nat) (t : S8), i = .int .i64 k ∧ k ≤ 64 ∧ t = rounds (wds b 64) sv k ∧ s6 = .int .u32 t.a ∧ s7 = .int .u32 t.b ∧ s8 = .int .u32 t.c ∧ s9 = .int .u32 t.d ∧ s10 = .int .u32 t.e ∧ s11 = .int .u32 t.f ∧ s12 = .int .u32 t.g ∧ s13 = .int .u32 t.h ∧ Below w2.heap.size w2 wr) (fun _ _ _ _ _ _ _ _ i _ => 64 - (intOf i).toNat)
  case atStart =>
    refine ⟨0, sv, rfl, by omega, rfl, ?_, ?_, ?_, ?_, ?_, ?_, ?_, ?_, ⟨rfl, rfl, rfl, Nat.le_refl _, fun _ _ => rfl⟩⟩ <;> rw [HSV.out]
  case round =>
    obtain ⟨k, t, rfl, hk, ht, rfl, rfl, rfl, rfl, rfl, rfl, rfl, rfl, hbel⟩ := hrel
    by_cases hlt : k < 64
    · have hok : t.ok := by rw [ht]; exact rounds_ok _ hsok k
      obtain ⟨K, hK⟩ : ∃ K, K = Kt[k]?.getD 0 := ⟨_, rfl⟩
      obtain ⟨W, hW⟩ : ∃ W, W = (wds b 64)[k]?.getD 0 := ⟨_, rfl⟩
      have lK : K < 4294967296 := by rw [hK]; exact Kt_lt k
      have hwl : k < (wds b 64).length := by rw [wds_length]; exact hlt
      have lW : W < 4294967296 := by rw [hW, List.getElem?_eq_getElem hwl]; exact wds_lt b 64 _ (List.getElem_mem hwl)
      have qK : wr.cell? ⟨4, k, none⟩ = some (.int .u32 K) := by rw [hK]; exact (HT2.out.below hbel).add k hlt
      have qW : wr.cell? ⟨z, k, none⟩ = some (.int .u32 W) := by
        refine ((HK2.out.below hbel HK2.out.lt).cell k).trans ?_
        rw [HWS.out, hW, List.getElem?_toArray, List.getElem?_map, List.getElem?_eq_getElem hwl]; rfl
      have hnext : rounds (wds b 64) sv (k + 1) = rnd K W t := by rw [hK, hW, ht]; rfl
      obtain ⟨a1, b1, c1, d1, e1, f1, g1, h1⟩ := t
      obtain ⟨la, lb, lc, ld, le, lf, lg, lh⟩ := hok
      simp only [] at la lb lc ld le lf lg lh ⊢
      have HR6 := hide (fun w => right_any w e1 6 le (by decide) (by decide))
      have HR11 := hide (fun w => right_any w e1 11 le (by decide) (by decide))
      have HR25 := hide (fun w => right_any w e1 25 le (by decide) (by decide))
      have HR2 := hide (fun w => right_any w a1 2 la (by decide) (by decide))
      have HR13 := hide (fun w => right_any w a1 13 la (by decide) (by decide))
      have HR22 := hide (fun w => right_any w a1 22 la (by decide) (by decide))
      have zS1 : bits .xor .u32 (bits .xor .u32 ((rr 6 e1 : Nat) : Int) ((rr 11 e1 : Nat) : Int)) ((rr 25 e1 : Nat) : Int) = ((S1 e1 : Nat) : Int) := xor3_bits _ _ _ (rr_lt 6 e1 (by decide) le) (rr_lt 11 e1 (by decide) le) (rr_lt 25 e1 (by decide) le)
      have zS0 : bits .xor .u32 (bits .xor .u32 ((rr 2 a1 : Nat) : Int) ((rr 13 a1 : Nat) : Int)) ((rr 22 a1 : Nat) : Int) = ((S0 a1 : Nat) : Int) := xor3_bits _ _ _ (rr_lt 2 a1 (by decide) la) (rr_lt 13 a1 (by decide) la) (rr_lt 22 a1 (by decide) la)
      have zC := ch_bits e1 f1 g1 le lf lg
      have zM := maj_bits a1 b1 c1 la lb lc
      have hrn : rnd K W ⟨a1, b1, c1, d1, e1, f1, g1, h1⟩ = ⟨(h1 + S1 e1 + ch e1 f1 g1 + K + W + (S0 a1 + maj a1 b1 c1)) % 4294967296, a1, b1, c1, (d1 + (h1 + S1 e1 + ch e1 f1 g1 + K + W)) % 4294967296, e1, f1, g1⟩ := rfl
      generalize S1 e1 = p1 at zS1 hrn
      generalize S0 a1 = p0 at zS0 hrn
      generalize ch e1 f1 g1 = pc at zC hrn
      generalize maj a1 b1 c1 = pm at zM hrn
      generalize rr 6 e1 = r6 at zS1 HR6
      generalize rr 11 e1 = r11 at zS1 HR11
      generalize rr 25 e1 = r25 at zS1 HR25
      generalize rr 2 a1 = r2 at zS0 HR2
      generalize rr 13 a1 = r13 at zS0 HR13
      generalize rr 22 a1 = r22 at zS0 HR22
      have HNX := hide (hnext.trans hrn)
      clear hK hW hwl hnext ht hrn
      go_wp2_with fail
      refine (HR6.out _).mono ?_
      rintro e' w' ⟨rfl, rfl⟩
      go_wp2_with fail
      refine (HR11.out _).mono ?_
      rintro e' w' ⟨rfl, rfl⟩
      go_wp2_with fail
      refine (HR25.out _).mono ?_
      rintro e' w' ⟨rfl, rfl⟩
      go_wp2
      go_quiet (fail)
      go_wp2_with fail
      refine (HR2.out _).mono ?_
      rintro e' w3 ⟨rfl, hw3⟩
      have hbel3 : Below w2.heap.size w2 w3 := by rw [hw3]; exact hbel.trans ⟨rfl, rfl, rfl, Nat.le_refl _, fun _ _ => rfl⟩
      clear hw3
      go_wp2_with fail
      refine (HR13.out _).mono ?_
      rintro e' w' ⟨rfl, rfl⟩
      go_wp2_with fail
      refine (HR22.out _).mono ?_
      rintro e' w' ⟨rfl, rfl⟩
      go_wp2
      refine ⟨⟨k + 1, _, by go_num, by omega, HNX.out.symm, ?_, rfl, rfl, rfl, ?_, rfl, rfl, rfl, hbel3⟩, by simp [intOf]; omega⟩
      · exact congrArg (Value.int .u32) (sumA h1 p1 pc K W p0 pm)
      · exact congrArg (Value.int .u32) (sumE d1 h1 p1 pc K W)
    · obtain rfl : k = 64 := by omega
      obtain ⟨tt, htt⟩ : ∃ tt, tt = t := ⟨_, rfl⟩
      have hok : t.ok := by rw [ht]; exact rounds_ok _ hsok 64
      have hbk : blk sv b = addS sv t := by rw [ht]; rfl
      have h8 := Blk.below H82.out hbel (Blk.lt H82.out)
      have hr8 := Blk.below HR82.out hbel (Blk.lt HR82.out)
      have c0 : wr.cell? ⟨w.heap.size, 0, none⟩ = some (.int .u32 a) := h8.cell 0
      have c1 : wr.cell? ⟨w.heap.size, 1, none⟩ = some (.int .u32 b') := h8.cell 1
      have c2 : wr.cell? ⟨w.heap.size, 2, none⟩ = some (.int .u32 c) := h8.cell 2
      have c3 : wr.cell? ⟨w.heap.size, 3, none⟩ = some (.int .u32 d) := h8.cell 3
      have c4 : wr.cell? ⟨w.heap.size, 4, none⟩ = some (.int .u32 e) := h8.cell 4
      have c5 : wr.cell? ⟨w.heap.size, 5, none⟩ = some (.int .u32 f) := h8.cell 5
      have c6 : wr.cell? ⟨w.heap.size, 6, none⟩ = some (.int .u32 g) := h8.cell 6
      have c7 : wr.cell? ⟨w.heap.size, 7, none⟩ = some (.int .u32 h) := h8.cell 7
      have hb0 : Below w.heap.size w wr := hb02.trans (hbel.mono hb02.size)
      obtain ⟨a1, b1, c1', d1, e1, f1, g1, h1⟩ := t
      obtain ⟨la, lb, lc, ld, le, lf, lg, lh⟩ := hok
      obtain ⟨ka, kb, kc, kd, ke, kf, kg, kh⟩ := HOK.out
      simp only [] at la lb lc ld le lf lg lh ka kb kc kd ke kf kg kh ⊢
      have HBK := hide hbk
      have HR := hide hr8
      clear hbk hr8 h8 htt ht
      have HO := hide (cells8_one (((a : Int) + a1) % 4294967296) (((b' : Int) + b1) % 4294967296) (((c : Int) + c1') % 4294967296) (((d : Int) + d1) % 4294967296) (((e : Int) + e1) % 4294967296) (((f : Int) + f1) % 4294967296) (((g : Int) + g1) % 4294967296) (((h : Int) + h1) % 4294967296))
      unfold cells8 at HO
      go_wp2_with ((with_reducible refine wpList_store_blk ?_ 69 (.tmp 4) (.tmp 134) ?_ (w.heap.size + 1 + 1) 8 _ #[.int .u32 (((a : Int) + a1) % 4294967296), .int .u32 (((b' : Int) + b1) % 4294967296), .int .u32 (((c : Int) + c1') % 4294967296), .int .u32 (((d : Int) + d1) % 4294967296), .int .u32 (((e : Int) + e1) % 4294967296), .int .u32 (((f : Int) + f1) % 4294967296), .int .u32 (((g : Int) + g1) % 4294967296), .int .u32 (((h : Int) + h1) % 4294967296)] 69 ?_ ?_ ?_ ?_ HR.out infoS8 HO.out ?_); rfl; rfl; rfl; rfl; rfl; rfl; intro w3 hk3 hg3)
      refine bodyPost_ret (results_cell rfl _ _ _ rfl _ (loadBlkT hk3 69 _ Tryd.underlying69 rfl 8 infoS8 rfl)) rfl ?_
      have hb3 : Below w.heap.size w w3 := hb0.trans ⟨hg3.os, hg3.tape, hg3.output, hg3.size, fun i hi => hg3.block i (Nat.lt_of_lt_of_le hi hb0.size) (fun e => by have := Option.some.inj e; omega)⟩
      have hv := HBK.out
      rw [HSV.out] at hv
      refine ⟨?_, hb3⟩
      rw [hv]
      rfl
end Go.Proofs.YtjcfndiceinkjabDoor
