/- Block, the document's. -/
import Derived.Test.YtjcfndiceinkjabDoorZtm
import Derived.Deep.RegionHeld3
namespace Go.Proofs.YtjcfndiceinkjabDoor
set_option linter.unusedVariables false
set_option linter.unusedSimpArgs false
open Go.RowKit

theorem nats_len (s : S8) : s.nats.length = 8 := rfl
theorem Blk8.at {w : World} {z : Nat} {s : S8} (h : Blk8 w z s) (k : Nat) (hk : k < 8) : w.cell? ⟨z, k, none⟩ = some (.int .u32 ((s.nats[k]?.getD 0 : Nat) : Int)) := by
  rw [Blk.cell h]
  rcases (show k = 0 ∨ k = 1 ∨ k = 2 ∨ k = 3 ∨ k = 4 ∨ k = 5 ∨ k = 6 ∨ k = 7 by omega) with rfl | rfl | rfl | rfl | rfl | rfl | rfl | rfl <;> rfl
theorem nats_lt {s : S8} (h : s.ok) (k : Nat) : s.nats[k]?.getD 0 < 4294967296 := by
  obtain ⟨h1, h2, h3, h4, h5, h6, h7, h8⟩ := h
  rcases Nat.lt_or_ge k 8 with hk | hk
  · rcases (show k = 0 ∨ k = 1 ∨ k = 2 ∨ k = 3 ∨ k = 4 ∨ k = 5 ∨ k = 6 ∨ k = 7 by omega) with rfl | rfl | rfl | rfl | rfl | rfl | rfl | rfl <;> assumption
  · rw [List.getElem?_eq_none (by rw [nats_len]; exact hk)]; decide
theorem take_succ_nats (s : S8) (k : Nat) (hk : k < 8) : s.nats.take (k + 1) = s.nats.take k ++ [s.nats[k]?.getD 0] := by
  have hl : k < s.nats.length := hk
  rw [List.take_succ_eq_append_getElem hl, List.getElem?_eq_getElem hl]; rfl

theorem cell_far {w : World} {z i y j : Nat} (v : Value) (h : ¬ y = z) : (w.setCell ⟨z, i, none⟩ v).cell? ⟨y, j, none⟩ = w.cell? ⟨y, j, none⟩ := World.cell?_setCell_other _ _ _ _ (by intro e; cases e; exact h rfl)
theorem OwnsW.new8 (w : World) (xs : List Nat) (hl : xs.length = 8) (base : Nat) (hb : base ≤ w.heap.size) : OwnsW (w.alloc (.cells (xs.map u64c).toArray 47)) base (.slice (some ⟨w.heap.size, 0, none⟩) 8 8) xs :=
  ⟨by simp, .inr ⟨w.heap.size, 8, (xs.map u64c).toArray, by rw [hl], hb, Blk.made w _ _, by omega, by unfold maxLen; omega, by simp [hl], List.take_of_length_le (by simp)⟩⟩
/-- The first k words, and zeros. -/
def out8 (s : S8) (k : Nat) : List Value := (s.nats.take k ++ List.replicate (8 - k) 0).map u32c
theorem out8_set (s : S8) (k : Nat) (hk : k < 8) : (out8 s k).set k (u32c (s.nats[k]?.getD 0)) = out8 s (k + 1) := by
  obtain ⟨a, b, c, d, e, f, g, h⟩ := s
  rcases (show k = 0 ∨ k = 1 ∨ k = 2 ∨ k = 3 ∨ k = 4 ∨ k = 5 ∨ k = 6 ∨ k = 7 by omega) with rfl | rfl | rfl | rfl | rfl | rfl | rfl | rfl <;> rfl
theorem out8_next (s : S8) (k : Nat) (hk : k < 8) : (out8 s k)[k]? = some (u32c 0) := by
  obtain ⟨a, b, c, d, e, f, g, h⟩ := s
  rcases (show k = 0 ∨ k = 1 ∨ k = 2 ∨ k = 3 ∨ k = 4 ∨ k = 5 ∨ k = 6 ∨ k = 7 by omega) with rfl | rfl | rfl | rfl | rfl | rfl | rfl | rfl <;> rfl
theorem addS_at (s t : S8) (k : Nat) (hk : k < 8) : (addS s t).nats[k]?.getD 0 = (s.nats[k]?.getD 0 + t.nats[k]?.getD 0) % 4294967296 := by
  rcases (show k = 0 ∨ k = 1 ∨ k = 2 ∨ k = 3 ∨ k = 4 ∨ k = 5 ∨ k = 6 ∨ k = 7 by omega) with rfl | rfl | rfl | rfl | rfl | rfl | rfl | rfl <;> rfl
set_option maxRecDepth 40000 in
set_option maxHeartbeats 4000000 in
theorem rblock_any (w : World) (hT : Tabs w) (s : S8) (hs : s.ok) (v : Value) (b : List UInt8) (hrd : Rd w v b) (hb : b.length = 64) : Calls Tryd.prog 32 #[s.val, v] w fun e w' => e = .returned (blk s b).val ∧ Below w.heap.size w w' := by
  have HT := hide hT
  have HWD := hide (fun w v (h : Rd w v b) => words_any w v b h hb)
  have HOK := hide hs
  obtain ⟨bz, bo, bc, rfl⟩ : ∃ bz bo bc, v = .slice (some ⟨bz, bo, none⟩) 64 bc := by
    rcases hrd.form with ⟨_, rfl⟩ | ⟨bz, bo, bc, e, _⟩
    · simp at hb
    · exact ⟨bz, bo, bc, by rw [e, hb]⟩
  have HRD := hide hrd
  clear hT hs hrd
  obtain ⟨sv, hsv⟩ : ∃ sv, sv = s := ⟨_, rfl⟩
  obtain ⟨a, b', c, d, e, f, g, h⟩ := s
  unfold S8.val
  simp only []
  go_enter Tryd.func32, Tryd.ntmps32
  go_wp2_with fail
  have hb00 : Below w.heap.size w ((w.alloc (.cells #[.int .u32 a, .int .u32 b', .int .u32 c, .int .u32 d, .int .u32 e, .int .u32 f, .int .u32 g, .int .u32 h] 69)).alloc (.cells #[.int .u32 0, .int .u32 0, .int .u32 0, .int .u32 0, .int .u32 0, .int .u32 0, .int .u32 0, .int .u32 0] 69)) := ((Below.refl _ _).alloc (Nat.le_refl _) _).alloc (by simp) _
  refine (HWD.out _ _ (HRD.out.below hb00)).mono ?_
  rintro e' w1 ⟨vw, rfl, how, hb1⟩
  have hb01 : Below w.heap.size w w1 := hb00.trans (hb1.mono hb00.size)
  have h8 : Blk8 w1 w.heap.size sv := by rw [hsv]; exact Blk.below ((Blk.made w _ _).alloc _) hb1 (by simp; omega)
  have hr8 : Blk w1 (w.heap.size + 1) #[.int .u32 0, .int .u32 0, .int .u32 0, .int .u32 0, .int .u32 0, .int .u32 0, .int .u32 0, .int .u32 0] 69 := by
    refine Blk.below ?_ hb1 (by simp)
    have := Blk.made (w.alloc (.cells #[.int .u32 a, .int .u32 b', .int .u32 c, .int .u32 d, .int .u32 e, .int .u32 f, .int .u32 g, .int .u32 h] 69)) #[.int .u32 0, .int .u32 0, .int .u32 0, .int .u32 0, .int .u32 0, .int .u32 0, .int .u32 0, .int .u32 0] 69
    rw [World.size_alloc] at this
    exact this
  have hsz1 : w.heap.size + 1 < w1.heap.size := hr8.lt
  obtain ⟨gw, cw, rfl⟩ := how.form (by rw [wds_length]; omega)
  rw [wds_length] at how ⊢
  have HT1 := hide (HT.out.below hb01)
  have H8 := hide h8
  have HR8 := hide hr8
  have HOW := hide how
  have hsok : sv.ok := by rw [hsv]; exact HOK.out
  have HSV := hide hsv
  clear hb1 h8 hr8 HT HWD how hb00 HRD hsv
  go_wp2
  go_loopw [6, 7] (fun v i wr => ∃ (va : Value) (k : Nat), va = v ∧ i = .int .i64 k ∧ k ≤ 8 ∧ OwnsW wr w1.heap.size va (sv.nats.take k) ∧ Below w1.heap.size w1 wr) (fun _ i _ => 8 - (intOf i).toNat)
  case atStart => exact ⟨_, 0, rfl, rfl, by omega, World.ownsRow_nil _ _ _ _, Below.refl _ _⟩
  case round =>
    obtain ⟨va, k, rfl, rfl, hk, hown, hbel⟩ := hrel
    have hszr : w1.heap.size ≤ wr.heap.size := hbel.size
    by_cases hlt : k < 8
    · have hc := Blk8.at (Blk.below H8.out hbel (by omega)) k hlt
      have hn := nats_lt hsok k
      have hts := take_succ_nats sv k hlt
      generalize sv.nats[k]?.getD 0 = x at hc hn hts
      have HO := hide hown
      have HTS := hide hts
      clear hown hts
      go_wp2_with (at_builtin; refine wpList_append_word rfl _ _ rfl w1.heap.size _ (sv.nats.take k) rfl ?c1 wr.heap.size 1 rfl x (x : Int) rfl ?c2 ?c3 ?c4 ?_)
      case c1 => exact HO.out.below ((Below.refl _ _).alloc (Nat.le_refl _) _)
      case c2 => exact (Blk.made wr _ _).cell 0
      case c3 => rw [List.length_take, nats_len]; omega
      case c4 => simp; omega
      intro v' w2 HO' HG
      go_wp2
      refine ⟨⟨_, k + 1, rfl, by go_num, by omega, ?_, own_below (hbel.alloc hszr _) (HO.out.below ((Below.refl _ _).alloc (Nat.le_refl _) _)) (by simp; omega) HG.out⟩, by simp [intOf]; omega⟩
      rw [HTS.out]; exact HO'.out
    · rw [List.take_of_length_le (by rw [nats_len]; omega)] at hown
      have HO := hide hown
      clear hown
      go_wp2
      go_loopw [6, 8] (fun v i wr => ∃ (va : Value) (k : Nat), va = v ∧ i = .int .i64 k ∧ k ≤ 64 ∧ OwnsW wr w1.heap.size va (rounds (wds b 64) sv k).nats ∧ Below w1.heap.size w1 wr) (fun _ i _ => 64 - (intOf i).toNat)
      case atStart => exact ⟨_, 0, rfl, rfl, by omega, HO.out, hbel⟩
      case round =>
        clear HO hbel hszr
        obtain ⟨va, k, rfl, rfl, hk, hown, hbel⟩ := hrel
        have hszr : w1.heap.size ≤ wr.heap.size := hbel.size
        obtain ⟨t, ht⟩ : ∃ t, t = rounds (wds b 64) sv k := ⟨_, rfl⟩
        rw [← ht] at hown
        have hok : t.ok := by rw [ht]; exact rounds_ok _ hsok k
        obtain ⟨gs, cs, rfl⟩ := hown.form (by rw [nats_len]; omega)
        rw [nats_len] at hown ⊢
        by_cases hlt : k < 64
        · obtain ⟨K, hK⟩ : ∃ K, K = Kt[k]?.getD 0 := ⟨_, rfl⟩
          obtain ⟨W, hW⟩ : ∃ W, W = (wds b 64)[k]?.getD 0 := ⟨_, rfl⟩
          have lK : K < 4294967296 := by rw [hK]; exact Kt_lt k
          have hwl : k < (wds b 64).length := by rw [wds_length]; exact hlt
          have lW : W < 4294967296 := by rw [hW, List.getElem?_eq_getElem hwl]; exact wds_lt b 64 _ (List.getElem_mem hwl)
          have qK : wr.cell? ⟨1, k, none⟩ = some (.int .u64 K) := by rw [hK]; exact (HT1.out.below hbel).ref k hlt
          have qW : wr.cell? ⟨gw, k, none⟩ = some (.int .u64 W) := by rw [hW]; exact (HOW.out.below hbel).at k hwl
          have hnext : rounds (wds b 64) sv (k + 1) = rnd K W t := by rw [hK, hW, ht]; rfl
          obtain ⟨a1, b1, c1, d1, e1, f1, g1, h1⟩ := t
          obtain ⟨la, lb, lc, ld, le, lf, lg, lh⟩ := hok
          simp only [] at la lb lc ld le lf lg lh
          have q0 : wr.cell? ⟨gs, 0, none⟩ = some (.int .u64 a1) := hown.at 0 (by rw [nats_len]; omega)
          have q1 : wr.cell? ⟨gs, 1, none⟩ = some (.int .u64 b1) := hown.at 1 (by rw [nats_len]; omega)
          have q2 : wr.cell? ⟨gs, 2, none⟩ = some (.int .u64 c1) := hown.at 2 (by rw [nats_len]; omega)
          have q3 : wr.cell? ⟨gs, 3, none⟩ = some (.int .u64 d1) := hown.at 3 (by rw [nats_len]; omega)
          have q4 : wr.cell? ⟨gs, 4, none⟩ = some (.int .u64 e1) := hown.at 4 (by rw [nats_len]; omega)
          have q5 : wr.cell? ⟨gs, 5, none⟩ = some (.int .u64 f1) := hown.at 5 (by rw [nats_len]; omega)
          have q6 : wr.cell? ⟨gs, 6, none⟩ = some (.int .u64 g1) := hown.at 6 (by rw [nats_len]; omega)
          have q7 : wr.cell? ⟨gs, 7, none⟩ = some (.int .u64 h1) := hown.at 7 (by rw [nats_len]; omega)
          have HE := hide (fun w => three_any w e1 6 11 25 le (by decide) (by decide) (by decide))
          have HA := hide (fun w => three_any w a1 2 13 22 la (by decide) (by decide) (by decide))
          have zn : IntKind.u64.wrap (4294967295 - (e1 : Int)) = ((4294967295 - e1 : Nat) : Int) := by rw [IntKind.wrap_u64]; omega
          have zC : bits .or .u64 (bits .and .u64 (e1 : Int) (f1 : Int)) (bits .and .u64 ((4294967295 - e1 : Nat) : Int) (g1 : Int)) = ((ch e1 f1 g1 : Nat) : Int) := by
            rw [u64_and_nat _ _ (by omega) (by omega), u64_and_nat _ _ (by omega) (by omega), u64_or_nat _ _ (by have := and_lt (y := f1) le; omega) (by have := and_lt' (x := 4294967295 - e1) lg; omega)]; rfl
          have zM : bits .or .u64 (bits .or .u64 (bits .and .u64 (a1 : Int) (b1 : Int)) (bits .and .u64 (a1 : Int) (c1 : Int))) (bits .and .u64 (b1 : Int) (c1 : Int)) = ((maj a1 b1 c1 : Nat) : Int) := by
            have h1 := and_lt (y := b1) la
            have h2 := and_lt (y := c1) la
            have h3 := and_lt (y := c1) lb
            have h4 := or_lt h1 h2
            rw [u64_and_nat _ _ (by omega) (by omega), u64_and_nat _ _ (by omega) (by omega), u64_and_nat _ _ (by omega) (by omega), u64_or_nat _ _ (by omega) (by omega), u64_or_nat _ _ (by omega) (by omega)]; rfl
          have lS1 := S1_lt le
          have lS0 := S0_lt la
          have lch : ch e1 f1 g1 < 4294967296 := ch_lt le
          have lmj : maj a1 b1 c1 < 4294967296 := maj_lt la lb
          have hrn : rnd K W ⟨a1, b1, c1, d1, e1, f1, g1, h1⟩ = ⟨(h1 + S1 e1 + ch e1 f1 g1 + K + W + (S0 a1 + maj a1 b1 c1)) % 4294967296, a1, b1, c1, (d1 + (h1 + S1 e1 + ch e1 f1 g1 + K + W)) % 4294967296, e1, f1, g1⟩ := rfl
          have eS1 : rr 6 e1 ^^^ rr 11 e1 ^^^ rr 25 e1 = S1 e1 := rfl
          have eS0 : rr 2 a1 ^^^ rr 13 a1 ^^^ rr 22 a1 = S0 a1 := rfl
          rw [eS1] at HE
          rw [eS0] at HA
          generalize S1 e1 = p1 at hrn lS1 HE
          generalize S0 a1 = p0 at hrn lS0 HA
          generalize ch e1 f1 g1 = pc at zC hrn lch
          generalize maj a1 b1 c1 = pm at zM hrn lmj
          have HNX := hide (hnext.trans hrn)
          have HO := hide hown
          have hwlt : gw < wr.heap.size := by have := (owns_lt HOW.out gw rfl).2; omega
          clear hK hW hwl hnext ht hrn eS1 eS0 hown
          go_wp2
          go_quiet (first | (go_at_call 68; exact Calls.quiet_of (HE.out _)))
          obtain ⟨wn, hwn⟩ : ∃ wn, wn = wr.drewN nq := ⟨_, rfl⟩
          have hbn : Below wr.heap.size wr wn := by rw [hwn]; exact below_drew' _ _ _
          rw [← hwn]
          clear hwn q0 q1 q2 q4 q5 q6 q7 qK qW
          go_wp2_with fail
          refine (HA.out _).mono ?_
          rintro e' w3 ⟨rfl, m3, hw3⟩
          have hb3 : Below wr.heap.size wr w3 := by rw [hw3]; exact hbn.trans (below_drew' _ _ _)
          have q3' : w3.cell? ⟨gs, 3, none⟩ = some (.int .u64 d1) := (HO.out.below hb3).at 3 (by rw [nats_len]; omega)
          have hbel3 : Below w1.heap.size w1 w3 := hbel.trans (hb3.mono hszr)
          have hsz3 := hbel3.size
          clear hw3 hbn hb3 q3 hbel HO
          go_wp2
          refine ⟨⟨_, k + 1, rfl, by go_num, by omega, ?_, hbel3.alloc hsz3 _⟩, by simp [intOf]; omega⟩
          have h := OwnsW.new8 w3 (rounds (wds b 64) sv (k + 1)).nats (nats_len _) w1.heap.size hsz3
          rw [HNX.out] at h ⊢
          exact h
        · have hbk : blk sv b = addS sv t := by rw [ht, show k = 64 by omega]; rfl
          have HBK := hide hbk
          have HO := hide hown
          clear hown ht hbk
          obtain ⟨wp, rfl⟩ : ∃ w0, w0 = wr := ⟨_, rfl⟩
          go_wp2
          go_loopw [21] (fun i wr2 => ∃ (j : Nat), i = .int .i64 j ∧ j ≤ 8 ∧ Blk wr2 wp.heap.size (out8 (addS sv t) j).toArray 69 ∧ Below wp.heap.size wp wr2) (fun i _ => 8 - (intOf i).toNat)
          case atStart => exact ⟨0, rfl, by omega, Blk.made wp _ _, (Below.refl _ _).alloc (Nat.le_refl _) _⟩
          case round =>
            obtain ⟨j, rfl, hj, hblk, hbl2⟩ := hrel
            have hbw : Below w1.heap.size w1 wr := hbel.trans (hbl2.mono hszr)
            by_cases hlt8 : j < 8
            · have p0 := Blk8.at (Blk.below H8.out hbw (by omega)) j hlt8
              have pt := (HO.out.below hbl2).at j (by rw [nats_len]; exact hlt8)
              have la := nats_lt hsok j
              have lt := nats_lt hok j
              have hsum := addS_at sv t j hlt8
              have pz : wr.cell? ⟨wp.heap.size, j, none⟩ = some (.int .u32 0) := blk_at hblk (out8_next _ j hlt8)
              have pf := hblk.frozen j
              have hset := blk_set hblk j (u32c ((addS sv t).nats[j]?.getD 0))
              rw [out8_set _ j hlt8, hsum] at hset
              clear hsum
              generalize sv.nats[j]?.getD 0 = x at p0 la hset
              generalize t.nats[j]?.getD 0 = y at pt lt hset
              have HSET := hide hset
              have gne : ¬ gs = wp.heap.size := by have := (owns_lt HO.out gs rfl).2; omega
              have gne2 : ¬ w.heap.size = wp.heap.size := by omega
              have z1 : ((x : Int) + y) % 4294967296 = (((x + y) % 4294967296 : Nat) : Int) := by omega
              clear hset hblk
              go_wp2
              go_region_held3 (fun w' => w'.cell? ⟨w.heap.size, j, none⟩ = some (.int .u32 x) ∧ w'.cell? ⟨gs, j, none⟩ = some (.int .u64 y)) (first | exact ⟨(cell_far _ gne2).trans p0, (cell_far _ gne).trans pt⟩ | go_keep) (fail)
              go_wp2
              go_roundw
              case rel =>
                refine ⟨j + 1, by go_num, by omega, ?_, (hbl2.setCell (Nat.le_refl _) _).drew⟩
                exact HSET.out
              case measure => simp [intOf]; omega
            · obtain rfl : j = 8 := by omega
              have hB : Blk wr wp.heap.size #[.int .u32 (blk sv b).a, .int .u32 (blk sv b).b, .int .u32 (blk sv b).c, .int .u32 (blk sv b).d, .int .u32 (blk sv b).e, .int .u32 (blk sv b).f, .int .u32 (blk sv b).g, .int .u32 (blk sv b).h] 69 := by rw [HBK.out]; exact hblk
              have hZ := Blk.below HR8.out hbw (by omega)
              have HO8 := hide (cells8_one ((blk sv b).a : Int) ((blk sv b).b : Int) ((blk sv b).c : Int) ((blk sv b).d : Int) ((blk sv b).e : Int) ((blk sv b).f : Int) ((blk sv b).g : Int) ((blk sv b).h : Int))
              unfold cells8 at HO8
              obtain ⟨cv, hcv⟩ : ∃ cv : Array Value, cv = #[.int .u32 (blk sv b).a, .int .u32 (blk sv b).b, .int .u32 (blk sv b).c, .int .u32 (blk sv b).d, .int .u32 (blk sv b).e, .int .u32 (blk sv b).f, .int .u32 (blk sv b).g, .int .u32 (blk sv b).h] := ⟨_, rfl⟩
              rw [← hcv] at hB HO8
              have HL := hide (show cv.size = 8 by rw [hcv]; rfl)
              have HB := hide hB
              have HZ := hide hZ
              have HCV := hide hcv
              clear hB hZ hcv hblk
              have h0w : Below w.heap.size w wr := hb01.trans (hbw.mono hb01.size)
              go_wp2_with (first | ((with_reducible refine wpList_load_blk ?_ 69 _ Tryd.underlying69 ?_ 8 infoS8 (.tmp 20) ?_ wp.heap.size ?_ cv _ HB.out HL.out ?_); rfl; rfl; rfl; rfl) | ((with_reducible refine wpList_store_blk ?_ 69 (.tmp 4) (.tmp 132) ?_ (w.heap.size + 1) 8 _ cv 69 HL.out ?_ ?_ ?_ HZ.out infoS8 HO8.out ?_); rfl; rfl; rfl; rfl; rfl; intro w9 hk9 hg9))
              refine bodyPost_ret (results_cell rfl _ _ _ rfl _ (loadBlkT hk9 69 _ Tryd.underlying69 rfl 8 infoS8 HL.out)) rfl ?_
              have hb9 : Below w.heap.size w w9 := h0w.trans ⟨hg9.os, hg9.tape, hg9.output, hg9.size, fun i hi => hg9.block i (Nat.lt_of_lt_of_le hi h0w.size) (fun e => by have := Option.some.inj e; omega)⟩
              refine ⟨?_, hb9⟩
              rw [HCV.out, HSV.out]
end Go.Proofs.YtjcfndiceinkjabDoor
