/- Write of no bytes and of any; of a nil Hasher; Len. -/
import Derived.Test.YtjcfndiceinkjabDoorZSH5
namespace Go.Proofs.YtjcfndiceinkjabDoor
set_option linter.unusedVariables false
set_option linter.unusedSimpArgs false
set_option maxRecDepth 100000
open Go.RowKit

theorem copy_no (W : World) (ty : TypeId) (d ao : Option Addr) (dl dc c : Nat) : (Builtin.copy_ #[23, 23] ty #[.slice d dl dc, .slice ao 0 c]).run Tryd.prog W = .ok (.int .i64 0) W :=
  run_copy_none (P := Tryd.prog) W 23 23 ty 5 d ao dl dc 0 c Tryd.underlying23 infoU8s (Nat.zero_min _)
set_option maxRecDepth 40000 in
set_option maxHeartbeats 4000000 in
theorem write_empty (w : World) (z : Nat) (t : TypeId) (pre post : List Value) (bs : List UInt8) (hH : HOf w z t pre post bs) (ao : Option Addr) (c : Nat) (hlen : bs.length ≤ 4611686018427387904) :
    Calls Tryd.prog 65 #[.pointer (some ⟨z, pre.length, none⟩), .slice ao 0 c] w (WriteC w z t pre post bs) := by
  obtain ⟨s, hB, hs⟩ := hH
  obtain ⟨n, hn⟩ : ∃ n, n = bs.length := ⟨_, rfl⟩
  obtain ⟨r, hr⟩ : ∃ r, r = n % 64 := ⟨_, rfl⟩
  rw [← hn] at hlen
  have c73 := hB.c73
  have f73 := hB.frozen (pre.length + 73)
  have hB1 := hB.setN bs.length
  rw [← hn] at c73 hB1
  have hO : HOf (w.setCell ⟨z, pre.length + 73, none⟩ (.int .u64 n)) z t pre post bs := ⟨s, by rw [← hn]; exact hB1, hs⟩
  have e1 : (n : Int) % 64 = r := by omega
  have e2 : IntKind.i64.wrap (r : Int) = r := wrapi64_nat r (by omega)
  have e4 : IntKind.u64.wrap (n : Int) = (n : Int) := wrap64_nat n (by omega)
  have hr64 : r < 64 := by omega
  have HO := hide hO
  have HG1 := hide (grownBy_set w z (pre.length + 73) (.int .u64 n))
  have hcp := fun W ty d dl dc => copy_no W ty d ao dl dc c
  have hsa := slice64_allo z (pre.length + 9)
  clear hB hB1 hO hs hn hr
  by_cases hr0 : r = 0
  · have hr1 : ¬ (0 : Int) < r := by omega
    clear hr0
    go_enter Tryd.func65, Tryd.ntmps65
    go_wp2
    refine wp_loop_rounds 1 ?_
    rw [rounds_succ]
    go_wp2
    go_returns
    exact ⟨rfl, HO.out, HG1.out⟩
  · have hr1 : (0 : Int) < r := by omega
    have hsl := slice64 z (pre.length + 9) r hr64 (r : Int) rfl
    have hlt : (r : Int) < 64 := by omega
    clear hr0
    go_enter Tryd.func65, Tryd.ntmps65
    go_wp2
    go_returns
    exact ⟨rfl, HO.out, HG1.out⟩
theorem write_any (w : World) (hT : Tabs w) (z : Nat) (hz : 5 ≤ z) (t : TypeId) (pre post : List Value) (bs xs : List UInt8) (hH : HOf w z t pre post bs) (v : Value) (hv : RdA w v xs) (hvz : ∀ b o l c, v = .slice (some ⟨b, o, none⟩) l c → 0 < xs.length → b ≠ z) (hlen : bs.length + xs.length ≤ 4611686018427387904) :
    Calls Tryd.prog 65 #[.pointer (some ⟨z, pre.length, none⟩), v] w (WriteC w z t pre post (bs ++ xs)) := by
  rcases Nat.eq_zero_or_pos xs.length with h0 | hpos
  · obtain rfl : xs = [] := List.eq_nil_of_length_eq_zero h0
    obtain ⟨ao, c, rfl, _⟩ := hv.slice
    rw [List.append_nil]
    exact write_empty w z t pre post bs hH ao c (by simpa using hlen)
  · rcases hv with hv | ⟨_, _, rfl⟩
    · obtain ⟨ao, c, rfl, h1, h2, ⟨_, rfl⟩ | ⟨b, o, rfl, hc⟩⟩ := hv
      · omega
      · exact write_some w hT z hz t pre post bs xs hH b o c (hvz b o _ c rfl hpos) hpos h1 h2 hlen hc
    · simp at hpos
theorem write_nil (w : World) (v : Value) : Calls Tryd.prog 65 #[.pointer none, v] w fun e w' => e = .returned (.tuple #[]) ∧ w' = w := by
  go_enter Tryd.func65, Tryd.ntmps65
  go_wp2
  go_returns
  exact ⟨rfl, rfl⟩
end Go.Proofs.YtjcfndiceinkjabDoor

/- laid, Sum of a Hasher, Sum. -/
namespace Go.Proofs.YtjcfndiceinkjabDoor
set_option linter.unusedVariables false
set_option linter.unusedSimpArgs false
set_option maxRecDepth 100000
open Go.RowKit

/-- A key while it is laid: its first k bytes, and zeros. -/
def keyK (s : S8) (k : Nat) : List UInt8 := (bytes8 s).take k ++ List.replicate (32 - k) 0
theorem bytes8_len (s : S8) : (bytes8 s).length = 32 := by simp [bytes8]
theorem bytes8_at (s : S8) (k : Nat) (hk : k < 32) : (bytes8 s)[k]'(by rw [bytes8_len]; exact hk) = UInt8.ofNat (s.nats[k / 4]?.getD 0 / 2 ^ (24 - 8 * (k % 4)) % 256) := by simp [bytes8]
theorem keyK_set (s : S8) (k : Nat) (hk : k < 32) : (keyK s k).set k (UInt8.ofNat (s.nats[k / 4]?.getD 0 / 2 ^ (24 - 8 * (k % 4)) % 256)) = keyK s (k + 1) := by
  have hl : k < (bytes8 s).length := by rw [bytes8_len]; exact hk
  have h1 : ((bytes8 s).take k).length = k := by rw [List.length_take]; omega
  unfold keyK
  rw [List.set_append_right _ _ (by omega), h1, Nat.sub_self, show 32 - k = (32 - (k + 1)) + 1 by omega, List.replicate_succ, List.set_cons_zero, List.take_succ_eq_append_getElem hl, List.append_assoc, bytes8_at s k hk]
  rfl
theorem keyK_len (s : S8) (k : Nat) (hk : k ≤ 32) : (keyK s k).length = 32 := by simp [keyK, bytes8_len]; omega
theorem keyK_all (s : S8) : keyK s 32 = bytes8 s := by
  unfold keyK
  rw [List.take_of_length_le (by rw [bytes8_len]; omega)]; simp
theorem keyK_next (s : S8) (k : Nat) (hk : k < 32) : ∃ q : Int, ((keyK s k).map u8c)[k]? = some (.int .u8 q) := by
  have hl := keyK_len s k (by omega)
  exact ⟨_, by rw [List.getElem?_map, List.getElem?_eq_getElem (by omega)]; rfl⟩
theorem byte_cell (x : Nat) : u8c (UInt8.ofNat (x % 256)) = .int .u8 ((x % 256 : Nat) : Int) := by
  unfold u8c
  rw [UInt8.toNat_ofNat', Nat.mod_mod]
set_option maxRecDepth 40000 in
set_option maxHeartbeats 4000000 in
theorem slaid_any (w : World) (s : S8) (hs : s.ok) : Calls Tryd.prog 98 #[s.val] w fun e w' => e = .returned (.agg ((bytes8 s).map u8c).toArray) ∧ Below w.heap.size w w' := by
  have HOK := hide hs
  obtain ⟨sv, hsv⟩ : ∃ sv, sv = s := ⟨_, rfl⟩
  obtain ⟨a, b, c, d, e, f, g, h⟩ := s
  unfold S8.val
  simp only []
  clear hs
  go_enter Tryd.func98, Tryd.ntmps98
  go_wp2
  go_loopw [5] (fun i wr => ∃ k : Nat, i = .int .i64 k ∧ k ≤ 32 ∧ Blk8 wr w.heap.size sv ∧ Blk wr (w.heap.size + 1) ((List.replicate 32 (0 : UInt8)).map u8c).toArray 27 ∧ Blk wr (w.heap.size + 2) ((keyK sv k).map u8c).toArray 27 ∧ Below w.heap.size w wr) (fun i _ => 32 - (intOf i).toNat)
  case atStart =>
    refine ⟨0, rfl, by omega, by rw [hsv]; exact ((Blk.made w _ _).alloc _).alloc _, ?_, ?_, (((Below.refl _ _).alloc (Nat.le_refl _) _).alloc (by simp) _).alloc (by simp; omega) _⟩
    · have h1 := (Blk.made (w.alloc (.cells #[.int .u32 a, .int .u32 b, .int .u32 c, .int .u32 d, .int .u32 e, .int .u32 f, .int .u32 g, .int .u32 h] 69)) ((List.replicate 32 (0 : UInt8)).map u8c).toArray 27).alloc (.cells ((List.replicate 32 (0 : UInt8)).map u8c).toArray 27)
      rw [World.size_alloc] at h1
      exact h1
    · have h1 := Blk.made ((w.alloc (.cells #[.int .u32 a, .int .u32 b, .int .u32 c, .int .u32 d, .int .u32 e, .int .u32 f, .int .u32 g, .int .u32 h] 69)).alloc (.cells ((List.replicate 32 (0 : UInt8)).map u8c).toArray 27)) ((List.replicate 32 (0 : UInt8)).map u8c).toArray 27
      rw [World.size_alloc, World.size_alloc] at h1
      exact h1
  case round =>
    obtain ⟨k, rfl, hk, h8, hZ, hK, hbel⟩ := hrel
    by_cases hlt : k < 32
    · have hq4 : k / 4 < 8 := by omega
      have c1 := Blk8.at h8 (k / 4) hq4
      have hx := nats_lt (show sv.ok by rw [hsv]; exact HOK.out) (k / 4)
      obtain ⟨q, hq⟩ := keyK_next sv k hlt
      have c2 := blk_at hK hq
      have hf := hK.frozen k
      have hset := blk_set hK k (u8c (UInt8.ofNat (sv.nats[k / 4]?.getD 0 / 2 ^ (24 - 8 * (k % 4)) % 256)))
      rw [← List.map_set, keyK_set sv k hlt] at hset
      generalize sv.nats[k / 4]?.getD 0 = x at c1 hx hset
      obtain ⟨j, hj⟩ : ∃ j, j = k / 4 := ⟨_, rfl⟩
      obtain ⟨i, hi⟩ : ∃ i, i = 24 - 8 * (k % 4) := ⟨_, rfl⟩
      rw [← hj] at c1
      rw [← hi] at hset
      have e1 : (k : Int) / 4 = j := by omega
      have e2 : 24 - (k : Int) % 4 * 8 = (i : Int) := by omega
      have hj8 : (j : Int) < 8 := by omega
      have hi24 : i ≤ 24 := by omega
      have HSET := hide hset
      have H8 := hide h8
      have HZ := hide hZ
      clear hset h8 hZ hK hq hj hi hq4
      go_wp2
      refine ⟨⟨k + 1, by go_num, by omega, Blk.setOther H8.out ⟨w.heap.size + 1 + 1, k, none⟩ _ (by show w.heap.size ≠ w.heap.size + 1 + 1; omega), HZ.out.setOther ⟨w.heap.size + 1 + 1, k, none⟩ _ (by show w.heap.size + 1 ≠ w.heap.size + 1 + 1; omega), ?_, hbel.setCell (by show w.heap.size ≤ w.heap.size + 1 + 1; omega) _⟩, by simp [intOf]; omega⟩
      have h := HSET.out
      rw [byte_cell] at h
      simpa using h
    · obtain rfl : k = 32 := by omega
      rw [keyK_all] at hK
      have HZ := hide hZ
      have HK := hide hK
      obtain ⟨kc, hkc⟩ : ∃ kc, kc = ((bytes8 sv).map u8c).toArray := ⟨_, rfl⟩
      rw [← hkc] at HK
      have HL := hide (show kc.size = 32 by rw [hkc]; simp [bytes8_len])
      have HO := hide (show kc.all (·.oneCell') = true by rw [hkc]; exact all_oneCell_toArray (u8c_one (bytes8 sv)))
      have HZL := hide (show ((List.replicate 32 (0 : UInt8)).map u8c).toArray.size = 32 by simp)
      have HKC := hide hkc
      have HSV := hide hsv
      clear hZ hK hkc h8 hsv
      go_wp2_with (first | ((with_reducible refine wpList_load_blk ?_ 27 _ Tryd.underlying27 ?_ 32 infoKey (.tmp 3) ?_ (w.heap.size + 2) ?_ kc _ HK.out HL.out ?_); rfl; rfl; rfl; rfl) | ((with_reducible refine wpList_store_blk ?_ 27 (.tmp 2) (.tmp 21) ?_ (w.heap.size + 1) 32 _ kc 27 HL.out HZL.out ?_ ?_ HZ.out infoKey HO.out ?_); rfl; rfl; rfl; rfl; intro w2 hk2 hg2))
      refine bodyPost_ret (results_cell rfl _ _ _ rfl _ (loadBlkT hk2 27 _ Tryd.underlying27 rfl 32 infoKey HL.out)) rfl ?_
      refine ⟨by rw [HKC.out, HSV.out], hbel.trans ⟨hg2.os, hg2.tape, hg2.output, hg2.size, fun i hi => hg2.block i (Nat.lt_of_lt_of_le hi hbel.size) (fun e => by have := Option.some.inj e; omega)⟩⟩
end Go.Proofs.YtjcfndiceinkjabDoor

/- Sum of a Hasher, and Sum. -/
namespace Go.Proofs.YtjcfndiceinkjabDoor
set_option linter.unusedVariables false
set_option linter.unusedSimpArgs false
set_option maxRecDepth 100000
open Go.RowKit
theorem shaOf_len (bs : List UInt8) : (shaOf bs).length = 32 := bytes8_len _
theorem hlist_one {s : List Value} (hs : ∀ v ∈ s, v.oneCell' = true) (g : Bool) (W : List UInt8) (n : Nat) : ∀ v ∈ hlist s g W n, v.oneCell' = true := by
  intro v hv
  simp only [hlist, List.mem_append, List.mem_cons, List.mem_singleton, List.not_mem_nil, or_false] at hv
  rcases hv with hv | rfl | hv | rfl
  · exact hs v hv
  · rfl
  · exact u8c_one W v hv
  · rfl
theorem HB.range {w : World} {z : Nat} {t : TypeId} {pre post s : List Value} {g : Bool} {W : List UInt8} {n : Nat} (h : HB w z t pre post s g W n) : w.rangeAt z pre.length (hlist s g W n) := blk_mid h.blk
def zS : S8 := ⟨0, 0, 0, 0, 0, 0, 0, 0⟩
/-- The zero Hasher's cells. -/
def zeroH : Array Value := (hlist (st8 zS) false zs64 0).toArray
theorem zeroH_size : zeroH.size = 74 := by kernel_rfl
theorem zero_has (W : World) : (zeroValue 107).run Tryd.prog W = .ok (.agg zeroH) W := by kernel_rfl
theorem wpList_load_has {ops : Array Oper} {rest : List Oper} {op : Oper} {a : Act} {w : World} {Q : Exit → Act → World → Prop} (hgd : op.guard = none) (x : Operand) (ho : op.op = .load 107 x)
    (z : Nat) (pre : List Value) (hx : a.eval x = .pointer (some ⟨z, pre.length, none⟩)) (cs : List Value) (hc : w.rangeAt z pre.length cs) (hn : cs.length = 74)
    (h : wpList Tryd.prog ops Q rest (a.put op.dst (.agg cs.toArray)) w) : wpList Tryd.prog ops Q (op :: rest) a w :=
  wpList_load_mid hgd 107 x ho z pre.length hx cs _ hc Tryd.underlying107 rfl (by rw [hn]; exact infoHas) h
theorem wpList_load_st {ops : Array Oper} {rest : List Oper} {op : Oper} {a : Act} {w : World} {Q : Exit → Act → World → Prop} (hgd : op.guard = none) (x : Operand) (ho : op.op = .load 69 x)
    (z o : Nat) (hx : a.eval x = .pointer (some ⟨z, o, none⟩)) (s : S8) (hc : w.rangeAt z o (st8 s))
    (h : wpList Tryd.prog ops Q rest (a.put op.dst s.val) w) : wpList Tryd.prog ops Q (op :: rest) a w :=
  wpList_load_mid hgd 69 x ho z o hx (st8 s) _ hc Tryd.underlying69 rfl infoS8 h
theorem has_two {w w2 : World} {z : Nat} {t : TypeId} {pre post s : List Value} {g : Bool} {W : List UInt8} {n : Nat} {o1 o2 : Obj} (h : HB w z t pre post s g W n) (hg : ((w.alloc o1).alloc o2).grownBy w2 (some (w.heap.size + 1))) : HB w2 z t pre post s g W n :=
  (h.below (((Below.refl _ _).alloc (Nat.le_refl _) o1).alloc (by simp) o2)).grown hg (fun e => by have := Option.some.inj e; have := h.blk.lt; omega)
theorem below_two {w w2 : World} {o1 o2 : Obj} (hg : ((w.alloc o1).alloc o2).grownBy w2 (some (w.heap.size + 1))) : Below w.heap.size w w2 :=
  (((Below.refl _ _).alloc (Nat.le_refl _) o1).alloc (by simp) o2).trans (below_grownBy hg (by omega) (by simp; omega))
theorem key_two {w w2 : World} {cs : Array Value} {t : TypeId} {o2 : Obj} (hg : ((w.alloc (.cells cs t)).alloc o2).grownBy w2 (some (w.heap.size + 1))) : Blk w2 w.heap.size cs t :=
  ((Blk.made w cs t).alloc o2).grown hg (fun e => by have := Option.some.inj e; omega)
set_option maxRecDepth 40000 in
set_option maxHeartbeats 4000000 in
theorem hsum_any (w : World) (hT : Tabs w) (z : Nat) (t : TypeId) (pre post : List Value) (bs : List UInt8) (hH : HOf w z t pre post bs) (hlen : bs.length ≤ 4611686018427387000) :
    Calls Tryd.prog 66 #[.pointer (some ⟨z, pre.length, none⟩)] w fun e w' => e = .returned (keyV (shaOf bs)) ∧ Below w.heap.size w w' := by
  obtain ⟨s, hB, hs⟩ := hH
  have hzl := hB.blk.lt
  have c73 := hB.c73
  have HB0 := hide hB
  obtain ⟨L, hL⟩ : ∃ L, L = hlist (st8 s) (decide (64 ≤ bs.length)) (wait bs) bs.length := ⟨_, rfl⟩
  have hLl : L.length = 74 := by rw [hL]; exact HB.len hB.sl hB.wl
  have hL1 : L.toArray.all (·.oneCell') = true := by rw [hL]; exact all_oneCell_toArray (hlist_one hB.one _ _ _)
  have hrg := hB.range
  rw [← hL] at hrg
  have HLL := hide hLl
  have HLS := hide (show L.toArray.size = 74 by simpa using hLl)
  have HL1 := hide hL1
  have HL := hide hL
  have HT := hide hT
  have HRG : Hid (∀ W, Below w.heap.size w W → W.rangeAt z pre.length L) := by
    intro W hW
    have := (hB.below hW).range
    rwa [← hL] at this
  have HS := hide hs
  clear hB hL hLl hL1 hrg hT hs
  have hzv := zero_has
  have HZS := hide zeroH_size
  go_enter Tryd.func66, Tryd.ntmps66
  go_wp2_with (first | ((with_reducible refine wpList_load_has ?_ (.tmp 8) ?_ z pre ?_ L (HRG.out _ ?_) HLL.out ?_); rfl; rfl; rfl; exact (Below.refl _ _).alloc (Nat.le_refl _) _) | ((with_reducible refine wpList_store_blk ?_ 107 (.tmp 3) (.tmp 9) ?_ (w.heap.size + 1) 74 zeroH L.toArray 107 HLS.out HZS.out ?_ ?_ ?_ infoHas HL1.out ?_); rfl; rfl; rfl; rfl; exact blk_made1 _ _ _ _ _; intro w2 hk2 hg2; have k73 := (has_two HB0.out hg2).c73))
  have hH2 := has_two HB0.out hg2
  have hb2 : Below w.heap.size w w2 := below_two hg2
  have hN2 : w.heap.size + 1 < w2.heap.size := hk2.lt
  have hr2 := key_two hg2
  have hO2 : HOf w2 (w.heap.size + 1) 107 [] [] bs := by
    refine ⟨s, ⟨?_, HB0.out.sl, HB0.out.wl, HB0.out.one⟩, HS.out⟩
    rw [List.nil_append, List.append_nil, ← HL.out]
    exact hk2
  have HO2 := hide hO2
  have HT2 := hide (HT.out.below hb2)
  have HR2 := hide hr2
  clear hH2 hk2 hg2 k73 hO2 hr2 HB0
  refine (stail w2 bs.length (by omega)).mono ?_
  rintro e w3 ⟨v, rfl, hov, hb3⟩
  have hvl := owns_lt hov
  have hHO3 := HO2.out.below hb3
  have hT3 := HT2.out.below hb3
  have hrv := Rd_owned hov
  have HR3 := hide (Blk.below HR2.out hb3 (Blk.lt HR2.out))
  have hb03 := hb2.trans (hb3.mono hb2.size)
  have hz3 := HT.out.sz
  have htl := tailL_length bs.length
  have HWR := hide (write_any w3 hT3 (w.heap.size + 1) (by omega) 107 [] [] bs (tailL bs.length) hHO3 v (.inl hrv) (fun b o l c e _ => by
    subst e
    have := (hvl b rfl).1
    omega) (by omega))
  clear hov hvl hHO3 hT3 hrv hb3
  go_wp2_with fail
  refine HWR.out.mono ?_
  rintro e w4 ⟨rfl, hO4, hg4⟩
  obtain ⟨s4, hB4, hs4⟩ := hO4
  have hwh := tailL_whole bs.length
  have hs4' : s4 = chain begin8 ((bs.length + (tailL bs.length).length) / 64) (bs ++ tailL bs.length) := by
    rw [List.length_append] at hs4
    exact hs4 (by omega)
  have hok4 : s4.ok := by rw [hs4']; exact chain_ok begin8_ok _ _
  have hrs := hB4.rs
  have HR4 := hide (HR3.out.grown hg4 (fun e => by have := Option.some.inj e; omega))
  have hb04 : Below w.heap.size w w4 := hb03.trans (below_grownBy hg4 (by omega) hb03.size)
  have HRS : Hid (w4.rangeAt (w.heap.size + 1) 0 (st8 s4)) := hrs
  have HS4 := hide hs4'
  clear hrs hs4 hs4' hB4 hg4 HWR HR3 hb03 HO2 HT2 htl hwh
  go_wp2_with ((with_reducible refine wpList_load_st ?_ (.tmp 16) ?_ (w.heap.size + 1) 0 ?_ s4 HRS.out ?_); rfl; rfl; rfl)
  refine (slaid_any w4 s4 hok4).mono ?_
  rintro e w5 ⟨rfl, hb5⟩
  obtain ⟨kc, hkc⟩ : ∃ kc, kc = ((bytes8 s4).map u8c).toArray := ⟨_, rfl⟩
  rw [← hkc]
  have HR5 := hide (Blk.below HR4.out hb5 (Blk.lt HR4.out))
  have HL5 := hide (show kc.size = 32 by rw [hkc]; simp [bytes8_len])
  have HO5 := hide (show kc.all (·.oneCell') = true by rw [hkc]; exact all_oneCell_toArray (u8c_one (bytes8 s4)))
  have HKC := hide hkc
  have hb05 := hb04.trans (hb5.mono hb04.size)
  clear hkc hb5 hb04 HR4
  go_wp2_with ((with_reducible refine wpList_store_blk ?_ 27 (.tmp 2) (.tmp 18) ?_ w.heap.size 32 _ kc 27 HL5.out ?_ ?_ ?_ HR5.out infoKey HO5.out ?_); rfl; rfl; rfl; rfl; rfl; intro w6 hk6 hg6)
  refine bodyPost_ret (results_cell rfl _ _ _ rfl _ (loadBlkT hk6 27 _ Tryd.underlying27 rfl 32 infoKey HL5.out)) rfl ?_
  refine ⟨?_, hb05.trans (below_grownBy hg6 (Nat.le_refl _) hb05.size)⟩
  rw [HKC.out, HS4.out]
  rfl
theorem hsum_nil (w : World) : Calls Tryd.prog 66 #[.pointer none] w fun e w' => e = .returned (keyV (List.replicate 32 0)) ∧ Below w.heap.size w w' := by
  have HR := hide (Blk.made w #[.int .u8 0, .int .u8 0, .int .u8 0, .int .u8 0, .int .u8 0, .int .u8 0, .int .u8 0, .int .u8 0, .int .u8 0, .int .u8 0, .int .u8 0, .int .u8 0, .int .u8 0, .int .u8 0, .int .u8 0, .int .u8 0, .int .u8 0, .int .u8 0, .int .u8 0, .int .u8 0, .int .u8 0, .int .u8 0, .int .u8 0, .int .u8 0, .int .u8 0, .int .u8 0, .int .u8 0, .int .u8 0, .int .u8 0, .int .u8 0, .int .u8 0, .int .u8 0] 27)
  have HO := hide (show (#[.int .u8 0, .int .u8 0, .int .u8 0, .int .u8 0, .int .u8 0, .int .u8 0, .int .u8 0, .int .u8 0, .int .u8 0, .int .u8 0, .int .u8 0, .int .u8 0, .int .u8 0, .int .u8 0, .int .u8 0, .int .u8 0, .int .u8 0, .int .u8 0, .int .u8 0, .int .u8 0, .int .u8 0, .int .u8 0, .int .u8 0, .int .u8 0, .int .u8 0, .int .u8 0, .int .u8 0, .int .u8 0, .int .u8 0, .int .u8 0, .int .u8 0, .int .u8 0] : Array Value).all (·.oneCell') = true by kernel_rfl)
  go_enter Tryd.func66, Tryd.ntmps66
  go_wp2_with ((with_reducible refine wpList_store_blk ?_ 27 (.tmp 2) (.tmp 6) ?_ w.heap.size 32 _ #[.int .u8 0, .int .u8 0, .int .u8 0, .int .u8 0, .int .u8 0, .int .u8 0, .int .u8 0, .int .u8 0, .int .u8 0, .int .u8 0, .int .u8 0, .int .u8 0, .int .u8 0, .int .u8 0, .int .u8 0, .int .u8 0, .int .u8 0, .int .u8 0, .int .u8 0, .int .u8 0, .int .u8 0, .int .u8 0, .int .u8 0, .int .u8 0, .int .u8 0, .int .u8 0, .int .u8 0, .int .u8 0, .int .u8 0, .int .u8 0, .int .u8 0, .int .u8 0] 27 ?_ ?_ ?_ ?_ HR.out infoKey HO.out ?_); rfl; rfl; rfl; rfl; rfl; rfl; intro w6 hk6 hg6)
  refine bodyPost_ret (results_cell rfl _ _ _ rfl _ (loadBlkT hk6 27 _ Tryd.underlying27 rfl 32 infoKey rfl)) rfl ?_
  exact ⟨rfl, ((Below.refl _ _).alloc (Nat.le_refl _) _).trans (below_grownBy hg6 (Nat.le_refl _) (by simp))⟩
end Go.Proofs.YtjcfndiceinkjabDoor

/- Sum. -/
namespace Go.Proofs.YtjcfndiceinkjabDoor
set_option linter.unusedVariables false
set_option linter.unusedSimpArgs false
set_option maxRecDepth 100000
open Go.RowKit

theorem RdA.block {w : World} {v : Value} {xs : List UInt8} (h : RdA w v xs) (hp : 0 < xs.length) (b o l c : Nat) (e : v = .slice (some ⟨b, o, none⟩) l c) : b < w.heap.size := by
  obtain ⟨b', o', c', e', hc⟩ := h.at 0 hp
  rw [e] at e'
  obtain ⟨e1, _, _⟩ := (Value.slice.injEq ..).mp e'
  cases e1
  exact World.block_lt_of_cell? w _ hc
theorem hof_zero {w : World} {z : Nat} {t : TypeId} (h : Blk w z zeroH t) : HOf w z t [] [] [] := by
  refine ⟨zS, ⟨?_, rfl, rfl, st8_one _⟩, fun h => by simp at h⟩
  rw [List.nil_append, List.append_nil]
  exact h
set_option maxRecDepth 40000 in
set_option maxHeartbeats 4000000 in
theorem ssum_any (w : World) (hT : Tabs w) (v : Value) (xs : List UInt8) (hv : RdA w v xs) (hlen : xs.length ≤ 4611686018427387000) : Calls Tryd.prog 29 #[v] w fun e w' => e = .returned (keyV (shaOf xs)) ∧ Below w.heap.size w w' := by
  have hzv := zero_has
  have hz3 := hT.sz
  obtain ⟨kz, hkz⟩ : ∃ kz, kz = keyZ := ⟨_, rfl⟩
  have HV := hide hv
  have HT := hide hT
  obtain ⟨ao, c, rfl, hl63⟩ := hv.slice
  have HWR : Hid (∀ o1 : Obj, Calls Tryd.prog 65 #[.pointer (some ⟨w.heap.size + 1, 0, none⟩), .slice ao xs.length c] ((w.alloc o1).alloc (.cells zeroH 107)) (WriteC ((w.alloc o1).alloc (.cells zeroH 107)) (w.heap.size + 1) 107 [] [] xs)) := by
    intro o1
    have hb : Below w.heap.size w ((w.alloc o1).alloc (.cells zeroH 107)) := ((Below.refl _ _).alloc (Nat.le_refl _) o1).alloc (by simp) _
    exact write_any _ (HT.out.below hb) (w.heap.size + 1) (by omega) 107 [] [] [] xs (hof_zero (blk_made1 w o1 zeroH 107 _)) _ (HV.out.below hb) (fun b o l c' e hp => by have := HV.out.block hp b o l c' e; omega) (by rw [List.length_nil]; omega)
  clear hv hT
  go_enter Tryd.func29, Tryd.ntmps29
  go_wp2_with fail
  refine (HWR.out _).mono ?_
  rintro e w2 ⟨rfl, hO2, hg2⟩
  have hb2 : Below w.heap.size w w2 := below_two hg2
  have HK2 := hide (key_two hg2)
  have HO2 := hide hO2
  have HT2 := hide (HT.out.below hb2)
  clear HWR hO2 hg2 HV HT
  go_wp2_with fail
  refine (hsum_any w2 HT2.out (w.heap.size + 1) 107 [] [] xs HO2.out hlen).mono ?_
  rintro e w3 ⟨rfl, hb3⟩
  obtain ⟨kc, hkc⟩ : ∃ kc, kc = ((shaOf xs).map u8c).toArray := ⟨_, rfl⟩
  unfold keyV
  rw [← hkc]
  have HR5 := hide (Blk.below HK2.out hb3 (Blk.lt HK2.out))
  have HL5 := hide (show kc.size = 32 by rw [hkc]; simp [shaOf_len])
  have HO5 := hide (show kc.all (·.oneCell') = true by rw [hkc]; exact all_oneCell_toArray (u8c_one (shaOf xs)))
  have hb03 := hb2.trans (hb3.mono hb2.size)
  have HKC := hide hkc
  clear HK2 HO2 HT2 hb3 hkc
  go_wp2_with ((with_reducible refine wpList_store_blk ?_ 27 (.tmp 2) (.tmp 6) ?_ w.heap.size 32 _ kc 27 HL5.out ?_ ?_ ?_ HR5.out infoKey HO5.out ?_); rfl; rfl; rfl; rfl; rfl; intro w6 hk6 hg6)
  refine bodyPost_ret (results_cell rfl _ _ _ rfl _ (loadBlkT hk6 27 _ Tryd.underlying27 rfl 32 infoKey HL5.out)) rfl ?_
  exact ⟨by rw [HKC.out]; rfl, hb03.trans (below_grownBy hg6 (Nat.le_refl _) hb03.size)⟩
end Go.Proofs.YtjcfndiceinkjabDoor

/- The document's Sum: a block is taken. -/
namespace Go.Proofs.YtjcfndiceinkjabDoor
set_option linter.unusedVariables false
set_option linter.unusedSimpArgs false
set_option maxRecDepth 100000
open Go.RowKit

theorem run_add64 {op : Oper} {a : Act} {x : Operand} {k : Nat} (ho : op.op = .binOp .add 3 x (.const (.int .i64 64)) 3) (hx : a.eval x = .int .i64 (k : Int)) (hk : k + 64 ≤ 9223372036854775807) (w : World) : (execOp a.eval op).run Tryd.prog w = .ok (.value (.int .i64 ((k + 64 : Nat) : Int))) w := by
  have hcst : a.eval (.const (.int .i64 64)) = .int .i64 64 := rfl
  simp only [execOp, ho, hx, hcst]
  have e : IntKind.i64.wrap ((k : Int) + 64) = ((k + 64 : Nat) : Int) := by
    have e := wrapi64_nat (k + 64) (by omega)
    rwa [Int.natCast_add] at e
  simp [go_sem, e]
theorem run_cut64 {op : Oper} {ev : Operand → Value} {x y u : Operand} {g n c k : Nat} (ho : op.op = .slice 23 x (some y) (some u) none) (hx : ev x = .slice (some ⟨g, 0, none⟩) n c) (hy : ev y = .int .i64 (k : Int)) (hu : ev u = .int .i64 ((k + 64 : Nat) : Int)) (hkn : k + 64 ≤ n) (hnc : n ≤ c) (w : World) : (execOp ev op).run Tryd.prog w = .ok (.value (.slice (some ⟨g, k, none⟩) 64 (c - k))) w := by
  have hs : (sizeOf (Tryd.prog.elem 23)).run Tryd.prog w = .ok 1 w := by kernel_rfl
  have hue : Tryd.prog.underlying 23 = some (.slice (Tryd.prog.elem 23)) := by kernel_rfl
  have key : (Instr.sliceAt 23 (.slice (some ⟨g, 0, none⟩) n c) (some (.int .i64 (k : Int))) (some (.int .i64 ((k + 64 : Nat) : Int))) none).run Tryd.prog w = .ok (.slice (some ⟨g, k, none⟩) 64 (c - k)) w := by
    rw [run_sliceAt_slice _ _ _ _ _ _ hue, run_slice_lh w 23 (some ⟨g, 0, none⟩) n c hue .i64 .i64 k ((k + 64 : Nat) : Int) (by omega) (by omega) (by omega), hs]
    simp only [Result.andThen_ok, Int.toNat_natCast]
    unfold sliced
    have : ¬ c = k := by omega
    simp [this, Addr.add_mid]
  simp only [execOp, ho, hx, hy, hu, Option.map_some, Option.map_none, Sem.run_bind, key, Result.andThen_ok, Sem.run_pure]
def m8_0 (s : String) : Oper := { dst := some 26, op := Op.load 69 (Operand.tmp 4), type := 69, pos := s, after := #[], guard := none }
def m8_1 (s : String) : Oper := { dst := some 27, op := Op.move (Operand.tmp 3), type := 23, pos := s, after := #[], guard := none }
def m8_2 (s : String) : Oper := { dst := some 28, op := Op.move (Operand.tmp 5), type := 3, pos := s, after := #[], guard := none }
def m8_3 (s : String) : Oper := { dst := some 29, op := Op.move (Operand.tmp 5), type := 3, pos := s, after := #[], guard := none }
def m8_4 (s : String) : Oper := { dst := some 30, op := Op.binOp BinOp.add 3 (Operand.tmp 29) (Operand.const (Value.int IntKind.i64 64)) 3, type := 3, pos := s, after := #[{ on := 3, ground := Ground.data }], guard := none }
def m8_5 (s : String) : Oper := { dst := some 31, op := Op.slice 23 (Operand.tmp 27) (some (Operand.tmp 28)) (some (Operand.tmp 30)) none, type := 23, pos := s, after := #[{ on := 1, ground := Ground.data }, { on := 2, ground := Ground.data }, { on := 4, ground := Ground.data }], guard := none }
def m8_6 (s : String) : Oper := { dst := some 32, op := Op.call { callee := Callee.value (Operand.func 32), args := #[Operand.tmp 26, Operand.tmp 31], argTypes := #[69, 23] }, type := 69, pos := s, after := #[{ on := 0, ground := Ground.data }, { on := 5, ground := Ground.data }], guard := none }
def m8_7 (s : String) : Oper := { dst := none, op := Op.store 69 (Operand.tmp 4) (Operand.tmp 32), type := 0, pos := s, after := #[{ on := 6, ground := Ground.data }, { on := 6, ground := Ground.chain }, { on := 0, ground := Ground.phase }, { on := 1, ground := Ground.phase }, { on := 2, ground := Ground.phase }, { on := 3, ground := Ground.phase }, { on := 4, ground := Ground.phase }, { on := 5, ground := Ground.phase }, { on := 6, ground := Ground.phase }], guard := none }
def m8_ops (s : String) : Array Oper := #[m8_0 s, m8_1 s, m8_2 s, m8_3 s, m8_4 s, m8_5 s, m8_6 s, m8_7 s]
theorem m8_enter6 (s : String) (a : Act) (w : World) : (execOp a.eval (m8_6 s)).run Tryd.prog w = .ok (.enter 32 #[a.eval (.tmp 26), a.eval (.tmp 31)]) w := by kernel_rfl
theorem m8_walk (s : String) {Q : Exit → Act → World → Prop} (hQ : ∀ c (a : Act) t v w, Q (.panic c) (a.put (some t) v) w → Q (.panic c) a w) (W : World) (z4 g n c k : Nat) (sv r : S8) (hk : Blk W z4 (st8 sv).toArray 69) (hkn : k + 64 ≤ n) (hnc : n ≤ c) (hc63 : c ≤ 9223372036854775807) (hc : ∀ W', Below W.heap.size W W' → Calls Tryd.prog 32 #[.agg (st8 sv).toArray, .slice (some ⟨g, k, none⟩) 64 (c - k)] W' fun e w' => e = .returned (.agg (st8 r).toArray) ∧ Below W'.heap.size W' w')
    (a : Act) (hs : 32 < a.tmps.size) (e3 : a.eval (.tmp 3) = .slice (some ⟨g, 0, none⟩) n c) (e4 : a.eval (.tmp 4) = .pointer (some ⟨z4, 0, none⟩)) (e5 : a.eval (.tmp 5) = .int .i64 (k : Int))
    (h0 : ∀ w1, Below W.heap.size W w1 → ∀ w2, Blk w2 z4 (st8 r).toArray 69 → w1.grownBy w2 (some z4) → Q .normal (((((((a.put (some 27) (.slice (some ⟨g, 0, none⟩) n c)).put (some 28) (.int .i64 (k : Int))).put (some 29) (.int .i64 (k : Int))).put (some 30) (.int .i64 ((k + 64 : Nat) : Int))).put (some 31) (.slice (some ⟨g, k, none⟩) 64 (c - k))).put (some 26) (.agg (st8 sv).toArray)).put (some 32) (.agg (st8 r).toArray)) w2) :
    Code.wp Tryd.prog (.region 8 (m8_ops s) true) Q a W := by
  have hdr : Below W.heap.size W W.drew := ⟨rfl, rfl, rfl, Nat.le_refl _, fun _ _ => rfl⟩
  have hkd : Blk W.drew z4 (st8 sv).toArray 69 := hk
  refine wp_region_held_drew (S := fun _ => True) (by kernel_rfl) True.intro (fun hS => ?_)
  change wpAnyH _ _ _ _ _ _ _ _ (World.drew _)
  refine wpAnyH_take (i := 1) (oi := m8_1 s) (v := .slice (some ⟨g, 0, none⟩) n c) (by kernel_rfl) (by kernel_rfl) (by kernel_rfl) (by kernel_rfl) (fun c a w h => hQ c _ _ _ w h) (Or.inl ⟨wanted_none rfl, fun w hw => by simp only [execOp, m8_1, e3]; rfl⟩) hS ?_
  change wpAnyH _ _ _ _ _ _ _ (a.put (some 27) (.slice (some ⟨g, 0, none⟩) n c)) _
  obtain ⟨a0_1, ha1⟩ : ∃ rr : Act, rr = a.put (some 27) (.slice (some ⟨g, 0, none⟩) n c) := ⟨_, rfl⟩
  have qz1 : 32 < a0_1.tmps.size := by rw [ha1, sz_put]; exact hs
  have f1_4 : a0_1.eval (.tmp 4) = .pointer (some ⟨z4, 0, none⟩) := by rw [ha1, ev_other _ _ _ _ (by decide)]; exact e4
  have f1_5 : a0_1.eval (.tmp 5) = .int .i64 (k : Int) := by rw [ha1, ev_other _ _ _ _ (by decide)]; exact e5
  have f1_27 : a0_1.eval (.tmp 27) = .slice (some ⟨g, 0, none⟩) n c := by rw [ha1]; exact ev_same _ _ _ (Nat.lt_of_le_of_lt (by decide) hs)
  rw [← ha1] at h0 ⊢
  clear ha1
  refine wpAnyH_take (i := 2) (oi := m8_2 s) (v := .int .i64 (k : Int)) (by kernel_rfl) (by kernel_rfl) (by kernel_rfl) (by kernel_rfl) (fun c a w h => hQ c _ _ _ w h) (Or.inl ⟨wanted_none rfl, fun w hw => by simp only [execOp, m8_2, f1_5]; rfl⟩) hS ?_
  change wpAnyH _ _ _ _ _ _ _ (a0_1.put (some 28) (.int .i64 (k : Int))) _
  obtain ⟨a0_2, ha2⟩ : ∃ rr : Act, rr = a0_1.put (some 28) (.int .i64 (k : Int)) := ⟨_, rfl⟩
  have qz2 : 32 < a0_2.tmps.size := by rw [ha2, sz_put]; exact qz1
  have f2_4 : a0_2.eval (.tmp 4) = .pointer (some ⟨z4, 0, none⟩) := by rw [ha2, ev_other _ _ _ _ (by decide)]; exact f1_4
  have f2_5 : a0_2.eval (.tmp 5) = .int .i64 (k : Int) := by rw [ha2, ev_other _ _ _ _ (by decide)]; exact f1_5
  have f2_27 : a0_2.eval (.tmp 27) = .slice (some ⟨g, 0, none⟩) n c := by rw [ha2, ev_other _ _ _ _ (by decide)]; exact f1_27
  have f2_28 : a0_2.eval (.tmp 28) = .int .i64 (k : Int) := by rw [ha2]; exact ev_same _ _ _ (Nat.lt_of_le_of_lt (by decide) qz1)
  rw [← ha2] at h0 ⊢
  clear ha2
  refine wpAnyH_take (i := 3) (oi := m8_3 s) (v := .int .i64 (k : Int)) (by kernel_rfl) (by kernel_rfl) (by kernel_rfl) (by kernel_rfl) (fun c a w h => hQ c _ _ _ w h) (Or.inl ⟨wanted_none rfl, fun w hw => by simp only [execOp, m8_3, f2_5]; rfl⟩) hS ?_
  change wpAnyH _ _ _ _ _ _ _ (a0_2.put (some 29) (.int .i64 (k : Int))) _
  obtain ⟨a0_3, ha3⟩ : ∃ rr : Act, rr = a0_2.put (some 29) (.int .i64 (k : Int)) := ⟨_, rfl⟩
  have qz3 : 32 < a0_3.tmps.size := by rw [ha3, sz_put]; exact qz2
  have f3_4 : a0_3.eval (.tmp 4) = .pointer (some ⟨z4, 0, none⟩) := by rw [ha3, ev_other _ _ _ _ (by decide)]; exact f2_4
  have f3_27 : a0_3.eval (.tmp 27) = .slice (some ⟨g, 0, none⟩) n c := by rw [ha3, ev_other _ _ _ _ (by decide)]; exact f2_27
  have f3_28 : a0_3.eval (.tmp 28) = .int .i64 (k : Int) := by rw [ha3, ev_other _ _ _ _ (by decide)]; exact f2_28
  have f3_29 : a0_3.eval (.tmp 29) = .int .i64 (k : Int) := by rw [ha3]; exact ev_same _ _ _ (Nat.lt_of_le_of_lt (by decide) qz2)
  rw [← ha3] at h0 ⊢
  clear ha3
  refine wpAnyH_take (i := 4) (oi := m8_4 s) (v := .int .i64 ((k + 64 : Nat) : Int)) (by kernel_rfl) (by kernel_rfl) (by kernel_rfl) (by kernel_rfl) (fun c a w h => hQ c _ _ _ w h) (Or.inl ⟨wanted_none rfl, fun w hw => run_add64 rfl f3_29 (by omega) w⟩) hS ?_
  change wpAnyH _ _ _ _ _ _ _ (a0_3.put (some 30) (.int .i64 ((k + 64 : Nat) : Int))) _
  obtain ⟨a0_4, ha4⟩ : ∃ rr : Act, rr = a0_3.put (some 30) (.int .i64 ((k + 64 : Nat) : Int)) := ⟨_, rfl⟩
  have qz4 : 32 < a0_4.tmps.size := by rw [ha4, sz_put]; exact qz3
  have f4_4 : a0_4.eval (.tmp 4) = .pointer (some ⟨z4, 0, none⟩) := by rw [ha4, ev_other _ _ _ _ (by decide)]; exact f3_4
  have f4_27 : a0_4.eval (.tmp 27) = .slice (some ⟨g, 0, none⟩) n c := by rw [ha4, ev_other _ _ _ _ (by decide)]; exact f3_27
  have f4_28 : a0_4.eval (.tmp 28) = .int .i64 (k : Int) := by rw [ha4, ev_other _ _ _ _ (by decide)]; exact f3_28
  have f4_30 : a0_4.eval (.tmp 30) = .int .i64 ((k + 64 : Nat) : Int) := by rw [ha4]; exact ev_same _ _ _ (Nat.lt_of_le_of_lt (by decide) qz3)
  rw [← ha4] at h0 ⊢
  clear ha4
  refine wpAnyH_take (i := 5) (oi := m8_5 s) (v := .slice (some ⟨g, k, none⟩) 64 (c - k)) (by kernel_rfl) (by kernel_rfl) (by kernel_rfl) (by kernel_rfl) (fun c a w h => hQ c _ _ _ w h) (Or.inl ⟨wanted_none rfl, fun w hw => run_cut64 rfl f4_27 f4_28 f4_30 hkn hnc w⟩) hS ?_
  change wpAnyH _ _ _ _ _ _ _ (a0_4.put (some 31) (.slice (some ⟨g, k, none⟩) 64 (c - k))) _
  obtain ⟨a0_5, ha5⟩ : ∃ rr : Act, rr = a0_4.put (some 31) (.slice (some ⟨g, k, none⟩) 64 (c - k)) := ⟨_, rfl⟩
  have qz5 : 32 < a0_5.tmps.size := by rw [ha5, sz_put]; exact qz4
  have f5_4 : a0_5.eval (.tmp 4) = .pointer (some ⟨z4, 0, none⟩) := by rw [ha5, ev_other _ _ _ _ (by decide)]; exact f4_4
  have f5_31 : a0_5.eval (.tmp 31) = .slice (some ⟨g, k, none⟩) 64 (c - k) := by rw [ha5]; exact ev_same _ _ _ (Nat.lt_of_le_of_lt (by decide) qz4)
  rw [← ha5] at h0 ⊢
  clear ha5
  refine wpAnyH_ready (rs := [0]) (by kernel_rfl) (by simp) ?_
  refine AllReadyH.cons (o := m8_0 s) (by kernel_rfl) (fun KQ hKQ => ?_) AllReadyH.nil
  rw [if_pos (wanted_none rfl)]
  refine step_runE (.agg (st8 sv).toArray) (W.drew) (run_load rfl f5_4 (loadAt_blk hkd 69 _ Tryd.underlying69 rfl 8 infoS8 rfl)) ?_
  refine hKQ.out _ _ (True.intro) (fun _ => ?_)
  clear hKQ KQ
  change wpAnyH _ _ _ _ _ _ _ (a0_5.put (some 26) (.agg (st8 sv).toArray)) _
  obtain ⟨a0_6, ha6⟩ : ∃ rr : Act, rr = a0_5.put (some 26) (.agg (st8 sv).toArray) := ⟨_, rfl⟩
  have qz6 : 32 < a0_6.tmps.size := by rw [ha6, sz_put]; exact qz5
  have f6_4 : a0_6.eval (.tmp 4) = .pointer (some ⟨z4, 0, none⟩) := by rw [ha6, ev_other _ _ _ _ (by decide)]; exact f5_4
  have f6_26 : a0_6.eval (.tmp 26) = .agg (st8 sv).toArray := by rw [ha6]; exact ev_same _ _ _ (Nat.lt_of_le_of_lt (by decide) qz5)
  have f6_31 : a0_6.eval (.tmp 31) = .slice (some ⟨g, k, none⟩) 64 (c - k) := by rw [ha6, ev_other _ _ _ _ (by decide)]; exact f5_31
  rw [← ha6] at h0 ⊢
  clear ha6
  refine wpAnyH_ready (rs := [6]) (by kernel_rfl) (by simp) ?_
  refine AllReadyH.cons (o := m8_6 s) (by kernel_rfl) (fun KQ hKQ => ?_) AllReadyH.nil
  rw [if_pos (wanted_none rfl)]
  refine step_enterE 32 #[.agg (st8 sv).toArray, .slice (some ⟨g, k, none⟩) 64 (c - k)] (by rw [m8_enter6, f6_26, f6_31]) (fun V w' => V = .agg (st8 r).toArray ∧ Below W.heap.size W w') ((hc W.drew hdr).mono (fun e w' h => ⟨_, h.1, rfl, hdr.trans h.2⟩)) ?_
  rintro _ w1 ⟨rfl, hb1⟩
  have hk1 := Blk.below hk hb1 (Blk.lt hk)
  refine hKQ.out _ _ (True.intro) (fun _ => ?_)
  clear hKQ KQ
  change wpAnyH _ _ _ _ _ _ _ (a0_6.put (some 32) (.agg (st8 r).toArray)) _
  have h0 := h0 w1 hb1
  obtain ⟨a0_7, ha7⟩ : ∃ rr : Act, rr = a0_6.put (some 32) (.agg (st8 r).toArray) := ⟨_, rfl⟩
  have qz7 : 32 < a0_7.tmps.size := by rw [ha7, sz_put]; exact qz6
  have f7_4 : a0_7.eval (.tmp 4) = .pointer (some ⟨z4, 0, none⟩) := by rw [ha7, ev_other _ _ _ _ (by decide)]; exact f6_4
  have f7_32 : a0_7.eval (.tmp 32) = .agg (st8 r).toArray := by rw [ha7]; exact ev_same _ _ _ (Nat.lt_of_le_of_lt (by decide) qz6)
  rw [← ha7] at h0 ⊢
  clear ha7
  refine wpAnyH_ready (rs := [7]) (by kernel_rfl) (by simp) ?_
  refine AllReadyH.cons (o := m8_7 s) (by kernel_rfl) (fun KQ hKQ => ?_) AllReadyH.nil
  rw [if_pos (wanted_none rfl)]
  refine step_skipE (w1.setCells z4 0 (st8 r).toArray.toList) (run_storeA rfl f7_4 f7_32 hk1 8 rfl rfl infoS8 (all_oneCell_toArray (st8_one r))) ?_
  have hst := setCells_blk hk1 (st8 r).toArray rfl
  refine hKQ.out _ _ (True.intro) (fun _ => ?_)
  clear hKQ KQ
  have h0 := h0 _ hst.1 hst.2
  refine wpAnyH_done (by kernel_rfl) ?_ _
  exact h0
end Go.Proofs.YtjcfndiceinkjabDoor

/- The document's Sum, walked. -/
namespace Go.Proofs.YtjcfndiceinkjabDoor
set_option linter.unusedVariables false
set_option linter.unusedSimpArgs false
set_option maxRecDepth 100000
open Go.RowKit

theorem below_rowN {w w' : World} {B : Nat} {v : Value} {xs : List UInt8} (hg : w.grownBy w' v.ownBlock) (ho : OwnsB w B v xs) (hB : B ≤ w.heap.size) : Below B w w' :=
  own_below (Below.refl _ _) ho hB hg
theorem chain_next (s : S8) (k : Nat) (xs : List UInt8) (h : 64 * (k + 1) ≤ xs.length) : chain s (k + 1) xs = blk (chain s k xs) ((xs.drop (64 * k)).take 64) := by
  have h1 := chain_take s (k + 1) xs (64 * (k + 1)) (Nat.le_refl _)
  have h2 := chain_take s k xs (64 * k) (Nat.le_refl _)
  have e : xs.take (64 * (k + 1)) = xs.take (64 * k) ++ (xs.drop (64 * k)).take 64 := by rw [Nat.mul_add, Nat.mul_one, List.take_add]
  rw [← h1, e, chain_succ s k _ _ (by rw [List.length_take]; omega) (by rw [List.length_take, List.length_drop]; omega), h2]
set_option maxRecDepth 40000 in
set_option maxHeartbeats 4000000 in
theorem rsum_any (w : World) (hT : Tabs w) (v : Value) (xs : List UInt8) (hv : RdA w v xs) (hlen : xs.length ≤ 140737488354000) : Calls Tryd.prog 13 #[v] w fun e w' => e = .returned (keyV (shaOf xs)) ∧ Below w.heap.size w w' := by
  have hz3 := hT.sz
  have HV := hide hv
  have HT := hide hT
  obtain ⟨ao, c, rfl, hl63⟩ := hv.slice
  have HTL := hide (fun w => rtail w xs.length (by omega))
  have htl := tailL_length xs.length
  have hwh := tailL_whole xs.length
  obtain ⟨kz, hkz⟩ : ∃ kz : Array Value, kz = keyZ := ⟨_, rfl⟩
  have HKZ := hide (show kz.size = 32 by rw [hkz]; rfl)
  obtain ⟨L, hL⟩ : ∃ L, L = xs.length := ⟨_, rfl⟩
  have HL := hide hL
  rw [← hL] at hlen hl63 HTL HV htl hwh ⊢
  clear hv hT hL
  go_enter Tryd.func13, Tryd.ntmps13
  go_wp2_with (at_builtin; refine wpList_append_rdX rfl _ _ rfl (w.heap.size + 1) _ _ [] xs rfl (World.ownsRow_nil _ _ _ _) rfl (HV.out.below ?ca) ?cb ?cc ?_)
  case ca => exact (Below.refl _ _).alloc (Nat.le_refl _) _
  case cb => rw [List.length_nil, ← HL.out]; omega
  case cc => simp
  intro va w1 HO1 HG1 HW1
  have hb01 : Below (w.heap.size + 1) (w.alloc (.cells kz 27)) w1 := by
    rw [hkz]
    exact ⟨HG1.out.os, HG1.out.tape, HG1.out.output, HG1.out.size, fun k hk => HG1.out.block k (by simpa using hk) (by simp [Value.ownBlock])⟩
  have HK1 : Hid (Blk w1 w.heap.size kz 27) := hide (Blk.below (Blk.made w kz 27) hb01 (Nat.lt_succ_self _))
  have hbw1 : Below w.heap.size w w1 := ((Below.refl _ _).alloc (Nat.le_refl _) _).trans (hb01.mono (Nat.le_succ _))
  have hN1 : w.heap.size + 1 ≤ w1.heap.size := by have := hb01.size; simpa using this
  clear HG1 HW1 hb01 hkz
  go_wp2_with fail
  refine (HTL.out _).mono ?_
  rintro e w2 ⟨vt, rfl, hot, hb2⟩
  have HO2 := hide (owns_below HO1.out hb2)
  have HRT := hide (Rd_owned hot)
  have HK2 := hide (Blk.below HK1.out hb2 (Blk.lt HK1.out))
  have hbw2 := hbw1.trans (hb2.mono hbw1.size)
  have hN2 := Nat.le_trans hN1 hb2.size
  clear HO1 HK1 hot hb2 hbw1 hN1 HTL
  go_wp2_with (at_builtin; refine wpList_append_rdX rfl _ _ rfl (w.heap.size + 1) _ _ xs (tailL L) rfl HO2.out rfl (.inl HRT.out) ?da ?db ?_)
  case da => rw [← HL.out]; omega
  case db => exact hN2
  intro vb w3 HO3 HG3 HW3
  have hb23 : Below (w.heap.size + 1) w2 w3 := below_rowN HG3.out HO2.out hN2
  have HK3 := hide (Blk.below HK2.out hb23 (Nat.lt_succ_self _))
  have hbw3 := hbw2.trans (hb23.mono (Nat.le_succ _))
  have hN3 := Nat.le_trans hN2 hb23.size
  obtain ⟨al, hal⟩ : ∃ al, al = xs ++ tailL L := ⟨_, rfl⟩
  have hall : al.length = L + (tailL L).length := by rw [hal, List.length_append, ← HL.out]
  rw [← hal] at HO3
  obtain ⟨g, cap, hvb, hgl, hgs, hcl, hcm⟩ := HO3.out.form (by rw [hall]; omega)
  obtain ⟨T, hTt⟩ : ∃ T, T = al.length := ⟨_, rfl⟩
  obtain ⟨K, hK⟩ : ∃ K, K = T / 64 := ⟨_, rfl⟩
  have hTK : T = 64 * K := by omega
  have hT47 : T ≤ 140737488355000 := by omega
  rw [← hTt] at hvb hcl
  subst hvb
  unfold maxLen at hcm
  have HT3 := hide (HT.out.below hbw3)
  have HAL := hide hal
  have HTT := hide hTt
  have HTK := hide hTK
  have hT63 : T ≤ 9223372036854775807 := by omega
  clear HO2 HRT HK2 HG3 HW3 hb23 hbw2 hN2 hal hall hTt HT hTK
  go_wp2_with fail
  refine (rstart_any _ HT3.out).mono ?_
  rintro e w4 ⟨he, hb4⟩
  rw [val_st8] at he
  subst he
  have HO4 := hide (owns_below HO3.out hb4)
  have HK4 := hide (Blk.below HK3.out hb4 (Blk.lt HK3.out))
  have HT4 := hide (HT3.out.below hb4)
  have hbw4 := hbw3.trans (hb4.mono hbw3.size)
  have hN4 := Nat.le_trans hN3 hb4.size
  have hg4 : g < w4.heap.size := Nat.lt_of_lt_of_le hgs hb4.size
  clear HO3 HK3 HT3 hb4 hbw3 hN3
  have HOB := hide (all_oneCell_toArray (st8_one begin8))
  go_wp2_with ((with_reducible refine wpList_store_blk ?_ 69 (.tmp 4) (.tmp 18) ?_ w4.heap.size 8 _ (st8 begin8).toArray 69 ?_ ?_ ?_ ?_ (Blk.made w4 _ _) infoS8 HOB.out ?_); rfl; rfl; rfl; rfl; rfl; rfl; intro w5 hk5 hg5)
  have hg45 : w4.grownBy w5 (some w4.heap.size) := grownBy_trans (World.grownBy_alloc _ _ _) hg5
  have hb45 : Below w4.heap.size w4 w5 := below_grownBy hg45 (Nat.le_refl _) (Nat.le_refl _)
  obtain ⟨z4, hz4⟩ : ∃ z4, z4 = w4.heap.size := ⟨_, rfl⟩
  rw [← hz4] at hk5 ⊢
  have HK5 := hide (Blk.below HK4.out hb45 (Blk.lt HK4.out))
  have HO5 := hide (owns_below HO4.out hb45)
  have HT5 := hide (HT4.out.below hb45)
  have hbw5 := hbw4.trans (hb45.mono hbw4.size)
  have hzg : g < z4 := by omega
  have hzN : w.heap.size < z4 := by omega
  have hz43 : 5 ≤ z4 := by omega
  have HS5 := hide hk5
  clear HO4 HK4 HT4 hb45 hg45 hg5 hk5 hbw4 hN4 hg4 hz4
  go_loopw [5] (fun i wr => ∃ k : Nat, i = .int .i64 (64 * k : Nat) ∧ k ≤ K ∧ Blk wr z4 (st8 (chain begin8 k al)).toArray 69 ∧ w5.grownBy wr (some z4)) (fun i _ => T + 1 - (intOf i).toNat)
  case atStart => exact ⟨0, rfl, by omega, HS5.out, ⟨rfl, rfl, rfl, Nat.le_refl _, fun _ _ _ => rfl⟩⟩
  case round =>
    obtain ⟨k, rfl, hk, hS, hgr⟩ := hrel
    have hTK := HTK.out
    obtain ⟨a, ha⟩ : ∃ a, a = 64 * k := ⟨_, rfl⟩
    rw [← ha]
    by_cases hlt : k < K
    · have hOr : OwnsB wr (w.heap.size + 1) (.slice (some ⟨g, 0, none⟩) T cap) al := owns_grown HO5.out hgr (fun g' e e2 => by have h1 : g = g' := Option.some.inj e; have h2 : g' = z4 := Option.some.inj e2; omega)
      have hTr := HT5.out.grown hgr (fun b e => by rw [← Option.some.inj e]; exact hz43)
      have hal : T = al.length := HTT.out
      have hbb : ((al.drop a).take 64).length = 64 := by rw [List.length_take, List.length_drop]; omega
      have hrdb : ∀ W, Below wr.heap.size wr W → Rd W (.slice (some ⟨g, a, none⟩) 64 (cap - a)) ((al.drop a).take 64) := by
        intro W hW
        have hO : OwnsB W (w.heap.size + 1) (.slice (some ⟨g, 0, none⟩) T cap) al := owns_below hOr hW
        refine ⟨_, cap - a, by rw [hbb], by rw [hbb]; omega, by unfold maxLen; omega, .inr ⟨_, _, rfl, fun i hi => ?_⟩⟩
        rw [hbb] at hi
        have := (hO.at (a + i) (by omega)).1
        rw [this]
        unfold u8c
        rw [List.getElem_take, List.getElem_drop]
      have hok := chain_ok begin8_ok k al
      have hnx : chain begin8 (k + 1) al = blk (chain begin8 k al) ((al.drop a).take 64) := by rw [ha]; exact chain_next begin8 k al (by omega)
      have le1 : (a : Int) + 64 ≤ T := by omega
      have HSr := hide hS
      have HGr := hide hgr
      have HHK := hide (show ∀ W', Below wr.heap.size wr W' → Calls Tryd.prog 32 #[.agg (st8 (chain begin8 k al)).toArray, .slice (some ⟨g, a, none⟩) 64 (cap - a)] W' fun e w' => e = .returned (.agg (st8 (blk (chain begin8 k al) ((al.drop a).take 64))).toArray) ∧ Below W'.heap.size W' w' from fun W' hW' => rblock_any W' (hTr.below hW') _ hok _ _ (hrdb W' hW') hbb)
      have HNX := hide hnx
      have HA := hide ha
      clear hS hOr hTr hrdb hok hnx hbb hal ha hTK hgr
      go_wp2_with fail
      refine m8_walk _ (fun _ _ _ _ _ h => h) wr z4 g T cap a _ _ HSr.out (by omega) hcl (by omega) HHK.out _ (Nat.lt_of_sub_pos (by exact Nat.succ_pos _)) rfl rfl rfl ?_
      intro w6 hb6 w7 hk7 hg7
      have HK7 := hide hk7
      have HG7 := hide (grownBy_trans (grownBy_trans HGr.out (grownBy_below hb6)) hg7)
      clear hk7 hg7 hb6 HHK HSr HGr
      simp only [Act.put, List.setIfInBounds_toArray, List.set_cons_zero, List.set_cons_succ]
      go_wp2
      refine ⟨⟨k + 1, ?_, by omega, ?_, HG7.out⟩, by simp [intOf]; omega⟩
      · have := HA.out
        congr 1; omega
      · rw [HNX.out]; exact HK7.out
    · have hkK : k = K := by omega
      have haT : a = T := by omega
      have hge : ¬ (a : Int) + 64 ≤ T := by omega
      have hw64 : IntKind.i64.wrap ((a : Int) + 64) = (a : Int) + 64 := by
        have e := wrapi64_nat (a + 64) (by omega)
        rwa [Int.natCast_add] at e
      have HS5 := hide hS
      have hKr := hide (HK5.out.grown hgr (fun e => by have := Option.some.inj e; omega))
      have hbr := hbw5.trans (below_grownBy hgr (by omega) hbw5.size)
      obtain ⟨sv, hsv⟩ : ∃ sv, sv = chain begin8 k al := ⟨_, rfl⟩
      rw [← hsv] at HS5
      have hsok : sv.ok := by rw [hsv]; exact chain_ok begin8_ok k al
      have HSV := hide (show shaOf xs = bytes8 sv by
        have e1 := HAL.out
        have e2 := HTT.out
        have e3 := HL.out
        unfold shaOf
        rw [← e3, ← e1, hsv, hkK, hK, e2, e1, List.length_append, ← e3])
      have HSO := hide hsok
      obtain ⟨wp, hwp⟩ : ∃ w0, w0 = wr := ⟨_, rfl⟩
      have hz4p : z4 < wp.heap.size := by rw [hwp]; exact Blk.lt hS
      rw [← hwp] at HS5 hKr hbr ⊢
      have HKK := hide hkK
      have haT2 : a ≤ T := by omega
      clear hS hgr hwp HTK ha hsv hsok haT hkK hlt hk hw64 hTK hK
      clear HO5 HT5 HK5
      go_wp2
      obtain ⟨z6, hz6⟩ : ∃ z6, z6 = wp.heap.size := ⟨_, rfl⟩
      have HS6 := hide (HS5.out.alloc (.cells keyZ 27))
      have HR6 := hide (hKr.out.alloc (.cells keyZ 27))
      have HZ6 := hide (show Blk (wp.alloc (.cells keyZ 27)) z6 ((keyK sv 0).map u8c).toArray 27 by rw [hz6]; exact Blk.made wp _ _)
      have hb6 : Below w.heap.size w (wp.alloc (.cells keyZ 27)) := hbr.alloc hbr.size _
      rw [← hz6] at hz4p ⊢
      clear HS5 hKr hz6
      go_loopw [7, 8] (fun i _ wr => ∃ k : Nat, i = .int .i64 k ∧ k ≤ 32 ∧ Blk8 wr z4 sv ∧ Blk wr w.heap.size kz 27 ∧ Blk wr z6 ((keyK sv k).map u8c).toArray 27 ∧ Below w.heap.size w wr) (fun i _ _ => 32 - (intOf i).toNat)
      case atStart => exact ⟨0, rfl, by omega, HS6.out, HR6.out, HZ6.out, hb6⟩
      case round =>
        obtain ⟨k, rfl, hk, h8, hZ, hK, hbel⟩ := hrel
        by_cases hlt : k < 32
        · have hq4 : k / 4 < 8 := by omega
          have c1 := Blk8.at h8 (k / 4) hq4
          have hx := nats_lt HSO.out (k / 4)
          obtain ⟨q, hq⟩ := keyK_next sv k hlt
          have c2 := blk_at hK hq
          have hf := hK.frozen k
          have hset := blk_set hK k (u8c (UInt8.ofNat (sv.nats[k / 4]?.getD 0 / 2 ^ (24 - 8 * (k % 4)) % 256)))
          rw [← List.map_set, keyK_set sv k hlt] at hset
          generalize sv.nats[k / 4]?.getD 0 = x at c1 hx hset
          obtain ⟨j, hj⟩ : ∃ j, j = k / 4 := ⟨_, rfl⟩
          obtain ⟨i, hi⟩ : ∃ i, i = 24 - 8 * (k % 4) := ⟨_, rfl⟩
          rw [← hj] at c1
          rw [← hi] at hset
          have e1 : (k : Int) / 4 = j := by omega
          have e2 : 8 * (3 - (k : Int) % 4) = (i : Int) := by omega
          have hj8 : (j : Int) < 8 := by omega
          have hi24 : i ≤ 24 := by omega
          have HSET := hide hset
          have H8 := hide h8
          have HZ := hide hZ
          have HP := hide (fun W => part_any W i (by omega))
          clear hset h8 hZ hK hq hj hi hq4
          go_wp2_with fail
          refine (HP.out _).mono ?_
          rintro e w7 ⟨rfl, rfl⟩
          have hp0 : 0 < 2 ^ i := Nat.two_pow_pos i
          have hp24 : 2 ^ i ≤ 2 ^ 24 := Nat.pow_le_pow_right (by omega) hi24
          generalize 2 ^ i = p at hp0 hp24 HSET
          have hxp : x / p < 4294967296 := Nat.lt_of_le_of_lt (Nat.div_le_self _ _) hx
          clear HP
          go_wp2
          have hv : (IntKind.u64.wrap ((x : Int) / (p : Int))).tmod 256 % 256 = ((x / p % 256 : Nat) : Int) := by
            rw [← Int.natCast_ediv]
            generalize x / p = y at hxp
            rw [wrap64_nat y (by omega), Int.tmod_eq_emod_of_nonneg (by omega)]
            omega
          rw [hv]
          refine ⟨⟨k + 1, by go_num, by omega, Blk.setOther H8.out ⟨z6, k, none⟩ _ (by show z4 ≠ z6; omega), HZ.out.setOther ⟨z6, k, none⟩ _ (by show w.heap.size ≠ z6; omega), ?_, hbel.setCell (by show w.heap.size ≤ z6; omega) _⟩, by simp [intOf]; omega⟩
          have h := HSET.out
          rw [byte_cell] at h
          exact h
        · have hk32 : k = 32 := by omega
          rw [hk32, keyK_all] at hK
          have hk2 : ¬ (k : Int) < 32 := by omega
          have HZ := hide hZ
          have HK := hide hK
          obtain ⟨kc, hkc⟩ : ∃ kc, kc = ((bytes8 sv).map u8c).toArray := ⟨_, rfl⟩
          rw [← hkc] at HK
          have HLc := hide (show kc.size = 32 by rw [hkc]; simp [bytes8_len])
          have HO := hide (show kc.all (·.oneCell') = true by rw [hkc]; exact all_oneCell_toArray (u8c_one (bytes8 sv)))
          have HKC := hide hkc
          clear hZ hK hkc h8 hk32 hlt hk
          go_wp2_with (first | ((with_reducible refine wpList_load_blk ?_ 27 _ Tryd.underlying27 ?_ 32 infoKey (.tmp 6) ?_ z6 ?_ kc _ HK.out HLc.out ?_); rfl; rfl; rfl; rfl) | ((with_reducible refine wpList_store_blk ?_ 27 (.tmp 2) (.tmp 53) ?_ w.heap.size 32 _ kc 27 HLc.out HKZ.out ?_ ?_ HZ.out infoKey HO.out ?_); rfl; rfl; rfl; rfl; intro w8 hk8 hg8))
          refine bodyPost_ret (results_cell rfl _ _ _ rfl _ (loadBlkT hk8 27 _ Tryd.underlying27 rfl 32 infoKey HLc.out)) rfl ?_
          refine ⟨by rw [HKC.out, HSV.out]; rfl, hbel.trans (below_grownBy hg8 (Nat.le_refl _) hbel.size)⟩
end Go.Proofs.YtjcfndiceinkjabDoor
