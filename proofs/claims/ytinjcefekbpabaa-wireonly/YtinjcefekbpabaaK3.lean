/- WireOnly: the walk. -/
import Derived.Test.YtinjcefekbpabaaK2
namespace Go.Proofs.Ytinjcefekbpabaa
set_option linter.unusedVariables false
set_option linter.unusedSimpArgs false
open Go.RowKit

def TakesAt (w : World) (ta : Option Addr) (n : Nat) : Prop :=
  n ≤ maxLen ∧ (n = 0 ∨ ∃ tb to, ta = some ⟨tb, to, none⟩ ∧ tb < w.heap.size ∧ ∀ i, i < n → ∃ (kd : Int) (mo : Nat) (nn : Int), -9223372036854775808 ≤ kd ∧ kd ≤ 9223372036854775807 ∧ mo ≤ 18446744073709551615 ∧ -9223372036854775808 ≤ nn ∧ nn ≤ 9223372036854775807 ∧
    w.cell? ⟨tb, to + i * 3, none⟩ = some (.int .i64 kd) ∧ w.cell? ⟨tb, to + i * 3 + 1, none⟩ = some (.int .u64 mo) ∧ w.cell? ⟨tb, to + i * 3 + 2, none⟩ = some (.int .i64 nn))

def OpenC (w : World) (xs : List UInt8) (e : Ending) (w' : World) : Prop :=
  e = .returned (.pointer (some ⟨w.heap.size + 1, 0, none⟩)) ∧ DecSt w' (w.heap.size + 1) (.slice (some ⟨w.heap.size, 0, none⟩) xs.length xs.length) xs s0 ∧ Below w.heap.size w w' ∧ w'.heap.size = w.heap.size + 2
theorem copy_arg (w : World) (a : Addr) (ty : TypeId) :
    (Builtin.copy_ #[28, 28] ty #[.slice (some ⟨w.heap.size, 0, none⟩) 0 0, .slice (some a) 0 0]).run Try.prog (w.alloc (.cells (madeCells #[.int .u8 0] 0) 5)) =
      .ok (goInt 0) (w.alloc (.cells (([] : List UInt8).map u8c).toArray 5)) := by
  have e : madeCells #[Value.int .u8 0] 0 = #[] := Array.eq_empty_of_size_eq_zero (size_madeCells _ _)
  have := run_copy_none (P := Try.prog) (w.alloc (.cells (madeCells #[.int .u8 0] 0) 5)) 28 28 ty 5 (some ⟨w.heap.size, 0, none⟩) (some a) 0 0 0 0 Try.underlying28 infoU8s rfl
  rw [e] at this
  simpa [e] using this
set_option maxRecDepth 20000 in
theorem open_arg (w : World) (v : Value) (xs : List UInt8) (h : RdA w v xs) (hlen : xs.length ≤ 140737488355000) :
    Calls Try.prog 13 #[v] w (OpenC w xs) := by
  rcases h with h | ⟨a, rfl, rfl⟩
  · exact open_any w v xs h hlen
  · have hmk : ∀ W : World, (Instr.makeSlice 28 (.int .i64 0) (.int .i64 0)).run Try.prog W = .ok (.slice (some ⟨W.heap.size, 0, none⟩) 0 0) (W.alloc (.cells (madeCells #[.int .u8 0] 0) 5)) := make_u8 0 (by omega)
    have hcp := copy_arg w a
    go_enter Try.func13, Try.ntmps13
    go_wp2
    go_ret
    refine ⟨rfl, ⟨⟨by decide, .inr ⟨w.heap.size, rfl, by omega, (Blk.made w _ _).alloc _⟩⟩, Nat.zero_le _, ?_⟩, ((Below.refl _ _).alloc (Nat.le_refl _) _).alloc (by simp) _, by simp⟩
    have := Blk.made (w.alloc (.cells (([] : List UInt8).map u8c).toArray 5)) #[.slice (some ⟨w.heap.size, 0, none⟩) 0 0, .int .i64 0, .int .i64 0, .int .i64 0] 92
    rw [World.size_alloc] at this
    exact this

/-- How the Enc and the Dec stand behind so many takes. -/
def OnlyR (bs : List UInt8) (k : Nat) (s : S) (xs : List UInt8) : Prop :=
  xs.length ≤ 3 * bs.length + 108 + 106 * k ∧ (s.code = 0 → xs = bs.take s.p)
theorem only_next (bs : List UInt8) (k : Nat) (s : S) (xs : List UInt8) (kind : Int) (most : Nat) (n : Int) (K : List UInt8) (h : OnlyR bs k s xs) (hp : s.p ≤ bs.length) (hkl : K.length = 32) (hK : kind = 4 → (mTake bs s kind most n).2.1.length = 32 → K = (mTake bs s kind most n).2.1) :
    OnlyR bs (k + 1) (mTake bs s kind most n).2.2 (xs ++ addB ⟨kind, (mTake bs s kind most n).1.toNat, (mTake bs s kind most n).2.1, (mTake bs s kind most n).2.1, K⟩) := by
  have hadd := addB_le ⟨kind, (mTake bs s kind most n).1.toNat, (mTake bs s kind most n).2.1, (mTake bs s kind most n).2.1, K⟩ hkl
  simp only [] at hadd
  by_cases hs : s.code = 0
  · have hK' : kind = 4 → K = (mTake bs s kind most n).2.1 := by
      rintro rfl
      refine hK rfl ?_
      have e : (mTake bs s 4 most n).2.1 = keyBytes (mNext bs s (mPlace s) 32).1 := rfl
      rw [e]
      rcases mNext_inv bs s (mPlace s) 32 hs with ⟨h1, h2⟩ | ⟨h1, ys, h2, h3, h4, h5⟩
      · rw [h2]; simp [keyBytes]
      · rw [h2]; simp [keyBytes, h3]
    obtain ⟨h1, h2, h3⟩ := take_only bs s kind most n K hs hp hK'
    have hx := h.2 hs
    have hxl : xs.length ≤ bs.length := by rw [hx, List.length_take]; omega
    refine ⟨by rw [List.length_append]; omega, fun hc => ?_⟩
    rw [(h3 hc).2, hx]
  · obtain ⟨h1, h2, h3⟩ := take_stopped bs s kind most n hs
    refine ⟨by rw [List.length_append]; have := h.1; omega, fun hc => ?_⟩
    rw [h1] at hc
    exact absurd hc hs
theorem only_num (bs : List UInt8) (s : S) (kind : Int) (most : Nat) (n : Int) (hp : s.p ≤ bs.length) : (0 ≤ (mTake bs s kind most n).1 ∧ (mTake bs s kind most n).1 ≤ 18446744073709551615) ∧ (mTake bs s kind most n).2.1.length ≤ bs.length + 33 := by
  by_cases hs : s.code = 0
  · obtain ⟨h1, h2, _⟩ := take_only bs s kind most n (mTake bs s kind most n).2.1 hs hp (fun _ => rfl)
    exact ⟨h1, h2⟩
  · obtain ⟨h1, h2, h3⟩ := take_stopped bs s kind most n hs
    rw [h3]
    exact ⟨by decide, by omega⟩

theorem only_bound (bs : List UInt8) (k : Nat) (s : S) (xs : List UInt8) (kind : Int) (most : Nat) (n : Int) (h : OnlyR bs k s xs) (hp : s.p ≤ bs.length) : xs.length + (mTake bs s kind most n).2.1.length + (mTake bs s kind most n).2.1.length ≤ 3 * bs.length + 180 + 106 * k := by
  by_cases hs : s.code = 0
  · have := (only_num bs s kind most n hp).2
    have hx := h.2 hs
    have hxl : xs.length ≤ bs.length := by rw [hx, List.length_take]; omega
    omega
  · obtain ⟨h1, h2, h3⟩ := take_stopped bs s kind most n hs
    have := h.1
    omega
theorem zeroEnc_X (w : World) (X : Nat → Prop) (hX : X w.heap.size) (hl : ∀ b, X b → b < w.heap.size + 1) : EncSt (w.alloc (.cells Try.zeroCells27 27)) X w.heap.size [] :=
  ⟨hX, fun b hb => by rw [World.size_alloc]; exact hl b hb, none, [], [], List.replicate 256 0, .nil, rfl, by decide, List.length_replicate, rfl, by rw [zeroEnc]; exact Blk.made w _ _⟩
theorem varB300 : varB 300 = [172, 2] := by decide +kernel
theorem mNum300 : (mNum [172, 2] s0 300).1 = 300 := by decide +kernel

set_option maxRecDepth 20000 in
set_option maxHeartbeats 6400000 in
theorem wireOnly_any (w : World) (vb : Value) (bs : List UInt8) (hb : RdA w vb bs) (hlen : bs.length ≤ 140737488351232) (ta : Option Addr) (n tc : Nat) (hT : TakesAt w ta n) (hn : n ≤ 5864062014806) :
    Calls Try.prog 6 #[vb, .slice ta n tc] w fun e w' => e = .returned (.bool true) ∧ Below w.heap.size w w' := by
  have HO := hide (open_arg w vb bs hb (by omega))
  have HRB := hide hb
  have HT := hide hT.2
  clear hT hb
  go_enter Try.func6, Try.ntmps6
  go_wp2_with fail
  refine (HO.out).mono ?_
  rintro e w1 ⟨rfl, hd, hb1, hs1⟩
  obtain ⟨zd, hzd⟩ : ∃ zd, w.heap.size + 1 = zd := ⟨_, rfl⟩
  obtain ⟨sv, hsv⟩ : ∃ sv, Value.slice (some ⟨w.heap.size, 0, none⟩) bs.length bs.length = sv := ⟨_, rfl⟩
  rw [hzd, hsv] at hd
  rw [hzd]
  have HD1 := hide hd
  have HB1 := hide hb1
  have HZD : Hid (w.heap.size ≤ zd) := hide (by omega)
  have HZ1 : Hid (zd < w1.heap.size) := hide (by omega)
  have HS1 := hide hs1
  have HZW := hide hzd
  clear hd hb1 hsv HO hs1 hzd
  go_wp2_with fail
  obtain ⟨z, hz⟩ : ∃ z, w1.heap.size = z := ⟨_, rfl⟩
  obtain ⟨X, hX⟩ : ∃ X : Nat → Prop, X = (fun b => b = z ∨ b = zd) := ⟨_, rfl⟩
  have HE1 : Hid (EncSt (w1.alloc (.cells Try.zeroCells27 27)) X z []) := hide (by
    have := zeroEnc_X w1 X (by rw [hX]; exact .inl hz) (fun b hb => by rw [hX] at hb; have := HZ1.out; omega)
    rwa [hz] at this)
  have HXD : Hid (X zd) := hide (by rw [hX]; exact .inr rfl)
  have HZZ : Hid (z ≠ zd ∧ w.heap.size < z) := hide (by have := HZ1.out; have := HS1.out; have := HZW.out; omega)
  have HSV : Hid (∀ b, sv = .slice (some ⟨b, 0, none⟩) bs.length bs.length → b ≠ z) := hide (fun b e => by have := HD1.out.1.blk e; omega)
  have HD2 := hide (HD1.out.below ((Below.refl _ _).alloc (Nat.le_refl _) (.cells Try.zeroCells27 27)))
  have HB2 := hide (HB1.out.alloc HB1.out.size (.cells Try.zeroCells27 27))
  rw [hz]
  clear HD1 HB1 hX hz
  go_loopw [7] (fun i wr => ∃ (k : Nat) (s : S) (xs : List UInt8), i = .int .i64 k ∧ k ≤ n ∧ DecSt wr zd sv bs s ∧ EncSt wr X z xs ∧ OnlyR bs k s xs ∧ Below w.heap.size w wr) (fun i _ => n - (intOf i).toNat)
  case atStart => exact ⟨0, s0, [], rfl, Nat.zero_le _, HD2.out, HE1.out, ⟨by simp, fun _ => by simp [s0]⟩, HB2.out⟩
  case round =>
    obtain ⟨k, s, xs, rfl, hk, hdec, henc, hon, hbw⟩ := hrel
    have HBw := hide hbw
    have HE := hide henc
    have HDq := hide hdec
    by_cases hlt : k < n
    · obtain ⟨tb, to, rfl, htb, hcel⟩ := HT.out.resolve_left (by omega)
      obtain ⟨kd, mo, nn, q1, q2, q3, q4, q5, c0, c1, c2⟩ := hcel k hlt
      replace c0 := (hbw.cell (p := ⟨tb, to + k * 3, none⟩) htb).trans c0
      replace c1 := (hbw.cell (p := ⟨tb, to + k * 3 + 1, none⟩) htb).trans c1
      replace c2 := (hbw.cell (p := ⟨tb, to + k * 3 + 2, none⟩) htb).trans c2
      have HTB : Hid (tb < w.heap.size) := hide htb
      have HTK := hide (take_st wr zd sv bs s kd mo nn q4 q5 hlen hdec)
      have hnum := only_num bs s kd mo nn hdec.2.1
      have hbd := only_bound bs k s xs kd mo nn hon hdec.2.1
      have HNX := hide (fun K h1 h2 => only_next bs k s xs kd mo nn K hon hdec.2.1 h1 h2)
      clear hcel hdec henc hon hbw
      generalize mTake bs s kd mo nn = r at HTK hnum HNX hbd
      obtain ⟨r1, gB, s'⟩ := r
      simp only [] at hnum hbd HNX HTK
      obtain ⟨N, rfl⟩ : ∃ N : Nat, r1 = N := ⟨r1.toNat, by omega⟩
      rw [Int.toNat_natCast] at HNX
      have hN : N ≤ 18446744073709551615 := by omega
      have hl50 : xs.length + gB.length + gB.length ≤ 1125899906842624 := by omega
      have HQ := hide (And.intro hN hl50)
      clear hnum hbd hN hl50
      go_wp2_with fail
      refine (HTK.out).mono ?_
      rintro e w3 ⟨rfl, hd3, hg3⟩
      have HD3 := hide hd3
      have HE3 := hide (HE.out.grown hg3 (fun e => HZZ.out.1 (Option.some.inj e)) (fun b e => by rw [Option.some.inj e]; exact HXD.out))
      have HB3 : Hid (Below _ _ w3) := hide (HBw.out.trans (below_grownBy hg3 HZD.out HBw.out.size))
      have HC3 : Hid (w3.cell? ⟨tb, to + k * 3, none⟩ = some (.int .i64 kd) ∧ w3.cell? ⟨tb, to + k * 3 + 1, none⟩ = some (.int .u64 mo) ∧ w3.cell? ⟨tb, to + k * 3 + 2, none⟩ = some (.int .i64 nn)) := hide (by
        have h1 := HBw.out.size
        have h2 := HTB.out
        have h3 := HZD.out
        exact ⟨(cell_grown hg3 (by omega) (by omega) _).trans c0, (cell_grown hg3 (by omega) (by omega) _).trans c1, (cell_grown hg3 (by omega) (by omega) _).trans c2⟩)
      clear hd3 hg3 HTK c0 c1 c2
      simp only [] at HD3
      obtain ⟨gs, hgs⟩ : ∃ gs : ByteArray, gs = ⟨gB.toArray⟩ := ⟨_, rfl⟩
      simp only [← hgs]
      have HGS := hide hgs
      clear hgs
      go_wp2_with fail
      have hz0 := HZZ.out
      have hzd0 := HZD.out
      have hsz3 := HB3.out.size
      have HB4 := hide (HB3.out.alloc HB3.out.size (.cells #[.int .u64 N, .string gs] 50))
      have HD4 := hide (HD3.out.below ((Below.refl _ _).alloc (Nat.le_refl _) (.cells #[.int .u64 N, .string gs] 50)))
      have HE4 := hide (HE3.out.alloc (.cells #[.int .u64 N, .string gs] 50))
      have hzl := HE3.out.zlt
      have hgb := Blk.made w3 #[.int .u64 N, .string gs] 50
      have d0 := hgb.cell 0
      have d1 := hgb.cell 1
      simp only [List.getElem?_toArray, List.getElem?_cons_zero, List.getElem?_cons_succ] at d0 d1
      rw [HGS.out] at d1
      have hbl : Below w3.heap.size w3 (w3.alloc (.cells #[.int .u64 N, .string gs] 50)) := (Below.refl _ _).alloc (Nat.le_refl _) _
      have c0 := (hbl.cell (p := ⟨tb, to + k * 3, none⟩) (by simp only []; omega)).trans HC3.out.1
      have c1 := (hbl.cell (p := ⟨tb, to + k * 3 + 1, none⟩) (by simp only []; omega)).trans HC3.out.2.1
      have c2 := (hbl.cell (p := ⟨tb, to + k * 3 + 2, none⟩) (by simp only []; omega)).trans HC3.out.2.2
      have hgl := hgb.lt
      obtain ⟨g, hg⟩ : ∃ g, w3.heap.size = g := ⟨_, rfl⟩
      have htl : tb < (w3.alloc (.cells #[.int .u64 N, .string gs] 50)).heap.size := by rw [World.size_alloc]; omega
      rw [HGS.out] at d0 c0 c1 c2 HB4 HD4 HE4 hgl htl ⊢
      rw [hg] at d0 d1 hgl ⊢
      generalize w3.alloc (.cells #[.int .u64 N, .string ⟨gB.toArray⟩] 50) = W4 at d0 d1 c0 c1 c2 HB4 HD4 HE4 hgl htl ⊢
      clear hgb hbl HC3 HD3 HE3 HB3 HGS
      refine k7_walk _ (fun _ _ _ _ _ h => h) W4 X z xs tb to n tc k g kd mo nn N gB hlt HQ.out.1 HE4.out HQ.out.2 htl hgl (by omega) (by omega) c0 c1 c2 d0 d1 _ (Nat.lt_of_sub_pos (by exact Nat.succ_pos _)) rfl rfl rfl rfl ?_
      intro cs K w5 hkk hkl hE5 hg5
      simp only [Act.put, List.setIfInBounds_toArray, List.set_cons_zero, List.set_cons_succ]
      have HE5 := hide hE5
      have HD5 := hide (HD4.out.grown hg5 (fun e => HZZ.out.1 (Option.some.inj e).symm) (fun b e1 e => HSV.out b e1 (Option.some.inj e)))
      have HB5 : Hid (Below _ _ w5) := hide (HB4.out.trans (below_grownBy hg5 (by omega) HB4.out.size))
      have HN5 := hide (HNX.out K hkl hkk)
      clear hE5 hg5 hkk hkl c0 c1 c2 d0 d1 HNX HD4 HE4 HB4 hz0 hzd0 hsz3 hzl hgl htl hg
      go_wp2
      go_roundw
      case rel => exact ⟨k + 1, s', _, by go_num, by omega, HD5.out, HE5.out, HN5.out, HB5.out⟩
      case measure => simp [intOf]; omega
    · obtain rfl : k = n := by omega
      have HON := hide hon
      clear hdec henc hon hbw
      have HV := hide (evar_enc _ _ _ [] 300 (by decide) (zeroEnc_st wr) (by simp))
      go_wp2_with fail
      refine (HV.out).mono ?_
      rintro e w2 ⟨rfl, hE2, hg2⟩
      rw [List.nil_append, varB300] at hE2
      have HE2 := hide hE2
      have HB2' : Hid (Below wr.heap.size wr w2) := hide (((Below.refl _ _).alloc (Nat.le_refl _) _).trans (below_grownBy hg2 (Nat.le_refl _) (by simp)))
      clear hE2 hg2 HV
      obtain ⟨z2, hz2⟩ : ∃ z2, wr.heap.size = z2 := ⟨_, rfl⟩
      obtain ⟨X2, hX2⟩ : ∃ X2 : Nat → Prop, X2 = (fun b => b = wr.heap.size) := ⟨_, rfl⟩
      rw [← hX2, hz2] at HE2
      rw [hz2]
      clear hX2
      have HZ2 := hide hz2
      clear hz2
      have HBY := hide (fun W h => ebytes_enc W X2 z2 [172, 2] h (by decide))
      go_wp2_with fail
      refine (HBY.out _ HE2.out).mono ?_
      rintro e w3 ⟨v, rfl, hown, hb3⟩
      have hcv := conv_rd w3 v [172, 2] (Rd_owned hown)
      have HE3 := hide (HE2.out.below hb3)
      have HB3 : Hid (Below wr.heap.size wr w3) := hide (HB2'.out.trans (hb3.mono HB2'.out.size))
      clear hown hb3
      go_wp2_with fail
      refine (HBY.out _ HE3.out).mono ?_
      rintro e w4 ⟨v2, rfl, hown2, hb4⟩
      have HO2 := hide (open_any w4 v2 [172, 2] (Rd_owned hown2) (by decide))
      have HB4 : Hid (Below wr.heap.size wr w4) := hide (HB3.out.trans (hb4.mono HB3.out.size))
      clear hown2 hb4 hcv HBY
      go_wp2_with fail
      refine (HO2.out).mono ?_
      rintro e w5 ⟨rfl, hd5, hb5, hs5⟩
      have HV5 := hide (var_st w5 _ _ [172, 2] s0 300 hd5)
      have HB5 : Hid (Below wr.heap.size wr w5) := hide (HB4.out.trans (hb5.mono HB4.out.size))
      have HW4 : Hid (wr.heap.size ≤ w4.heap.size) := hide HB4.out.size
      clear hd5 hb5 hs5 HO2
      go_wp2_with fail
      refine (HV5.out).mono ?_
      rintro e w6 ⟨rfl, hd6, hg6⟩
      rw [mNum300]
      have HB6 : Hid (Below wr.heap.size wr w6) := hide (HB5.out.trans (below_grownBy hg6 (by have := HW4.out; omega) HB5.out.size))
      clear hd6 hg6 HV5
      have HD6 := hide (HDq.out.below HB6.out)
      have HE6 := hide (HE.out.below HB6.out)
      have HRB6 := hide (HRB.out.below ((HBw.out.trans (HB6.out.mono HBw.out.size))))
      have HBB : Hid (Below w.heap.size w w6) := hide (HBw.out.trans (HB6.out.mono HBw.out.size))
      have HEN := hide (end_st w6 zd sv bs s HD6.out)
      clear HE HDq HRB HB5 HB4 HB3 HE3 HB2' HE2 HB6
      by_cases hc : s.code = 0
      · by_cases hp : s.p < bs.length
        · have he : endV bs s = .iface 90 (.agg #[.int .i64 s.p, .int .i64 13]) := by unfold endV; rw [if_neg (by omega), if_pos hp]
          rw [he] at HEN
          have hl : mLeft bs s = bs.length - s.p := by unfold mLeft; rw [if_neg (by omega)]
          have HL := hide (fun m => left_st _ zd sv bs s (HD6.out.drewN m))
          rw [hl] at HL
          obtain ⟨lf, hlf⟩ : ∃ lf, bs.length - s.p = lf := ⟨_, rfl⟩
          rw [hlf] at HL
          have hl0 : 0 < lf := by omega
          clear he hl hlf
          go_wp2_with fail
          refine (HEN.out).mono ?_
          rintro e w7 ⟨rfl, m7, rfl⟩
          go_wp2_with fail
          refine (HL.out m7).mono ?_
          rintro e w8 ⟨rfl, m8, rfl⟩
          go_wp2
          go_ret
          exact ⟨rfl, HBB.out.trans ((Below.drewN' _ _).mono HBB.out.size)⟩
        · have he : endV bs s = .nilIface := by unfold endV; rw [if_neg (by omega), if_neg hp]
          rw [he] at HEN
          have hxs : xs = bs := by rw [HON.out.2 hc, List.take_of_length_le (by omega)]
          subst hxs
          clear he
          go_wp2_with fail
          refine (HEN.out).mono ?_
          rintro e w7 ⟨rfl, m7, rfl⟩
          go_wp2_with fail
          refine k13_walk _ (fun _ _ _ _ _ h => h) _ X z xs vb (HE6.out.below (Below.drewN' _ m7)) (by omega) (HRB6.out.below (Below.drewN' _ m7)) _ (Nat.lt_of_sub_pos (by exact Nat.succ_pos _)) rfl rfl rfl ?_
          intro v9 w9 hb9
          simp only [Act.put, List.setIfInBounds_toArray, List.set_cons_zero, List.set_cons_succ]
          go_wp2
          go_ret
          exact ⟨rfl, HBB.out.trans (((Below.drewN' w6 m7).trans (hb9.mono (Nat.le_refl _))).mono HBB.out.size)⟩
      · have he : endV bs s = .iface 90 (.agg #[.int .i64 s.fat, .int .i64 s.code]) := by unfold endV; rw [if_pos hc]
        rw [he] at HEN
        have hl : mLeft bs s = 0 := by unfold mLeft; rw [if_pos hc]
        have HL := hide (fun m => left_st _ zd sv bs s (HD6.out.drewN m))
        rw [hl] at HL
        have hm : (mNum bs s 18446744073709551615).1 = 0 := by unfold mNum; rw [if_pos hc]
        have HVV := hide (fun m => var_st _ zd sv bs s 18446744073709551615 (HD6.out.drewN m))
        clear he hl
        go_wp2_with fail
        refine (HEN.out).mono ?_
        rintro e w7 ⟨rfl, m7, rfl⟩
        go_wp2_with fail
        refine (HL.out m7).mono ?_
        rintro e w8 ⟨rfl, m8, rfl⟩
        go_wp2_with fail
        refine (HVV.out (m7 + m8)).mono ?_
        rintro e w9 ⟨rfl, hd9, hg9⟩
        rw [hm]
        have HB9 : Hid (Below w.heap.size w w9) := hide ((HBB.out.trans ((Below.drewN' _ _).mono HBB.out.size)).trans (below_grownBy hg9 HZD.out (by simpa using HBB.out.size)))
        clear hd9 hg9 HVV
        go_wp2
        go_ret
        exact ⟨rfl, HB9.out⟩
end Go.Proofs.Ytinjcefekbpabaa
