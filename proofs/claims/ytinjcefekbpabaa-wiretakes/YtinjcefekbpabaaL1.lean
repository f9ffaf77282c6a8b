/- WireTakes: the walk. -/
import Derived.Test.YtinjcefekbpabaaU1
import Derived.Test.YtinjcefekbpabaaO1
namespace Go.Proofs.Ytinjcefekbpabaa
set_option linter.unusedVariables false
set_option linter.unusedSimpArgs false
open Go.RowKit

/-- A slice of takes, as its cells lie. -/
def TakesAt (w : World) (ta : Option Addr) (n : Nat) : Prop :=
  n ≤ maxLen ∧ (n = 0 ∨ ∃ tb to, ta = some ⟨tb, to, none⟩ ∧ tb < w.heap.size ∧ ∀ i, i < n → ∃ (kd : Int) (mo : Nat) (nn : Int), -9223372036854775808 ≤ kd ∧ kd ≤ 9223372036854775807 ∧ mo ≤ 18446744073709551615 ∧ -9223372036854775808 ≤ nn ∧ nn ≤ 9223372036854775807 ∧
    w.cell? ⟨tb, to + i * 3, none⟩ = some (.int .i64 kd) ∧ w.cell? ⟨tb, to + i * 3 + 1, none⟩ = some (.int .u64 mo) ∧ w.cell? ⟨tb, to + i * 3 + 2, none⟩ = some (.int .i64 nn))

theorem own_form {w : World} {base : Nat} {v : Value} {n : Nat} {ys : List Value} {e : TypeId} (h : w.ownsRow base e 1 v n ys) : ∃ ao cap, v = .slice ao n cap ∧ (0 < n → ∃ g, ao = some ⟨g, 0, none⟩) := by
  obtain ⟨_, ⟨rfl, rfl⟩ | ⟨g, cap, cur, rfl, _⟩⟩ := h
  · exact ⟨none, 0, rfl, fun h => absurd h (by omega)⟩
  · exact ⟨_, cap, rfl, fun _ => ⟨g, rfl⟩⟩
theorem own_range {w : World} {base g n cap : Nat} {ys : List Value} {e : TypeId} (h : w.ownsRow base e 1 (.slice (some ⟨g, 0, none⟩) n cap) n ys) : base ≤ g ∧ g < w.heap.size := h.lt g rfl
theorem u8_all (xs : List UInt8) : ∀ y ∈ xs.map u8c, ∃ q, y = .int .u8 q := by
  intro y hy; obtain ⟨u, _, rfl⟩ := List.mem_map.1 hy; exact ⟨_, rfl⟩

/-- The two Decs of a run: the blocks that they lie in are the call's own, apart from each other. -/
structure Two (w : World) (z : Nat) (sv : Value) (y : Nat) (rv : Value) (bs : List UInt8) (s r : S) : Prop where
  d : DecSt w z sv bs s
  r : RefSt w y rv bs r
  zy : z ≠ y
  sy : ∀ b, sv = .slice (some ⟨b, 0, none⟩) bs.length bs.length → b ≠ y
  rz : ∀ b cap, rv = .slice (some ⟨b, 0, none⟩) bs.length cap → b ≠ z
theorem Two.below {w w' : World} {z y : Nat} {sv rv : Value} {bs : List UInt8} {s r : S} (h : Two w z sv y rv bs s r) (hb : Below w.heap.size w w') : Two w' z sv y rv bs s r := ⟨h.d.below hb, h.r.below hb, h.zy, h.sy, h.rz⟩
theorem Two.stepD {w w' : World} {z y : Nat} {sv rv : Value} {bs : List UInt8} {s r s' : S} (h : Two w z sv y rv bs s r) (hd : DecSt w' z sv bs s') (hg : w.grownBy w' (some z)) : Two w' z sv y rv bs s' r :=
  ⟨hd, h.r.grown hg (fun e => h.zy (Option.some.inj e).symm) (fun b cap e1 e => h.rz b cap e1 (Option.some.inj e)), h.zy, h.sy, h.rz⟩
theorem Two.stepR {w w' : World} {z y : Nat} {sv rv : Value} {bs : List UInt8} {s r r' : S} (h : Two w z sv y rv bs s r) (hd : RefSt w' y rv bs r') (hg : w.grownBy w' (some y)) : Two w' z sv y rv bs s r' :=
  ⟨h.d.grown hg (fun e => h.zy (Option.some.inj e)) (fun b e1 e => h.sy b e1 (Option.some.inj e)), hd, h.zy, h.sy, h.rz⟩
theorem Two.set {w : World} {z y g i : Nat} {v : Value} {sv rv : Value} {bs : List UInt8} {s r : S} (h : Two w z sv y rv bs s r) (hz : z ≠ g) (hy : y ≠ g) (hs : ∀ b, sv = .slice (some ⟨b, 0, none⟩) bs.length bs.length → b ≠ g) (hr : ∀ b cap, rv = .slice (some ⟨b, 0, none⟩) bs.length cap → b ≠ g) : Two (w.setCell ⟨g, i, none⟩ v) z sv y rv bs s r :=
  ⟨h.d.grown (grownBy_set w g i v) (fun e => hz (Option.some.inj e)) (fun b e1 e => hs b e1 (Option.some.inj e)), h.r.grown (grownBy_set w g i v) (fun e => hy (Option.some.inj e)) (fun b cap e1 e => hr b cap e1 (Option.some.inj e)), h.zy, h.sy, h.rz⟩

set_option maxRecDepth 20000 in
set_option maxHeartbeats 3200000 in
theorem wireTakes_any (w : World) (vb : Value) (bs : List UInt8) (hb : RdA w vb bs) (hlen : bs.length ≤ 140737488351232) (ta : Option Addr) (n tc : Nat) (hT : TakesAt w ta n) :
    Calls Try.prog 4 #[vb, .slice ta n tc] w fun e w' => e = .returned (.bool true) ∧ Below w.heap.size w w' := by
  have HC := hide (copied_arg w vb bs hb (by omega))
  have HRb := hide hb
  have HT := hide hT.2
  have hn : n ≤ 9223372036854775807 := hT.1
  have HO := hide (fun W v h => open_any W v bs h (by omega))
  have HRO := hide (fun W v h => ropen_arg W v bs h (by omega))
  clear hb hT
  go_enter Try.func4, Try.ntmps4
  go_wp2_with fail
  refine (HC.out).mono ?_
  rintro e w1 ⟨v', rfl, hown, hb1⟩
  have HW := hide hown
  have HB1 := hide hb1
  clear hown hb1 HC
  go_wp2_with fail
  refine (HO.out _ _ (Rd_owned HW.out)).mono ?_
  rintro e w2 ⟨rfl, hd2, hb2, hs2⟩
  have HD2 := hide hd2
  have HB2 := hide hb2
  have HS2 := hide hs2
  clear hd2 hb2 hs2 HO
  go_wp2_with fail
  refine (HRO.out _ _ ((HRb.out.below HB1.out).below HB2.out)).mono ?_
  rintro e w3 ⟨rv, rfl, hr3, hb3, hrv⟩
  have HR3 := hide hr3
  have HB3 := hide hb3
  have HRV := hide hrv
  clear hr3 hb3 hrv HRO
  obtain ⟨ao, cap, rfl, hnn⟩ := own_form HW.out
  have H3 : Hid (w3.ownsRow w.heap.size 5 1 (.slice ao bs.length cap) bs.length (bs.map u8c)) := (HW.out.kept (row := none) (grownBy_below HB2.out) (by
    rcases h : (Value.slice ao bs.length cap).ownBlock with _ | k <;> simp)).kept (row := none) (grownBy_below HB3.out) (by
    rcases h : (Value.slice ao bs.length cap).ownBlock with _ | k <;> simp)
  have HTWO : Hid (Two w3 (w1.heap.size + 1) (.slice (some ⟨w1.heap.size, 0, none⟩) bs.length bs.length) w2.heap.size rv bs s0 s0) :=
    ⟨HD2.out.below HB3.out, HR3.out, by have := HS2.out; omega, fun b e => by cases e; have := HS2.out; omega, fun b cap e => by have := HRV.out b cap e; have := HS2.out; omega⟩
  have HBW : Hid (Below w.heap.size w w3) := (HB1.out.trans (HB2.out.mono HB1.out.size)).trans (HB3.out.mono (Nat.le_trans HB1.out.size HB2.out.size))
  have HG : Hid (∀ g, ao = some ⟨g, 0, none⟩ → w.heap.size ≤ g ∧ g < w1.heap.size) := hide fun g e => by
    subst e
    exact own_range HW.out
  have hs12 : w2.heap.size = w1.heap.size + 2 := HS2.out
  have HRV2 : Hid (∀ b cap, rv = .slice (some ⟨b, 0, none⟩) bs.length cap → w1.heap.size < b) := hide fun b cap e => by have := HRV.out b cap e; omega
  have HNN := hide hnn
  have HLO : Hid (w.heap.size ≤ w1.heap.size) := HB1.out.size
  have HS12 := hide hs12
  clear hnn HW HD2 HB2 HR3 HB3 HRV HS2 HB1 hs12
  generalize hz : w1.heap.size + 1 = z at HTWO ⊢
  have HZ := hide hz
  generalize hy : w2.heap.size = y at HTWO HS12 ⊢
  have HY := hide hy
  clear hz hy
  have HTK := hide (fun W s kd (mo : Nat) nn h1 h2 h => take_st W z (.slice (some ⟨w1.heap.size, 0, none⟩) bs.length bs.length) bs s kd mo nn h1 h2 hlen h)
  have HTR := hide (fun W s kd (mo : Nat) nn h1 h2 h => took_st W y rv bs s kd mo nn h1 h2 hlen h)
  have HST := hide (fun W s r hD hR h => stands_st W z (.slice (some ⟨w1.heap.size, 0, none⟩) bs.length bs.length) y rv bs s r hD hR h)
  generalize hsv : Value.slice (some ⟨w1.heap.size, 0, none⟩) bs.length bs.length = sv at HTWO HTK HST
  have HSVB : Hid (∀ b, sv = .slice (some ⟨b, 0, none⟩) bs.length bs.length → b = w1.heap.size) := hide fun b e => by rw [← hsv] at e; cases e; rfl
  clear hsv
  go_wp2_with fail
  go_loopw [8] (fun i wr => ∃ (k : Nat) (ys : List Value), i = .int .i64 k ∧ k ≤ bs.length ∧ wr.ownsRow w.heap.size 5 1 (.slice ao bs.length cap) bs.length ys ∧ (∀ q ∈ ys, ∃ x, q = .int .u8 x) ∧ Two wr z sv y rv bs s0 s0 ∧ Below w.heap.size w wr) (fun i _ => bs.length - (intOf i).toNat)
  case atStart => exact ⟨0, bs.map u8c, rfl, Nat.zero_le _, H3.out, u8_all bs, HTWO.out, HBW.out⟩
  case round =>
    obtain ⟨k, ys, rfl, hk, hown, hall, htwo, hbw⟩ := hrel
    have HTW := hide htwo
    have HBR := hide hbw
    clear htwo hbw
    by_cases hlt : k < bs.length
    · obtain ⟨g, rfl⟩ := HNN.out (by omega)
      obtain ⟨⟨x, hx⟩, hf, hbg⟩ := own_cell hown hall k hlt
      have HSS := hide (own_set hown hall k hlt)
      have hg := HG.out g rfl
      clear hown hall
      go_wp2
      go_roundw
      case rel =>
        obtain ⟨ys2, h1, h2⟩ := HSS.out _
        exact ⟨k + 1, ys2, by go_num, by omega, h1, h2, HTW.out.set (by have := HZ.out; omega) (by have := HS12.out; omega) (fun b e => by have := HSVB.out b e; omega) (fun b cap e => by have := HRV2.out b cap e; omega), HBR.out.setCell hbg _⟩
      case measure => simp [intOf]; omega
    · clear hown hall
      go_wp2_with fail
      refine (HST.out _ s0 s0 HTW.out.d HTW.out.r (Eqv.refl _)).mono ?_
      rintro e w5 ⟨rfl, hb5⟩
      have HTW5 := hide (HTW.out.below hb5)
      have HBR5 := hide (HBR.out.trans (hb5.mono HBR.out.size))
      clear hb5
      go_wp2_with fail
      go_loopw [9] (fun i wr => ∃ (k : Nat) (s r : S), i = .int .i64 k ∧ k ≤ n ∧ Two wr z sv y rv bs s r ∧ Eqv s r ∧ Below w.heap.size w wr) (fun i _ => n - (intOf i).toNat)
      case atStart => exact ⟨0, s0, s0, rfl, Nat.zero_le _, HTW5.out, Eqv.refl _, HBR5.out⟩
      case round =>
        obtain ⟨k, s, r, rfl, hk, htwo, heqv, hbw⟩ := hrel
        have HT2 := hide htwo
        have HEQ := hide heqv
        have HB2 := hide hbw
        clear htwo heqv hbw HTW5 HBR5
        by_cases hlt : k < n
        · obtain ⟨tb, to, rfl, htb, hcel⟩ : ∃ tb to, ta = some ⟨tb, to, none⟩ ∧ tb < w.heap.size ∧ ∀ i, i < n → ∃ (kd : Int) (mo : Nat) (nn : Int), -9223372036854775808 ≤ kd ∧ kd ≤ 9223372036854775807 ∧ mo ≤ 18446744073709551615 ∧ -9223372036854775808 ≤ nn ∧ nn ≤ 9223372036854775807 ∧ w.cell? ⟨tb, to + i * 3, none⟩ = some (.int .i64 kd) ∧ w.cell? ⟨tb, to + i * 3 + 1, none⟩ = some (.int .u64 mo) ∧ w.cell? ⟨tb, to + i * 3 + 2, none⟩ = some (.int .i64 nn) := by
            rcases HT.out with h | h
            · omega
            · exact h
          obtain ⟨kd, mo, nn, _, _, _, hn1, hn2, e0, e1, e2⟩ := hcel k hlt
          have d0 := (HB2.out.cell (p := ⟨tb, to + k * 3, none⟩) htb).trans e0
          have d1 := (HB2.out.cell (p := ⟨tb, to + k * 3 + 1, none⟩) htb).trans e1
          have d2 := (HB2.out.cell (p := ⟨tb, to + k * 3 + 2, none⟩) htb).trans e2
          have E0 := hide e0
          have E1 := hide e1
          have E2 := hide e2
          clear hcel e0 e1 e2
          have HALK := hide (take_alike bs s r kd mo nn HEQ.out)
          have HT1 := hide (HTK.out wr s kd mo nn hn1 hn2 HT2.out.d)
          have HT3 := hide (fun W h => HTR.out W r kd mo nn hn1 hn2 h)
          generalize mTake bs s kd mo nn = a at HALK HT1
          generalize rTake bs r kd mo nn = b at HALK HT3
          obtain ⟨a1, a2, a3⟩ := a
          obtain ⟨b1, b2, b3⟩ := b
          obtain ⟨h1, h2, h3⟩ := HALK.out
          simp only [] at h1 h2 h3
          subst h1; subst h2
          clear HALK
          go_wp2_with fail
          refine (HT1.out).mono ?_
          rintro e w6 ⟨rfl, hd6, hg6⟩
          simp only [] at hd6
          have HT6 := hide (HT2.out.stepD hd6 hg6)
          have HB6 := hide (HB2.out.trans (below_grownBy hg6 (by have := HZ.out; have := HLO.out; omega) HB2.out.size))
          have d0 := (HB6.out.cell (p := ⟨tb, to + k * 3, none⟩) htb).trans E0.out
          have d1 := (HB6.out.cell (p := ⟨tb, to + k * 3 + 1, none⟩) htb).trans E1.out
          have d2 := (HB6.out.cell (p := ⟨tb, to + k * 3 + 2, none⟩) htb).trans E2.out
          have hs6 : w.heap.size ≤ w6.heap.size := HB6.out.size
          have htb6 : tb < w6.heap.size := by omega
          clear hd6 hg6
          have H3E := hide h3
          clear h3
          go_wp2_with fail
          have HT7 := hide (HT6.out.below ((Below.refl _ _).alloc (Nat.le_refl _) (.cells #[.int .u64 a1, .string ⟨a2.toArray⟩] 50)))
          refine (HT3.out _ HT7.out.r).mono ?_
          rintro e w8 ⟨rfl, hd8, hg8⟩
          simp only [] at hd8
          have HT8 := hide (HT7.out.stepR hd8 hg8)
          have HB8 := hide ((HB6.out.alloc hs6 _).trans (below_grownBy hg8 (by have := HS12.out; have := HLO.out; omega) (by simp; omega)))
          have hyl : y < w6.heap.size := HT6.out.r.lt
          have hL : Blk w8 w6.heap.size #[.int .u64 a1, .string ⟨a2.toArray⟩] 50 := (Blk.made w6 _ _).grown hg8 (fun e => by have := Option.some.inj e; omega)
          have hs68 : w6.heap.size < w8.heap.size := hL.lt
          have c0 := hL.cell 0
          have c1 := hL.cell 1
          clear hd8 hg8 hL
          go_wp2_with fail
          have HT9 := hide (HT8.out.below ((Below.refl _ _).alloc (Nat.le_refl _) (.cells #[.int .u64 a1, .string ⟨a2.toArray⟩] 50)))
          refine (HST.out _ _ _ HT9.out.d HT9.out.r H3E.out).mono ?_
          rintro e wA ⟨rfl, hbA⟩
          have HTA := hide (HT9.out.below hbA)
          have HBA := hide ((HB8.out.alloc (by omega) _).trans (hbA.mono (by simp; omega)))
          clear hbA
          go_wp2
          go_roundw
          case rel => exact ⟨k + 1, _, _, by go_num, by omega, HTA.out, H3E.out, HBA.out⟩
          case measure => simp [intOf]; omega
        · go_wp2
          go_ret
          exact ⟨rfl, HB2.out⟩
end Go.Proofs.Ytinjcefekbpabaa
