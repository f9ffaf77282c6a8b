/- BloomPlays, walked. -/
import Derived.Test.YtbemmhngadpjcaaFQ10
namespace Go.Proofs.Ytbemmhngadpjcaa
set_option linter.unusedVariables false
set_option linter.unusedSimpArgs false
open Go.RowKit

def TruC (w : World) (e : Ending) (w' : World) : Prop := e = .returned (.bool true) ∧ Below w.heap.size w w'
theorem bstep {a b c : World} (h : Below a.heap.size a b) (k : Below b.heap.size b c) : Below a.heap.size a c := h.trans (k.mono h.size)
theorem infoScript : (Try.prog.info? 25).map (·.size) = some 5 := by kernel_rfl
/-- The steps that the law itself makes at its end. -/
def endSt (f : Int) : Array Value := (Value.int .i64 6 :: Value.int .i64 f :: (List.replicate 32 (Value.int .u8 0) ++ [Value.int .i64 0, Value.int .i64 0])).toArray
theorem endSt_at (f : Int) : StepAt (endSt f) 6 f 0 0 (List.replicate 32 0) :=
  ⟨rfl, rfl, rfl, fun i hi => by
    rw [List.length_replicate] at hi
    have key : ∀ i : Fin 32, (endSt f)[2 + i.val]? = some (.int .u8 0) := fun i => by
      unfold endSt
      rw [List.getElem?_toArray, show 2 + i.val = i.val + 1 + 1 by omega, List.getElem?_cons_succ, List.getElem?_cons_succ, List.getElem?_append_left (by rw [List.length_replicate]; exact i.isLt), List.getElem?_replicate, if_pos i.isLt]
    rw [key ⟨i, hi⟩, List.getElem_replicate]
    rfl, rfl, rfl, rfl⟩
set_option maxRecDepth 20000 in
set_option maxHeartbeats 16000000 in
theorem plays_law (w : World) (B0 B1 H0 H1 : Int) (ao : Option Addr) (n c : Nat) (sts : Nat → Array Value) (hr : StRow w ao n sts) (hn : n ≤ 9223372036854775807) : Calls Try.prog 3 #[.agg #[.int .i64 B0, .int .i64 B1, .int .i64 H0, .int .i64 H1, .slice ao n c]] w (TruC w) := by
  obtain ⟨SX, hSX⟩ : ∃ SX : Array Value, SX = #[.int .i64 B0, .int .i64 B1, .int .i64 H0, .int .i64 H1, .slice ao n c] := ⟨_, rfl⟩
  obtain ⟨W1, hW1⟩ : ∃ W1, W1 = w.alloc (.cells #[.int .i64 B0, .int .i64 B1, .int .i64 H0, .int .i64 H1, .slice ao n c] 25) := ⟨_, rfl⟩
  have hb1 : Below w.heap.size w W1 := by rw [hW1]; exact (Below.refl _ _).alloc (Nat.le_refl _) _
  have hk1 : Blk W1 w.heap.size SX 25 := by rw [hW1, hSX]; exact Blk.made w _ _
  have HR := hide hr
  have HB1 := hide hb1
  have HK1 := hide hk1
  have CS := hide (small_any W1 B0 B1 H0 H1 ao n c sts (hr.below hb1) hn)
  have HSX := hide hSX
  clear hr hb1 hk1 hSX
  go_enter Try.func3, Try.ntmps3
  go_wp2_with fail
  rw [← hW1]
  refine CS.out.mono ?_
  rintro e w2 ⟨r, rfl, hb2⟩
  have HB2 := hide (bstep HB1.out hb2)
  have HK2 := hide (HK1.out.below hb2 HK1.out.lt)
  clear hb2 hW1 CS HB1 HK1
  cases r with
  | false =>
    go_wp2
    go_ret
    exact ⟨rfl, HB2.out⟩
  | true =>
    have hk2 := HK2.out
    rw [HSX.out] at hk2
    have c0 : w2.cell? ⟨w.heap.size, 0, none⟩ = some (.int .i64 B0) := hk2.cell 0
    have c2 : w2.cell? ⟨w.heap.size, 2, none⟩ = some (.int .i64 H0) := hk2.cell 2
    have CM := hide (fun W b h => made_any W b h)
    clear hk2
    go_wp2_with fail
    refine (CM.out _ _ _).mono ?_
    rintro e w3 ⟨s, rfl, hok3, hsy3, hlo3, hb3⟩
    obtain ⟨u1, hu1⟩ : ∃ v, v = ptF s := ⟨_, rfl⟩
    obtain ⟨u2, hu2⟩ : ∃ v, v = ptR s := ⟨_, rfl⟩
    obtain ⟨W3, hW3⟩ : ∃ W, W = w3.alloc (.cells #[.pointer u1, .pointer u2] 30) := ⟨_, rfl⟩
    have hb3' : Below w3.heap.size w3 W3 := by rw [hW3]; exact (Below.refl _ _).alloc (Nat.le_refl _) _
    have hb23 := bstep hb3 hb3'
    have HB3 := hide (bstep HB2.out hb23)
    have HK3 := hide (HK2.out.below hb23 HK2.out.lt)
    have HP3 : Hid (PQ w W3 s none) := hide ⟨okO_below hok3 hb3', trivial, by cases s <;> trivial, by
      cases s with
      | none => trivial
      | some s => have h0 := HB2.out.size; exact ⟨Nat.le_trans h0 hlo3.1, Nat.le_trans h0 hlo3.2.1, Nat.le_trans h0 hlo3.2.2⟩, trivial, HB3.out⟩
    have HA3 : Hid (Blk W3 w3.heap.size #[.pointer u1, .pointer u2] 30) := hide (by rw [hW3]; exact Blk.made _ _ _)
    have HSy3 := hide hsy3
    have HU := hide (And.intro hu1 hu2)
    obtain ⟨qa, hqa⟩ : ∃ x, x = w3.heap.size := ⟨_, rfl⟩
    have hk3 := HK3.out
    rw [HSX.out] at hk3
    have c1 : W3.cell? ⟨w.heap.size, 1, none⟩ = some (.int .i64 B1) := hk3.cell 1
    have c3 : W3.cell? ⟨w.heap.size, 3, none⟩ = some (.int .i64 H1) := hk3.cell 3
    unfold slF slR
    rw [← hu1, ← hu2]
    rw [hW3] at c1 c3
    clear c0 c2 hok3 hsy3 hlo3 hb3 hb3' hb23 hu1 hu2 HB2 HK2 hk3
    go_wp2_with fail
    rw [← hW3]
    refine (CM.out _ _ _).mono ?_
    rintro e w4 ⟨t, rfl, hok4, hsy4, hlo4, hb4⟩
    obtain ⟨v1, hv1⟩ : ∃ v, v = ptF t := ⟨_, rfl⟩
    obtain ⟨v2, hv2⟩ : ∃ v, v = ptR t := ⟨_, rfl⟩
    obtain ⟨W5, hW5⟩ : ∃ W, W = w4.alloc (.cells #[.pointer v1, .pointer v2] 30) := ⟨_, rfl⟩
    have hb5 : Below w4.heap.size w4 W5 := by rw [hW5]; exact (Below.refl _ _).alloc (Nat.le_refl _) _
    have hb45 := bstep hb4 hb5
    have hp4 : PQ w w4 t s := HP3.out.symm.below hb4 |> fun p => by
      cases t with
      | none => exact ⟨trivial, p.b, trivial, trivial, p.lb, p.bel⟩
      | some t => exact (HP3.out.symm.made hb4 hok4 hlo4)
    have HP5 := hide (hp4.symm.below hb5)
    have HK5 := hide (HK3.out.below hb45 HK3.out.lt)
    have ha5 := HA3.out.below hb45 HA3.out.lt
    have hB5 : Blk W5 w4.heap.size #[.pointer v1, .pointer v2] 30 := by rw [hW5]; exact Blk.made _ _ _
    have x0 : W5.cell? ⟨w3.heap.size, 0, none⟩ = some (.pointer u1) := ha5.cell 0
    have x1 : W5.cell? ⟨w3.heap.size, 1, none⟩ = some (.pointer u2) := ha5.cell 1
    have x2 : W5.cell? ⟨w4.heap.size, 0, none⟩ = some (.pointer v1) := hB5.cell 0
    have x3 : W5.cell? ⟨w4.heap.size, 1, none⟩ = some (.pointer v2) := hB5.cell 1
    obtain ⟨W6, hW6⟩ : ∃ W, W = W5.alloc (.cells #[.pointer u1, .pointer u2, .pointer v1, .pointer v2] 30) := ⟨_, rfl⟩
    have hb6 : Below W5.heap.size W5 W6 := by rw [hW6]; exact (Below.refl _ _).alloc (Nat.le_refl _) _
    have HP6 := hide (HP5.out.below hb6)
    have HK6 := hide (HK5.out.below hb6 HK5.out.lt)
    have HQ6 : Hid (Blk W6 W5.heap.size (cells2 0 s t) 30) := hide (by
      rw [hW6, HU.out.1, HU.out.2, hv1, hv2]
      exact Blk.made _ _ _)
    have HSy4 := hide hsy4
    have hlq : w.heap.size ≤ W5.heap.size := HP5.out.bel.size
    have hszq : W5.heap.size = w4.heap.size + 1 := by rw [hW5, World.size_alloc]
    unfold slF slR
    rw [← hv1, ← hv2]
    rw [hW5] at x0 x1 x2 x3
    clear c1 c3 hok4 hsy4 hlo4 hb4 hb5 hb45 hb6 hp4 ha5 hB5 hv1 hv2 HB3 HK3 HP3 HA3 HK5 HP5 CM
    go_wp2
    rw [hszq] at HQ6 hlq
    obtain ⟨q, hq⟩ : ∃ q, q = w4.heap.size + 1 := ⟨_, rfl⟩
    rw [← hq] at HQ6 hlq ⊢
    rw [hW5] at hW6
    rw [← hW6]
    clear hW5 hszq hq x0 x1 x2 x3 HU hqa hW3 hW6
    go_loopw [8] (fun s8 wr => ∃ (k : Nat) (s t : Option Sl), s8 = .int .i64 k ∧ k ≤ n ∧ syO s ∧ syO t ∧ PQ w wr s t ∧ Blk wr q (cells2 0 s t) 30 ∧ Blk wr w.heap.size SX 25) (fun s8 _ => n - (intOf s8).toNat)
    case atStart => exact ⟨0, s, t, rfl, by omega, HSy3.out, HSy4.out, HP6.out, HQ6.out, HK6.out⟩
    case round =>
      clear HSy3 HSy4 HP6 HQ6 HK6 s t
      obtain ⟨k, s, t, rfl, hk, hs, ht, hp, hqb, hkb⟩ := hrel
      have HS := hide (And.intro hs ht)
      have HP := hide hp
      have HQ := hide hqb
      have HK := hide hkb
      have hkb' := hkb
      rw [HSX.out] at hkb'
      have c4 : wr.cell? ⟨w.heap.size, 4, none⟩ = some (.slice ao n c) := hkb'.cell 4
      have HRr := hide (HR.out.below hp.bel)
      clear hkb hkb' hs ht hp hqb
      by_cases hlt : k < n
      · have hki : (k : Int) < n := by omega
        obtain ⟨b, o, hao, hrow⟩ := HRr.out.at' (by omega)
        obtain ⟨K, F, B, H, kb, sa⟩ := HRr.out.st k hlt
        subst hao
        have HRow := hide (hrow k hlt)
        have HN : Hid ((sts k).toList.length = 36) := hide (by rw [Array.length_toList]; exact sa.sz)
        have C := hide (done_any w wr q s t (sts k) K F B H kb sa HP.out HS.out.1 HS.out.2 HQ.out hlq)
        clear hrow sa
        go_wp2_with (first | (with_reducible refine wpList_load_mid rfl 38 _ rfl b (o + k * 36) rfl (sts k).toList _ ?row Try.underlying38 rfl ?rown ?_) | fail)
        case row => exact HRow.out
        case rown => rw [HN.out]; exact infoStep
        refine C.out.mono ?_
        rintro e w7 ⟨rfl, s', t', hs7, ht7, hp7, hq7, hk7⟩
        have HS7 := hide (And.intro hs7 ht7)
        have HP7 := hide hp7
        have HQ7 := hide hq7
        have HK7 := hide (hk7 _ _ HK.out)
        clear hs7 ht7 hp7 hq7 hk7 C c4
        go_wp2
        exact ⟨⟨k + 1, s', t', by go_num, by omega, HS7.out.1, HS7.out.2, HP7.out, HQ7.out, HK7.out⟩, by simp [intOf]; omega⟩
      · have hki : ¬ (k : Int) < n := by omega
        have CT1 := hide (told_any wr s HP.out.a HS.out.1)
        have y0 : wr.cell? ⟨q, 0, none⟩ = some (.pointer (ptF s)) := HQ.out.cell 0
        have y1 : wr.cell? ⟨q, 1, none⟩ = some (.pointer (ptR s)) := HQ.out.cell 1
        clear HRr
        go_wp2_with fail
        refine CT1.out.mono ?_
        rintro e w7 ⟨rfl, hb7⟩
        have HP7 := hide (HP.out.below hb7)
        have HQ7 := hide (HQ.out.below hb7 HQ.out.lt)
        have CT2 := hide (told_any w7 t HP7.out.b HS.out.2)
        have y2 : w7.cell? ⟨q, 2, none⟩ = some (.pointer (ptF t)) := HQ7.out.cell 2
        have y3 : w7.cell? ⟨q, 3, none⟩ = some (.pointer (ptR t)) := HQ7.out.cell 3
        clear hb7 c4 y0 y1 HP HQ HK CT1
        go_wp2_with fail
        refine CT2.out.mono ?_
        rintro e w8 ⟨rfl, hb8⟩
        have HP8 := hide (HP7.out.below hb8)
        have HQ8 := hide (HQ7.out.below hb8 HQ7.out.lt)
        have CD1 := hide (done_any w w8 q s t (endSt 0) 6 0 0 0 _ (endSt_at 0) HP8.out HS.out.1 HS.out.2 HQ8.out hlq)
        clear hb8 y2 y3 HP7 HQ7 CT2
        go_wp2_with fail
        refine CD1.out.mono ?_
        rintro e w9 ⟨rfl, s9, t9, hs9, ht9, hp9, hq9, -⟩
        have HP9 := hide hp9
        have CD2 := hide (done_any w w9 q s9 t9 (endSt 1) 6 1 0 0 _ (endSt_at 1) hp9 hs9 ht9 hq9 hlq)
        clear hs9 ht9 hp9 hq9 CD1 HP8 HQ8
        go_wp2_with fail
        refine CD2.out.mono ?_
        rintro e w10 ⟨rfl, s10, t10, -, -, hp10, -, -⟩
        have HB10 := hide hp10.bel
        clear hp10 CD2
        go_wp2
        go_ret
        exact ⟨rfl, HB10.out⟩
end Go.Proofs.Ytbemmhngadpjcaa
