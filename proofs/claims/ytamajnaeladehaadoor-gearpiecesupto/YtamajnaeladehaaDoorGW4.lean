/- Write. -/
import Derived.Test.YtamajnaeladehaaDoorGW3
namespace Go.Proofs.YtamajnaeladehaaDoor
set_option linter.unusedVariables false
set_option linter.unusedSimpArgs false
open Go.RowKit

theorem infoSl : (Tryd.prog.info? 24).map (fun i => (i.zero, i.size, i.bytes)) = some (some (.slice none 0 0), 1, 24) := by kernel_rfl
theorem wpList_append_sl {ops : Array Oper} {rest : List Oper} {o : Oper} {a : Act} {w : World} {Q : Exit → Act → World → Prop} (hgd : o.guard = none) (s x : Operand) (ho : o.op = .call { callee := .builtin .append, args := #[s, x], argTypes := #[42, 42] })
    (base : Nat) (v : Value) (n : Nat) (vals : List Value) (hs : a.eval s = v) (hown : w.ownsRow base 24 1 v n vals) (z c : Nat) (hx : a.eval x = .slice (some ⟨z, 0, none⟩) 1 c) (ao : Option Addr) (l k : Nat) (hc : w.cell? ⟨z, 0, none⟩ = some (.slice ao l k)) (hlen : n + 1 ≤ 5864062014000) (hbase : base ≤ w.heap.size)
    (h : ∀ v' w', Hid (w'.ownsRow base 24 1 v' (n + 1) (vals ++ [.slice ao l k])) → Hid (w.grownBy w' v.ownBlock) → Hid (v'.ownBlock = v.ownBlock ∨ v'.ownBlock = some w.heap.size) → wpList Tryd.prog ops Q rest (a.put o.dst v') w') : wpList Tryd.prog ops Q (o :: rest) a w := by
  obtain ⟨i0, hi, hz0, hz1, hz2⟩ := info_parts infoSl
  refine wpList_append_own_at w hgd s x 42 ho base 24 i0 (.slice none 0 0) 1 24 Tryd.underlying42 hi hz0 hz1 hz2 rfl (by decide) v n vals hs hown ⟨z, 0, none⟩ 1 c [.slice ao l k] hx rfl ?_ (by intro v hv; simp at hv; subst hv; rfl) (by unfold maxLen; omega) (by omega) hbase ?_
  · intro j u hj
    cases j with
    | zero => cases hj; exact hc
    | succ j => simp at hj
  · intro v' w' h1 h2 _ h4
    exact h v' w' (hide h1) (hide h2) (hide h4)
theorem RdA.ch {w w' : World} {S : Nat → Prop} {v : Value} {xs : List UInt8} (h : RdA w v xs) (hc : Ch w w' S) (hn : ∀ b o l c, v = .slice (some ⟨b, o, none⟩) l c → 0 < xs.length → ¬ S b) : RdA w' v xs := by
  rcases h with ⟨ao, c, e, hlc, hm, h | ⟨b, o, rfl, hcell⟩⟩ | h
  · exact .inl ⟨ao, c, e, hlc, hm, .inl h⟩
  · refine .inl ⟨_, c, e, hlc, hm, .inr ⟨b, o, rfl, fun i hi => ?_⟩⟩
    have h1 := hcell i hi
    have hb := World.block_lt_of_cell? w _ h1
    rw [← h1]
    unfold World.cell?
    simp only
    rw [hc.block b hb (hn b o _ c e (by omega))]
  · exact .inr h
theorem Tabs.ch {w w' : World} {S : Nat → Prop} (h : Tabs w) (hc : Ch w w' S) (hn : ¬ S 1) : Tabs w' :=
  ⟨Nat.lt_of_lt_of_le h.size hc.size, fun t ht => by
    rw [← h.tab t ht]
    unfold World.cell?
    simp only
    rw [hc.block 1 h.size hn]⟩
theorem roll_snoc (cs : List UInt8) (x : UInt8) : roll (rollL cs) x = rollL (cs ++ [x]) := (rollL_snoc cs x).symm
def WriteC (w : World) (B z : Nat) (mn me mx : Int) (hv0 : Value) (bh0 bn0 : Nat) (hs xs : List UInt8) (e : Ending) (w' : World) : Prop :=
  ∃ vw vals hv bh bn br b4 b5, e = .returned (.tuple #[vw, .int .i64 0]) ∧ WrB w w' B z mn me mx hv0 bh0 bn0 vw vals (feed mn me mx hs xs).1 hv (feed mn me mx hs xs).2 bh bn br b4 b5 (rollL (feed mn me mx hs xs).2) (feed mn me mx hs xs).2.length ∧ ((feed mn me mx hs xs).2.length : Int) < mx
theorem feed_len (mn me mx : Int) : ∀ (xs hs : List UInt8), (feed mn me mx hs xs).1.length ≤ xs.length ∧ (feed mn me mx hs xs).2.length ≤ hs.length + xs.length
  | [], hs => by rw [feed]; simp
  | x :: r, hs => by
    rw [feed, List.length_cons]
    split
    · have := feed_len mn me mx r []
      simp only [List.length_cons, List.length_nil] at this ⊢
      omega
    · have := feed_len mn me mx r (hs ++ [x])
      rw [List.length_append, List.length_singleton] at this
      omega
set_option maxRecDepth 20000 in
set_option maxHeartbeats 4000000 in
theorem write_any (w : World) (hT : Tabs w) (B z : Nat) (mn me mx : Int) (hv0 : Value) (hs : List UInt8) (bh0 bn0 br0 b40 b50 : Nat) (C : CuSt w B z mn me mx hv0 hs bh0 bn0 br0 b40 b50) (hB : 1 < B) (v : Value) (xs : List UInt8) (hv : RdA w v xs)
    (hd : ∀ b o l c, v = .slice (some ⟨b, o, none⟩) l c → 0 < xs.length → ¬ (b = z ∨ b = bh0 ∨ b = bn0 ∨ hv0.ownBlock = some b)) (hlen : hs.length + xs.length ≤ 4294967296) :
    Calls Tryd.prog 23 #[ptr z, v] w (WriteC w B z mn me mx hv0 bh0 bn0 hs xs) := by
  have HRy := hide (ready_any w B z mn me mx hv0 hs bh0 bn0 br0 b40 b50 C)
  have HM := hide C.may
  have HW0 : Hid (WrB w w B z mn me mx hv0 bh0 bn0 (.slice none 0 0) [] [] hv0 hs bh0 bn0 br0 b40 b50 (rollL hs) hs.length) := hide ⟨C.blk, C.low, C.own, C.es, C.apz, C.aph, Ch.refl _ _, World.ownsRow_nil _ _ _ _, ⟨rfl, fun i hi => by simp at hi⟩, .inl ⟨rfl, rfl⟩, fun g e => .inl e, (fun g e => by cases e), C.blk.lt⟩
  have HLt := hide C.lt
  have HV := hide hv
  have HD := hide hd
  have HT := hide hT
  have HN1 : Hid (¬ (1 = z ∨ 1 = bh0 ∨ 1 = bn0 ∨ hv0.ownBlock = some 1)) := hide (by
    have := C.low
    have := C.es.low
    rintro (h | h | h | h)
    · omega
    · omega
    · omega
    · have := (owns_lt C.own 1 h).1; omega)
  obtain ⟨ao, c, rfl, hxl⟩ := hv.slice
  clear hv hd hT C
  unfold ptr at HRy
  unfold ptr
  go_enter Tryd.func23, Tryd.ntmps23
  go_wp2_with fail
  refine HRy.out.mono ?_
  rintro e w' ⟨rfl, rfl⟩
  clear HRy
  go_wp2
  go_loopw [7, 17] (fun lv iv wr => ∃ (vw : Value) (k : Nat) (vals : List Value) (hv : Value) (bh bn br b4 b5 : Nat), vw = lv ∧ iv = .int .i64 k ∧ k ≤ xs.length ∧ WrB w' wr B z mn me mx hv0 bh0 bn0 vw vals (feed mn me mx hs (xs.take k)).1 hv (feed mn me mx hs (xs.take k)).2 bh bn br b4 b5 (rollL (feed mn me mx hs (xs.take k)).2) (feed mn me mx hs (xs.take k)).2.length ∧ ((feed mn me mx hs (xs.take k)).2.length : Int) < mx) (fun _ iv _ => xs.length - (intOf iv).toNat)
  case atStart => exact ⟨_, 0, [], hv0, bh0, bn0, br0, b40, b50, rfl, rfl, by omega, by rw [List.take_zero, feed]; exact HW0.out, by rw [List.take_zero, feed]; exact HLt.out⟩
  case round =>
    clear HW0
    obtain ⟨vw, k, vals, hv, bh, bn, br, b4, b5, rfl, rfl, hk, hW, hlt0⟩ := hrel
    by_cases hlt : k < xs.length
    · have hki : (k : Int) < xs.length := by omega
      have hfl := feed_len mn me mx (xs.take k) hs
      have HFt := hide (feed_take mn me mx hs xs k hlt)
      rw [List.length_take, Nat.min_eq_left hk] at hfl
      obtain ⟨ps, hps⟩ : ∃ ps, ps = (feed mn me mx hs (xs.take k)).1 := ⟨_, rfl⟩
      obtain ⟨cs, hcs⟩ : ∃ cs, cs = (feed mn me mx hs (xs.take k)).2 := ⟨_, rfl⟩
      rw [← hps, ← hcs] at HFt hW hfl
      rw [← hcs] at hlt0
      have HR := hide (HV.out.ch hW.ch HD.out)
      obtain ⟨bz, bo, cc, he, hcell⟩ := HR.out.at k hlt
      cases he
      obtain ⟨x, hx⟩ : ∃ x, x = xs[k] := ⟨_, rfl⟩
      rw [← hx] at hcell HFt
      obtain ⟨ha, hc, hvf, -⟩ := own_formB hW.own
      subst hvf
      have c4 : wr.cell? ⟨z, 4, none⟩ = some (.slice ha cs.length hc) := hW.blk.cell 4
      have HW1 := hide (hW.below ((Below.refl wr.heap.size wr).alloc (Nat.le_refl _) (.cells #[.int .u8 (x.toNat : Int)] 5)))
      have hBr : B ≤ wr.heap.size := Nat.le_trans hW.low (Nat.le_of_lt hW.blk.lt)
      have hmx8 := (may_mx HM.out).2.2.2.1
      clear hx hps hcs hW HR
      go_wp2_with (at_builtin; refine wpList_append_byte rfl _ _ rfl B _ cs rfl HW1.out.own wr.heap.size 1 rfl x (x.toNat : Int) rfl ?e1 ?e2 ?e3 ?_)
      case e1 => exact (Blk.made wr _ _).cell 0
      case e2 => omega
      case e3 => simp; omega
      intro hv2 w2 HO HG HX
      obtain ⟨ha2, hc2, hvf, -⟩ := own_formB HO.out
      subst hvf
      have hBz : Blk w2 z (cuL mn me mx (endV bh bn br b4 b5) (.slice ha cs.length hc) false) 76 := Blk.grown HW1.out.blk HG.out (fun e => (HW1.out.aph z e.symm).1 rfl)
      have d3 : w2.cell? ⟨z, 3, none⟩ = some (endV bh bn br b4 b5) := hBz.cell 3
      have d4 : w2.cell? ⟨z, 4, none⟩ = some (.slice ha cs.length hc) := hBz.cell 4
      have f4 := hBz.frozen 4
      have HW3 := hide (HW1.out.held HO.out HG.out (by rw [World.size_alloc]; exact HX.out) rfl)
      have HEn := hide (ends_any _ B bh bn br b4 b5 mn me mx _ _ HW3.out.es (rollL_lt _) hlt0 hmx8 x)
      rw [roll_snoc] at HEn
      obtain ⟨t, ht⟩ : ∃ t, t = endB mn me mx (rollL (cs ++ [x])) (cs.length + 1) := ⟨_, rfl⟩
      rw [← ht] at HEn HFt
      have hl1 : (cs ++ [x]).length = cs.length + 1 := by simp
      rw [hl1] at HW3 HEn ⊢
      have HT1 := hide ht
      unfold ptr at HEn
      obtain ⟨w3, hw3⟩ : ∃ w3, w3 = w2.setCell ⟨z, 4, none⟩ (.slice ha2 (cs.length + 1) hc2) := ⟨_, rfl⟩
      have hw3' := hw3.symm
      rw [← hw3] at HW3 HEn
      have d3' : w3.cell? ⟨z, 3, none⟩ = some (endV bh bn br b4 b5) := HW3.out.blk.cell 3
      unfold endV ptr at d3'
      clear HO HG HX HW1 hBz ht c4 hw3 d3
      cases t with
      | false =>
        rw [if_neg (by simp)] at HFt
        go_wp2_with fail
        refine HEn.out.mono ?_
        rintro e w4 ⟨rfl, hE4, hT4⟩
        have HW4 := hide (HW3.out.turn hT4 hE4)
        clear hE4 hT4 HEn HW3
        go_wp2
        refine ⟨⟨_, k + 1, vals, .slice ha2 (cs.length + 1) hc2, bh, bn, br, b4, b5, rfl, by go_num, by omega, ?_, ?_⟩, by simp [intOf]; omega⟩
        · rw [HFt.out]
          have := HW4.out
          simp only [hl1]
          exact this
        · rw [HFt.out]
          simp only [hl1]
          exact endB_false HT1.out.symm
      | true =>
        rw [if_pos rfl] at HFt
        go_wp2_with fail
        refine HEn.out.mono ?_
        rintro e w4 ⟨rfl, hE4, hT4⟩
        have HW4 := hide (HW3.out.turn hT4 hE4)
        clear hE4 hT4 HEn HW3
        have HGv := hide (give_any w4 z _ _ ha2 (cs.length + 1) hc2 HW4.out.blk rfl)
        unfold ptr at HGv
        go_wp2_with fail
        refine HGv.out.mono ?_
        rintro e w5 ⟨rfl, hw5⟩
        obtain ⟨hW5, hO5, hN5⟩ := HW4.out.give hw5
        have HW5 := hide hW5
        have HO5 := hide hO5
        have HN5 := hide hN5
        have hz0 := hW5.ch.size
        have hsz5 : w'.heap.size ≤ w5.heap.size := hW5.ch.size
        have hb6 := (Below.refl w5.heap.size w5).alloc (Nat.le_refl _) (.cells #[.slice ha2 (cs.length + 1) hc2] 24)
        have HW6 := hide (hW5.below hb6)
        have HO6 := hide (owns_below hO5 hb6)
        clear hW5 hO5 hN5 hw5 HGv HW4 hb6 hz0
        go_wp2_with (at_builtin; refine wpList_append_sl rfl _ _ rfl w'.heap.size _ ps.length vals rfl HW6.out.row w5.heap.size 1 rfl ha2 (cs.length + 1) hc2 ?g1 ?g2 ?g3 ?_)
        case g1 => exact (Blk.made w5 _ _).cell 0
        case g2 => omega
        case g3 => simp; omega
        intro vw' w7 HR7 HG7 HX7
        have HW7 := hide (HW6.out.push HO6.out HN5.out (by rw [List.length_append, List.length_singleton]; exact HR7.out) HG7.out (by rw [World.size_alloc]; exact HX7.out))
        clear HR7 HG7 HX7 HW6 HO6 HW5 HO5 HN5
        have b0 : w7.cell? ⟨z, 0, none⟩ = some (.int .i64 mn) := HW7.out.blk.cell 0
        have b1 : w7.cell? ⟨z, 1, none⟩ = some (.int .i64 me) := HW7.out.blk.cell 1
        have b2 : w7.cell? ⟨z, 2, none⟩ = some (.int .i64 mx) := HW7.out.blk.cell 2
        have HEd := hide (ender_any mn me mx w7 (HT.out.ch HW7.out.ch HN1.out) HM.out)
        unfold cutV at HEd
        go_wp2_with fail
        refine HEd.out.mono ?_
        rintro e w8 ⟨bh', bn', br', b4', b5', rfl, hE8, hb8⟩
        have g3 : w8.cell? ⟨z, 3, none⟩ = some (endV bh bn br b4 b5) := (HW7.out.below hb8).blk.cell 3
        have g4 := (HW7.out.below hb8).blk.frozen 3
        have HW9 := hide (HW7.out.renew hb8 hE8 rfl)
        clear hE8 hb8 b0 b1 b2 HEd HW7
        unfold endV ptr at g3 HW9
        unfold endV ptr
        go_wp2
        refine ⟨⟨_, k + 1, vals ++ [.slice ha2 (cs.length + 1) hc2], .slice none 0 0, bh', bn', br', b4', b5', rfl, by go_num, by omega, ?_, ?_⟩, by simp [intOf]; omega⟩
        · rw [HFt.out]
          exact HW9.out
        · rw [HFt.out]
          have := may_mx HM.out
          simp; omega
    · have hki : ¬ (k : Int) < xs.length := by omega
      have hkl : k = xs.length := by omega
      have htk : xs.take k = xs := List.take_of_length_le (by omega)
      rw [htk] at hW hlt0
      have HW := hide hW
      have HL := hide hlt0
      clear hW hlt0 htk hkl
      go_wp2
      go_ret2
      exact ⟨_, _, _, _, _, _, _, _, rfl, HW.out, HL.out⟩
end Go.Proofs.YtamajnaeladehaaDoor
