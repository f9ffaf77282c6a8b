/- PinsWalk: a row of pinned keys; the same pins with one session closed. -/
import Derived.Test.YtagnglkkmdeicaaPN6
namespace Go.Proofs.Ytagnglkkmdeicaa
set_option linter.unusedVariables false
set_option linter.unusedSimpArgs false
open Go.RowKit
set_option maxRecDepth 100000

/-- A row of pairs: a session, a key. -/
structure PRow (w : World) (ao : Option Addr) (ps : List (Int × List UInt8)) : Prop where
  at' : ∀ i (h : i < ps.length), ∃ g o, ao = some ⟨g, o, none⟩ ∧ w.cell? ⟨g, o + i * 33, none⟩ = some (.int .i64 ps[i].1) ∧ w.rangeAt g (o + i * 33 + 1) (ps[i].2.map u8c)
  len : ∀ p ∈ ps, p.2.length = 32
theorem PRow.below {w w' : World} {ao : Option Addr} {ps : List (Int × List UInt8)} (h : PRow w ao ps) (hb : Below w.heap.size w w') : PRow w' ao ps :=
  ⟨fun i hi => by
    obtain ⟨g, o, e, h1, h2⟩ := h.at' i hi
    exact ⟨g, o, e, by rw [hb.cell (World.block_lt_of_cell? w _ h1)]; exact h1, rangeAt_belowK h2 hb⟩, h.len⟩
/-- What stands between two pins: all are open. -/
structure Ph (w : World) (zp : Nat) (ao : Option Addr) (ps : List (Int × List UInt8)) (f : Keys) (W : World) : Prop where
  pins : ∃ os, PinsAt W zp os ∧ Opn os w.heap.size f
  row : PRow W ao ps
  lo : w.heap.size ≤ zp
  bel : Below w.heap.size w W
theorem Ph.below {w W W' : World} {zp : Nat} {ao : Option Addr} {ps : List (Int × List UInt8)} {f : Keys} (h : Ph w zp ao ps f W) (hb : Below W.heap.size W W') : Ph w zp ao ps f W' := by
  obtain ⟨os, h1, h2⟩ := h.pins
  exact ⟨⟨os, h1.below hb, h2⟩, h.row.below hb, h.lo, h.bel.trans (hb.mono h.bel.size)⟩
theorem PRow.grown {w w' : World} {N z : Nat} {ao : Option Addr} {ps : List (Int × List UInt8)} (h0 : ∀ g o, ao = some ⟨g, o, none⟩ → 0 < ps.length → g < N) (h : PRow w ao ps) (hg : w.grownBy w' (some z)) (hz : N ≤ z) : PRow w' ao ps :=
  ⟨fun i hi => by
    obtain ⟨g, o, e, h1, h2⟩ := h.at' i hi
    have hgN := h0 g o e (by omega)
    have hk : ∀ j, w'.cell? ⟨g, j, none⟩ = w.cell? ⟨g, j, none⟩ := fun j => by
      unfold World.cell?
      simp only
      rw [hg.block g (World.block_lt_of_cell? w _ h1) (fun e2 => by have := Option.some.inj e2; omega)]
    exact ⟨g, o, e, by rw [hk]; exact h1, fun j v hj => by rw [hk]; exact h2 j v hj⟩, h.len⟩
theorem PRow.of_below {w w' : World} {ao : Option Addr} {ps : List (Int × List UInt8)} (h : PRow w ao ps) (hb : Below w.heap.size w w') : PRow w' ao ps := h.below hb
/-- One more is pinned. -/
theorem Ph.pin {w W : World} {zp : Nat} {ao : Option Addr} {ps : List (Int × List UInt8)} {f : Keys} (h0 : PRow w ao ps) (h : Ph w zp ao ps f W) {k : Nat} (hk : k < 16) {x : List UInt8} (hx : x.length = 32) (hl : (f k).length < maxLen) : Calls Try.prog 10 #[.pointer (some ⟨zp, 0, none⟩), .int .i64 (k : Int), keyV x] W fun e w' => e = .returned (.int .i64 0) ∧ Ph w zp ao ps (pinF f k x) w' := by
  obtain ⟨os, h1, h2⟩ := h.pins
  obtain ⟨v, g1, g2, g3⟩ := h2.at' k hk
  refine (pin_yes W zp os k v x hk hx h1 g1 (by rw [g3]; exact hl)).mono ?_
  rintro e w' ⟨he, hp, hg⟩
  have hb := h.bel.trans (below_grownBy hg (h2.lo k v g1) h.bel.size)
  exact ⟨he, ⟨_, hp, h2.pin hk g1 x⟩, h0.below hb, h.lo, hb⟩
def K1 : List UInt8 := 0 :: 1 :: List.replicate 30 0
/-- What closed answers. -/
def ClosedC (w : World) (f : Keys) (s : Nat) (e : Ending) (w' : World) : Prop := ∃ zp os, e = .returned (.pointer (some ⟨zp, 0, none⟩)) ∧ PinsAt w' zp os ∧ Below w.heap.size w w' ∧ sel os s = none ∧ ∀ t : Nat, t < 16 → t ≠ s → keysO (sel os t) = f t
theorem wpList_K1 {ops : Array Oper} {rest : List Oper} {op : Oper} {a : Act} {w : World} {Q : Exit → Act → World → Prop} (ho : op.op = .build 30 #[(1, .const (.int .u8 1))]) (hg : Region.wanted op (yielded ops a.tmps) = true)
    (h : wpList Try.prog ops Q rest (a.put op.dst (keyV K1)) w) : wpList Try.prog ops Q (op :: rest) a w :=
  wpList_val _ hg (by simp only [execOp, ho]; kernel_rfl) h
def zK : List UInt8 := List.replicate 32 0
theorem zK_len : zK.length = 32 := rfl
theorem wpList_K0 {ops : Array Oper} {rest : List Oper} {op : Oper} {a : Act} {w : World} {Q : Exit → Act → World → Prop} (ho : op.op = .build 30 #[]) (hg : Region.wanted op (yielded ops a.tmps) = true)
    (h : wpList Try.prog ops Q rest (a.put op.dst (keyV zK)) w) : wpList Try.prog ops Q (op :: rest) a w :=
  wpList_val _ hg (by simp only [execOp, ho]; kernel_rfl) h
theorem opened_step {w W : World} {zp j : Nat} {os : List (Option SesV)} (hj : j < 16) (h1 : PinsAt W zp os) (h2 : OpnTo os w.heap.size j) (h3 : Below w.heap.size w W) (hlo : w.heap.size ≤ zp) : Calls Try.prog 9 #[.pointer (some ⟨zp, 0, none⟩), .int .i64 (j : Int)] W fun e w' => e = .returned (.int .i64 0) ∧ ∃ os', PinsAt w' zp os' ∧ OpnTo os' w.heap.size (j + 1) ∧ Below w.heap.size w w' := by
  refine (open_yes W zp os j hj h1 (h2.no j (Nat.le_refl _) hj)).mono ?_
  rintro e w' ⟨he, v, b1, b2, b3, b4, b5, b6, b7⟩
  exact ⟨he, _, b6, h2.next h1.len hj v b1 b2 (Nat.le_trans h3.size b5), h3.trans (below_grownBy b7 hlo h3.size)⟩
theorem gath_few (ps : List (Int × List UInt8)) (i t : Nat) : (gath (ps.take i) t).length ≤ ps.length := by
  have h1 := len_gath t (ps.take i)
  have h2 := numS_le t (ps.take i)
  rw [List.length_take] at h2
  omega
set_option maxHeartbeats 2000000 in
theorem closed_any (w : World) (ao : Option Addr) (n c s : Nat) (ps : List (Int × List UInt8)) (hn : n = ps.length) (hs : s < 16) (hr : PRow w ao ps) (hl : n ≤ 3518437208883) : Calls Try.prog 15 #[.slice ao n c, .int .i64 (s : Int)] w (ClosedC w (pinF (gath ps) s K1) s) := by
  have HR := hide hr
  have HN := hide hn
  have HS := hide hs
  have HM := hide (new_any w)
  clear hr hn hs
  go_enter Try.func15, Try.ntmps15
  go_wp2_with (go_at_call 5; (with_reducible refine HM.out.mono ?_); rintro e w1 ⟨zp, rfl, hlo, hP, hB⟩; have HLO := hide hlo; have HP := hide hP; have HB := hide hB; clear hlo hP hB)
  clear HM
  go_loopw [6] (fun t wr => ∃ j : Nat, t = .int .i64 j ∧ j ≤ 16 ∧ ∃ os, PinsAt wr zp os ∧ OpnTo os w.heap.size j ∧ Below w.heap.size w wr) (fun t _ => 16 - (intOf t).toNat)
  case atStart => exact ⟨0, rfl, by omega, _, HP.out, OpnTo.begin _, HB.out⟩
  case round =>
    clear HP HB
    obtain ⟨j, rfl, hj, os, hP, hO, hB⟩ := hrel
    by_cases hlt : j < 16
    · have hji : (j : Int) < 16 := by omega
      have HC := hide (opened_step hlt hP hO hB HLO.out)
      clear hP hO hB
      go_wp2_with (go_at_call 9; (with_reducible refine HC.out.mono ?_); rintro e w2 ⟨rfl, os', hP', hO', hB'⟩)
      exact ⟨⟨j + 1, by go_num, by omega, os', hP', hO', hB'⟩, by simp [intOf]; omega⟩
    · have hji : ¬ (j : Int) < 16 := by omega
      have HPh : Hid (Ph w zp ao ps (gath (ps.take 0)) wr) := hide ⟨⟨os, hP, by have e : j = 16 := by omega
                                                                                rw [e] at hO; exact hO.all⟩, HR.out.below hB, HLO.out, hB⟩
      obtain ⟨w3, hw3⟩ : ∃ w3, w3 = wr := ⟨_, rfl⟩
      rw [← hw3] at HPh ⊢
      clear hP hO hB hw3
      go_wp2
      go_loopw [7] (fun t wr => ∃ i : Nat, t = .int .i64 i ∧ i ≤ n ∧ Ph w zp ao ps (gath (ps.take i)) wr) (fun t _ => n - (intOf t).toNat)
      case atStart => exact ⟨0, rfl, by omega, HPh.out⟩
      case round =>
        clear HPh
        obtain ⟨i, rfl, hi, hPh⟩ := hrel
        by_cases hin : i < n
        · have hii : (i : Int) < n := by omega
          have hik : i < ps.length := by rw [← HN.out]; exact hin
          have hd := below_d wr
          have hPd := hPh.below hd
          obtain ⟨g, o, rfl, hc, hra⟩ := hPd.row.at' i hik
          obtain ⟨q, hq⟩ : ∃ q, q = ps[i].1 := ⟨_, rfl⟩
          obtain ⟨x, hx⟩ : ∃ x, x = ps[i].2 := ⟨_, rfl⟩
          have hx32 : x.length = 32 := by rw [hx]; exact HR.out.len _ (List.getElem_mem _)
          have HSU := hide (gath_succ ps i hik)
          rw [← hq] at hc HSU
          rw [← hx] at hra HSU
          have ha := and15 q
          obtain ⟨k, hk⟩ : ∃ k, k = m15 q := ⟨_, rfl⟩
          have hk16 : k < 16 := by rw [hk]; exact m15_lt q
          rw [← hk] at ha HSU
          have HC := hide (hPd.pin HR.out hk16 hx32 (show (gath (ps.take i) k).length < maxLen by have := gath_few ps i k; have := HN.out; unfold maxLen; omega))
          rw [← HSU.out] at HC
          have HRA : Hid ((Instr.loadAt 30 (.pointer (some ⟨g, o + i * 33 + 1, none⟩))).run Try.prog wr.drew = .ok (keyV x) wr.drew) := hide (loadAt_key hx32 hra)
          clear hPh hPd hd hra hx hq hk hik HSU hx32 hk16
          go_upto_region 9 with fail
          refine wp_region_still_tail 12 (by kernel_rfl) (by kernel_rfl) ?_
          simp only [List.take_succ_cons, List.take_zero, List.drop_succ_cons, List.drop_zero]
          still_step
          still_step
          still_step
          still_step
          still_step
          still_step
          still_step
          still_step
          still_step
          still_step
          still_step
          refine wpStill_val (keyV x) rfl (run_load rfl rfl HRA.out) ?_
          refine wpStill_nil ?_
          go_wp2_with (go_at_call 10; (with_reducible refine HC.out.mono ?_); rintro e w4 ⟨rfl, hPh4⟩)
          exact ⟨⟨i + 1, by go_num, by omega, hPh4⟩, by simp [intOf]; omega⟩
        · have hii : ¬ (i : Int) < n := by omega
          have hPh2 : Ph w zp ao ps (gath ps) wr := by rw [List.take_of_length_le (by rw [← HN.out]; omega)] at hPh; exact hPh
          have hf := gath_few ps ps.length s
          rw [List.take_length] at hf
          have HC := hide (hPh2.pin HR.out HS.out (x := K1) (by rfl) (show (gath ps s).length < maxLen by have := HN.out; unfold maxLen; omega))
          clear hPh hPh2 hf
          go_upto_region 11 with (first | ((with_reducible refine wpList_K1 ?_ ?_ ?_); rfl; rfl) | (go_at_call 10; (with_reducible refine HC.out.mono ?_); rintro e w4 ⟨rfl, hPh4⟩))
          obtain ⟨os2, hP2, hO2⟩ := hPh4.pins
          obtain ⟨v, g1, g2, g3⟩ := hO2.at' s HS.out
          have HD := hide (close_yes w4 zp os2 s v HS.out hP2 g1 g2)
          have HB4 := hide hPh4.bel
          have HO2 := hide hO2
          have HL2 : Hid (os2.length = 16) := hide hP2.len
          clear hPh4 hP2 hO2 g1 g2 g3 HC
          go_wp2_with (go_at_call 17; (with_reducible refine HD.out.mono ?_); rintro e w5 ⟨rfl, hP5, hg5⟩)
          go_ret
          refine ⟨zp, _, rfl, hP5, HB4.out.trans (below_grownBy hg5 HLO.out HB4.out.size), sel_in HS.out (List.getElem?_set_self (by rw [HL2.out]; exact HS.out)), fun t ht hne => ?_⟩
          obtain ⟨u, e1, _, e3⟩ := HO2.out.at' t ht
          rw [sel_in ht (o := some u) (by rw [List.getElem?_set_ne (fun e => hne e.symm)]; exact e1)]
          exact e3
end Go.Proofs.Ytagnglkkmdeicaa
