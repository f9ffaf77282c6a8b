/- A table's array in memory: way, find. -/
import Derived.Test.YtjhbebaephmcgaaVXA
import Derived.Test.YtjhbebaephmcgaaXQ
import Derived.Stop.BytesEq
import Derived.Laws.Cover3
import Derived.Laws.Cover2
namespace Go.Proofs.Ytjhbebaephmcgaa
set_option linter.unusedVariables false
set_option linter.unusedSimpArgs false
namespace TX
set_option maxRecDepth 100000
open Go.RowKit Go.Sort

theorem guardK : Try.prog.eqGuardType Try.prog.depth KT = false := by kernel_rfl
theorem szU8 (w : World) : (sizeOf 5).run Try.prog w = .ok 1 w := by kernel_rfl
theorem underK : Try.prog.underlying KT = some (.struct (Try.prog.fieldsOf KT)) := by kernel_rfl
theorem stoodK : Try.prog.stoodInHeld KT = false := by kernel_rfl
theorem partK0 (k : KY) (w : World) : (part 25 (kA k) 0).run Try.prog w = .ok (.int .i8 k.a) w := by kernel_rfl
theorem partK1 (k : KY) (w : World) : (part 26 (kA k) 1).run Try.prog w = .ok (.agg ([k.b0, k.b1].map u8c).toArray) w := by kernel_rfl
theorem partK2 (k : KY) (w : World) : (part 9 (kA k) 3).run Try.prog w = .ok (.string ⟨k.c.toArray⟩) w := by kernel_rfl
theorem equalB2 (a b c d : UInt8) (w : World) : (Op.equalIn 9999 26 (.agg ([a, b].map u8c).toArray) (.agg ([c, d].map u8c).toArray)).run Try.prog w = .ok ([a, b] == [c, d]) w :=
  run_equalIn_bytes (P := Try.prog) w 9997 26 5 2 Try.underlying26 Try.underlying5 szU8 [a, b] [c, d] rfl rfl
theorem strBeqK (a b : List UInt8) : ((⟨a.toArray⟩ : ByteArray).toList == (⟨b.toArray⟩ : ByteArray).toList) = (a == b) := by
  rw [ByteArray.toList_eq, ByteArray.toList_eq]
theorem equalKK (p q : KY) (w : World) : (Op.equalIn 10000 KT (kV p) (kV q)).run Try.prog w = .ok (eqK p q) w := by
  obtain ⟨r, hr⟩ : ∃ r, r = ([p.b0, p.b1] == [q.b0, q.b1]) := ⟨_, rfl⟩
  obtain ⟨r3, hr3⟩ : ∃ r3, r3 = (p.c == q.c) := ⟨_, rfl⟩
  have he : eqK p q = (p.a == q.a && (r && r3)) := by unfold eqK; rw [← hr, ← hr3]
  rw [he, run_equalIn_agg w 9999 _ _ _ underK stoodK]
  simp only [Program.fieldsOf, Try.underlying28]
  have e0 := fun p W => partK0 p W
  have e1 : ∀ (k : KY) (W : World), (part 26 (kA k) 1).run Try.prog W = .ok (.agg #[u8c k.b0, u8c k.b1]) W := fun p W => partK1 p W
  have e2 := fun p W => partK2 p W
  have q0 := fun W (n m : Int) => run_equalIn_int (P := Try.prog) W 9998 25 .i8 .i8 n m Try.underlying25
  have q1 : ∀ W, (Op.equalIn 9999 26 (.agg #[u8c p.b0, u8c p.b1]) (.agg #[u8c q.b0, u8c q.b1])).run Try.prog W = .ok r W := fun W => by rw [hr]; exact equalB2 p.b0 p.b1 q.b0 q.b1 W
  have q2 : ∀ W, (Op.equalIn 9999 9 (.string ⟨p.c.toArray⟩) (.string ⟨q.c.toArray⟩)).run Try.prog W = .ok r3 W := fun W => by rw [run_equalIn_string (P := Try.prog) W 9998 9 _ _ Try.underlying9, strBeqK, hr3]
  clear hr he hr3
  by_cases h : p.a = q.a
  · have hb : (p.a == q.a) = true := by simpa using h
    cases r with
    | true =>
      cases r3 <;> simp [Op.eqFields, Sem.run_bind, e0, e1, e2, q0, q1, q2, Result.andThen, hb]
    | false =>
      simp [Op.eqFields, Sem.run_bind, e0, e1, e2, q0, q1, q2, Result.andThen, hb]
  · have hb : (p.a == q.a) = false := by simpa using h
    simp [Op.eqFields, Sem.run_bind, e0, e1, e2, q0, q1, q2, Result.andThen, hb]
theorem run_eqlK {op : Oper} {ev : Operand → Value} {x y : Operand} {u : TypeId} {a b : KY} (ho : op.op = .binOp .eql KT x y u) (hx : ev x = kV a) (hy : ev y = kV b) (w : World) : (execOp ev op).run Try.prog w = .ok (.value (.bool (eqK a b))) w := by
  simp only [execOp, ho, hx, hy, Sem.run_bind, run_eqGuard_agg (P := Try.prog) w .eql KT x y _ _ guardK, Result.andThen_ok, run_eql_struct, equalKK a b, Sem.run_pure]
theorem run_loadO {op : Oper} {ev : Operand → Value} {t : TypeId} {x : Operand} {p v : Value} {w : World} (ho : op.op = .load t x) (hx : ev x = p) (hl : (Instr.loadAt t p).run Try.prog w = .ok v w) : (execOp ev op).run Try.prog w = .ok (.value v) w := by
  simp only [execOp, ho, hx, Sem.run_bind, hl, Result.andThen_ok, Sem.run_pure]
/-- A box with a key, with an entry. -/
def KB (w : World) (b : Nat) (k : KY) : Prop := Blk w b (kA k) KT
def EB (w : World) (b : Nat) (e : EN) : Prop := Blk w b (eA e) ET
theorem KB.rng {w : World} {b : Nat} {k : KY} (h : KB w b k) : w.rangeAt b 0 (kC k) := Blk.range h
theorem EB.rng {w : World} {b : Nat} {e : EN} (h : EB w b e) : w.rangeAt b 0 (eC e) := Blk.range h
theorem KB.made (w : World) (k : KY) : KB (w.alloc (.cells (kA k) KT)) w.heap.size k := Blk.made w _ _
theorem EB.made (w : World) (e : EN) : EB (w.alloc (.cells (eA e) ET)) w.heap.size e := Blk.made w _ _
theorem wrap_is (x : Int) : wrap64 x = IntKind.i64.wrap x := by
  unfold wrap64
  simp [IntKind.wrap, IntKind.bits, IntKind.signed]
  split <;> omega
theorem way_num (h i n a : Nat) (ha : a ≤ 43) (hn : n = 2 ^ a) : IntKind.i64.wrap ((IntKind.u64.wrap ((h : Int) + (i : Int))).tmod (n : Int)) = (((h + i) % n : Nat) : Int) := by
  have hn2 : n ≤ 8796093022208 := by rw [hn]; exact Nat.pow_le_pow_right (by decide) ha
  have e1 : IntKind.u64.wrap ((h : Int) + (i : Int)) = (((h + i) % 18446744073709551616 : Nat) : Int) := by
    simp [IntKind.wrap, IntKind.bits, IntKind.signed]
  have hd : n ∣ 18446744073709551616 := by
    rw [hn, show (18446744073709551616 : Nat) = 2 ^ 64 from rfl]
    exact Nat.pow_dvd_pow 2 (by omega)
  have hn0 : 0 < n := by rw [hn]; exact Nat.pow_pos (by decide)
  have hm : (h + i) % n < n := Nat.mod_lt _ hn0
  rw [e1, ← Int.ofNat_tmod, Nat.mod_mod_of_dvd _ hd]
  exact wrapi64_nat _ (by omega)
theorem way_any (w : World) (z o n : Nat) (ga : Option Addr) (h i : Nat) (c0 : w.cell? ⟨z, o, none⟩ = some (.slice ga n n)) (a : Nat) (ha : a ≤ 43) (hn : n = 2 ^ a) (hh : h < 18446744073709551616) (hi : i < n) :
    Calls Try.prog 24 #[.pointer (some ⟨z, o, none⟩), .int .u64 (h : Int), .int .i64 (i : Int)] w fun e w' => e = .returned (.int .i64 (((h + i) % n : Nat) : Int)) ∧ w' = w := by
  have hn2 : n ≤ 8796093022208 := by rw [hn]; exact Nat.pow_le_pow_right (by decide) ha
  have HN := hide hn
  have hn0 : 0 < n := by omega
  have hi2 : i ≤ 8796093022208 := by omega
  clear hn
  go_enter Try.func24, Try.ntmps24
  go_wp2
  have e : IntKind.i64.wrap ((IntKind.u64.wrap ((h : Int) + (i : Int))).tmod (n : Int)) = (((h + i) % n : Nat) : Int) := way_num h i n a ha HN.out
  have e' : wrap64 ((IntKind.u64.wrap ((h : Int) + (i : Int))).tmod (n : Int)) = (((h + i) % n : Nat) : Int) := (wrap_is _).trans e
  rw [e']
  go_ret
  exact ⟨rfl, rfl⟩
theorem name_world {P : Program} {c : Code} {Q : Exit → Act → World → Prop} {a : Act} {w : World} (R : World → Prop) (h : R w) (k : ∀ W, R W → c.wp P Q a W) : c.wp P Q a w := k w h
theorem below_alloc (w : World) (o : Obj) : Below w.heap.size w (w.alloc o) := (Below.refl _ _).alloc (Nat.le_refl _) o
theorem below_dN {B : Nat} {w W : World} (h : Below B w W) (n : Nat) : Below B w (W.drewN n) := ⟨h.os, h.tape, h.output, h.size, h.block⟩
theorem cell_of_block {w w' : World} {k o : Nat} (h : w'.heap[k]? = w.heap[k]?) : w'.cell? ⟨k, o, none⟩ = w.cell? ⟨k, o, none⟩ := by
  unfold World.cell?
  simp only
  rw [h]
theorem cell_below {w w' : World} {k o : Nat} {v : Value} (h : Below w.heap.size w w') (hc : w.cell? ⟨k, o, none⟩ = some v) : w'.cell? ⟨k, o, none⟩ = some v := by
  rw [cell_of_block (h.block k (World.block_lt_of_cell? w _ hc)), hc]
theorem RowAt.below {w w' : World} {g : Nat} {L : List SL} (h : RowAt w g L) (hb : Below w.heap.size w w') : RowAt w' g L := h.same (hb.block g h.lt)
theorem range_drewN {w : World} {b o : Nat} {cs : List Value} (h : w.rangeAt b o cs) (n : Nat) : (w.drewN n).rangeAt b o cs := h
theorem eval_t (a : Act) (t : Tmp) : a.eval (.tmp t) = a.tmps.getD t undef := rfl
def fndV (r : Option Nat × Nat) : Value := .tuple #[.int .i64 ((r.1.getD 0 : Nat) : Int), .int .i64 (r.2 : Int), .bool r.1.isSome]
theorem find_any (w : World) (z o n g : Nat) (L : List SL) (h : Nat) (k : KY) (c0 : w.cell? ⟨z, o, none⟩ = some (.slice (some ⟨g, 0, none⟩) n n)) (hL : L.length = n) (hr : RowAt w g L) (a : Nat) (ha : a ≤ 43) (hn : n = 2 ^ a) (hh : h < 18446744073709551616) :
    Calls Try.prog 20 #[.pointer (some ⟨z, o, none⟩), .int .u64 (h : Int), kV k] w fun e w' => e = .returned (fndV (find eqK L h k)) ∧ Below w.heap.size w w' := by
  have hn2 : n ≤ 8796093022208 := by rw [hn]; exact Nat.pow_le_pow_right (by decide) ha
  have hz := World.block_lt_of_cell? w _ c0
  have HC0 := hide c0
  have HR := hide hr
  have HL := hide hL
  have HHN := hide hn
  have HHH := hide hh
  have HHA := hide ha
  clear hn ha hr hL hh c0
  go_enter Try.func20, Try.ntmps20
  go_upto_region 1 with fail
  refine name_world (fun W => Below w.heap.size w W ∧ KB W w.heap.size k) ⟨below_alloc w _, KB.made w k⟩ ?_
  rintro W ⟨hB, hK⟩
  have c0 : W.cell? ⟨z, o, none⟩ = some (.slice (some ⟨g, 0, none⟩) n n) := cell_below hB HC0.out
  have hzW := World.block_lt_of_cell? W _ c0
  have HC0W := hide c0
  have HRW := hide (HR.out.below hB)
  have HB := hide hB
  obtain ⟨kb, hkb⟩ : ∃ kb, kb = w.heap.size := ⟨_, rfl⟩
  rw [← hkb] at hK ⊢
  have HK := hide hK
  have HHZ := hide hz
  clear hB hK HR HC0 hz hkb
  go_wp2
  go_loopw [15] (fun t wr => ∃ (j : Nat) (q : Nat), t = .int .i64 j ∧ j ≤ n ∧ wr = W.drewN q ∧ Hid (find eqK L h k = fnd eqK L h k (n - j) j)) (fun t _ => n - (intOf t).toNat)
  case atStart => exact ⟨0, 0, rfl, Nat.zero_le _, rfl, hide (by unfold find; rw [HL.out]; rfl)⟩
  case round =>
    obtain ⟨j, q, rfl, hj, rfl, hq⟩ := hrel
    by_cases hlt : j < n
    · have hji : (j : Int) < (n : Int) := by omega
      have hpl : (h + j) % n < n := Nat.mod_lt _ (by omega)
      have HWq := hide (way_any (W.drewN q) z o n (some ⟨g, 0, none⟩) h j HC0W.out a HHA.out HHN.out HHH.out hlt)
      have HQ : Hid (find eqK L h k = fnd eqK L h k (n - (j + 1) + 1) j) := hide (by rw [hq.out, show n - j = (n - (j + 1)) + 1 by omega])
      obtain ⟨p, hp⟩ : ∃ p, p = (h + j) % n := ⟨_, rfl⟩
      have HP : Hid ((h + j) % L.length = p) := hide (by rw [HL.out, hp])
      rw [← hp] at hpl HWq
      have hpL : p < L.length := by rw [HL.out]; exact hpl
      have d0 := HRW.out.st p hpL
      have d1 := HRW.out.key p hpL
      have hpi : (p : Int) < (n : Int) := by omega
      clear hq hp hpL
      cases hs : sat L p with
      | emp =>
        rw [hs] at d0 d1
        have HF : Hid (find eqK L h k = (none, j + 1)) := hide (by rw [HQ.out]; exact fnd_emp (by rw [HP.out]; exact hs))
        have e0 : (((Slt.emp : SL).st : Nat) : Int) = 0 := rfl
        rw [e0] at d0
        clear hs HQ e0 d1
        go_wp2_with (go_at_call 24; refine HWq.out.mono ?_; rintro e w' ⟨rfl, hw⟩; rw [hw]; clear hw)
        go_ret3
        exact ⟨by rw [HF.out]; rfl, below_dN HB.out _⟩
      | tmb =>
        rw [hs] at d0 d1
        have HF : Hid (find eqK L h k = fnd eqK L h k (n - (j + 1)) (j + 1)) := hide (by rw [HQ.out]; exact fnd_tmb (by rw [HP.out]; exact hs))
        have e0 : (((Slt.tmb : SL).st : Nat) : Int) = 2 := rfl
        rw [e0] at d0
        clear hs HQ e0 d1
        go_wp2_with (go_at_call 24; refine HWq.out.mono ?_; rintro e w' ⟨rfl, hw⟩; rw [hw]; clear hw)
        go_roundw
        case rel => exact ⟨j + 1, q, by go_num, by omega, rfl, HF⟩
        case measure => simp [intOf]; omega
      | ful k' v' =>
        rw [hs] at d0 d1
        have e0 : (((Slt.ful k' v' : SL).st : Nat) : Int) = 1 := rfl
        rw [e0] at d0
        have D1 : Hid (W.rangeAt g (p * 6 + 1) (kC k')) := hide d1
        have D2 : Hid (W.rangeAt kb 0 (kC k)) := hide HK.out.rng
        cases he : eqK k' k with
        | true =>
          have HF : Hid (find eqK L h k = (some p, j + 1)) := hide (by rw [HQ.out, fnd_yes (by rw [HP.out]; exact hs) he, HP.out])
          have HE := hide he
          clear hs HQ e0 he d1
          go_upto_region 9 with (go_at_call 24; refine HWq.out.mono ?_; rintro e w' ⟨rfl, hw⟩; rw [hw]; clear hw)
          refine wp_region_quiet_lit (by kernel_rfl) (by kernel_rfl) ?_
          quiet_step (fail)
          quiet_step (fail)
          quiet_step (fail)
          quiet_step (fail)
          quiet_step (fail)
          quiet_step (fail)
          quiet_step (fail)
          refine wpQuiet_val (kV k') rfl (fun w0 hw => ?_) ?_
          · obtain ⟨n0, rfl⟩ := hw
            exact run_loadO rfl rfl (run_ldK (fun j v hj => D1.out j v hj))
          refine wpQuiet_val (kV k) rfl (fun w0 hw => ?_) ?_
          · obtain ⟨n0, rfl⟩ := hw
            exact run_loadO rfl rfl (run_ldK (fun j v hj => D2.out j v hj))
          refine wpQuiet_val (.bool (eqK k' k)) rfl (fun w0 _ => run_eqlK rfl rfl rfl _) ?_
          rw [HE.out]
          refine wpQuiet_nil ?_
          rintro w9 ⟨nq, rfl⟩
          go_wp2
          go_ret3
          exact ⟨by rw [HF.out]; rfl, below_dN HB.out _⟩
        | false =>
          have HF : Hid (find eqK L h k = fnd eqK L h k (n - (j + 1)) (j + 1)) := hide (by rw [HQ.out]; exact fnd_no (by rw [HP.out]; exact hs) he)
          have HE := hide he
          clear hs HQ e0 he d1
          go_upto_region 9 with (go_at_call 24; refine HWq.out.mono ?_; rintro e w' ⟨rfl, hw⟩; rw [hw]; clear hw)
          refine wp_region_quiet_lit (by kernel_rfl) (by kernel_rfl) ?_
          quiet_step (fail)
          quiet_step (fail)
          quiet_step (fail)
          quiet_step (fail)
          quiet_step (fail)
          quiet_step (fail)
          quiet_step (fail)
          refine wpQuiet_val (kV k') rfl (fun w0 hw => ?_) ?_
          · obtain ⟨n0, rfl⟩ := hw
            exact run_loadO rfl rfl (run_ldK (fun j v hj => D1.out j v hj))
          refine wpQuiet_val (kV k) rfl (fun w0 hw => ?_) ?_
          · obtain ⟨n0, rfl⟩ := hw
            exact run_loadO rfl rfl (run_ldK (fun j v hj => D2.out j v hj))
          refine wpQuiet_val (.bool (eqK k' k)) rfl (fun w0 _ => run_eqlK rfl rfl rfl _) ?_
          rw [HE.out]
          refine wpQuiet_nil ?_
          rintro w9 ⟨nq, rfl⟩
          go_wp2
          go_roundw
          case rel => exact ⟨j + 1, _, by go_num, by omega, rfl, HF⟩
          case measure => simp [intOf]; omega
    · have hji : ¬ (j : Int) < (n : Int) := by omega
      have HF : Hid (find eqK L h k = (none, n)) := hide (by rw [hq.out, show j = n by omega, Nat.sub_self]; rfl)
      go_upto_region 12 with fail
      go_quiet (fail)
      go_wp2
      go_ret3
      exact ⟨by rw [HF.out]; rfl, below_dN HB.out _⟩
end TX
end Go.Proofs.Ytjhbebaephmcgaa
