/- again. -/
import Derived.Test.YtinjcefekbpabaaK0
namespace Go.Proofs.Ytinjcefekbpabaa
set_option linter.unusedVariables false
set_option linter.unusedSimpArgs false
open Go.RowKit

def AgainC (w : World) (kind : Int) (N : Nat) (gB : List UInt8) (e : Ending) (w' : World) : Prop :=
  ∃ cs bv K, e = .returned (.agg cs) ∧ AddIs w' cs bv ⟨kind, N, gB, gB, K⟩ ∧ (kind = 4 → gB.length = 32 → K = gB) ∧ Below w.heap.size w w' ∧ ∀ b o l c, bv = .slice (some ⟨b, o, none⟩) l c → w.heap.size ≤ b

theorem conv_new (w : World) (s : ByteArray) (gB : List UInt8) (hl : s.size = gB.length) (hr : ∀ (W : World) (cap : Nat), gB.length ≤ cap → cap ≤ maxLen → Rd (Lib.bytesWorld W 5 s) (.slice (some ⟨W.heap.size, 0, none⟩) gB.length cap) gB) (hg : gB.length ≤ 1125899906842624) :
    ∃ (WB : World) (cap : Nat), (convert 9 28 (.string s)).run Try.prog w = .ok (.slice (some ⟨w.heap.size, 0, none⟩) gB.length cap) WB ∧ Below w.heap.size w WB ∧ WB.heap.size = w.heap.size + 1 ∧ Rd WB (.slice (some ⟨w.heap.size, 0, none⟩) gB.length cap) gB := by
  have h := Lib.run_convert_string_bytes (P := Try.prog) w 9 28 5 s Try.underlying9 Try.underlying28 Try.underlying5
  rw [hl] at h
  exact ⟨_, _, h, bytesW_below _ _ _, Lib.bytesWorld_size _ _ _, hr _ _ (grownCap_ge _ _ _ _) (grownCap_le_maxLen _ _ _ _ (by unfold maxLen; omega))⟩
def addL (kind : Int) (N : Nat) (s : ByteArray) (bv : Value) (ks : List UInt8) : List Value := .int .i64 kind :: .int .u64 N :: .string s :: bv :: ks.map u8c
def zk : List UInt8 := List.replicate 32 0
theorem addL_len (kind : Int) (N : Nat) (s : ByteArray) (bv : Value) (ks : List UInt8) (h : ks.length = 32) : (addL kind N s bv ks).toArray.size = 36 := by simp [addL, h]
theorem wpList_build_x {ops : Array Oper} {rest : List Oper} {op : Oper} {a : Act} {w : World} {Q : Exit → Act → World → Prop} (hgd : op.guard = none) (cs : Array Value) (he : (execOp a.eval op).run Try.prog w = .ok (.value (.agg cs)) w)
    (h : wpList Try.prog ops Q rest (a.put op.dst (.agg cs)) w) : wpList Try.prog ops Q (op :: rest) a w := by
  refine wpList_plain hgd fun K hK => ?_
  unfold Oper.wp
  rw [he]
  exact hK _ _ h
def zAdd : Array Value := (addL 0 0 ⟨#[]⟩ (.slice none 0 0) zk).toArray
theorem wpList_alloc_add {ops : Array Oper} {rest : List Oper} {op : Oper} {a : Act} {w : World} {Q : Exit → Act → World → Prop} (hgd : op.guard = none) (he : (execOp a.eval op).run Try.prog w = .ok (.value (.pointer (some ⟨w.heap.size, 0, none⟩))) (w.alloc (.cells zAdd 37)))
    (h : wpList Try.prog ops Q rest (a.put op.dst (.pointer (some ⟨w.heap.size, 0, none⟩))) (w.alloc (.cells zAdd 37))) : wpList Try.prog ops Q (op :: rest) a w := by
  refine wpList_plain hgd fun K hK => ?_
  unfold Oper.wp
  rw [he]
  exact hK _ _ h
theorem run_alloc_add (w : World) (ev : Operand → Value) (op : Oper) (ho : op.op = .alloc 37) : (execOp ev op).run Try.prog w = .ok (.value (.pointer (some ⟨w.heap.size, 0, none⟩))) (w.alloc (.cells zAdd 37)) := by
  simp only [execOp, ho]
  kernel_rfl
theorem run_build_add0 (w : World) (kind : Int) (N : Nat) (s : ByteArray) (bo : Option Addr) (l c : Nat) : (Instr.build 37 #[(0, .int .i64 kind), (1, .int .u64 N), (2, .string s), (3, .slice bo l c)]).run Try.prog w = .ok (.agg (addL kind N s (.slice bo l c) zk).toArray) w := by
  kernel_rfl
theorem run_build_add (w : World) (ev : Operand → Value) (op : Oper) (p0 p1 p2 p3 : Operand) (ho : op.op = .build 37 #[(0, p0), (1, p1), (2, p2), (3, p3)]) (kind : Int) (N : Nat) (s : ByteArray) (bo : Option Addr) (l c : Nat) (h0 : ev p0 = .int .i64 kind) (h1 : ev p1 = .int .u64 N) (h2 : ev p2 = .string s) (h3 : ev p3 = .slice bo l c) : (execOp ev op).run Try.prog w = .ok (.value (.agg (addL kind N s (.slice bo l c) zk).toArray)) w := by
  have e := run_build_add0 w kind N s bo l c
  simp only [execOp, ho, List.map_toArray, List.map_cons, List.map_nil, h0, h1, h2, h3, Sem.run_bind, e, Result.andThen]
  rfl
theorem addL_one (kind : Int) (N : Nat) (s : ByteArray) (bo : Option Addr) (l c : Nat) (ks : List UInt8) : (addL kind N s (.slice bo l c) ks).toArray.all (·.oneCell') = true := by
  refine all_oneCell_toArray fun v hv => ?_
  simp only [addL, List.mem_cons] at hv
  rcases hv with rfl | rfl | rfl | rfl | hv
  · rfl
  · rfl
  · rfl
  · rfl
  · exact u8c_one _ v hv
theorem loadAdd {w : World} {b : Nat} {cs : Array Value} {t : TypeId} (hk : Blk w b cs t) (hn : cs.size = 36) : (loadVar 37 ⟨b, 0, none⟩).run Try.prog w = .ok (.agg cs) w := by
  have := run_loadVar_mid (P := Try.prog) w b 0 37 cs.toList _ (fun j v hj => by rw [Nat.zero_add, hk.cell, ← hj]; simp) Try.underlying37 rfl (by rw [Array.length_toList, hn]; exact infoAdd)
  simpa using this
theorem again_fin (w w' : World) (kind : Int) (N : Nat) (hN : N ≤ 18446744073709551615) (gB : List UInt8) (s : ByteArray) (hs : s = ⟨gB.toArray⟩) (b l c : Nat) (ks : List UInt8) (hk : ks.length = 32) (hrd : RdA w' (.slice (some ⟨b, 0, none⟩) l c) gB) (hb : Below w.heap.size w w') (hle : w.heap.size ≤ b) (hkk : kind = 4 → gB.length = 32 → ks = gB) : AgainC w kind N gB (.returned (.agg (addL kind N s (.slice (some ⟨b, 0, none⟩) l c) ks).toArray)) w' := by
  refine ⟨_, .slice (some ⟨b, 0, none⟩) l c, ks, rfl, ⟨addL_len _ _ _ _ _ hk, rfl, rfl, by rw [hs]; rfl, rfl, hrd, by simp [addL], hk, hN⟩, hkk, hb, ?_⟩
  intro b' o' l' c' e
  cases e
  exact hle
def kAt (gB : List UInt8) (i : Nat) : List UInt8 := gB.take i ++ List.replicate (32 - i) 0
theorem kAt_len (gB : List UInt8) (i : Nat) (h : i ≤ 32) (hg : i ≤ gB.length) : (kAt gB i).length = 32 := by simp [kAt]; omega
theorem kAt_0 (gB : List UInt8) : kAt gB 0 = zk := by simp [kAt, zk]
theorem kAt_set (gB : List UInt8) (i : Nat) (h : i < 32) (hg : i < gB.length) : (kAt gB i).set i gB[i] = kAt gB (i + 1) := by
  have e1 : (gB.take i).length = i := by rw [List.length_take]; omega
  have e2 : List.replicate (32 - i) (0 : UInt8) = 0 :: List.replicate (32 - (i + 1)) 0 := by rw [← List.replicate_succ]; congr 1; omega
  unfold kAt
  rw [List.set_append_right i gB[i] (by omega), e1, Nat.sub_self, e2, List.set_cons_zero, List.take_succ_eq_append_getElem hg, List.append_assoc]
  rfl
theorem addL_set (kind : Int) (N : Nat) (s : ByteArray) (bv : Value) (ks : List UInt8) (i : Nat) (x : UInt8) : (addL kind N s bv ks).toArray.setIfInBounds (4 + i) (u8c x) = (addL kind N s bv (ks.set i x)).toArray := by
  rw [List.setIfInBounds_toArray, Nat.add_comm 4 i]
  simp only [addL, List.set_cons_succ, List.map_set]
theorem addL_at (kind : Int) (N : Nat) (s : ByteArray) (bv : Value) (ks : List UInt8) (i : Nat) (h : i < ks.length) : (addL kind N s bv ks).toArray[4 + i]? = some (u8c ks[i]) := by
  rw [List.getElem?_toArray, Nat.add_comm 4 i]
  simp [addL, h]
set_option maxRecDepth 20000 in
set_option maxHeartbeats 1600000 in
theorem again_any (w : World) (kind : Int) (most : Nat) (n : Int) (N : Nat) (hN : N ≤ 18446744073709551615) (gB : List UInt8) (hg : gB.length ≤ 1125899906842624) :
    Calls Try.prog 25 #[.agg #[.int .i64 kind, .int .u64 most, .int .i64 n], .agg #[.int .u64 N, .string ⟨gB.toArray⟩]] w (AgainC w kind N gB) := by
  have hl : (⟨gB.toArray⟩ : ByteArray).size = gB.length := by simp [ByteArray.size]
  have HBR := hide (fun W cap h1 h2 => bytes_rd W gB cap h1 h2)
  have HAT : Hid (∀ k (h : k < gB.length), (⟨gB.toArray⟩ : ByteArray).data[k]? = some gB[k]) := hide fun k h => by simp
  obtain ⟨s, hs⟩ : ∃ s : ByteArray, s = ⟨gB.toArray⟩ := ⟨_, rfl⟩
  rw [← hs] at hl HBR HAT ⊢
  have HS := hide hs
  clear hs
  go_enter Try.func25, Try.ntmps25
  go_wp2_with fail
  obtain ⟨WB, cap, hcv, hbel, hsz, hrd⟩ := conv_new (((w.alloc (.cells #[.int .i64 kind, .int .u64 most, .int .i64 n] 53)).alloc (.cells #[.int .u64 N, .string s] 50)).alloc (.cells (Value.int .i64 0 :: Value.int .u64 0 :: Value.string ⟨#[]⟩ :: Value.slice none 0 0 :: Value.int .u8 0 :: Value.int .u8 0 :: Value.int .u8 0 :: Value.int .u8 0 :: Value.int .u8 0 :: Value.int .u8 0 :: Value.int .u8 0 :: Value.int .u8 0 :: Value.int .u8 0 :: Value.int .u8 0 :: Value.int .u8 0 :: Value.int .u8 0 :: Value.int .u8 0 :: Value.int .u8 0 :: Value.int .u8 0 :: Value.int .u8 0 :: Value.int .u8 0 :: Value.int .u8 0 :: Value.int .u8 0 :: Value.int .u8 0 :: Value.int .u8 0 :: Value.int .u8 0 :: Value.int .u8 0 :: Value.int .u8 0 :: Value.int .u8 0 :: Value.int .u8 0 :: Value.int .u8 0 :: Value.int .u8 0 :: Value.int .u8 0 :: Value.int .u8 0 :: Value.int .u8 0 :: Value.int .u8 0 :: []).toArray 37)) s gB hl HBR.out hg
  rw [hcv]
  unfold Oper.upon
  simp only [Result.andThen]
  rename_i K1 h1 K2 h2
  refine h2 _ _ ?_
  have ht0 := Blk.below (((Blk.made w #[.int .i64 kind, .int .u64 most, .int .i64 n] 53).alloc (.cells #[.int .u64 N, .string s] 50)).alloc (.cells (Value.int .i64 0 :: Value.int .u64 0 :: Value.string ⟨#[]⟩ :: Value.slice none 0 0 :: Value.int .u8 0 :: Value.int .u8 0 :: Value.int .u8 0 :: Value.int .u8 0 :: Value.int .u8 0 :: Value.int .u8 0 :: Value.int .u8 0 :: Value.int .u8 0 :: Value.int .u8 0 :: Value.int .u8 0 :: Value.int .u8 0 :: Value.int .u8 0 :: Value.int .u8 0 :: Value.int .u8 0 :: Value.int .u8 0 :: Value.int .u8 0 :: Value.int .u8 0 :: Value.int .u8 0 :: Value.int .u8 0 :: Value.int .u8 0 :: Value.int .u8 0 :: Value.int .u8 0 :: Value.int .u8 0 :: Value.int .u8 0 :: Value.int .u8 0 :: Value.int .u8 0 :: Value.int .u8 0 :: Value.int .u8 0 :: Value.int .u8 0 :: Value.int .u8 0 :: Value.int .u8 0 :: Value.int .u8 0 :: []).toArray 37)) hbel (by simp; omega)
  have hg0 := Blk.below ((Blk.made (w.alloc (.cells #[.int .i64 kind, .int .u64 most, .int .i64 n] 53)) #[.int .u64 N, .string s] 50).alloc (.cells (Value.int .i64 0 :: Value.int .u64 0 :: Value.string ⟨#[]⟩ :: Value.slice none 0 0 :: Value.int .u8 0 :: Value.int .u8 0 :: Value.int .u8 0 :: Value.int .u8 0 :: Value.int .u8 0 :: Value.int .u8 0 :: Value.int .u8 0 :: Value.int .u8 0 :: Value.int .u8 0 :: Value.int .u8 0 :: Value.int .u8 0 :: Value.int .u8 0 :: Value.int .u8 0 :: Value.int .u8 0 :: Value.int .u8 0 :: Value.int .u8 0 :: Value.int .u8 0 :: Value.int .u8 0 :: Value.int .u8 0 :: Value.int .u8 0 :: Value.int .u8 0 :: Value.int .u8 0 :: Value.int .u8 0 :: Value.int .u8 0 :: Value.int .u8 0 :: Value.int .u8 0 :: Value.int .u8 0 :: Value.int .u8 0 :: Value.int .u8 0 :: Value.int .u8 0 :: Value.int .u8 0 :: Value.int .u8 0 :: []).toArray 37)) hbel (by simp)
  have hres := Blk.below (Blk.made ((w.alloc (.cells #[.int .i64 kind, .int .u64 most, .int .i64 n] 53)).alloc (.cells #[.int .u64 N, .string s] 50)) (Value.int .i64 0 :: Value.int .u64 0 :: Value.string ⟨#[]⟩ :: Value.slice none 0 0 :: Value.int .u8 0 :: Value.int .u8 0 :: Value.int .u8 0 :: Value.int .u8 0 :: Value.int .u8 0 :: Value.int .u8 0 :: Value.int .u8 0 :: Value.int .u8 0 :: Value.int .u8 0 :: Value.int .u8 0 :: Value.int .u8 0 :: Value.int .u8 0 :: Value.int .u8 0 :: Value.int .u8 0 :: Value.int .u8 0 :: Value.int .u8 0 :: Value.int .u8 0 :: Value.int .u8 0 :: Value.int .u8 0 :: Value.int .u8 0 :: Value.int .u8 0 :: Value.int .u8 0 :: Value.int .u8 0 :: Value.int .u8 0 :: Value.int .u8 0 :: Value.int .u8 0 :: Value.int .u8 0 :: Value.int .u8 0 :: Value.int .u8 0 :: Value.int .u8 0 :: Value.int .u8 0 :: Value.int .u8 0 :: []).toArray 37) hbel (by simp)
  have hbw : Below w.heap.size w WB := ((((Below.refl _ w).alloc (Nat.le_refl _) _).alloc (by simp) _).alloc (by simp; omega) _).trans (hbel.mono (by simp; omega))
  simp only [World.size_alloc] at hsz ht0 hg0 hres hrd ⊢
  clear hbel hcv h2 K2
  refine wpList_build_x rfl _ (run_build_add _ _ _ _ _ _ _ rfl kind N s (some ⟨w.heap.size + 1 + 1 + 1, 0, none⟩) gB.length cap (by simp [Act.eval, Act.put]) (by simp [Act.eval, Act.put]) (by simp [Act.eval, Act.put]) (by simp [Act.eval, Act.put])) ?_
  refine wpList_alloc_add rfl (run_alloc_add _ _ _ rfl) ?_
  obtain ⟨AC, hAC⟩ : ∃ AC, AC = (addL kind N s (.slice (some ⟨w.heap.size + 1 + 1 + 1, 0, none⟩) gB.length cap) zk).toArray := ⟨_, rfl⟩
  have hone : AC.all (·.oneCell') = true := by rw [hAC]; exact addL_one _ _ _ _ _ _ _
  have hacs : AC.size = 36 := by rw [hAC]; exact addL_len _ _ _ _ _ (by simp [zk])
  rw [← hAC, hsz]
  refine wpList_store_blk rfl 37 (.tmp 5) (.tmp 16) rfl (w.heap.size + 1 + 1 + 1 + 1) 36 zAdd AC 37 hacs (by kernel_rfl) (by simp [Act.eval, Act.put]) (by simp [Act.eval, Act.put]) (by have := Blk.made WB zAdd 37; rwa [hsz] at this) infoAdd hone ?_
  intro W2 hA2 hg2
  have hB2 : Below (w.heap.size + 1 + 1 + 1 + 1) WB W2 := ((Below.refl _ WB).alloc (by omega) _).trans (below_grownBy hg2 (Nat.le_refl _) (by simp; omega))
  have t0 := (ht0.below hB2 (by omega)).cell 0
  have g1 := (hg0.below hB2 (by omega)).cell 1
  have HRES := hide (hres.below hB2 (by omega))
  have HA2 := hide hA2
  have HBW := hide (hbw.trans (hB2.mono (by omega)))
  have HRD : Hid (Rd W2 (.slice (some ⟨w.heap.size + 1 + 1 + 1, 0, none⟩) gB.length cap) gB) := hide (hrd.below (hB2.mono (by omega)))
  have HAC := hide hAC
  have HS2 : Hid (w.heap.size + 1 + 1 + 1 + 1 < W2.heap.size) := hide hA2.lt
  simp only [List.getElem?_toArray, List.getElem?_cons_zero, List.getElem?_cons_succ] at t0 g1
  clear hA2 hg2 hB2 hrd hres hg0 ht0 hsz hbw hone hAC
  by_cases hk : kind = 4
  · subst hk
    generalize hzz : ((Value.int .i64 0 :: Value.int .u64 0 :: Value.string ⟨#[]⟩ :: Value.slice none 0 0 :: Value.int .u8 0 :: Value.int .u8 0 :: Value.int .u8 0 :: Value.int .u8 0 :: Value.int .u8 0 :: Value.int .u8 0 :: Value.int .u8 0 :: Value.int .u8 0 :: Value.int .u8 0 :: Value.int .u8 0 :: Value.int .u8 0 :: Value.int .u8 0 :: Value.int .u8 0 :: Value.int .u8 0 :: Value.int .u8 0 :: Value.int .u8 0 :: Value.int .u8 0 :: Value.int .u8 0 :: Value.int .u8 0 :: Value.int .u8 0 :: Value.int .u8 0 :: Value.int .u8 0 :: Value.int .u8 0 :: Value.int .u8 0 :: Value.int .u8 0 :: Value.int .u8 0 :: Value.int .u8 0 :: Value.int .u8 0 :: Value.int .u8 0 :: Value.int .u8 0 :: Value.int .u8 0 :: Value.int .u8 0 :: []).toArray) = ZA at HRES
    have hzs : ZA.size = 36 := by rw [← hzz]; rfl
    have HZS := hide hzs
    have HG1 := hide g1
    clear hzs hzz hacs
    go_wp2_with fail
    clear t0 g1
    go_loopw [6] (fun iv wr => ∃ i : Nat, iv = .int .i64 i ∧ i ≤ 32 ∧ i ≤ gB.length ∧ Blk wr (w.heap.size + 1 + 1 + 1 + 1) (addL 4 N s (.slice (some ⟨w.heap.size + 1 + 1 + 1, 0, none⟩) gB.length cap) (kAt gB i)).toArray 37 ∧ W2.grownBy wr (some (w.heap.size + 1 + 1 + 1 + 1))) (fun iv _ => 32 - (intOf iv).toNat)
    case atStart => exact ⟨0, rfl, by omega, by omega, by rw [kAt_0, ← HAC.out]; exact HA2.out, ⟨rfl, rfl, rfl, Nat.le_refl _, fun _ _ _ => rfl⟩⟩
    case round =>
      obtain ⟨i, rfl, hi, hil, hB, hgw⟩ := hrel
      have g1 : wr.cell? ⟨w.heap.size + 1, 1, none⟩ = some (.string s) := by
        refine Eq.trans ?_ HG1.out
        unfold World.cell?
        rw [hgw.block (w.heap.size + 1) (by have := HS2.out; omega) (fun e => by have := Option.some.inj e; omega)]
      by_cases hlt : i < 32 ∧ i < gB.length
      · obtain ⟨h32, hgl⟩ := hlt
        have hat := HAT.out i hgl
        have hkl := kAt_len gB i hi hil
        have ca := hB.cell (4 + i)
        rw [addL_at _ _ _ _ _ _ (by omega)] at ca
        have fa := hB.frozen (4 + i)
        have HB := hide hB
        have HGW := hide hgw
        clear hB hgw
        go_wp2
        go_roundw
        case rel =>
          refine ⟨i + 1, by go_num, by omega, by omega, ?_, grownBy_trans HGW.out (grownBy_set _ _ _ _)⟩
          have e := HB.out.set (4 + i) (u8c gB[i])
          rw [addL_set, kAt_set _ _ h32 hgl] at e
          have e2 : s.data[i]'(by have : s.data.size = s.size := rfl; omega) = gB[i] := by
            have := hat
            rw [Array.getElem?_eq_getElem (by have : s.data.size = s.size := rfl; omega)] at this
            exact Option.some.inj this
          unfold u8c at e
          rw [← e2] at e
          exact e
        case measure => simp [intOf]; omega
      · obtain ⟨AD, hAD⟩ : ∃ AD, AD = (addL 4 N s (.slice (some ⟨w.heap.size + 1 + 1 + 1, 0, none⟩) gB.length cap) (kAt gB i)).toArray := ⟨_, rfl⟩
        have HAD := hide hAD
        rw [← hAD] at hB
        have HRA := hide (show wr.rangeAt (w.heap.size + 1 + 1 + 1 + 1) 0 AD.toList from fun j v hj => by rw [Nat.zero_add, hB.cell, ← hj]; simp)
        have HO := hide (show AD.all (·.oneCell') = true by rw [hAD]; exact addL_one _ _ _ _ _ _ _)
        have HZ := hide (show AD.size = 36 by rw [hAD]; exact addL_len _ _ _ _ _ (kAt_len gB i hi hil))
        have HGW := hide hgw
        have HR3 := hide (HRES.out.grown hgw (fun e => by have := Option.some.inj e; omega))
        have HRD3 : Hid (RdA wr (.slice (some ⟨w.heap.size + 1 + 1 + 1, 0, none⟩) gB.length cap) gB) := hide (RdA.grown (.inl HRD.out) hgw (fun b o l c e _ => by cases e; omega))
        clear hAD hB hgw
        have HK : Hid (gB.length = 32 → kAt gB i = gB) := hide (fun h => by
          have : i = 32 := by omega
          subst this
          simp [kAt, ← h])
        have hor : 32 ≤ i ∨ gB.length ≤ i := by omega
        rcases hor with hor | hor
        all_goals go_wp2_with (first | ((with_reducible refine wpList_load_add ?_ (.tmp 5) ?_ (w.heap.size + 1 + 1 + 1 + 1) 0 ?_ AD HRA.out HZ.out ?_); rfl; rfl; rfl) | ((with_reducible refine wpList_store_blk ?_ 37 (.tmp 4) (.tmp 38) ?_ (w.heap.size + 1 + 1) 36 ZA AD 37 HZ.out HZS.out ?_ ?_ HR3.out infoAdd HO.out ?_); rfl; rfl; rfl; rfl; intro W3 hk3 hg3))
        all_goals refine bodyPost_ret (results_cell rfl _ _ _ rfl _ (loadAdd hk3 HZ.out)) rfl ?_
        all_goals rw [HAD.out]
        all_goals have hb2 : Below (w.heap.size + 1) W2 wr := below_grownBy HGW.out (by omega) (by have := HS2.out; omega)
        all_goals have hb3 : Below (w.heap.size + 1) wr W3 := below_grownBy hg3 (by omega) (by have := HS2.out; have := HGW.out.size; omega)
        all_goals exact again_fin _ _ _ _ hN _ _ HS.out _ _ _ _ (kAt_len gB i hi hil) (RdA.grown HRD3.out hg3 (fun b o l c e _ => by cases e; omega)) (HBW.out.trans ((hb2.trans hb3).mono (by omega))) (by omega) (fun _ h => HK.out h)
  · have hkb : (kind == 4) = false := beq_eq_false_iff_ne.2 hk
    have HRA := hide (show W2.rangeAt (w.heap.size + 1 + 1 + 1 + 1) 0 AC.toList from fun j v hj => by rw [Nat.zero_add, HA2.out.cell, ← hj]; simp)
    have HO := hide (show AC.all (·.oneCell') = true by rw [HAC.out]; exact addL_one _ _ _ _ _ _ _)
    have HZ := hide hacs
    generalize hzz : ((Value.int .i64 0 :: Value.int .u64 0 :: Value.string ⟨#[]⟩ :: Value.slice none 0 0 :: Value.int .u8 0 :: Value.int .u8 0 :: Value.int .u8 0 :: Value.int .u8 0 :: Value.int .u8 0 :: Value.int .u8 0 :: Value.int .u8 0 :: Value.int .u8 0 :: Value.int .u8 0 :: Value.int .u8 0 :: Value.int .u8 0 :: Value.int .u8 0 :: Value.int .u8 0 :: Value.int .u8 0 :: Value.int .u8 0 :: Value.int .u8 0 :: Value.int .u8 0 :: Value.int .u8 0 :: Value.int .u8 0 :: Value.int .u8 0 :: Value.int .u8 0 :: Value.int .u8 0 :: Value.int .u8 0 :: Value.int .u8 0 :: Value.int .u8 0 :: Value.int .u8 0 :: Value.int .u8 0 :: Value.int .u8 0 :: Value.int .u8 0 :: Value.int .u8 0 :: Value.int .u8 0 :: Value.int .u8 0 :: []).toArray) = ZA at HRES
    have hzs : ZA.size = 36 := by rw [← hzz]; rfl
    have HZS := hide hzs
    clear hzs hzz hacs
    go_wp2_with (first | ((with_reducible refine wpList_load_add ?_ (.tmp 5) ?_ (w.heap.size + 1 + 1 + 1 + 1) 0 ?_ AC HRA.out HZ.out ?_); rfl; rfl; rfl) | ((with_reducible refine wpList_store_blk ?_ 37 (.tmp 4) (.tmp 38) ?_ (w.heap.size + 1 + 1) 36 ZA AC 37 HZ.out HZS.out ?_ ?_ HRES.out infoAdd HO.out ?_); rfl; rfl; rfl; rfl; intro W3 hk3 hg3))
    refine bodyPost_ret (results_cell rfl _ _ _ rfl _ (loadAdd hk3 HZ.out)) rfl ?_
    rw [HAC.out]
    have hb3 : Below (w.heap.size + 1) W2 W3 := below_grownBy hg3 (by omega) (by have := HS2.out; omega)
    refine again_fin _ _ _ _ hN _ _ HS.out _ _ _ _ (by simp [zk]) ?_ (HBW.out.trans (hb3.mono (by omega))) (by omega) (fun h => absurd h hk)
    exact RdA.grown (.inl HRD.out) hg3 (fun b o l c e _ => by cases e; omega)
end Go.Proofs.Ytinjcefekbpabaa
