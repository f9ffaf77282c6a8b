/- ObjectFresh, walked. -/
import Derived.Test.YtjcfndiceinkjabDoorFX2
namespace Go.Proofs.YtjcfndiceinkjabDoor
set_option linter.unusedVariables false
set_option linter.unusedSimpArgs false
set_option maxRecDepth 100000
open Go.RowKit

def DecF (W : World) (q : ObjR) (k : Int) (e : Ending) (w' : World) : Prop := ∃ v' cs, e = .returned (.tuple #[.agg cs, .int .i64 k]) ∧ cs = (objL q v').toArray ∧ cs.size = 39 ∧ cs.all (·.oneCell') = true ∧ ObjOwn W.heap.size w' q v' ∧ ObjRd w' q v' ∧ Below W.heap.size W w'
theorem dec_few (bs : List UInt8) : (decO bs).2.parts.length ≤ 128 ∧ (decO bs).2.items.length ≤ 128 ∧ (decO bs).2.parents.length ≤ 128 := by
  have hz : zeroO.parts.length ≤ 128 ∧ zeroO.items.length ≤ 128 ∧ zeroO.parents.length ≤ 128 := by decide
  unfold decO
  split
  · exact hz
  split
  · exact hz
  split
  · exact hz
  split
  · exact hz
  · exact mObj_few bs _ _
theorem decF_any (w : World) (hT8 : Tabs8 w) (b : Value) (bs : List UInt8) (hb : RdA w b bs) (k : Int) (q : ObjR) (hd : decO bs = (k, q)) : Calls Tryd.prog 7 #[b] w (DecF w q k) := by
  refine (decode_arg w hT8 b bs hb).mono ?_
  rintro e w' ⟨v', rfl, h1, h2⟩
  have hf := dec_few bs
  rw [hd] at h1 hf ⊢
  have hrd : ObjRd w' q v' := h1.rd hf.1 hf.2.1 hf.2.2
  exact ⟨v', _, rfl, rfl, objL_size q v' hrd.ok.t, all_oneCell_toArray (objL_one q v' hrd.sl), h1, hrd, h2⟩
/-- A load whose guard is off. -/
theorem wpList_off {ops : Array Oper} {rest : List Oper} {op : Oper} {a : Act} {w : World} {Q : Exit → Act → World → Prop} (x : Operand) (ho : op.op = .load 30 x) (hg : Region.wanted op (yielded ops a.tmps) = false) (h : wpList Tryd.prog ops Q rest (a.put op.dst undef) w) : wpList Tryd.prog ops Q (op :: rest) a w :=
  wpList_step fun K hK => by
    rw [if_neg (by rw [hg]; decide)]
    exact hK _ _ h
theorem ObjOwn.below {N : Nat} {w w' : World} {o : ObjR} {v : ObjV} (h : ObjOwn N w o v) (hb : Below w.heap.size w w') : ObjOwn N w' o v := ⟨h.ok, own_keep h.d hb, own_keep h.p hb, own_keep h.i hb, own_keep h.k hb⟩
theorem ObjOwn.zn {N M B : Nat} {w w' : World} {o : ObjR} {v : ObjV} (h : ObjOwn B w o v) (hz : Zn N M w w') (hM : M ≤ B) : ObjOwn B w' o v :=
  ⟨h.ok, hz.own h.d (fun g e => .inr (by have := own_lim h.d g e; omega)), hz.own h.p (fun g e => .inr (by have := own_lim h.p g e; omega)), hz.own h.i (fun g e => .inr (by have := own_lim h.i g e; omega)), hz.own h.k (fun g e => .inr (by have := own_lim h.k g e; omega))⟩
theorem ObjOwn.lim {B : Nat} {w : World} {o : ObjR} {v : ObjV} (h : ObjOwn B w o v) : ∀ x g, Value.ownBlock x = some g → (x = v.d ∨ x = v.p ∨ x = v.i ∨ x = v.k) → g < w.heap.size := by
  intro x g e hx
  rcases hx with rfl | rfl | rfl | rfl
  · exact (own_lim h.d g e).2
  · exact (own_lim h.p g e).2
  · exact (own_lim h.i g e).2
  · exact (own_lim h.k g e).2
/-- What is kept while p is written over. -/
structure Q2 (w W : World) (A B : Array Value) (N M gI : Nat) (vw : Value) (no : Nat) (Lo : List UInt8) (z : Nat) (cq : Array Value) (o : ObjR) (vq : ObjV) : Prop where
  E : FrS w W A B
  il : gI < N ∧ w.heap.size + 2 ≤ gI
  i_ : Blk W gI ((spL Lo).map u8c).toArray 5
  w_ : W.ownsRow 0 5 1 vw no (Lo.map u8c)
  gw : ∀ g, vw.ownBlock = some g → g < N
  q : Blk W z cq 30
  qo : ObjOwn M W o vq
  ql : M ≤ z
theorem Q2.zn {w W W' : World} {A B : Array Value} {N M gI : Nat} {vw : Value} {no : Nat} {Lo : List UInt8} {z : Nat} {cq : Array Value} {o : ObjR} {vq : ObjV} (h : Q2 w W A B N M gI vw no Lo z cq o vq) (hz : Zn N M W W') : Q2 w W' A B N M gI vw no Lo z cq o vq :=
  ⟨h.E.zn hz (by have := h.il; omega), h.il, hz.blk h.i_ (.inl h.il.1), hz.own h.w_ (fun g e => .inl (h.gw g e)), h.gw, hz.blk h.q (.inr h.ql), h.qo.zn hz (Nat.le_refl _), h.ql⟩
theorem wrap1 (q : Nat) : ∃ q2 : Nat, q2 ≤ 18446744073709551615 ∧ IntKind.u64.wrap ((q : Int) + 1) = (q2 : Int) := by
  refine ⟨(IntKind.u64.wrap ((q : Int) + 1)).toNat, ?_, ?_⟩
  · rw [IntKind.wrap_u64]; omega
  · rw [IntKind.wrap_u64]; omega
theorem own_some {w : World} {base n k : Nat} {e : TypeId} {a : Option Addr} {c : Nat} {ys : List Value} (h : w.ownsRow base e k (.slice a n c) n ys) (hn : 0 < n) : ∃ g, a = some ⟨g, 0, none⟩ := by
  obtain ⟨_, ⟨e1, h0⟩ | ⟨g, cap, cur, e1, _⟩⟩ := h
  · omega
  · cases e1; exact ⟨g, rfl⟩
theorem own_max {w : World} {base n k : Nat} {e : TypeId} {v : Value} {ys : List Value} (h : w.ownsRow base e k v n ys) : n ≤ 9223372036854775807 := by
  obtain ⟨_, ⟨_, h0⟩ | ⟨g, cap, cur, e1, _, _, h1, h2, _⟩⟩ := h
  · omega
  · unfold maxLen at h2; omega
set_option maxRecDepth 20000 in
set_option maxHeartbeats 8000000 in
theorem fresh_law (w : World) (hT8 : Tabs8 w) (o r : ObjR) (va vb : ObjV) (ho : ObjRd w o va) (hr : ObjRd w r vb) (to' : TxtSz o) (tr : TxtSz r) (so : ObjSz o) (sr : ObjSz r) (po : o.parents.length < 9223372036854775807) (pr : r.parents.length < 9223372036854775807) (hdl : checkO o = 0 → decO (layO o) = (0, o)) :
    Calls Tryd.prog 5 #[.agg (objL o va).toArray, .agg (objL r vb).toArray] w (BoolC w true) := by
  have hzo := zero_obj
  have SA : Hid ((objL o va).toArray.size = 39) := hide (objL_size o va ho.ok.t)
  have SB : Hid ((objL r vb).toArray.size = 39) := hide (objL_size r vb hr.ok.t)
  obtain ⟨A, hA⟩ : ∃ x, x = (objL o va).toArray := ⟨_, rfl⟩
  obtain ⟨B, hB⟩ : ∃ x, x = (objL r vb).toArray := ⟨_, rfl⟩
  obtain ⟨Lo, hLo⟩ : ∃ x, x = encO o := ⟨_, rfl⟩
  obtain ⟨Lr, hLr⟩ : ∃ x, x = encO r := ⟨_, rfl⟩
  obtain ⟨no, hno⟩ : ∃ x, x = Lo.length := ⟨_, rfl⟩
  obtain ⟨nr, hnr⟩ : ∃ x, x = Lr.length := ⟨_, rfl⟩
  obtain ⟨ko, hko⟩ : ∃ x, x = checkO o := ⟨_, rfl⟩
  obtain ⟨kr, hkr⟩ : ∃ x, x = checkO r := ⟨_, rfl⟩
  have RE1 : Hid (∀ W, FrS w W A B → Calls Tryd.prog 17 #[.agg A] W (EncF W Lo no ko)) := hide (fun W h => by rw [hA]; exact (rencode_any W o va (ho.below h.old) to' po).mono (fun e w' h => encF_of hLo.symm hno.symm hko.symm h))
  have RE2 : Hid (∀ W, FrS w W A B → Calls Tryd.prog 17 #[.agg B] W (EncF W Lr nr kr)) := hide (fun W h => by rw [hB]; exact (rencode_any W r vb (hr.below h.old) tr pr).mono (fun e w' h => encF_of hLr.symm hnr.symm hkr.symm h))
  have CP1 : Hid (∀ W, FrS w W A B → Calls Tryd.prog 18 #[.agg A] W (CopF W o)) := hide (fun W h => by rw [hA]; exact (copied_any W o va (ho.below h.old) so).mono (fun e w' ⟨v', h1, h2, h3⟩ => ⟨v', _, h1, rfl, h2.rd ho.ok so.d, h3⟩))
  have CP2 : Hid (∀ W, FrS w W A B → Calls Tryd.prog 18 #[.agg B] W (CopF W r)) := hide (fun W h => by rw [hB]; exact (copied_any W r vb (hr.below h.old) sr).mono (fun e w' ⟨v', h1, h2, h3⟩ => ⟨v', _, h1, rfl, h2.rd hr.ok sr.d, h3⟩))
  have EN1 : Hid (∀ W cs u, FrS w W A B → cs = (objL o u).toArray → ObjRd W o u → Calls Tryd.prog 6 #[.agg cs] W (EncF W Lo no ko)) := hide (fun W cs u h e hu => by rw [e]; exact (encode_any W (hT8.below h.old) o u hu to').mono (fun e w' h => encF_of hLo.symm hno.symm hko.symm h))
  have EN2 : Hid (∀ W cs u, FrS w W A B → cs = (objL r u).toArray → ObjRd W r u → Calls Tryd.prog 6 #[.agg cs] W (EncF W Lr nr kr)) := hide (fun W cs u h e hu => by rw [e]; exact (encode_any W (hT8.below h.old) r u hu tr).mono (fun e w' h => encF_of hLr.symm hnr.symm hkr.symm h))
  have FO : Hid (∀ W, FrS w W A B → ((fewP o → Calls Tryd.prog 16 #[.agg A] W (BoolC W true)) ∧ (¬ fewP o → Calls Tryd.prog 16 #[.agg A] W (BoolC W false)))) := hide (fun W h => by rw [hA]; exact ⟨few_yes W o va (ho.below h.old), few_no W o va (ho.below h.old)⟩)
  have FR : Hid (∀ W, FrS w W A B → ((fewP r → Calls Tryd.prog 16 #[.agg B] W (BoolC W true)) ∧ (¬ fewP r → Calls Tryd.prog 16 #[.agg B] W (BoolC W false)))) := hide (fun W h => by rw [hB]; exact ⟨few_yes W r vb (hr.below h.old), few_no W r vb (hr.below h.old)⟩)
  have DEC : Hid (ko = 0 → decO Lo = (0, o) ∧ Lo.length ≤ 8192 ∧ o.data.length ≤ 8192) := hide (fun e => by
    have hc : checkO o = 0 := by rw [← hko]; exact e
    have hl : Lo = layO o := by rw [hLo]; unfold encO; rw [if_pos hc]
    rw [hl]
    exact ⟨hdl hc, (lay_le hc).1, (lay_le hc).2.2⟩)
  have LLo : Hid (Lo.length ≤ 8192) := hide (by
    rw [hLo]; unfold encO
    split
    · exact (lay_le ‹_›).1
    · simp)
  have SAME : Hid (∀ W vq cq, FrS w W A B → cq = (objL o vq).toArray → ObjRd W o vq → Calls Tryd.prog 8 #[.agg cq, .agg A] W (BoolC W true)) := hide (fun W vq cq h e hq => by rw [e, hA]; have := rsame_any W o o vq va hq (ho.below h.old); rwa [sameO_self] at this)
  have TX := hide to'
  have T8 : Hid (∀ W, FrS w W A B → Tabs8 W) := hide (fun W h => hT8.below h.old)
  have E0 : Hid (FrS w ((w.alloc (.cells A 30)).alloc (.cells B 30)) A B) := hide ⟨(below_alloc w _).alloc (by simp) _, (Blk.made w _ _).alloc _, by have := Blk.made (w.alloc (.cells A 30)) B 30; rwa [World.size_alloc] at this⟩
  have NO := hide hno
  have NR := hide hnr
  rw [← hA, ← hB]
  rw [← hA] at SA
  rw [← hB] at SB
  clear ho hr to' tr so sr po pr hA hB hLo hLr hno hnr hko hkr hdl hT8
  go_enter Tryd.func5, Tryd.ntmps5
  go_upto_region 1 with fail
  refine name_world (fun W => FrS w W A B) E0.out ?_
  intro W0 hE
  have E := hide hE
  clear hE E0
  by_cases fo : fewP o
  · by_cases fr : fewP r
    · have FY := hide fo
      go_upto_region 3 with (first
        | ((with_reducible refine wpList_load_obj (.tmp 2) w.heap.size A E.out.A SA.out ?_ ?_ ?_ ?_); rfl; rfl; rfl)
        | (go_at_call 16; (with_reducible refine ((FO.out W0 E.out).1 fo).mono ?_); rintro e W1 ⟨rfl, hb1⟩; have E1 := hide (E.out.below hb1); clear hb1)
        | ((with_reducible refine wpList_load_obj (.tmp 3) (w.heap.size + 1) B E1.out.B SB.out ?_ ?_ ?_ ?_); rfl; rfl; exact wanted_yes (j := 3) (b := false) (t := 27) rfl rfl rfl (by decide : (27 : Nat) < 225))
        | (go_at_call 16; (with_reducible refine ((FR.out W1 E1.out).1 fr).mono ?_); rintro e W2 ⟨rfl, hb2⟩; have E2 := hide (E1.out.below hb2); clear hb2))
      have E4S : Hid (w.heap.size + 2 ≤ W2.heap.size) := hide (by have := E2.out.B.lt; omega)
      clear FO FR E E1
      go_upto_region 4 with (first
        | ((with_reducible refine wpList_load_obj (.tmp 2) w.heap.size A E2.out.A SA.out ?_ ?_ ?_ ?_); rfl; rfl; rfl)
        | (go_at_call 17; (with_reducible refine (RE1.out W2 E2.out).mono ?_); rintro e W3 ⟨aw, cw, rfl, ho, hb⟩; have E3 := hide (E2.out.below hb); have OW := hide ho; have SW3 := hide hb.size; have BW3 := hide hb; clear ho hb))
      go_upto_region 5 with (first
        | ((with_reducible refine wpList_load_obj (.tmp 2) w.heap.size A E3.out.A SA.out ?_ ?_ ?_ ?_); rfl; rfl; rfl)
        | (go_at_call 18; (with_reducible refine (CP1.out W3 E3.out).mono ?_); rintro e W4 ⟨u, cs, rfl, hcs, hrd, hb⟩; have EC := hide (E3.out.below hb); have HCS := hide hcs; have HRD := hide hrd; have SW4 := hide hb.size; have BW4 := hide hb; clear hcs hrd hb)
        | (go_at_call 6; (with_reducible refine (EN1.out W4 cs u EC.out HCS.out HRD.out).mono ?_); rintro e W5 ⟨aa, ca, rfl, ho, hb⟩; have E5 := hide (EC.out.below hb); have OA := hide ho; have SW5 := hide hb.size; have BW5 := hide hb; clear ho hb))
      clear EC HCS HRD
      go_upto_region 6 with (first
        | ((with_reducible refine wpList_load_obj (.tmp 2) w.heap.size A E5.out.A SA.out ?_ ?_ ?_ ?_); rfl; rfl; rfl)
        | (go_at_call 18; (with_reducible refine (CP1.out W5 E5.out).mono ?_); rintro e W6 ⟨u, cs, rfl, hcs, hrd, hb⟩; have EC := hide (E5.out.below hb); have HCS := hide hcs; have HRD := hide hrd; have SW6 := hide hb.size; have BW6 := hide hb; clear hcs hrd hb)
        | (go_at_call 6; (with_reducible refine (EN1.out W6 cs u EC.out HCS.out HRD.out).mono ?_); rintro e W7 ⟨ab, cb, rfl, ho, hb⟩; have E7 := hide (EC.out.below hb); have OB := hide ho; have SW7 := hide hb.size; have BW7 := hide hb; clear ho hb))
      clear EC HCS HRD
      go_upto_region 7 with (first
        | ((with_reducible refine wpList_load_obj (.tmp 3) (w.heap.size + 1) B E7.out.B SB.out ?_ ?_ ?_ ?_); rfl; rfl; rfl)
        | (go_at_call 18; (with_reducible refine (CP2.out W7 E7.out).mono ?_); rintro e W8 ⟨u, cs, rfl, hcs, hrd, hb⟩; have EC := hide (E7.out.below hb); have HCS := hide hcs; have HRD := hide hrd; have SW8 := hide hb.size; have BW8 := hide hb; clear hcs hrd hb)
        | (go_at_call 6; (with_reducible refine (EN2.out W8 cs u EC.out HCS.out HRD.out).mono ?_); rintro e W9 ⟨ac, cc, rfl, ho, hb⟩; have E9 := hide (EC.out.below hb); have OC := hide ho; have SW9 := hide hb.size; have BW9 := hide hb; clear ho hb))
      clear EC HCS HRD
      go_upto_region 8 with (first
        | ((with_reducible refine wpList_load_obj (.tmp 3) (w.heap.size + 1) B E9.out.B SB.out ?_ ?_ ?_ ?_); rfl; rfl; rfl)
        | (go_at_call 17; (with_reducible refine (RE2.out W9 E9.out).mono ?_); rintro e W10 ⟨atx, ct, rfl, ho, hb⟩; have E10 := hide (E9.out.below hb); have OT := hide ho; have SW10 := hide hb.size; have BW10 := hide hb; clear ho hb))
      have hne1 : (ko != ko) = false := by simp
      have hne2 : (kr != kr) = false := by simp
      have K : Hid (K4 w W10 A B W4.heap.size W5.heap.size (.slice aw no cw) (.slice ab no cb) (.slice ac nr cc) (.slice atx nr ct) no nr Lo Lr) := hide (by
        have w5 := own_keep (own_keep OW.out BW4.out) BW5.out
        have w7 := own_keep (own_keep w5 BW6.out) BW7.out
        have w9 := own_keep (own_keep w7 BW8.out) BW9.out
        have b9 := own_keep (own_keep OB.out BW8.out) BW9.out
        have s3 := SW3.out; have s4 := SW4.out; have s5 := SW5.out; have s6 := SW6.out; have s7 := SW7.out; have s8 := SW8.out; have s9 := SW9.out
        have lw := own_lim OW.out
        have lb := own_lim OB.out
        have lc := own_lim OC.out
        have lt := own_lim OT.out
        have e4 := E4S.out
        exact ⟨E10.out, by omega, own_low (own_keep w9 BW10.out), own_low (own_keep b9 BW10.out), own_low (own_keep OC.out BW10.out), own_low OT.out, fun g e => by have := lw g e; omega, fun g e => by have := lb g e; omega, fun g e => by have := lc g e; omega, fun g e => by have := lt g e; omega⟩)
      have A10 : Hid (W10.ownsRow W4.heap.size 5 1 (.slice aa no ca) no (Lo.map u8c)) := hide (own_keep (own_keep (own_keep (own_keep (own_keep OA.out BW6.out) BW7.out) BW8.out) BW9.out) BW10.out)
      have GA : Hid (∀ g, (Value.slice aa no ca).ownBlock = some g → W4.heap.size ≤ g ∧ g < W5.heap.size) := hide (own_lim OA.out)
      obtain ⟨N, hN⟩ : ∃ n, n = W4.heap.size := ⟨_, rfl⟩
      obtain ⟨M, hM⟩ : ∃ n, n = W5.heap.size := ⟨_, rfl⟩
      rw [← hN] at K A10 GA
      rw [← hM] at K GA
      have SN : Hid (N ≤ W10.heap.size) := hide (by have := SW5.out; have := SW6.out; have := SW7.out; have := SW8.out; have := SW9.out; have := SW10.out; omega)
      clear hN hM OW OA OB OC OT BW3 BW4 BW5 BW6 BW7 BW8 BW9 BW10 SW3 SW4 SW5 SW6 SW7 SW8 SW9 SW10 E10 E9 E7 E5 E3 E2 E4S RE1 RE2 CP1 CP2 EN1 EN2
      go_upto_region 10 with fail
      clear hne1 hne2 fo fr FY
      go_wp2_with fail
      go_loopw [15] (fun t wr => ∃ (j : Nat) (zs : List UInt8), t = .int .i64 j ∧ j ≤ no ∧ Hid (zs.length = no) ∧ wr.ownsRow N 5 1 (.slice aa no ca) no (zs.map u8c) ∧ K4 w wr A B N M (.slice aw no cw) (.slice ab no cb) (.slice ac nr cc) (.slice atx nr ct) no nr Lo Lr ∧ N ≤ wr.heap.size) (fun t _ => no - (intOf t).toNat)
      case atStart => exact ⟨0, Lo, rfl, Nat.zero_le _, hide NO.out.symm, A10.out, K.out, SN.out⟩
      case round =>
        clear A10 K SN
        obtain ⟨j, zs, rfl, hj, hzl, hA, hK, hS⟩ := hrel
        have AO := hide hA
        have K := hide hK
        have SN := hide hS
        clear hA hK hS
        by_cases hlt : j < no
        · have hji : (j : Int) < (no : Int) := by omega
          have hno : no ≤ 8192 := by have := NO.out; have := LLo.out; omega
          obtain ⟨a0, c0, e0, hsome⟩ := own_formB AO.out
          obtain ⟨g, hg⟩ := hsome (by omega)
          obtain ⟨rfl, -, -⟩ := (Value.slice.injEq ..).mp e0
          subst hg
          have hjz : j < zs.length := by rw [hzl.out]; exact hlt
          obtain ⟨x, hx⟩ : ∃ x, x = zs[j] := ⟨_, rfl⟩
          have hxx : (zs.map u8c)[j]? = some (u8c x) := by rw [List.getElem?_map, List.getElem?_eq_getElem hjz, hx]; rfl
          obtain ⟨c1, f1⟩ := own_atK AO.out j _ hxx
          have c1' : wr.cell? ⟨g, j, none⟩ = some (.int .u8 (x.toNat : Int)) := c1
          obtain ⟨y, hy⟩ := xor_u8 x
          have A2 : Hid ((wr.setCell ⟨g, j, none⟩ (.int .u8 (y.toNat : Int))).ownsRow N 5 1 (.slice (some ⟨g, 0, none⟩) no ca) no ((zs.set j y).map u8c)) := hide (by have := own_setK AO.out j (u8c y); rwa [← List.map_set] at this)
          have hgl := GA.out g rfl
          have K2 := hide (K.out.zn (Zn.set wr j (.int .u8 (y.toNat : Int)) hgl.1 hgl.2))
          have HZL := hzl
          clear hx hxx c1 e0 hsome hgl hzl AO K hjz
          go_wp2
          go_roundw
          case rel => exact ⟨j + 1, zs.set j y, by go_num, by omega, hide (by rw [List.length_set]; exact HZL.out), A2.out, K2.out, by have := SN.out; simpa using this⟩
          case measure => simp [intOf]; omega
        · have hji : ¬ (j : Int) < (no : Int) := by omega
          obtain ⟨WA, hWA⟩ : ∃ w0, w0 = wr := ⟨_, rfl⟩
          rw [← hWA] at AO K SN ⊢
          have HGR := hide (grown_any WA (.slice aa no ca) zs N (by rw [hzl.out]; exact AO.out) SN.out (by have := hzl.out; have := NO.out; have := LLo.out; omega))
          clear hWA AO SN hzl
          go_upto_region 15 with (go_at_call 19; refine HGR.out.mono ?_; rintro e WG ⟨ag, ng, cg, rfl, hgG⟩; have KG := hide (K.out.zn (Zn.grown hgG GA.out)); clear hgG)
          have h1 : (convert 23 9 (.slice ab no cb)).run Tryd.prog WG = .ok (.string ⟨Lo.toArray⟩) WG := conv_rdA WG _ Lo (rd_own NO.out.symm KG.out.b_)
          have h2 : (convert 23 9 (.slice aw no cw)).run Tryd.prog WG = .ok (.string ⟨Lo.toArray⟩) WG := conv_rdA WG _ Lo (rd_own NO.out.symm KG.out.w_)
          have h3 : (convert 23 9 (.slice ac nr cc)).run Tryd.prog WG = .ok (.string ⟨Lr.toArray⟩) WG := conv_rdA WG _ Lr (rd_own NR.out.symm KG.out.c_)
          have h4 : (convert 23 9 (.slice atx nr ct)).run Tryd.prog WG = .ok (.string ⟨Lr.toArray⟩) WG := conv_rdA WG _ Lr (rd_own NR.out.symm KG.out.t_)
          clear HGR GA K
          go_upto_region 17 with fail
          clear h1 h2 h3 h4
          by_cases hk0 : ko = 0
          · have DL := hide (DEC.out hk0)
            subst hk0
            have GW : Hid (FrS w WG A B ∧ WG.ownsRow 0 5 1 (.slice aw no cw) no (Lo.map u8c)) := hide ⟨KG.out.E, KG.out.w_⟩
            clear DEC KG NR
            go_upto_region 20 with (go_at_call 14; refine (spare_any WG _ Lo (rd_own NO.out.symm GW.out.2) (by have := LLo.out; omega)).mono ?_; rintro e W11 ⟨rfl, hkI, hbI⟩; rw [← NO.out]; have KI := hide hkI; have BI := hide hbI; clear hkI hbI)
            have E11 := hide (GW.out.1.below BI.out)
            have O11 := hide (own_keep GW.out.2 BI.out)
            have GWL : Hid (∀ g, (Value.slice aw no cw).ownBlock = some g → g < WG.heap.size) := hide (fun g e => (own_lim GW.out.2 g e).2)
            have GIL : Hid (w.heap.size + 2 ≤ WG.heap.size) := hide (by have := GW.out.1.B.lt; omega)
            have RI : Hid (∀ W, Blk W WG.heap.size ((spL Lo).map u8c).toArray 5 → RdA W (.slice (some ⟨WG.heap.size, 0, none⟩) no (no + 70)) Lo) := hide (fun W h => by rw [NO.out]; exact RdA.spare h (by have := LLo.out; omega))
            obtain ⟨gI, hgI⟩ : ∃ g, g = WG.heap.size := ⟨_, rfl⟩
            rw [← hgI] at KI GWL GIL RI ⊢
            have GILT : Hid (gI < W11.heap.size) := hide KI.out.lt
            clear hgI GW BI
            go_upto_region 21 with (first
              | (go_at_call 7; (with_reducible refine (decF_any W11 (T8.out _ E11.out) _ Lo (RI.out _ KI.out) 0 o DL.out.1).mono ?_); rintro e W12 ⟨vp, cp, rfl, hcs, hsz, hone, hown, hrd, hbx⟩; have HCScp := hide hcs; have HSZ := hide hsz; have HON := hide hone; have HRDcp := hide hrd; have HOWcp := hide hown; have HBX := hide hbx; have ZB := hide (Blk.made W12 objZ 30); clear hcs hsz hone hrd hbx hown)
              | ((with_reducible refine wpList_store_blk ?_ 30 (.tmp 17) (.tmp 108) ?_ W12.heap.size 39 objZ cp 30 HSZ.out objZ_size ?_ ?_ ZB.out infoObj HON.out ?_); rfl; rfl; rfl; rfl; intro WY hky hgy; have HKY := hide hky; have HGY := hide hgy; clear hky hgy))
            refine name_world (fun W => Below W12.heap.size W12 W ∧ ∃ z, z = W12.heap.size ∧ Blk W z cp 30 ∧ z < W.heap.size) ?_ ?_
            · have hbw : Below W12.heap.size W12 WY := (below_alloc W12 _).trans (below_grownBy HGY.out (Nat.le_refl _) (below_alloc W12 _).size)
              exact ⟨hbw, _, rfl, HKY.out, Blk.lt HKY.out⟩
            rintro W13 ⟨hb13, z17, hz17, hk17, hl17⟩
            have E13 := hide ((E11.out.below HBX.out).below hb13)
            have O13 := hide (own_keep (own_keep O11.out HBX.out) hb13)
            have K13 := hide ((KI.out.below HBX.out KI.out.lt).below hb13 (KI.out.below HBX.out KI.out.lt).lt)
            have P13 := hide (HOWcp.out.below hb13)
            have Z13 := hide hk17
            have NZ : Hid (W11.heap.size ≤ z17 ∧ z17 < W13.heap.size) := hide ⟨by rw [hz17]; exact HBX.out.size, hl17⟩
            have PL : Hid (∀ x g, Value.ownBlock x = some g → (x = vp.d ∨ x = vp.p ∨ x = vp.i ∨ x = vp.k) → g < z17) := hide (by rw [hz17]; exact HOWcp.out.lim)
            rw [← hz17]
            clear hb13 hz17 hk17 hl17 HSZ HON HRDcp HOWcp HBX ZB HKY HGY E11 O11 KI
            go_upto_region 22 with (first
              | (go_at_call 7; (with_reducible refine (decF_any W13 (T8.out _ E13.out) _ Lo (RI.out _ K13.out) 0 o DL.out.1).mono ?_); rintro e W14 ⟨vq, cq, rfl, hcs, hsz, hone, hown, hrd, hbx⟩; have HCScq := hide hcs; have HSZ := hide hsz; have HON := hide hone; have HRDcq := hide hrd; have HOWcq := hide hown; have HBX := hide hbx; have ZB := hide (Blk.made W14 objZ 30); clear hcs hsz hone hrd hbx hown)
              | ((with_reducible refine wpList_store_blk ?_ 30 (.tmp 18) (.tmp 113) ?_ W14.heap.size 39 objZ cq 30 HSZ.out objZ_size ?_ ?_ ZB.out infoObj HON.out ?_); rfl; rfl; rfl; rfl; intro WY hky hgy; have HKY := hide hky; have HGY := hide hgy; clear hky hgy))
            refine name_world (fun W => Below W14.heap.size W14 W ∧ ∃ z, z = W14.heap.size ∧ Blk W z cq 30) ?_ ?_
            · have hbw : Below W14.heap.size W14 WY := (below_alloc W14 _).trans (below_grownBy HGY.out (Nat.le_refl _) (below_alloc W14 _).size)
              exact ⟨hbw, _, rfl, HKY.out⟩
            rintro W15 ⟨hb15, z18, hz18, hk18⟩
            have QQ : Hid (Q2 w W15 A B W11.heap.size W13.heap.size gI (.slice aw no cw) no Lo z18 cq o vq) := hide ⟨(E13.out.below HBX.out).below hb15, ⟨GILT.out, GIL.out⟩, (K13.out.below HBX.out K13.out.lt).below hb15 (K13.out.below HBX.out K13.out.lt).lt, own_keep (own_keep O13.out HBX.out) hb15, fun g e => by have := GWL.out g e; have := GILT.out; omega, hk18, HOWcq.out.below hb15, by rw [hz18]; exact HBX.out.size⟩
            have PP : Hid (PS W15 W15 W11.heap.size W13.heap.size z17 cp vp.d vp.p vp.i vp.k o.data.length o.parts.length o.items.length o.parents.length) := hide (PS.start ((P13.out.below HBX.out).below hb15) TX.out ((Z13.out.below HBX.out Z13.out.lt).below hb15 (Z13.out.below HBX.out Z13.out.lt).lt) NZ.out.1 NZ.out.2 PL.out)
            rw [← hz18]
            obtain ⟨N2, hN2⟩ : ∃ n, n = W11.heap.size := ⟨_, rfl⟩
            obtain ⟨M2, hM2⟩ : ∃ n, n = W13.heap.size := ⟨_, rfl⟩
            rw [← hN2, ← hM2] at QQ PP
            have N15 : Hid (N2 ≤ W15.heap.size) := hide (by rw [hN2]; have := NZ.out; have := hb15.size; have := HBX.out.size; omega)
            clear hb15 hz18 hk18 hN2 hM2 HSZ HON HRDcq HOWcq HBX ZB HKY HGY E13 O13 K13 P13 Z13 NZ PL GWL GIL GILT
            have OKT : Hid (okK o.tree) := hide QQ.out.qo.ok.t
            have DLN : Hid (o.data.length ≤ 8192) := hide DL.out.2.2
            obtain ⟨zs0, _, ho0⟩ := PP.out.d
            obtain ⟨ad, cd, hvd⟩ := own_form ho0
            obtain ⟨ys0, ho1, _⟩ := PP.out.p
            obtain ⟨ap, cpp, hvp⟩ := own_form ho1
            obtain ⟨ys1, ho2, _⟩ := PP.out.i
            obtain ⟨ai, ci, hvi⟩ := own_form ho2
            obtain ⟨ys2, ho3, _⟩ := PP.out.k
            obtain ⟨ak, ck, hvk⟩ := own_form ho3
            have CD : Hid (∀ W, Blk W z17 cp 30 → W.cell? ⟨z17, 1, none⟩ = some vp.d) := hide (fun W h => by rw [HCScp.out] at h; exact ObjAt.cD h)
            have CPt : Hid (∀ W, Blk W z17 cp 30 → W.cell? ⟨z17, 2, none⟩ = some vp.p) := hide (fun W h => by rw [HCScp.out] at h; exact ObjAt.cP h)
            have CI : Hid (∀ W, Blk W z17 cp 30 → W.cell? ⟨z17, 3, none⟩ = some vp.i) := hide (fun W h => by rw [HCScp.out] at h; exact ObjAt.cI h)
            have CK : Hid (∀ W, Blk W z17 cp 30 → W.cell? ⟨z17, 36, none⟩ = some vp.k) := hide (fun W h => by rw [HCScp.out] at h; exact ObjAt.cK h OKT.out)
            rw [hvd, hvp, hvi, hvk] at PP
            rw [hvd] at CD
            rw [hvp] at CPt
            rw [hvi] at CI
            rw [hvk] at CK
            obtain ⟨nd, hnd⟩ : ∃ n, n = o.data.length := ⟨_, rfl⟩
            obtain ⟨np, hnp⟩ : ∃ n, n = o.parts.length := ⟨_, rfl⟩
            obtain ⟨ni, hni⟩ : ∃ n, n = o.items.length := ⟨_, rfl⟩
            obtain ⟨nk, hnk⟩ : ∃ n, n = o.parents.length := ⟨_, rfl⟩
            rw [← hnd, ← hnp, ← hni, ← hnk] at PP
            rw [← hnd] at CD DLN
            rw [← hnp] at CPt
            rw [← hni] at CI
            rw [← hnk] at CK
            have hn1 : nd ≤ 9223372036854775807 := by have := DLN.out; omega
            have hn2 : np ≤ 9223372036854775807 := by obtain ⟨ys, h, _⟩ := PP.out.p; exact own_max h
            have hn3 : ni ≤ 9223372036854775807 := by obtain ⟨ys, h, _⟩ := PP.out.i; exact own_max h
            have hn4 : nk ≤ 9223372036854775807 := by obtain ⟨ys, h, _⟩ := PP.out.k; exact own_max h
            clear hvd hvp hvi hvk hnd hnp hni hnk ho0 ho1 ho2 ho3 OKT HCScp T8
            go_upto_region 24 with fail
            go_wp2_with fail
            skip
            go_loopw [19] (fun t wr => ∃ (j : Nat), t = .int .i64 j ∧ j ≤ nd ∧ PS W15 wr N2 M2 z17 cp (.slice ad nd cd) (.slice ap np cpp) (.slice ai ni ci) (.slice ak nk ck) nd np ni nk) (fun t _ => nd - (intOf t).toNat)
            case atStart => exact ⟨0, rfl, Nat.zero_le _, PP.out⟩
            case round =>
              obtain ⟨j, rfl, hj, hP⟩ := hrel
              have P := hide hP
              clear hP PP
              have cF := CD.out wr P.out.at'
              by_cases hlt : j < nd
              · skip
                have hji : (j : Int) < (nd : Int) := by omega
                obtain ⟨zs, hzl, ho⟩ := P.out.d
                obtain ⟨g, hg⟩ := own_some ho (by omega)
                subst hg
                have hjz : j < zs.length := by omega
                obtain ⟨x, hx⟩ : ∃ x, x = zs[j] := ⟨_, rfl⟩
                have hxx : (zs.map u8c)[j]? = some (u8c x) := by rw [List.getElem?_map, List.getElem?_eq_getElem hjz, hx]; rfl
                obtain ⟨c1, f1⟩ := own_atK ho j _ hxx
                have c1' : wr.cell? ⟨g, j, none⟩ = some (.int .u8 (x.toNat : Int)) := c1
                obtain ⟨y, hy⟩ := xor_u8 x
                have P2 := hide ((PS.drew P.out).set_d rfl j y)
                clear hx hxx c1 ho hjz hzl P
                go_wp2
                refine wp_region_still_tail 10 (by kernel_rfl) (by kernel_rfl) ?_
                simp only [List.take_succ_cons, List.take_zero, List.drop_succ_cons, List.drop_zero]
                repeat still_step
                refine wpStill_nil ?_
                go_wp2
                exact ⟨⟨j + 1, by go_num, by omega, P2.out⟩, by simp [intOf]; omega⟩
              · have hji : ¬ (j : Int) < (nd : Int) := by omega
                obtain ⟨WB0, hWB⟩ : ∃ w0, w0 = wr := ⟨_, rfl⟩
                rw [← hWB] at P cF ⊢
                have PP := P
                clear hWB P
                go_wp2_with fail
                clear cF
                go_loopw [20] (fun t wr => ∃ (j : Nat), t = .int .i64 j ∧ j ≤ np ∧ PS W15 wr N2 M2 z17 cp (.slice ad nd cd) (.slice ap np cpp) (.slice ai ni ci) (.slice ak nk ck) nd np ni nk) (fun t _ => np - (intOf t).toNat)
                case atStart => exact ⟨0, rfl, Nat.zero_le _, PP.out⟩
                case round =>
                  obtain ⟨j, rfl, hj, hP⟩ := hrel
                  have P := hide hP
                  clear hP PP
                  have cF := CPt.out wr P.out.at'
                  by_cases hlt : j < np
                  · skip
                    have hji : (j : Int) < (np : Int) := by omega
                    obtain ⟨ys, ho, hs⟩ := P.out.p
                    obtain ⟨g, hg⟩ := own_some ho (by omega)
                    subst hg
                    obtain ⟨q, hq, hx⟩ := hs j hlt
                    obtain ⟨c1, f1⟩ := own_atK ho _ _ hx
                    obtain ⟨q2, hq2, hy⟩ := wrap1 q
                    have P2 := hide ((PS.drew P.out).set_p rfl (j * 33 + 32) j rfl hlt q2 hq2)
                    clear hx ho hs P hq hq2
                    go_wp2
                    refine wp_region_still_tail 12 (by kernel_rfl) (by kernel_rfl) ?_
                    simp only [List.take_succ_cons, List.take_zero, List.drop_succ_cons, List.drop_zero]
                    repeat still_step
                    refine wpStill_nil ?_
                    go_wp2
                    exact ⟨⟨j + 1, by go_num, by omega, P2.out⟩, by simp [intOf]; omega⟩
                  · have hji : ¬ (j : Int) < (np : Int) := by omega
                    obtain ⟨WB1, hWB⟩ : ∃ w0, w0 = wr := ⟨_, rfl⟩
                    rw [← hWB] at P cF ⊢
                    have PP := P
                    clear hWB P
                    go_wp2_with fail
                    clear cF
                    go_loopw [21] (fun t wr => ∃ (j : Nat), t = .int .i64 j ∧ j ≤ ni ∧ PS W15 wr N2 M2 z17 cp (.slice ad nd cd) (.slice ap np cpp) (.slice ai ni ci) (.slice ak nk ck) nd np ni nk) (fun t _ => ni - (intOf t).toNat)
                    case atStart => exact ⟨0, rfl, Nat.zero_le _, PP.out⟩
                    case round =>
                      obtain ⟨j, rfl, hj, hP⟩ := hrel
                      have P := hide hP
                      clear hP PP
                      have cF := CI.out wr P.out.at'
                      by_cases hlt : j < ni
                      · skip
                        have hji : (j : Int) < (ni : Int) := by omega
                        obtain ⟨ys, ho, hs⟩ := P.out.i
                        obtain ⟨g, hg⟩ := own_some ho (by omega)
                        subst hg
                        obtain ⟨s, hx⟩ := hs j hlt
                        obtain ⟨c1, f1⟩ := own_atK ho _ _ hx
                        have P2 := hide (P.out.set_i rfl (j * 35) ⟨#[109, 97, 114, 107, 101, 100]⟩)
                        clear hx ho hs P
                        go_wp2
                        exact ⟨⟨j + 1, by go_num, by omega, P2.out⟩, by simp [intOf]; omega⟩
                      · have hji : ¬ (j : Int) < (ni : Int) := by omega
                        obtain ⟨WB2, hWB⟩ : ∃ w0, w0 = wr := ⟨_, rfl⟩
                        rw [← hWB] at P cF ⊢
                        have PP := P
                        clear hWB P
                        go_wp2_with fail
                        clear cF
                        go_loopw [22] (fun t wr => ∃ (j : Nat), t = .int .i64 j ∧ j ≤ nk ∧ PS W15 wr N2 M2 z17 cp (.slice ad nd cd) (.slice ap np cpp) (.slice ai ni ci) (.slice ak nk ck) nd np ni nk) (fun t _ => nk - (intOf t).toNat)
                        case atStart => exact ⟨0, rfl, Nat.zero_le _, PP.out⟩
                        case round =>
                          obtain ⟨j, rfl, hj, hP⟩ := hrel
                          have P := hide hP
                          clear hP PP
                          have cF := CK.out wr P.out.at'
                          by_cases hlt : j < nk
                          · skip
                            have hji : (j : Int) < (nk : Int) := by omega
                            obtain ⟨ys, ho, hs⟩ := P.out.k
                            obtain ⟨g, hg⟩ := own_some ho (by omega)
                            subst hg
                            obtain ⟨x, hx⟩ := hs j hlt
                            obtain ⟨c1, f1⟩ := own_atK ho _ _ hx
                            have c1' : wr.cell? ⟨g, j * 32 + 5, none⟩ = some (.int .u8 (x.toNat : Int)) := c1
                            obtain ⟨y, hy⟩ := xor_u8 x
                            have P2 := hide ((PS.drew P.out).set_k rfl (j * 32 + 5) y)
                            clear hx ho hs P c1
                            go_wp2
                            refine wp_region_still_tail 12 (by kernel_rfl) (by kernel_rfl) ?_
                            simp only [List.take_succ_cons, List.take_zero, List.drop_succ_cons, List.drop_zero]
                            repeat still_step
                            refine wpStill_nil ?_
                            go_wp2
                            exact ⟨⟨j + 1, by go_num, by omega, P2.out⟩, by simp [intOf]; omega⟩
                          · have hji : ¬ (j : Int) < (nk : Int) := by omega
                            obtain ⟨WB3, hWB⟩ : ∃ w0, w0 = wr := ⟨_, rfl⟩
                            rw [← hWB] at P cF ⊢
                            have PP := P
                            clear hWB P
                            go_upto_region 40 with fail
                            clear cF
                            have cD := CD.out WB3 PP.out.at'
                            obtain ⟨zs, hzl, hod⟩ := PP.out.d
                            have HGR := hide (grown_any WB3 (.slice ad nd cd) zs N2 (by rw [hzl]; exact hod) (by have := PP.out.zn.size; have := N15.out; omega) (by have := DLN.out; omega))
                            have GD : Hid (∀ g, (Value.slice ad nd cd).ownBlock = some g → N2 ≤ g ∧ g < M2 ∧ g ≠ z17) := hide (fun g e => by have h1 := own_lim hod g e; have h2 := PP.out.gd g e; have h3 := PP.out.zz; omega)
                            have NM : Hid (N2 < M2) := hide (by have := PP.out.zz; omega)
                            clear hod hzl
                            go_upto_region 41 with (go_at_call 19; refine HGR.out.mono ?_; rintro e WH ⟨ah, nh, ch, rfl, hgH⟩; have ZH := hide (Blk.grown PP.out.at' hgH (fun e => (GD.out z17 e.symm).2.2 rfl)); have cH : WH.cell? ⟨z17, 1, none⟩ = some (.slice ad nd cd) := CD.out WH ZH.out; have fH := ZH.out.frozen 1; have NH := hide (PP.out.zn.trans (Zn.grown hgH (fun g e => ⟨(GD.out g e).1, (GD.out g e).2.1⟩))); clear hgH)
                            refine name_world (fun W => Q2 w W A B N2 M2 gI (.slice aw no cw) no Lo z18 cq o vq) ?_ ?_
                            · exact QQ.out.zn (NH.out.trans (Zn.set _ 1 _ PP.out.zz.1 PP.out.zz.2))
                            intro WI hQ
                            have QI := hide hQ
                            clear hQ cD cH fH NH ZH HGR GD PP QQ
                            have SQ : Hid (cq.size = 39) := hide (by rw [HCScq.out]; exact objL_size o vq QI.out.qo.ok.t)
                            have RQ : Hid (∀ W, ObjOwn M2 W o vq → ObjRd W o vq) := hide (fun W h => by
                              have hf := dec_few Lo
                              rw [DL.out.1] at hf
                              exact h.rd hf.1 hf.2.1 hf.2.2)
                            have h1 : (convert 23 9 (.slice (some ⟨gI, 0, none⟩) no (no + 70))).run Tryd.prog WI = .ok (.string ⟨Lo.toArray⟩) WI := conv_rdA WI _ Lo (RI.out _ QI.out.i_)
                            have h2 : (convert 23 9 (.slice aw no cw)).run Tryd.prog WI = .ok (.string ⟨Lo.toArray⟩) WI := conv_rdA WI _ Lo (rd_own NO.out.symm QI.out.w_)
                            have HCL := hide (clean_any WI gI Lo QI.out.i_ (by have := LLo.out; omega))
                            rw [← NO.out] at HCL
                            go_upto_region 43 with (first
                              | (go_at_call 20; refine HCL.out.mono ?_; rintro e WJ ⟨rfl, hbJ⟩; have QJ := hide (QI.out.zn (Zn.of_below hbJ)); clear hbJ)
                              | ((with_reducible refine wpList_load_obj (.tmp 18) z18 cq QJ.out.q SQ.out ?_ ?_ ?_ ?_); rfl; rfl; exact wanted_yes (j := 10) (b := false) (t := 202) rfl rfl rfl (by decide : (202 : Nat) < 225))
                              | ((with_reducible refine wpList_load_obj (.tmp 2) w.heap.size A QJ.out.E.A SA.out ?_ ?_ ?_ ?_); rfl; rfl; exact wanted_yes (j := 10) (b := false) (t := 202) rfl rfl rfl (by decide : (202 : Nat) < 225))
                              | (go_at_call 8; (with_reducible refine (SAME.out WJ vq cq QJ.out.E HCScq.out (RQ.out _ QJ.out.qo)).mono ?_); rintro e WK ⟨rfl, hbK⟩; have QK := hide (QJ.out.zn (Zn.of_below hbK)); clear hbK))
                            clear h1 h2 HCL QI QJ RI
                            have hno : no ≤ 8192 := by have := NO.out; have := LLo.out; omega
                            go_wp2_with fail
                            go_loopw [23] (fun t wr => ∃ (j : Nat) (zs : List UInt8), t = .int .i64 j ∧ j ≤ no ∧ Hid (zs.length = no + 70) ∧ Blk wr gI (zs.map u8c).toArray 5 ∧ Zn gI (gI + 1) WK wr) (fun t _ => no - (intOf t).toNat)
                            case atStart => exact ⟨0, spL Lo, rfl, Nat.zero_le _, hide (by rw [spL_len, NO.out]), QK.out.i_, Zn.refl _ _ _⟩
                            case round =>
                              obtain ⟨j, zs, rfl, hj, hzl, hB, hZ⟩ := hrel
                              have BB := hide hB
                              have ZZ := hide hZ
                              clear hB hZ
                              by_cases hlt : j < no
                              · have hji : (j : Int) < (no : Int) := by omega
                                have hjz : j < zs.length := by rw [hzl.out]; omega
                                obtain ⟨x, hx⟩ : ∃ x, x = zs[j] := ⟨_, rfl⟩
                                have c1 := BB.out.atU j x (by rw [hx]; exact List.getElem?_eq_getElem hjz)
                                have f1 := BB.out.frozen j
                                obtain ⟨y, hy⟩ := xor_u8 x
                                have B2 := hide (BB.out.setU j y)
                                have Z2 := hide (ZZ.out.trans (Zn.set (N := gI) (M := gI + 1) wr (g := gI) j (.int .u8 (y.toNat : Int)) (Nat.le_refl _) (by omega)))
                                have HZL := hzl
                                clear hx hjz hzl BB ZZ
                                go_wp2
                                go_roundw
                                case rel => exact ⟨j + 1, zs.set j y, by go_num, by omega, hide (by rw [List.length_set]; exact HZL.out), B2.out, Z2.out⟩
                                case measure => simp [intOf]; omega
                              · have hji : ¬ (j : Int) < (no : Int) := by omega
                                have EM := hide (QK.out.E.zn ZZ.out QK.out.il.2)
                                have QM := hide (ZZ.out.blk QK.out.q (.inr (by have := QK.out.il.1; have := QK.out.ql; have := NM.out; omega)))
                                have OM := hide (QK.out.qo.zn ZZ.out (by have := QK.out.il.1; have := NM.out; omega))
                                clear BB ZZ hzl QK
                                go_wp2_with (first
                                  | ((with_reducible refine wpList_load_obj (.tmp 18) z18 cq QM.out SQ.out ?_ ?_ ?_ ?_); rfl; rfl; rfl)
                                  | ((with_reducible refine wpList_load_obj (.tmp 2) w.heap.size A EM.out.A SA.out ?_ ?_ ?_ ?_); rfl; rfl; rfl)
                                  | (go_at_call 8; (with_reducible refine (SAME.out wr vq cq EM.out HCScq.out (RQ.out _ OM.out)).mono ?_); rintro e WZ ⟨rfl, hbZ⟩; have EZ := hide (EM.out.below hbZ); clear hbZ))
                                go_ret
                                exact ⟨rfl, EZ.out.old⟩
          · have hkb : (ko != 0) = true := by simpa using hk0
            clear hk0
            go_wp2
            go_ret
            exact ⟨rfl, KG.out.E.old⟩
    · go_wp2_with (first
        | ((with_reducible refine wpList_load_obj (.tmp 2) w.heap.size A E.out.A SA.out ?_ ?_ ?_ ?_); rfl; rfl; rfl)
        | (go_at_call 16; (with_reducible refine ((FO.out W0 E.out).1 fo).mono ?_); rintro e W1 ⟨rfl, hb1⟩; have E1 := hide (E.out.below hb1); clear hb1)
        | ((with_reducible refine wpList_load_obj (.tmp 3) (w.heap.size + 1) B E1.out.B SB.out ?_ ?_ ?_ ?_); rfl; rfl; exact wanted_yes (j := 3) (b := false) (t := 27) rfl rfl rfl (by decide : (27 : Nat) < 225))
        | (go_at_call 16; (with_reducible refine ((FR.out W1 E1.out).2 fr).mono ?_); rintro e W2 ⟨rfl, hb2⟩; have E2 := hide (E1.out.below hb2); clear hb2))
      go_ret
      exact ⟨rfl, E2.out.old⟩
  · go_wp2_with (first
      | ((with_reducible refine wpList_load_obj (.tmp 2) w.heap.size A E.out.A SA.out ?_ ?_ ?_ ?_); rfl; rfl; rfl)
      | ((with_reducible refine wpList_off (.tmp 3) ?_ ?_ ?_); rfl; exact wanted_no (j := 3) (b := false) (t := 27) rfl rfl rfl (by decide : (27 : Nat) < 225))
      | (go_at_call 16; (with_reducible refine ((FO.out W0 E.out).2 fo).mono ?_); rintro e W1 ⟨rfl, hb1⟩; have E1 := hide (E.out.below hb1); clear hb1))
    go_ret
    exact ⟨rfl, E1.out.old⟩
end Go.Proofs.YtjcfndiceinkjabDoor
