/- Raw of any list, Bytes. -/
import Derived.Test.YtjcfndiceinkjabDoorOE4
import Derived.Laws.OwnMore
namespace Go.Proofs.YtjcfndiceinkjabDoor
set_option linter.unusedVariables false
set_option linter.unusedSimpArgs false
open Go.RowKit
set_option maxRecDepth 20000 in
theorem raw_any (w : World) (X : Nat → Prop) (z : Nat) (xs ys : List UInt8) (v : Value) (h : EncSt w X z xs) (hv : RdA w v ys) (hne : ∀ b o l c, v = .slice (some ⟨b, o, none⟩) l c → 0 < c → b ≠ z) (hlen : xs.length + ys.length ≤ 4611686018427387904) :
    Calls Tryd.prog 77 #[.pointer (some ⟨z, 0, none⟩), v] w (RawE w X z (xs ++ ys)) := by
  have hv' : (Rd w v ys ∧ ∀ b o l c, v = .slice (some ⟨b, o, none⟩) l c → b ≠ z) ∨ ∃ a, v = .slice (some a) 0 0 ∧ ys = [] := by
    rcases hv with hv | hv
    · obtain ⟨ao, c, e, hc, hm, hh⟩ := hv
      rcases Nat.eq_zero_or_pos c with h0 | hp
      · subst h0
        obtain rfl : ys = [] := List.eq_nil_of_length_eq_zero (by omega)
        rcases ao with _ | a
        · exact .inl ⟨⟨none, 0, e, hc, hm, hh⟩, fun b o l c e2 => by rw [e] at e2; cases e2⟩
        · exact .inr ⟨a, e, rfl⟩
      · exact .inl ⟨⟨ao, c, e, hc, hm, hh⟩, fun b o l c' e2 => hne b o l c' e2 (by rw [e] at e2; cases e2; exact hp)⟩
    · exact .inr hv
  rcases hv' with ⟨hv, hne'⟩ | ⟨a, rfl, rfl⟩
  · exact raw_enc w X z xs ys v h hv hne' hlen
  · have H := hide h
    clear h hne
    go_enter Tryd.func77, Tryd.ntmps77
    go_wp2
    go_rounds 1
    go_returns
    exact ⟨rfl, by simpa using H.out, ⟨rfl, rfl, rfl, Nat.le_refl _, fun _ _ _ => rfl⟩⟩

theorem Chain.old {w w' : World} {X : Nat → Prop} {p : Option Addr} {pre : List UInt8} (h : Chain w X p pre) (hb : Below w.heap.size w w') : Chain w' X p pre :=
  h.grown (row := none) (grownBy_below hb) (fun b e => by cases e)
theorem sliceAll (b o : Nat) (W : World) : (Instr.sliceAt 80 (.pointer (some ⟨b, o, none⟩)) none none none).run Tryd.prog W = .ok (.slice (some ⟨b, o, none⟩) 256 256) W := by
  have ha : Tryd.prog.arrayLen 80 = 256 := by kernel_rfl
  have hs : (sizeOf (Tryd.prog.elem 80)).run Tryd.prog W = .ok 1 W := by kernel_rfl
  rw [run_sliceAt_array_all W 80 ⟨b, o, none⟩ (by kernel_rfl), hs, ha]
  simp [Result.andThen, slicedAt, Addr.add_mid]

theorem madeZ (n : Nat) : madeCells #[Value.int .u8 0] n = (List.replicate n (Value.int .u8 0)).toArray := by
  apply Array.ext'
  rw [toList_madeCells_one]

theorem splice_end {α : Type} (n q : Nat) (x : α) (cs : List α) (h : q + cs.length = n) : splice (List.replicate n x) q cs = List.replicate q x ++ cs := by
  unfold splice
  rw [List.take_replicate, List.drop_replicate, Nat.min_eq_left (by omega), show n - (q + cs.length) = 0 by omega]
  simp

theorem splice_in {α : Type} (q n : Nat) (x : α) (cs rest : List α) (h : cs.length = n) : splice (List.replicate (q + n) x ++ rest) q cs = List.replicate q x ++ (cs ++ rest) := by
  subst h
  unfold splice
  rw [List.take_append_of_le_length (by simp), List.take_replicate, Nat.min_eq_left (by omega), List.drop_append, List.drop_of_length_le (by simp)]
  simp

def BytesC (w : World) (xs : List UInt8) (e : Ending) (w' : World) : Prop :=
  ∃ v, e = .returned v ∧ w'.ownsRow w.heap.size 5 1 v xs.length (xs.map u8c) ∧ Below w.heap.size w w'

set_option maxRecDepth 20000 in
set_option maxHeartbeats 3200000 in
theorem ebytes_enc (w : World) (X : Nat → Prop) (z : Nat) (xs : List UInt8) (h : EncSt w X z xs) (hlen : xs.length ≤ 281474976710656) :
    Calls Tryd.prog 22 #[.pointer (some ⟨z, 0, none⟩)] w (BytesC w xs) := by
  obtain ⟨m, l, p, pre, part, tl, h1, h2, h3, h4, h5, h6⟩ := h
  obtain ⟨N, hN⟩ : ∃ N, xs.length = N := ⟨_, rfl⟩
  rw [hN] at h6 hlen
  have hmk := make_u8 N (by omega)
  have hmod := h1.mod
  have hsum : pre.length + part.length = N := by rw [← hN, h2, List.length_append]
  obtain ⟨r, hr⟩ : ∃ r, part.length = r := ⟨_, rfl⟩
  obtain ⟨q, hq⟩ : ∃ q, pre.length = q := ⟨_, rfl⟩
  have hrem : (N : Int).tmod 256 = (r : Int) := by rw [Int.tmod_eq_emod_of_nonneg (by omega)]; omega
  have hwr : IntKind.i64.wrap ((N : Int) - (r : Int)) = (q : Int) := by rw [IntKind.wrap_i64]; omega
  have c0 := h6.cell 0
  rw [enc_0] at c0
  have c257 := h6.cell 257
  rw [enc_257 _ _ _ h4] at c257
  have HB := hide h6
  have HCH := hide h1
  have H2 := hide h2
  have H5 := hide h5
  have HQ := hide (And.intro hq hr)
  have HNQ : Hid (q + r = N ∧ r < 256) := hide (by omega)
  have hqN : q ≤ N := by omega
  have hz : z < w.heap.size := l z m
  obtain ⟨o', ho', hcut, hcut2⟩ := sliceCut w.heap.size 0 N N q hqN (Nat.le_refl _)
  have HO := hide ho'
  have hall := sliceAll z 1
  clear h6 h1 h2 h5 m l hmod hsum hq hr ho'
  go_enter Tryd.func22, Tryd.ntmps22
  go_wp2_with fail
  have hz1 := (HB.out.alloc (.cells (madeCells #[.int .u8 0] N) 5)).cell 257
  rw [enc_257 _ _ _ h4] at hz1
  obtain ⟨Z, hZ⟩ : ∃ Z, Z = List.replicate N (Value.int .u8 0) := ⟨_, rfl⟩
  have hmz : madeCells #[Value.int .u8 0] N = Z.toArray := by rw [hZ]; exact madeZ N
  rw [hmz] at hz1 ⊢
  have HZ := hide hZ
  have HG0 := hide (Blk.made w Z.toArray 5)
  have HB0 : Hid (Below w.heap.size w (w.alloc (.cells Z.toArray 5))) := (Below.refl _ _).alloc (Nat.le_refl _) _
  have c00 := (HB.out.alloc (.cells Z.toArray 5)).cell 0
  rw [enc_0] at c00
  clear hmz hZ c0 c257 hmk
  generalize w.alloc (.cells Z.toArray 5) = W1 at HG0 HB0 hz1 c00 ⊢
  go_region
  go_wp2_with fail
  obtain ⟨pc, hpc⟩ : ∃ pc, pc = part.map u8c := ⟨_, rfl⟩
  have HPC := hide hpc
  have hpl : pc.length = r := by rw [hpc, List.length_map]; exact HQ.out.2
  have hrN : N - q = r := by have := HNQ.out; omega
  have hsrc : ∀ j v, pc[j]? = some v → W1.cell? ((⟨z, 1, none⟩ : Addr).add j) = some v := by
    intro j v hj
    rw [Addr.add_mid]
    have hjl : j < r := by
      rcases Nat.lt_or_ge j r with g | g
      · exact g
      · rw [List.getElem?_eq_none (by omega)] at hj; cases hj
    refine rangeTail (HB.out.below HB0.out hz) j v ?_
    rw [hpc, ← H5.out, List.map_take, List.getElem?_take_of_lt (by have := HQ.out.2; omega)] at hj
    exact hj
  have hone : ∀ v ∈ pc, v.oneCell' = true := by rw [hpc]; exact u8c_one _
  have HSRC := hide hsrc
  have HONE := hide hone
  clear hsrc hone hpc
  go_region_law (refine step_copy_splice rfl (.tmp 25) (.tmp 29) 23 23 rfl 5 Tryd.underlying23 infoU8s (some ⟨w.heap.size, o', none⟩) (some ⟨z, 1, none⟩) r r 256 256 (by simp [Act.eval, Act.put]) (by simp [Act.eval, Act.put]) w.heap.size q Z 5 HG0.out pc (by rw [hpl]; exact (Nat.min_eq_right (by have := HNQ.out; omega)).symm) (fun hp => ⟨by rw [HO.out (by omega), Nat.zero_add], _, rfl, HSRC.out⟩) (by have := HZ.out; rw [this, List.length_replicate]; omega) HONE.out w.heap.size w ⟨HB0.out.os, HB0.out.tape, HB0.out.output, HB0.out.size, HB0.out.block⟩ (Nat.le_refl _) ?_; intro w2 HG2 hb2)
  have HG3 : Hid (Blk w2 w.heap.size (List.replicate q (Value.int .u8 0) ++ pc).toArray 5) := hide (by
    have := HG2.out
    rw [HZ.out, splice_end _ _ _ _ (by rw [hpl]; have := HNQ.out; omega)] at this
    exact this)
  have hzb := HB.out.below hb2 hz
  have c0 := hzb.cell 0
  rw [enc_0] at c0
  have HB2 := hide hb2
  clear HG2 hb2 hzb hz1 c00 hcut hcut2 hall hwr hrem
  go_wp2_with fail
  clear c0
  go_loopw [4, 5] (fun pos bp wr => ∃ (q2 : Nat) (p2 : Option Addr) (pre2 rest : List UInt8), pos = .int .i64 q2 ∧ bp = .pointer p2 ∧ pre2.length = q2 ∧ Chain w X p2 pre2 ∧ xs = pre2 ++ rest ∧ Blk wr w.heap.size (List.replicate q2 (Value.int .u8 0) ++ rest.map u8c).toArray 5 ∧ Below w.heap.size w wr) (fun pos _ _ => (intOf pos).toNat)
  case atStart => exact ⟨q, p, pre, part, rfl, rfl, HQ.out.1, HCH.out, H2.out, by rw [← HPC.out]; exact HG3.out, HB2.out⟩
  case round =>
    obtain ⟨q2, p2, pre2, rest, rfl, rfl, hq2, hch, hxs, hB, hbw⟩ := hrel
    have HBw := hide hbw
    have HBr := hide hB
    have HXS := hide hxs
    have hxl : q2 + rest.length = N := by rw [← hN, hxs, List.length_append, hq2]
    clear hbw hB hxs
    rcases hch.last with ⟨rfl, rfl⟩ | ⟨p3, pre3, blk, b, rfl, rfl, hch3, hBk, hbl, hXb⟩
    · obtain rfl : q2 = 0 := by simpa using hq2.symm
      go_wp2
      go_ret
      refine ⟨_, rfl, ?_, HBw.out⟩
      have e := HXS.out
      rw [List.nil_append] at e
      subst e
      rw [hN]
      refine ⟨by simp [hN], .inr ⟨w.heap.size, N, _, rfl, Nat.le_refl _, HBr.out, Nat.le_refl _, by unfold maxLen; omega, ?_, ?_⟩⟩
      · simp [hN]
      · rw [show N * 1 = N by omega]
        simp only [List.replicate_zero, List.nil_append]
        exact List.take_of_length_le (by simp [hN])
    · have HC3 := hide hch3
      obtain ⟨q3, hq3⟩ : ∃ q3, pre3.length = q3 := ⟨_, rfl⟩
      have h23 : q2 = q3 + 256 := by rw [← hq2, List.length_append, hbl, hq3]
      have hbs : b < w.heap.size := hBk.lt
      have hBk2 := hBk.below HBw.out hbs
      have cb := hBk2.cell 0
      simp only [List.getElem?_toArray, List.getElem?_cons_zero] at cb
      have hwr : IntKind.i64.wrap ((q2 : Int) - 256) = (q3 : Int) := by rw [IntKind.wrap_i64]; omega
      obtain ⟨o2, ho2, hcut, hcut2⟩ := sliceCut w.heap.size 0 N N q3 (by omega) (Nat.le_refl _)
      obtain ⟨dd, hdd⟩ : ∃ dd, N - q3 = dd := ⟨_, rfl⟩
      rw [hdd] at hcut hcut2
      have hall := sliceAll b 1
      obtain ⟨bc, hbc⟩ : ∃ bc, bc = blk.map u8c := ⟨_, rfl⟩
      have hbcl : bc.length = 256 := by rw [hbc, List.length_map]; exact hbl
      have hsrc : ∀ j v, bc[j]? = some v → wr.cell? ((⟨b, 1, none⟩ : Addr).add j) = some v := by
        intro j v hj
        rw [Addr.add_mid, hBk2.cell, List.getElem?_toArray, Nat.add_comm, List.getElem?_cons_succ, ← hbc]
        exact hj
      have hone : ∀ v ∈ bc, v.oneCell' = true := by rw [hbc]; exact u8c_one _
      obtain ⟨cur, hcur⟩ : ∃ cur, cur = List.replicate q2 (Value.int .u8 0) ++ rest.map u8c := ⟨_, rfl⟩
      rw [← hcur] at HBr
      have hcl : cur.length = N := by rw [hcur]; simp; omega
      have HSP : Hid (splice cur q3 bc = List.replicate q3 (Value.int .u8 0) ++ (blk ++ rest).map u8c) := hide (by rw [hcur, h23, splice_in q3 256 _ bc _ hbcl, hbc, List.map_append])
      have HSRC2 := hide hsrc
      have HONE2 := hide hone
      have HO2 := hide ho2
      have HBC := hide hbc
      have HBB := hide hBk2
      clear hsrc hone ho2 hbc hBk hBk2 hcur HO HSRC HONE hch3
      go_wp2_with fail
      go_region_law (refine step_copy_splice rfl (.tmp 45) (.tmp 49) 23 23 rfl 5 Tryd.underlying23 infoU8s (some ⟨w.heap.size, o2, none⟩) (some ⟨b, 1, none⟩) dd dd 256 256 (by simp [Act.eval, Act.put]) (by simp [Act.eval, Act.put]) w.heap.size q3 cur 5 HBr.out bc (by rw [hbcl]; exact (Nat.min_eq_left (by omega)).symm) (fun hp => ⟨by rw [HO2.out (by omega), Nat.zero_add], _, rfl, HSRC2.out⟩) (by omega) HONE2.out w.heap.size w ⟨HBw.out.os, HBw.out.tape, HBw.out.output, HBw.out.size, HBw.out.block⟩ (Nat.le_refl _) ?_; intro w4 HG4 hb4)
      have hB4 := HBB.out
      have cb4 : w4.cell? ⟨b, 0, none⟩ = some (.pointer p3) := ((hb4.cell (p := ⟨b, 0, none⟩) hbs).trans (HBw.out.cell (p := ⟨b, 0, none⟩) hbs).symm).trans cb
      have HG5 := hide HG4.out
      rw [HSP.out] at HG5
      have HB4 := hide hb4
      clear hB4 HG4 hb4 cb hcut hcut2 hall hwr
      go_wp2
      go_roundw
      case rel => exact ⟨q3, p3, pre3, blk ++ rest, rfl, rfl, hq3, HC3.out, by rw [HXS.out, List.append_assoc], HG5.out, HB4.out⟩
      case measure => simp [intOf]; omega
end Go.Proofs.YtjcfndiceinkjabDoor
