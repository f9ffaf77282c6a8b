/- The document's Key. -/
import Derived.Test.YtinjcefekbpabaaR4
namespace Go.Proofs.Ytinjcefekbpabaa
set_option linter.unusedVariables false
set_option linter.unusedSimpArgs false
open Go.RowKit

def zerosK : Array Value := #[.int .u8 0, .int .u8 0, .int .u8 0, .int .u8 0, .int .u8 0, .int .u8 0, .int .u8 0, .int .u8 0, .int .u8 0, .int .u8 0, .int .u8 0, .int .u8 0, .int .u8 0, .int .u8 0, .int .u8 0, .int .u8 0, .int .u8 0, .int .u8 0, .int .u8 0, .int .u8 0, .int .u8 0, .int .u8 0, .int .u8 0, .int .u8 0, .int .u8 0, .int .u8 0, .int .u8 0, .int .u8 0, .int .u8 0, .int .u8 0, .int .u8 0, .int .u8 0]
theorem zerosK_eq : zerosK = ((List.replicate 32 (0 : UInt8)).map u8c).toArray := rfl
def padK (xs : List UInt8) (j : Nat) : List UInt8 := xs.take j ++ List.replicate (32 - j) 0
theorem padK_len (xs : List UInt8) (j : Nat) (h : j ≤ xs.length) (h2 : xs.length ≤ 32) : (padK xs j).length = 32 := by unfold padK; simp; omega
theorem padK_set (xs : List UInt8) (j : Nat) (h : j < xs.length) (h2 : xs.length ≤ 32) : ((padK xs j).map u8c).toArray.setIfInBounds j (u8c xs[j]) = ((padK xs (j + 1)).map u8c).toArray := by
  unfold padK
  rw [List.setIfInBounds_toArray]
  congr 1
  rw [List.take_succ_eq_append_getElem h]
  have e : 32 - j = (32 - (j + 1)) + 1 := by omega
  rw [e, List.replicate_succ]
  simp [List.set_append]
  rw [Nat.min_eq_left (by omega)]
  simp
  rw [List.take_succ_eq_append_getElem (i := j) (l := xs.map u8c) (by simpa using h)]
  simp
def KeyR (w : World) (y : Nat) (rv : Value) (bs : List UInt8) (r : Option (List UInt8) × S) (e : Ending) (w' : World) : Prop :=
  e = .returned (.agg (keyCells r.1)) ∧ RefSt w' y rv bs r.2 ∧ w.grownBy w' (some y)
theorem keyPad (r : Option (List UInt8)) (h : ∀ xs, r = some xs → xs.length = 32) : ((padK (r.getD []) (r.getD []).length).map u8c).toArray = keyCells r := by
  rw [keyCells_eq]
  cases r with
  | none => rfl
  | some xs =>
    have := h xs rfl
    simp [padK, keyBytes, this]
    rw [← this, List.take_of_length_le (by simp)]

theorem rangeBlk {w : World} {b : Nat} {xs : List UInt8} {t : TypeId} (hB : Blk w b (xs.map u8c).toArray t) : w.rangeAt b 0 (xs.map u8c) := fun j v hj => by
  rw [Nat.zero_add, hB.cell]
  simpa using hj
theorem key_fin {w w1 w3 w4 : World} {y : Nat} {rv : Value} {bs : List UInt8} {s' : S} {o1 o2 : Obj} (hy : y < w.heap.size) (hrv : ∀ b cap, rv = .slice (some ⟨b, 0, none⟩) bs.length cap → b < w.heap.size)
    (hd : RefSt w1 y rv bs s') (hg : ((w.alloc o1).alloc o2).grownBy w1 (some y)) (hg3 : w1.grownBy w3 (some (w.heap.size + 1))) (hg4 : w3.grownBy w4 (some w.heap.size)) : RefSt w4 y rv bs s' ∧ w.grownBy w4 (some y) := by
  have hs := hg.size
  simp at hs
  have d3 : RefSt w3 y rv bs s' := hd.grown hg3 (fun e => by have := Option.some.inj e; omega) (fun b cap e1 e => by have := Option.some.inj e; have := hrv b cap e1; omega)
  have d4 : RefSt w4 y rv bs s' := d3.grown hg4 (fun e => by have := Option.some.inj e; omega) (fun b cap e1 e => by have := Option.some.inj e; have := hrv b cap e1; omega)
  refine ⟨d4, hg4.os.trans (hg3.os.trans hg.os), hg4.tape.trans (hg3.tape.trans hg.tape), hg4.output.trans (hg3.output.trans hg.output), ?_, fun k hk hne => ?_⟩
  · have := hg3.size; have := hg4.size; omega
  · have a4 := hg4.block k (by have := hg3.size; omega) (fun e => by have := Option.some.inj e; omega)
    have a3 := hg3.block k (by omega) (fun e => by have := Option.some.inj e; omega)
    have a1 := hg.block k (by simp; omega) hne
    rw [a4, a3, a1, Below.heap_alloc _ _ _ (by simp; omega), Below.heap_alloc _ _ _ hk]

set_option maxRecDepth 20000 in
set_option maxHeartbeats 1600000 in
theorem rkey_st (w : World) (y : Nat) (rv : Value) (bs : List UInt8) (s : S) (h : RefSt w y rv bs s) (hlen : bs.length ≤ 140737488355000) :
    Calls Try.prog 61 #[.pointer (some ⟨y, 0, none⟩)] w (KeyR w y rv bs (mNext bs s (mPlace s) 32)) := by
  have hy := h.lt
  have HRV := hide (fun b cap => h.1.blk (b := b) (cap := cap))
  have hb2 : ∀ o1 o2, Below w.heap.size w ((w.alloc o1).alloc o2) := fun o1 o2 => ((Below.refl _ _).alloc (Nat.le_refl _) _).alloc (by simp) _
  have HR := hide (fun o1 o2 => rraw_st ((w.alloc o1).alloc o2) y rv bs s 32 (h.below (hb2 o1 o2)) hlen)
  have hxl := mNext_few bs s (mPlace s) 32
  have HK := hide (keyPad (mNext bs s (mPlace s) 32).1 (mNext_whole bs s (mPlace s) 32))
  rw [show (32 : Int).toNat = 32 from rfl] at HR
  generalize mNext bs s (mPlace s) 32 = r at HR hxl HK ⊢
  clear hb2
  go_enter Try.func61, Try.ntmps61
  go_wp2_with fail
  refine (HR.out _ _).mono ?_
  rintro e w1 ⟨⟨v, rfl, hown⟩, hd, hg⟩
  obtain ⟨xs, hxs⟩ : ∃ xs, r.1.getD [] = xs := ⟨_, rfl⟩
  rw [hxs] at hown hxl HK
  have hrd := Rd_owned hown
  have hbl : ∀ k, v.ownBlock = some k → w.heap.size + 2 ≤ k := fun k hk => by have := (hown.lt k hk).1; simpa using this
  have hB0 : Blk w1 w.heap.size zerosK 35 := ((Blk.made w zerosK 35).alloc (.cells zerosK 35)).grown hg (fun e => by have := Option.some.inj e; omega)
  have hB1 : Blk w1 (w.heap.size + 1) zerosK 35 := by
    have := Blk.made (w.alloc (.cells zerosK 35)) zerosK 35
    rw [World.size_alloc] at this
    exact this.grown hg (fun e => by have := Option.some.inj e; omega)
  clear hxs hown HR
  obtain ⟨ao, c, rfl, hc, hm, hcel⟩ := hrd
  have HC := hide hcel
  have HBL := hide hbl
  have HB0 := hide hB0
  have HB1 := hide hB1
  have HD := hide hd
  have HG := hide hg
  clear hcel hbl hB0 hB1 hd hg
  go_wp2
  go_loopw [5] (fun i wr => ∃ j : Nat, j ≤ xs.length ∧ i = .int .i64 j ∧ Blk wr (w.heap.size + 1) ((padK xs j).map u8c).toArray 35 ∧ w1.grownBy wr (some (w.heap.size + 1))) (fun i _ => xs.length - (intOf i).toNat)
  case atStart => exact ⟨0, Nat.zero_le _, rfl, HB1.out, World.grownBy.refl _ _⟩
  case round =>
    obtain ⟨j, hj, rfl, hblk, hgr⟩ := hrel
    by_cases hlt : j < xs.length
    · obtain ⟨b, o, rfl, hcell⟩ : ∃ b o, ao = some ⟨b, o, none⟩ ∧ ∀ i (h : i < xs.length), w1.cell? ⟨b, o + i, none⟩ = some (u8c xs[i]) := by
        rcases HC.out with ⟨_, h⟩ | h
        · omega
        · exact h
      have hbne : w.heap.size + 2 ≤ b := HBL.out b rfl
      have hck : wr.cell? ⟨b, o + j, none⟩ = some (u8c xs[j]) := hgr.cell (hcell j hlt) (fun e => by have := Option.some.inj e; simp at this; omega)
      have HS := hide (padK_set xs j hlt hxl)
      have hpl := padK_len xs j hj hxl
      obtain ⟨old, hold⟩ : ∃ old, wr.cell? ⟨w.heap.size + 1, j, none⟩ = some old := by
        rw [hblk.cell]; exact ⟨_, Array.getElem?_eq_getElem (by simp; omega)⟩
      have hfr := hblk.frozen j
      have HBK := hide hblk
      clear hcell HC hblk hpl
      have hj32 : (j : Int) < 32 := by omega
      unfold u8c at hck
      obtain ⟨t, ht⟩ : ∃ t, t = xs[j].toNat := ⟨_, rfl⟩
      have htb : t < 256 := by rw [ht]; exact xs[j].toNat_lt
      rw [← ht] at hck
      have HT : Hid (u8c xs[j] = Value.int .u8 (t : Int)) := by rw [ht]; rfl
      clear ht
      go_wp2
      go_roundw
      case rel =>
        have hb' := HBK.out.set j (u8c xs[j])
        rw [HS.out, HT.out] at hb'
        exact ⟨j + 1, by omega, by go_num, hb', grownBy_trans hgr (grownBy_set _ _ _ _)⟩
      case measure => simp [intOf]; omega
    · obtain rfl : j = xs.length := by omega
      have hpl := padK_len xs xs.length (Nat.le_refl _) hxl
      have HRA := hide (rangeBlk hblk)
      have HB0' := hide (HB0.out.grown hgr (fun e => by have := Option.some.inj e; omega))
      have HL1 := hide (show ((padK xs xs.length).map u8c).length = 32 by simp [hpl])
      have HL2 := hide (show ((padK xs xs.length).map u8c).toArray.size = 32 by simp [hpl])
      have HO := hide (all_oneCell_toArray (u8c_one (padK xs xs.length)))
      obtain ⟨cs, hcs⟩ : ∃ cs, cs = (padK xs xs.length).map u8c := ⟨_, rfl⟩
      rw [← hcs] at HRA HL1 HL2 HO HK
      clear hcs hblk hpl
      go_wp2_with (first | ((with_reducible refine wpList_load_key ?_ (.tmp 3) ?_ (w.heap.size + 1) 0 ?_ cs HRA.out HL1.out ?_); rfl; rfl; rfl) | ((with_reducible refine wpList_store_blk ?_ 35 (.tmp 2) (.tmp 20) ?_ w.heap.size 32 zerosK cs.toArray 35 HL2.out ?_ ?_ ?_ HB0'.out infoKey HO.out ?_); rfl; rfl; rfl; rfl; rfl; intro w4 hk4 hg4))
      refine bodyPost_ret (results_cell rfl _ _ _ rfl _ (loadBlk hk4 HL2.out)) rfl ?_
      have hf := key_fin hy HRV.out HD.out HG.out hgr hg4
      exact ⟨by rw [HK.out], hf.1, hf.2⟩
end Go.Proofs.Ytinjcefekbpabaa
