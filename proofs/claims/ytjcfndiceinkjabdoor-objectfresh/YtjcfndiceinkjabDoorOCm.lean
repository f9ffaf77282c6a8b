/- Of lists and snapshots, why they may not be: both ways. -/
import Derived.Test.YtjcfndiceinkjabDoorOB14
import Derived.Test.YtjcfndiceinkjabDoorON7
namespace Go.Proofs.YtjcfndiceinkjabDoor
set_option linter.unusedVariables false
set_option linter.unusedSimpArgs false
open Go.RowKit Go.Lib

/-- Do the sizes fit in what is left? -/
def tot : List Nat → Nat → Bool
  | [], _ => true
  | s :: L, left => if left < s then false else tot L (left - s)
def wrongListO (L : List PartR) : Int := if 128 < L.length then 42 else if tot (L.map (·.2)) 9223372036854775807 then 0 else 47
def wrongSnapO (ps : List (List UInt8)) (note : List UInt8) : Int := if 127 < ps.length then 42 else if 1024 < note.length then 46 else if validD note then 0 else 46
theorem isMode_any (m : Nat) (w : World) : Calls Tryd.prog 94 #[.int .u8 (m : Int)] w fun e w' => e = .returned (.bool (decide (1 ≤ m) && decide (m ≤ 4))) ∧ w' = w := by
  by_cases h1 : 1 ≤ m
  · have a1 : (1 : Int) ≤ (m : Int) := by omega
    by_cases h2 : m ≤ 4
    · have a2 : (m : Int) ≤ 4 := by omega
      rw [decide_eq_true h1, decide_eq_true h2]
      go_enter Tryd.func94, Tryd.ntmps94
      go_wp2
      go_ret
      exact ⟨rfl, rfl⟩
    · have a2 : ¬ (m : Int) ≤ 4 := by omega
      rw [decide_eq_true h1, decide_eq_false h2]
      go_enter Tryd.func94, Tryd.ntmps94
      go_wp2
      go_ret
      exact ⟨rfl, rfl⟩
  · have a1 : ¬ (1 : Int) ≤ (m : Int) := by omega
    rw [decide_eq_false h1]
    go_enter Tryd.func94, Tryd.ntmps94
    go_wp2
    go_ret
    exact ⟨rfl, rfl⟩
def ErrC (w : World) (r : Int) (e : Ending) (w' : World) : Prop := e = .returned (.int .i64 r) ∧ Below w.heap.size w w'
set_option maxRecDepth 20000 in
theorem wrongSnap_any (w : World) (hT : Tabs8 w) (v : Value) (ps : List (List UInt8)) (note : List UInt8) (hv : RowR w v 32 (ps.map keyC)) : Calls Tryd.prog 64 #[v, .string ⟨note.toArray⟩] w (ErrC w (wrongSnapO ps note)) := by
  obtain ⟨ao, c, rfl, hpl⟩ := hv.slice
  rw [List.length_map] at hpl ⊢
  have HT8 := hide hT
  obtain ⟨n, hn⟩ : ∃ n, n = ps.length := ⟨_, rfl⟩
  obtain ⟨m, hm⟩ : ∃ m, m = note.length := ⟨_, rfl⟩
  obtain ⟨V, hV⟩ : ∃ V, V = validD note := ⟨_, rfl⟩
  have HE : Hid (wrongSnapO ps note = if 127 < n then 42 else if 1024 < m then 46 else if V then 0 else 46) := hide (by unfold wrongSnapO; rw [hn, hm, hV])
  have hsz : (⟨note.toArray⟩ : ByteArray).size = m := by rw [hm]; simp [ByteArray.size]
  rw [← hn] at hpl ⊢
  have HM := hide hm
  have HVV := hide hV
  clear hv hn hm hV hT
  by_cases h1 : 127 < n
  · have a1 : (127 : Int) < (n : Int) := by omega
    have HF : Hid (wrongSnapO ps note = 42) := hide (by rw [HE.out, if_pos h1])
    go_enter Tryd.func64, Tryd.ntmps64
    go_wp2
    go_ret
    exact ⟨by rw [HF.out]; rfl, Below.refl _ _⟩
  have a1 : ¬ (127 : Int) < (n : Int) := by omega
  by_cases h2 : 1024 < m
  · have a2 : (1024 : Int) < (m : Int) := by omega
    have HF : Hid (wrongSnapO ps note = 46) := hide (by rw [HE.out, if_neg h1, if_pos h2])
    go_enter Tryd.func64, Tryd.ntmps64
    go_wp2
    go_ret
    exact ⟨by rw [HF.out]; rfl, Below.refl _ _⟩
  have a2 : ¬ (1024 : Int) < (m : Int) := by omega
  have HV := hide (valid_any note (by rw [← HM.out]; omega) w HT8.out)
  rw [← HVV.out] at HV
  clear HVV HM HT8
  cases V with
  | true =>
    have HF : Hid (wrongSnapO ps note = 0) := hide (by rw [HE.out, if_neg h1, if_neg h2]; rfl)
    go_enter Tryd.func64, Tryd.ntmps64
    go_wp2_with fail
    refine HV.out.mono ?_
    rintro e w1 ⟨rfl, hb1⟩
    have HB1 := hide hb1
    clear hb1
    go_wp2
    go_ret
    exact ⟨by rw [HF.out]; rfl, HB1.out⟩
  | false =>
    have HF : Hid (wrongSnapO ps note = 46) := hide (by rw [HE.out, if_neg h1, if_neg h2]; rfl)
    go_enter Tryd.func64, Tryd.ntmps64
    go_wp2_with fail
    refine HV.out.mono ?_
    rintro e w1 ⟨rfl, hb1⟩
    have HB1 := hide hb1
    clear hb1
    go_wp2
    go_ret
    exact ⟨by rw [HF.out]; rfl, HB1.out⟩
end Go.Proofs.YtjcfndiceinkjabDoor

/- Of lists, why they may not be: both ways. -/
namespace Go.Proofs.YtjcfndiceinkjabDoor
set_option linter.unusedVariables false
set_option linter.unusedSimpArgs false
open Go.RowKit

theorem drop_cons {α : Type} (L : List α) (k : Nat) (h : k < L.length) : L.drop k = L[k] :: L.drop (k + 1) := List.drop_eq_getElem_cons h
theorem partC_size {w : World} {b o : Nat} {p : PartR} (hp : okP p) (h : w.rangeAt b o (partC p)) : w.cell? ⟨b, o + 32, none⟩ = some (.int .u64 (p.2 : Int)) := by
  unfold okP at hp
  refine h 32 _ ?_
  unfold partC
  rw [List.getElem?_append_right (by simp [hp])]; simp [hp]
def zP : Array Value := (partC (zero32, 0)).toArray
theorem zero_part (W : World) : (zeroValue 49).run Tryd.prog W = .ok (.agg zP) W := by kernel_rfl
theorem wu64 (n : Nat) (h : n ≤ 9223372036854775807) : IntKind.u64.wrap (n : Int) = (n : Int) := by
  simp [IntKind.wrap, IntKind.bits, IntKind.signed]; omega
set_option maxRecDepth 20000 in
set_option maxHeartbeats 2000000 in
theorem wrongList_any (w : World) (v : Value) (L : List PartR) (ok : ∀ p ∈ L, okP p) (hv : RowR w v 33 (L.map partC)) : Calls Tryd.prog 62 #[v] w (ErrC w (wrongListO L)) := by
  have HV := hide hv
  obtain ⟨ao, c, ev, hpl⟩ := hv.slice
  rw [List.length_map] at hpl ev
  have EV := hide ev
  rw [ev]
  obtain ⟨n, hn⟩ : ∃ n, n = L.length := ⟨_, rfl⟩
  rw [← hn] at hpl EV ⊢
  have HN := hide hn
  have hz0 := zero_part
  clear hv ev hn
  by_cases h1 : 128 < n
  · have a1 : (128 : Int) < (n : Int) := by omega
    have HF : Hid (wrongListO L = 42) := hide (by unfold wrongListO; rw [← HN.out, if_pos h1])
    go_enter Tryd.func62, Tryd.ntmps62
    go_wp2
    go_ret
    exact ⟨by rw [HF.out]; rfl, Below.refl _ _⟩
  have a1 : ¬ (128 : Int) < (n : Int) := by omega
  obtain ⟨T, hT⟩ : ∃ T, T = tot (L.map (·.2)) 9223372036854775807 := ⟨_, rfl⟩
  have HT := hide hT
  have HF : Hid (wrongListO L = if T then 0 else 47) := hide (by unfold wrongListO; rw [← HN.out, if_neg h1, hT])
  clear hT
  go_enter Tryd.func62, Tryd.ntmps62
  go_wp2
  go_loopw [3, 11] (fun s3 s11 wr => ∃ (k left : Nat), s3 = .int .u64 left ∧ s11 = .int .i64 k ∧ k ≤ n ∧ left ≤ 9223372036854775807 ∧ tot ((L.drop k).map (·.2)) left = T ∧ Below w.heap.size w wr) (fun _ s11 _ => n - (intOf s11).toNat)
  case atStart => exact ⟨0, 9223372036854775807, rfl, rfl, by omega, Nat.le_refl _, HT.out.symm, Below.refl _ _⟩
  case round =>
    obtain ⟨k, left, rfl, rfl, hk, hlf, ht, hW⟩ := hrel
    have HTt := hide ht
    have HW := hide hW
    clear ht
    by_cases hlt : k < n
    · have hki : (k : Int) < (n : Int) := by omega
      have k1 : k < L.length := by rw [← HN.out]; exact hlt
      obtain ⟨b, s, d, f1, r1⟩ := HV.out.at k (by rw [List.length_map]; exact k1)
      obtain ⟨g1, -, -⟩ := slice_of EV.out f1
      subst g1
      rw [List.getElem_map] at r1
      obtain ⟨p, hp⟩ : ∃ p, p = L[k] := ⟨_, rfl⟩
      have op : okP p := by rw [hp]; exact ok _ (List.getElem_mem _)
      rw [← hp] at r1
      have R1 := hide (rangeAt_below r1 hW)
      have OPp := hide op
      have HS : Hid (tot ((L.drop k).map (·.2)) left = if left < p.2 then false else tot ((L.drop (k + 1)).map (·.2)) (left - p.2)) := hide (by rw [drop_cons L k k1, ← hp]; rfl)
      obtain ⟨sz, hsz⟩ : ∃ z, z = p.2 := ⟨_, rfl⟩
      have PS : Hid ((partC p).toArray.size = 33) := hide (by simp [partC_len p OPp.out])
      have ZS : Hid (zP.size = 33) := hide rfl
      have P1 := hide (all_oneCell_toArray (partC_one p))
      have ZB : Hid (Blk (wr.alloc (.cells zP 49)) wr.heap.size zP 49) := hide (Blk.made wr _ _)
      rw [← hsz] at HS
      have HSz := hide hsz
      clear r1 f1 hp op hW hsz
      by_cases hbig : left < sz
      · have hbi : (left : Int) < (sz : Int) := by omega
        have HE : Hid (T = false) := hide (by rw [← HTt.out, HS.out, if_pos hbig])
        go_wp2_with (first
          | ((with_reducible refine wpList_load_partAt (.tmp 13) b (s + k * 33) p OPp.out R1.out ?_ ?_ ?_ ?_); rfl; rfl; rfl)
          | ((with_reducible refine wpList_store_blk ?_ 49 (.tmp 5) (.tmp 14) ?_ wr.heap.size 33 zP (partC p).toArray 49 PS.out ZS.out ?_ ?_ ZB.out infoPart P1.out ?_); rfl; rfl; rfl; rfl; intro w2 hk2 hg2; have c32 : w2.cell? ⟨wr.heap.size, 32, none⟩ = some (.int .u64 (sz : Int)) := (by have := partC_size OPp.out (range_blk (cs := (partC p).toArray) hk2); rw [HSz.out]; simpa using this)))
        go_ret
        exact ⟨by rw [HF.out, HE.out]; rfl, HW.out.trans (((below_alloc wr _).trans (below_grownBy hg2 (Nat.le_refl _) (below_alloc wr _).size)).mono HW.out.size)⟩
      · have hbi : ¬ (left : Int) < (sz : Int) := by omega
        have HE : Hid (tot ((L.drop (k + 1)).map (·.2)) (left - sz) = T) := hide (by rw [← HTt.out, HS.out, if_neg hbig])
        obtain ⟨l2, hl2⟩ : ∃ z, z = left - sz := ⟨_, rfl⟩
        rw [← hl2] at HE
        have hw2 : IntKind.u64.wrap ((left : Int) - (sz : Int)) = (l2 : Int) := by rw [show (left : Int) - (sz : Int) = (l2 : Int) by omega]; exact wu64 l2 (by omega)
        have hl3 : l2 ≤ 9223372036854775807 := by omega
        clear hl2
        go_wp2_with (first
          | ((with_reducible refine wpList_load_partAt (.tmp 13) b (s + k * 33) p OPp.out R1.out ?_ ?_ ?_ ?_); rfl; rfl; rfl)
          | ((with_reducible refine wpList_store_blk ?_ 49 (.tmp 5) (.tmp 14) ?_ wr.heap.size 33 zP (partC p).toArray 49 PS.out ZS.out ?_ ?_ ZB.out infoPart P1.out ?_); rfl; rfl; rfl; rfl; intro w2 hk2 hg2; have c32 : w2.cell? ⟨wr.heap.size, 32, none⟩ = some (.int .u64 (sz : Int)) := (by have := partC_size OPp.out (range_blk (cs := (partC p).toArray) hk2); rw [HSz.out]; simpa using this)))
        exact ⟨⟨k + 1, l2, rfl, by go_num, by omega, hl3, HE.out, HW.out.trans (((below_alloc wr _).trans (below_grownBy hg2 (Nat.le_refl _) (below_alloc wr _).size)).mono HW.out.size)⟩, by simp [intOf]; omega⟩
    · have hki : ¬ (k : Int) < (n : Int) := by omega
      have HE : Hid (T = true) := hide (by rw [← HTt.out, List.drop_eq_nil_of_le (by rw [← HN.out]; omega)]; rfl)
      go_wp2
      go_ret
      exact ⟨by rw [HF.out, HE.out]; rfl, HW.out⟩
end Go.Proofs.YtjcfndiceinkjabDoor

/- Of lists, as the document tells it; how many kids. -/
namespace Go.Proofs.YtjcfndiceinkjabDoor
set_option linter.unusedVariables false
set_option linter.unusedSimpArgs false
open Go.RowKit

def partsO (L : List PartR) : Int := if tot (L.map (·.2)) 9223372036854775807 then 0 else 47
set_option maxRecDepth 20000 in
set_option maxHeartbeats 2000000 in
theorem rparts_any (w : World) (v : Value) (L : List PartR) (ok : ∀ p ∈ L, okP p) (hv : RowR w v 33 (L.map partC)) : Calls Tryd.prog 36 #[v] w fun e w' => e = .returned (.int .i64 (partsO L)) ∧ w' = w := by
  have HV := hide hv
  obtain ⟨ao, c, ev, hpl⟩ := hv.slice
  rw [List.length_map] at hpl ev
  have EV := hide ev
  rw [ev]
  obtain ⟨n, hn⟩ : ∃ n, n = L.length := ⟨_, rfl⟩
  rw [← hn] at hpl EV ⊢
  have HN := hide hn
  clear hv ev hn
  obtain ⟨T, hT⟩ : ∃ T, T = tot (L.map (·.2)) 9223372036854775807 := ⟨_, rfl⟩
  have HT := hide hT
  have HF : Hid (partsO L = if T then 0 else 47) := hide (by unfold partsO; rw [hT])
  clear hT
  go_enter Tryd.func36, Tryd.ntmps36
  go_wp2
  go_loopw [3, 4] (fun s3 s4 wr => ∃ (k sum : Nat), s3 = .int .u64 sum ∧ s4 = .int .i64 k ∧ k ≤ n ∧ sum ≤ 9223372036854775807 ∧ tot ((L.drop k).map (·.2)) (9223372036854775807 - sum) = T ∧ wr = w) (fun _ s4 _ => n - (intOf s4).toNat)
  case atStart => exact ⟨0, 0, rfl, rfl, by omega, by omega, HT.out.symm, rfl⟩
  case round =>
    obtain ⟨k, sum, rfl, rfl, hk, hlf, ht, hw⟩ := hrel
    subst hw
    have HTt := hide ht
    clear ht
    by_cases hlt : k < n
    · have hki : (k : Int) < (n : Int) := by omega
      have k1 : k < L.length := by rw [← HN.out]; exact hlt
      obtain ⟨b, s, d, f1, r1⟩ := HV.out.at k (by rw [List.length_map]; exact k1)
      obtain ⟨g1, -, -⟩ := slice_of EV.out f1
      subst g1
      rw [List.getElem_map] at r1
      obtain ⟨p, hp⟩ : ∃ p, p = L[k] := ⟨_, rfl⟩
      have op : okP p := by rw [hp]; exact ok _ (List.getElem_mem _)
      rw [← hp] at r1
      have c32 := partC_size op r1
      obtain ⟨left, hleft⟩ : ∃ z, z = 9223372036854775807 - sum := ⟨_, rfl⟩
      have HS : Hid (tot ((L.drop k).map (·.2)) left = if left < p.2 then false else tot ((L.drop (k + 1)).map (·.2)) (left - p.2)) := hide (by rw [drop_cons L k k1, ← hp]; rfl)
      rw [← hleft] at HTt
      obtain ⟨sz, hsz⟩ : ∃ z, z = p.2 := ⟨_, rfl⟩
      rw [← hsz] at HS c32
      have hw1 : IntKind.u64.wrap (9223372036854775807 - (sum : Int)) = (left : Int) := by rw [show 9223372036854775807 - (sum : Int) = (left : Int) by omega]; exact wu64 left (by omega)
      clear r1 f1 hp op hsz
      by_cases hbig : left < sz
      · have hbi : (left : Int) < (sz : Int) := by omega
        have HE : Hid (T = false) := hide (by rw [← HTt.out, HS.out, if_pos hbig])
        clear hleft
        go_wp2
        go_ret
        exact ⟨by rw [HF.out, HE.out]; rfl, rfl⟩
      · have hbi : ¬ (left : Int) < (sz : Int) := by omega
        obtain ⟨s2, hs2⟩ : ∃ z, z = sum + sz := ⟨_, rfl⟩
        have HE : Hid (tot ((L.drop (k + 1)).map (·.2)) (9223372036854775807 - s2) = T) := hide (by rw [← HTt.out, HS.out, if_neg hbig, show 9223372036854775807 - s2 = left - sz by omega])
        have hw2 : IntKind.u64.wrap ((sum : Int) + (sz : Int)) = (s2 : Int) := by rw [show (sum : Int) + (sz : Int) = (s2 : Int) by omega]; exact wu64 s2 (by omega)
        have hl3 : s2 ≤ 9223372036854775807 := by omega
        clear hs2 hleft
        go_wp2
        exact ⟨⟨k + 1, s2, rfl, by go_num, by omega, hl3, HE.out, by trivial⟩, by simp [intOf]; omega⟩
    · have hki : ¬ (k : Int) < (n : Int) := by omega
      have HE : Hid (T = true) := hide (by rw [← HTt.out, List.drop_eq_nil_of_le (by rw [← HN.out]; omega)]; rfl)
      go_wp2
      go_ret
      exact ⟨by rw [HF.out, HE.out]; rfl, rfl⟩
end Go.Proofs.YtjcfndiceinkjabDoor

/- Of trees, why they may not be. -/
namespace Go.Proofs.YtjcfndiceinkjabDoor
set_option linter.unusedVariables false
set_option linter.unusedSimpArgs false
open Go.RowKit

def badMode (m s : Nat) : Bool := !(decide (1 ≤ m) && decide (m ≤ 4)) || (decide (m = 3) && !decide (s = 0))
/-- Item by item, behind the name that stands ahead. -/
def treeL : List ItemR → List UInt8 → Int
  | [], _ => 0
  | i :: L, ahead => if nameL i.1 = false then 43 else if (Op.bytesLess i.1 ahead || i.1 == ahead) = true then 44 else if badMode i.2.1 i.2.2.1 = true then 45 else treeL L i.1
def wrongTreeO (L : List ItemR) : Int := if 128 < L.length then 42 else treeL L []
def zI : Array Value := (itemC ([], 0, 0, zero32)).toArray
theorem zero_item (W : World) : (zeroValue 52).run Tryd.prog W = .ok (.agg zI) W := by kernel_rfl
theorem itemC_name {w : World} {b : Nat} {i : ItemR} {t : TypeId} (h : Blk w b (itemC i).toArray t) : w.cell? ⟨b, 0, none⟩ = some (.string ⟨i.1.toArray⟩) ∧ w.cell? ⟨b, 1, none⟩ = some (.int .u8 (i.2.1 : Int)) ∧ w.cell? ⟨b, 2, none⟩ = some (.int .u64 (i.2.2.1 : Int)) := by
  refine ⟨?_, ?_, ?_⟩ <;> (rw [h.cell]; rfl)
set_option maxRecDepth 20000 in
set_option maxHeartbeats 2000000 in
theorem wrongTree_any (w : World) (hT8 : Tabs8 w) (v : Value) (L : List ItemR) (ok : ∀ p ∈ L, okI p) (hv : RowR w v 35 (L.map itemC)) : Calls Tryd.prog 63 #[v] w (ErrC w (wrongTreeO L)) := by
  have HV := hide hv
  have H8 := hide hT8
  obtain ⟨ao, c, ev, hpl⟩ := hv.slice
  rw [List.length_map] at hpl ev
  have EV := hide ev
  rw [ev]
  obtain ⟨n, hn⟩ : ∃ n, n = L.length := ⟨_, rfl⟩
  rw [← hn] at hpl EV ⊢
  have HN := hide hn
  have hz0 := zero_item
  clear hv ev hn hT8
  by_cases h1 : 128 < n
  · have a1 : (128 : Int) < (n : Int) := by omega
    have HF : Hid (wrongTreeO L = 42) := hide (by unfold wrongTreeO; rw [← HN.out, if_pos h1])
    go_enter Tryd.func63, Tryd.ntmps63
    go_wp2
    go_ret
    exact ⟨by rw [HF.out]; rfl, Below.refl _ _⟩
  have a1 : ¬ (128 : Int) < (n : Int) := by omega
  have HF : Hid (wrongTreeO L = treeL L []) := hide (by unfold wrongTreeO; rw [← HN.out, if_neg h1])
  go_enter Tryd.func63, Tryd.ntmps63
  go_wp2
  go_loopw [3, 11] (fun s3 s11 wr => ∃ (k : Nat) (ahead : List UInt8), s3 = .string ⟨ahead.toArray⟩ ∧ s11 = .int .i64 k ∧ k ≤ n ∧ treeL (L.drop k) ahead = wrongTreeO L ∧ Below w.heap.size w wr) (fun _ s11 _ => n - (intOf s11).toNat)
  case atStart => exact ⟨0, [], rfl, rfl, by omega, HF.out.symm, Below.refl _ _⟩
  case round =>
    obtain ⟨k, ahead, rfl, rfl, hk, ht, hW⟩ := hrel
    have HTt := hide ht
    have HW := hide hW
    clear ht
    by_cases hlt : k < n
    · have hki : (k : Int) < (n : Int) := by omega
      have k1 : k < L.length := by rw [← HN.out]; exact hlt
      obtain ⟨b, s, d, f1, r1⟩ := HV.out.at k (by rw [List.length_map]; exact k1)
      obtain ⟨g1, -, -⟩ := slice_of EV.out f1
      subst g1
      rw [List.getElem_map] at r1
      obtain ⟨p, hp⟩ : ∃ p, p = L[k] := ⟨_, rfl⟩
      have op : okI p := by rw [hp]; exact ok _ (List.getElem_mem _)
      rw [← hp] at r1
      have R1 := hide (rangeAt_below r1 hW)
      have OPp := hide op
      have HS : Hid (treeL (L.drop k) ahead = if nameL p.1 = false then 43 else if (Op.bytesLess p.1 ahead || p.1 == ahead) = true then 44 else if badMode p.2.1 p.2.2.1 = true then 45 else treeL (L.drop (k + 1)) p.1) := hide (by rw [drop_cons L k k1, ← hp]; rfl)
      rw [HTt.out] at HS
      have PS : Hid ((itemC p).toArray.size = 35) := hide (by simp [itemC_len p OPp.out])
      have ZS : Hid (zI.size = 35) := hide rfl
      have P1 := hide (all_oneCell_toArray (itemC_one p))
      have ZB : Hid (Blk (wr.alloc (.cells zI 52)) wr.heap.size zI 52) := hide (Blk.made wr _ _)
      clear r1 f1 hp op hW
      go_wp2_with (first
        | ((with_reducible refine wpList_load_itemAt (.tmp 13) b (s + k * 35) p OPp.out R1.out ?_ ?_ ?_ ?_); rfl; rfl; rfl)
        | ((with_reducible refine wpList_store_blk ?_ 52 (.tmp 5) (.tmp 14) ?_ wr.heap.size 35 zI (itemC p).toArray 52 PS.out ZS.out ?_ ?_ ZB.out infoItem P1.out ?_); rfl; rfl; rfl; rfl; intro w2 hk2 hg2; have c0 := (itemC_name hk2).1))
      have HB2 : Hid (Below wr.heap.size wr w2) := hide ((below_alloc wr _).trans (below_grownBy hg2 (Nat.le_refl _) (below_alloc wr _).size))
      have HW2 := hide (HW.out.trans (HB2.out.mono HW.out.size))
      have HK2 := hide hk2
      clear hk2 hg2 HB2 c0
      refine (isName_all p.1 w2 (H8.out.below HW2.out)).mono ?_
      rintro e w3 ⟨rfl, hb3⟩
      have HW3 := hide (HW2.out.trans (hb3.mono HW2.out.size))
      have hB3 := HK2.out.below hb3 HK2.out.lt
      obtain ⟨c0, c1, c2⟩ := itemC_name hB3
      clear hb3 hB3 HK2 HW2
      obtain ⟨nm, mo, sz, ky⟩ := p
      simp only at c0 c1 c2 HS
      cases hN : nameL nm with
      | false =>
        have HE : Hid (wrongTreeO L = 43) := hide (by rw [HS.out, if_pos hN])
        go_wp2
        go_ret
        exact ⟨by rw [HE.out]; rfl, HW3.out⟩
      | true =>
      have hN' : ¬ nameL nm = false := by rw [hN]; simp
      cases hL : (Op.bytesLess nm ahead || nm == ahead) with
      | true =>
        have HE : Hid (wrongTreeO L = 44) := hide (by rw [HS.out, if_neg hN', if_pos hL])
        clear hN hN'
        go_wp2
        go_ret
        exact ⟨by rw [HE.out]; rfl, HW3.out⟩
      | false =>
      have hL' : ¬ (Op.bytesLess nm ahead || nm == ahead) = true := by rw [hL]; simp
      have HS2 : Hid (wrongTreeO L = if badMode mo sz = true then 45 else treeL (L.drop (k + 1)) nm) := hide (by rw [HS.out, if_neg hN', if_neg hL'])
      clear hN hN' hL'
      go_wp2_with fail
      refine (isMode_any mo w3).mono ?_
      rintro e w4 ⟨rfl, hw4⟩
      rw [← hw4] at HW3 c0 c1 c2
      clear hw4 hL
      cases hM : (decide (1 ≤ mo) && decide (mo ≤ 4)) with
      | false =>
        have HE : Hid (wrongTreeO L = 45) := hide (by rw [HS2.out, if_pos (by unfold badMode; rw [hM]; rfl)])
        go_wp2
        go_ret
        exact ⟨by rw [HE.out]; rfl, HW3.out⟩
      | true =>
      by_cases h3 : mo = 3
      · have h3b : ((mo : Int) == 3) = true := by simp; omega
        by_cases hz : sz = 0
        · have hzb : ((sz : Int) != 0) = false := by simp; omega
          have HE : Hid (treeL (L.drop (k + 1)) nm = wrongTreeO L) := hide (by rw [HS2.out, if_neg (by unfold badMode; rw [hM, hz]; simp)])
          clear hM h3 hz
          go_wp2
          exact ⟨⟨k + 1, nm, rfl, by go_num, by omega, HE.out, HW3.out⟩, by simp [intOf]; omega⟩
        · have hzb : ((sz : Int) != 0) = true := by simp; omega
          have HE : Hid (wrongTreeO L = 45) := hide (by rw [HS2.out, if_pos (by unfold badMode; rw [hM, decide_eq_true h3, decide_eq_false hz]; rfl)])
          clear hM h3 hz
          go_wp2
          go_ret
          exact ⟨by rw [HE.out]; rfl, HW3.out⟩
      · have h3b : ((mo : Int) == 3) = false := by simp; omega
        have HE : Hid (treeL (L.drop (k + 1)) nm = wrongTreeO L) := hide (by rw [HS2.out, if_neg (by unfold badMode; rw [hM, decide_eq_false h3]; simp)])
        clear hM h3
        go_wp2
        exact ⟨⟨k + 1, nm, rfl, by go_num, by omega, HE.out, HW3.out⟩, by simp [intOf]; omega⟩
    · have hki : ¬ (k : Int) < (n : Int) := by omega
      have HE : Hid (wrongTreeO L = 0) := hide (by rw [← HTt.out, List.drop_eq_nil_of_le (by rw [← HN.out]; omega)]; rfl)
      go_wp2
      go_ret
      exact ⟨by rw [HE.out]; rfl, HW.out⟩
end Go.Proofs.YtjcfndiceinkjabDoor

/- How many kids an object has. -/
namespace Go.Proofs.YtjcfndiceinkjabDoor
set_option linter.unusedVariables false
set_option linter.unusedSimpArgs false
open Go.RowKit

def kidN (o : ObjR) : Nat := if o.kind = 2 then o.parts.length else if o.kind = 3 then o.items.length else if o.kind = 4 then 1 + o.parents.length else 0
set_option maxRecDepth 20000 in
set_option maxHeartbeats 1000000 in
theorem kidCount_any (w : World) (o : ObjR) (v : ObjV) (hr : ObjRd w o v) (hp : o.parents.length < 9223372036854775807) : Calls Tryd.prog 35 #[.agg (objL o v).toArray] w (ErrC w (kidN o)) := by
  have hA0 : ObjAt (w.alloc (.cells (objL o v).toArray 30)) w.heap.size o v := Blk.made w _ _
  have HW := hide (below_alloc w (.cells (objL o v).toArray 30))
  obtain ⟨pa, ca, epa, hla⟩ := hr.p.slice
  obtain ⟨ia, da, eia, hia⟩ := hr.i.slice
  obtain ⟨ka, dk, eka, hka⟩ := hr.k.slice
  rw [List.length_map] at epa eia eka
  have c0 := hA0.cKind
  have c2 := hA0.cP
  have c3 := hA0.cI
  have c4 := hA0.cK hr.ok.t
  rw [epa] at c2
  rw [eia] at c3
  rw [eka] at c4
  obtain ⟨np, hnp⟩ : ∃ n, n = o.parts.length := ⟨_, rfl⟩
  obtain ⟨ni, hni⟩ : ∃ n, n = o.items.length := ⟨_, rfl⟩
  obtain ⟨nk, hnk⟩ : ∃ n, n = o.parents.length := ⟨_, rfl⟩
  have HE : Hid (kidN o = if o.kind = 2 then np else if o.kind = 3 then ni else if o.kind = 4 then 1 + nk else 0) := hide (by unfold kidN; rw [hnp, hni, hnk])
  rw [← hnp] at c2
  rw [← hni] at c3
  rw [← hnk] at c4 hp
  obtain ⟨n1, hn1⟩ : ∃ n, n = 1 + nk := ⟨_, rfl⟩
  have hw1 : IntKind.i64.wrap (1 + (nk : Int)) = (n1 : Int) := by rw [show 1 + (nk : Int) = (n1 : Int) by omega]; exact wrapi64_nat n1 (by omega)
  rw [← hn1] at HE
  clear hr hA0 epa eia eka hnp hni hnk hn1 hla hia hka hp
  by_cases h2 : o.kind = 2
  · have b2 : ((o.kind : Int) == 2) = true := by simp; omega
    have HF : Hid (kidN o = np) := hide (by rw [HE.out, if_pos h2])
    clear h2
    go_enter Tryd.func35, Tryd.ntmps35
    go_wp2
    go_ret
    exact ⟨by rw [HF.out]; rfl, HW.out⟩
  have b2 : ((o.kind : Int) == 2) = false := by simp; omega
  by_cases h3 : o.kind = 3
  · have b3 : ((o.kind : Int) == 3) = true := by simp; omega
    have HF : Hid (kidN o = ni) := hide (by rw [HE.out, if_neg h2, if_pos h3])
    clear h2 h3
    go_enter Tryd.func35, Tryd.ntmps35
    go_wp2
    go_ret
    exact ⟨by rw [HF.out]; rfl, HW.out⟩
  have b3 : ((o.kind : Int) == 3) = false := by simp; omega
  by_cases h4 : o.kind = 4
  · have b4 : ((o.kind : Int) == 4) = true := by simp; omega
    have HF : Hid (kidN o = n1) := hide (by rw [HE.out, if_neg h2, if_neg h3, if_pos h4])
    clear h2 h3 h4
    go_enter Tryd.func35, Tryd.ntmps35
    go_wp2
    go_ret
    exact ⟨by rw [HF.out]; rfl, HW.out⟩
  have b4 : ((o.kind : Int) == 4) = false := by simp; omega
  have HF : Hid (kidN o = 0) := hide (by rw [HE.out, if_neg h2, if_neg h3, if_neg h4])
  clear h2 h3 h4
  go_enter Tryd.func35, Tryd.ntmps35
  go_wp2
  go_ret
  exact ⟨by rw [HF.out]; rfl, HW.out⟩
end Go.Proofs.YtjcfndiceinkjabDoor
