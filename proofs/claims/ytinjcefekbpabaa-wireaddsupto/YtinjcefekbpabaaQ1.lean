/- spoilt: bytes that are owned, as a text. -/
import Derived.Test.YtinjcefekbpabaaD9
namespace Go.Proofs.Ytinjcefekbpabaa
set_option linter.unusedVariables false
set_option linter.unusedSimpArgs false
open Go.RowKit

theorem Rd_owned {w : World} {base : Nat} {v : Value} {xs : List UInt8} (h : w.ownsRow base 5 1 v xs.length (xs.map u8c)) : Rd w v xs := by
  obtain ⟨h0, ⟨rfl, hn⟩ | ⟨g, cap, cur, rfl, hb, hg, hc, hm, hs, ht⟩⟩ := h
  · obtain rfl : xs = [] := List.eq_nil_of_length_eq_zero hn
    exact Rd_none w
  · refine ⟨some ⟨g, 0, none⟩, cap, rfl, hc, hm, .inr ⟨g, 0, rfl, fun i hi => ?_⟩⟩
    have hB : Blk w g cur 5 := hg
    rw [Nat.zero_add, hB.cell, ← Array.getElem?_toList]
    have : (cur.toList.take (xs.length * 1))[i]? = some (u8c xs[i]) := by rw [ht]; simp [List.getElem?_eq_getElem hi]
    rw [List.getElem?_take_of_lt (by omega)] at this
    exact this

theorem own_cell {w : World} {base g n cap : Nat} {ys : List Value} (h : w.ownsRow base 5 1 (.slice (some ⟨g, 0, none⟩) n cap) n ys) (hall : ∀ y ∈ ys, ∃ q, y = .int .u8 q) (k : Nat) (hk : k < n) :
    (∃ q, w.cell? ⟨g, k, none⟩ = some (.int .u8 q)) ∧ w.frozen? ⟨g, k, none⟩ = false ∧ base ≤ g := by
  obtain ⟨hl, ⟨h1, _⟩ | ⟨g', cap', cur, e, hb, hg, hc, hm, hs, ht⟩⟩ := h
  · cases h1
  · cases e
    have hB : Blk w g cur 5 := hg
    have hlt : k < ys.length := by omega
    obtain ⟨q, hq⟩ := hall ys[k] (List.getElem_mem hlt)
    refine ⟨⟨q, ?_⟩, hB.frozen k, hb⟩
    rw [hB.cell, ← Array.getElem?_toList]
    have : (cur.toList.take (n * 1))[k]? = some (.int .u8 q) := by rw [ht, List.getElem?_eq_getElem hlt, hq]
    rwa [List.getElem?_take_of_lt (by omega)] at this
theorem own_set {w : World} {base g n cap : Nat} {ys : List Value} (h : w.ownsRow base 5 1 (.slice (some ⟨g, 0, none⟩) n cap) n ys) (hall : ∀ y ∈ ys, ∃ q, y = .int .u8 q) (k : Nat) (hk : k < n) (q : Int) :
    ∃ ys', (w.setCell ⟨g, k, none⟩ (.int .u8 q)).ownsRow base 5 1 (.slice (some ⟨g, 0, none⟩) n cap) n ys' ∧ (∀ y ∈ ys', ∃ q, y = .int .u8 q) := by
  obtain ⟨hl, ⟨h1, _⟩ | ⟨g', cap', cur, e, hb, hg, hc, hm, hs, ht⟩⟩ := h
  · cases h1
  · cases e
    refine ⟨ys.set k (.int .u8 q), ⟨by simpa using hl, .inr ⟨g, cap, cur.setIfInBounds k (.int .u8 q), rfl, hb, heap_setCell_same w g k cur _ _ hg, hc, hm, by simpa using hs, ?_⟩⟩, ?_⟩
    · rw [Array.toList_setIfInBounds, ← ht, List.take_set]
    · intro y hy
      rcases List.mem_or_eq_of_mem_set hy with h | h
      · exact hall y h
      · exact ⟨q, h⟩
theorem own_below {base : Nat} {w0 w w' : World} {v : Value} {n : Nat} {ys : List Value} {size : Nat} {e : TypeId} (hb : Below base w0 w) (h : w.ownsRow base e size v n ys) (hB : base ≤ w.heap.size) (hg : w.grownBy w' v.ownBlock) : Below base w0 w' :=
  hb.grown hg hB (fun k hk => (h.lt k hk).1)

set_option maxRecDepth 20000 in
set_option maxHeartbeats 1600000 in
theorem spoilt_any (w : World) (base : Nat) (v : Value) (xs : List UInt8) (h : w.ownsRow base 5 1 v xs.length (xs.map u8c)) (hbase : base ≤ w.heap.size) (hlen : xs.length ≤ 140737488355000) :
    Calls Try.prog 46 #[v] w fun e w' => e = .returned (.string ⟨xs.toArray⟩) ∧ Below base w w' := by
  have hcv := conv_rd w v xs (Rd_owned h)
  obtain ⟨i0, hi, hz0, hz1, hz2⟩ := info_parts infoU8
  obtain ⟨s, hs⟩ : ∃ s : ByteArray, s = ⟨xs.toArray⟩ := ⟨_, rfl⟩
  rw [← hs] at hcv ⊢
  obtain ⟨n, hn⟩ : ∃ n, n = xs.length := ⟨_, rfl⟩
  obtain ⟨ys, hys⟩ : ∃ ys, ys = xs.map u8c := ⟨_, rfl⟩
  rw [← hn] at h hlen
  rw [← hys] at h
  have hall : ∀ y ∈ ys, ∃ q, y = .int .u8 q := by rw [hys]; intro y hy; obtain ⟨u, _, rfl⟩ := List.mem_map.1 hy; exact ⟨_, rfl⟩
  clear hs hn hys
  obtain ⟨ao, cap, rfl, hnn⟩ : ∃ ao cap, v = .slice ao n cap ∧ (0 < n → ∃ g, ao = some ⟨g, 0, none⟩) := by
    obtain ⟨_, ⟨rfl, rfl⟩ | ⟨g, cap, cur, rfl, _⟩⟩ := h
    · exact ⟨none, 0, rfl, fun h => absurd h (by omega)⟩
    · exact ⟨_, cap, rfl, fun _ => ⟨g, rfl⟩⟩
  have H0 := hide h
  have HALL := hide hall
  have HNN := hide hnn
  clear h hall hnn
  go_enter Try.func46, Try.ntmps46
  go_wp2
  clear hcv
  go_loopw [4] (fun i wr => ∃ (k : Nat) (ys' : List Value), i = .int .i64 k ∧ k ≤ n ∧ wr.ownsRow base 5 1 (.slice ao n cap) n ys' ∧ (∀ y ∈ ys', ∃ q, y = .int .u8 q) ∧ Below base w wr) (fun i _ => n - (intOf i).toNat)
  case atStart => exact ⟨0, ys, rfl, Nat.zero_le _, H0.out, HALL.out, Below.refl _ _⟩
  case round =>
    obtain ⟨k, ys', rfl, hk, hown, hall, hnx⟩ := hrel
    by_cases hlt : k < n
    · obtain ⟨g, rfl⟩ := HNN.out (by omega)
      obtain ⟨⟨q, hq⟩, hf, hbg⟩ := own_cell hown hall k hlt
      have HS := hide (own_set hown hall k hlt)
      clear hown hall
      go_wp2
      go_roundw
      case rel =>
        obtain ⟨ys2, h1, h2⟩ := HS.out (bits .xor .u8 q 255)
        exact ⟨k + 1, ys2, by go_num, by omega, h1, h2, hnx.setCell hbg _⟩
      case measure => simp [intOf]; omega
    · have HO := hide hown
      clear hown hall
      go_wp2
      go_loopw [0, 5] (fun b i wr2 => ∃ (k : Nat) (zs : List Value), i = .int .i64 k ∧ k ≤ 16 ∧ wr2.ownsRow base 5 1 b (n + k) zs ∧ Below base w wr2) (fun _ i _ => 16 - (intOf i).toNat)
      case atStart => exact ⟨0, ys', rfl, by omega, HO.out, hnx⟩
      case round =>
        obtain ⟨k2, zs, rfl, hk2, hown, hnx2⟩ := hrel
        have hsz : base ≤ wr.heap.size := Nat.le_trans hbase hnx2.size
        by_cases hlt2 : k2 < 16
        · go_wp2_with (at_builtin; refine wpList_append_own _ rfl _ _ 28 rfl base 5 i0 (.int .u8 0) 1 1 Try.underlying28 hi hz0 hz1 hz2 rfl (by decide) _ _ _ rfl (hown.alloc _) ⟨wr.heap.size, 0, none⟩ 1 1 [.int .u8 119] rfl rfl (cell_one_new _ _ _) ?c2 ?c3 ?c4 ?c5 ?_)
          case c2 => intro u hu; simp at hu; subst hu; rfl
          case c3 => unfold maxLen; omega
          case c4 => omega
          case c5 => simp; omega
          intro v' w1 hown' hgrow _
          have hb' := own_below (hnx2.alloc hsz _) (hown.alloc _) (by simp; omega) hgrow
          clear hown hgrow hnx2
          go_wp2
          go_roundw
          case rel => exact ⟨k2 + 1, _, by go_num, by omega, hown', hb'⟩
          case measure => simp [intOf]; omega
        · go_wp2
          go_ret
          exact ⟨rfl, hnx2⟩
end Go.Proofs.Ytinjcefekbpabaa
