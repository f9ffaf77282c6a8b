/- Each of bytes on a Dec. -/
import Derived.Test.YtinjcefekbpabaaQ1
namespace Go.Proofs.Ytinjcefekbpabaa
set_option linter.unusedVariables false
set_option linter.unusedSimpArgs false
open Go.RowKit

theorem one_st (w : World) (z : Nat) (sv : Value) (bs : List UInt8) (s : S) (h : DecSt w z sv bs s) :
    Calls Try.prog 57 #[.pointer (some ⟨z, 0, none⟩)] w (FixC .u8 w z sv bs (mNext bs s (mPlace s) 1)) := by
  have HN := hide (fun w h => take_uint8 w z sv bs s h)
  generalize mNext bs s (mPlace s) 1 = r at HN ⊢
  go_enter Try.func57, Try.ntmps57
  go_wp2_with fail
  refine (HN.out _ h).mono ?_
  rintro e w' ⟨rfl, hd, hg⟩
  go_wp2
  go_ret
  exact ⟨rfl, hd, hg⟩

def hd1 (r : Option (List UInt8)) : UInt8 := (r.getD []).headD 0
theorem hd1_cell (bs : List UInt8) (s : S) (a : Nat) : Value.int .u8 (IntKind.u8.wrap (leNat ((mNext bs s a 1).1.getD []) : Nat)) = u8c (hd1 (mNext bs s a 1).1) := by
  have hl := mNext_few bs s a 1
  unfold hd1 u8c
  generalize (mNext bs s a 1).1.getD [] = xs at hl ⊢
  match xs, hl with
  | [], _ => simp [leNat, IntKind.wrap_u8]
  | [c], _ =>
    have := c.toNat_lt
    simp [leNat, IntKind.wrap_u8]
    omega

def eachGo (bs : List UInt8) : Nat → S → List UInt8 → List UInt8 × S
  | 0, s, acc => (acc, s)
  | n + 1, s, acc => if s.code ≠ 0 then (acc, s) else eachGo bs n (mNext bs s (mPlace s) 1).2 (acc ++ [hd1 (mNext bs s (mPlace s) 1).1])
def mEach (bs : List UInt8) (s : S) (most : Nat) : List UInt8 × S :=
  if (eachGo bs (mNum bs s most).1 (mNum bs s most).2.2 []).2.code ≠ 0 then ([], (eachGo bs (mNum bs s most).1 (mNum bs s most).2.2 []).2)
  else eachGo bs (mNum bs s most).1 (mNum bs s most).2.2 []

def EachC (w : World) (z : Nat) (sv : Value) (bs : List UInt8) (r : List UInt8 × S) (e : Ending) (w' : World) : Prop :=
  (∃ v, e = .returned v ∧ w'.ownsRow w.heap.size 5 1 v r.1.length (r.1.map u8c)) ∧ DecSt w' z sv bs r.2 ∧ w.grownBy w' (some z)

theorem mNext_code (bs : List UInt8) (s : S) (a k : Nat) (h : s.code = 0) : (mNext bs s a k).2.p + (if (mNext bs s a k).2.code ≠ 0 then k else 0) = s.p + k := by
  unfold mNext
  rw [if_neg (by omega)]
  split
  · simp
  · simp [h]
theorem eachGo_stop (bs : List UInt8) (n : Nat) (s : S) (acc : List UInt8) (h : s.code ≠ 0) : eachGo bs n s acc = (acc, s) := by
  cases n with
  | zero => rfl
  | succ n => rw [eachGo, if_pos h]
theorem eachGo_more (bs : List UInt8) (n : Nat) (s : S) (acc : List UInt8) (h : s.code = 0) (hn : 0 < n) : eachGo bs n s acc = eachGo bs (n - 1) (mNext bs s (mPlace s) 1).2 (acc ++ [hd1 (mNext bs s (mPlace s) 1).1]) := by
  cases n with
  | zero => omega
  | succ n => rw [eachGo, if_neg (by omega)]; rfl

theorem Bts.blk {w : World} {z : Nat} {sv : Value} {bs : List UInt8} (h : Bts w z sv bs) {b : Nat} (e : sv = .slice (some ⟨b, 0, none⟩) bs.length bs.length) : b < w.heap.size := by
  rcases h.2 with ⟨e1, _⟩ | ⟨b', e1, _, hB⟩
  · rw [e1] at e; cases e
  · rw [e1] at e; cases e; exact hB.lt

/-- A Dec stays as it is where a row of the call's own grows. -/
theorem DecSt.own {w0 w w' : World} {z : Nat} {sv v : Value} {bs : List UInt8} {s : S} {n size : Nat} {xs : List Value} {e : TypeId} (h : DecSt w z sv bs s) (hz : z < w0.heap.size) (hb : ∀ b, sv = .slice (some ⟨b, 0, none⟩) bs.length bs.length → b < w0.heap.size)
    (ho : w.ownsRow w0.heap.size e size v n xs) (hg : w.grownBy w' v.ownBlock) : DecSt w' z sv bs s := by
  refine h.grown hg (fun e => ?_) (fun b e1 e => ?_)
  · have := (ho.lt z e.symm).1; omega
  · have := (ho.lt b e.symm).1; have := hb b e1; omega
theorem grown_own {w0 w w' : World} {z : Nat} {v : Value} {n size : Nat} {xs : List Value} {e : TypeId} (h : w0.grownBy w (some z)) (ho : w.ownsRow w0.heap.size e size v n xs) (hg : w.grownBy w' v.ownBlock) : w0.grownBy w' (some z) :=
  ⟨hg.os.trans h.os, hg.tape.trans h.tape, hg.output.trans h.output, Nat.le_trans h.size hg.size, fun k hk hne => (hg.block k (Nat.lt_of_lt_of_le hk h.size) (fun e => by have := (ho.lt k e.symm).1; omega)).trans (h.block k hk hne)⟩

def exS (s : S) : Nat := if s.code ≠ 0 then 1 else 0
theorem own_not {w0 w : World} {z n size : Nat} {v : Value} {xs : List Value} {e : TypeId} (ho : w.ownsRow w0.heap.size e size v n xs) (hz : z < w0.heap.size) : v.ownBlock = none ∨ v.ownBlock ≠ some z := by
  right
  intro e
  have := (ho.lt z e).1
  omega
theorem one_notnil (w : World) : (binOp BinOp.eql 99 (.func (.func 57) #[] #[]) .nilFunc).run Try.prog w = .ok (.bool false) w := by kernel_rfl

set_option maxRecDepth 20000 in
set_option maxHeartbeats 1600000 in
theorem each_st (w : World) (z : Nat) (sv : Value) (bs : List UInt8) (s : S) (n : Int) (h1 : -9223372036854775808 ≤ n) (h2 : n ≤ 9223372036854775807) (h : DecSt w z sv bs s) (hlen : bs.length ≤ 140737488351232) :
    Calls Try.prog 56 #[.pointer (some ⟨z, 0, none⟩), .int .i64 n, .func (.func 57) #[] #[]] w (EachC w z sv bs (mEach bs s n.toNat)) := by
  obtain ⟨i0, hi, hz0, hz1, hz2⟩ := info_parts infoU8
  have HB := hide (fun w => bound_any w n h1 h2)
  have HV := hide (fun w h => var_st w z sv bs s n.toNat h)
  obtain ⟨r', hr'⟩ : ∃ r', mEach bs s n.toNat = r' := ⟨_, rfl⟩
  rw [hr']
  unfold mEach at hr'
  have hle := mNum_ok_le bs s n.toNat
  generalize mNum bs s n.toNat = r at HV hr' hle
  obtain ⟨v, ok, s1⟩ := r
  simp only [] at hr' hle
  have HR := hide hr'
  clear hr'
  have hv63 : v ≤ 9223372036854775807 := by omega
  clear hle
  generalize n.toNat = m at HB HV
  have hzl := h.lt
  have HBL := hide (fun b => h.1.blk (b := b))
  have hnn := one_notnil
  go_enter Try.func56, Try.ntmps56
  go_wp2_with fail
  refine (HB.out _).mono ?_
  rintro e w' ⟨rfl, rfl⟩
  go_wp2_with fail
  refine (HV.out _ h).mono ?_
  rintro e w1 ⟨rfl, hd1, hg1⟩
  clear HV HB
  simp only [] at hd1
  have HD1 := hide hd1
  have HG1 := hide hg1
  clear hd1 hg1
  go_wp2_with fail
  go_loopw [7, 8] (fun l c wr => ∃ (k : Nat) (acc : List UInt8) (s' : S), c = .int .u64 k ∧ k ≤ 9223372036854775807 ∧ wr.ownsRow w'.heap.size 5 1 l acc.length (acc.map u8c) ∧ acc.length ≤ s'.p + exS s' ∧ DecSt wr z sv bs s' ∧ w'.grownBy wr (some z) ∧ eachGo bs v s1 [] = eachGo bs k s' acc) (fun _ c _ => (intOf c).toNat)
  case atStart => exact ⟨v, [], s1, rfl, hv63, World.ownsRow_nil _ _ _ _, Nat.zero_le _, HD1.out, HG1.out, rfl⟩
  case round =>
    obtain ⟨k, acc, s', rfl, hk, hown, hacc, hd, hg, heq⟩ := hrel
    have HE := hide heq
    have HA := hide hacc
    have hpb := hd.2.1
    clear heq hacc
    have HO := hide (fun w h => over_st w z sv bs s' h)
    by_cases hk0 : 0 < k
    · by_cases hc : s'.code = 0
      · have hdc : decide (s'.code ≠ 0) = false := by simp [hc]
        have HC := hide hc
        have HT := hide (fun w h => one_st w z sv bs s' h)
        have HM := hide (show _ = Value.int .u8 ((hd1 (mNext bs s' (mPlace s') 1).1).toNat : Int) from hd1_cell bs s' (mPlace s'))
        have HP := hide (mNext_code bs s' (mPlace s') 1 hc)
        have HG := hide (eachGo_more bs k s' acc hc hk0)
        clear hc
        generalize mNext bs s' (mPlace s') 1 = rr at HT HM HP HG
        obtain ⟨r1, s2⟩ := rr
        go_wp2_with fail
        refine (HO.out _ hd).mono ?_
        rintro e w2 ⟨rfl, rfl⟩
        rw [hdc]
        go_wp2_with fail
        refine (HT.out _ hd).mono ?_
        rintro e w3 ⟨rfl, hd3, hg3⟩
        rw [HM.out]
        have hown3 : w3.ownsRow w'.heap.size 5 1 u7 acc.length (acc.map u8c) := hown.kept hg3 (own_not hown hzl)
        have hg30 := grownBy_trans hg hg3
        have hlen3 : acc.length + 1 ≤ 140737488355328 := by
          have := HA.out
          rw [exS, if_neg (by have := HC.out; omega)] at this
          omega
        clear hown hg hg3 hd
        simp only [] at hd3
        have HD3 := hide hd3
        have hsz : w'.heap.size ≤ w3.heap.size := hg30.size
        clear hd3
        go_wp2_with (at_builtin; (refine wpList_append_own _ rfl _ _ 28 rfl w'.heap.size 5 i0 (.int .u8 0) 1 1 Try.underlying28 hi hz0 hz1 hz2 rfl (by decide) _ _ _ rfl (hown3.alloc _) ⟨w3.heap.size, 0, none⟩ 1 1 [.int .u8 ((hd1 r1).toNat : Int)] rfl rfl (cell_one_new _ _ _) ?c2 ?c3 ?c4 (by rw [World.size_alloc]; omega) ?_))
        case c2 => intro u hu; simp at hu; subst hu; rfl
        case c3 => unfold maxLen; omega
        case c4 => omega
        intro v' w4 hown' hgrow _
        have hd4 := (HD3.out.below ((Below.refl _ _).alloc (Nat.le_refl _) _)).own hzl HBL.out (hown3.alloc _) hgrow
        have hg4 := grown_own (grownBy_trans hg30 (World.grownBy_alloc _ _ _)) (hown3.alloc _) hgrow
        clear hown3 hgrow hg30
        go_wp2
        go_roundw
        case rel =>
          refine ⟨k - 1, acc ++ [hd1 r1], s2, by go_num, by omega, by rw [List.map_append, List.length_append]; exact hown', ?_, hd4, hg4, ?_⟩
          · have h5 := HP.out
            have h6 := HA.out
            rw [exS, if_neg (by have := HC.out; omega)] at h6
            rw [List.length_append, exS, h5]
            simp; omega
          · rw [HE.out, HG.out]
        case measure => simp [intOf]; omega
      · have hdc : decide (s'.code ≠ 0) = true := by simp [hc]
        have HC := hide hc
        clear hc
        go_wp2_with fail
        refine (HO.out _ hd).mono ?_
        rintro e w2 ⟨rfl, rfl⟩
        rw [hdc]
        go_wp2_with fail
        refine (HO.out _ hd).mono ?_
        rintro e w2 ⟨rfl, rfl⟩
        rw [hdc]
        go_wp2
        go_ret
        have h5 := HE.out
        rw [eachGo_stop bs k s' acc HC.out] at h5
        have h6 := HR.out
        rw [h5, if_pos (by exact HC.out)] at h6
        rw [← h6]
        exact ⟨⟨_, rfl, World.ownsRow_nil _ _ _ _⟩, hd, hg⟩
    · obtain rfl : k = 0 := by omega
      have h5 := HE.out
      rw [eachGo] at h5
      have h6 := HR.out
      rw [h5] at h6
      have H6 := hide h6
      clear h5 h6 HR HE
      by_cases hc : s'.code = 0
      · have hdc : decide (s'.code ≠ 0) = false := by simp [hc]
        have HC := hide hc
        clear hc
        go_wp2_with fail
        refine (HO.out _ hd).mono ?_
        rintro e w2 ⟨rfl, rfl⟩
        rw [hdc]
        go_wp2
        go_ret
        rw [← H6.out, if_neg (by have := HC.out; simp; omega)]
        exact ⟨⟨_, rfl, hown⟩, hd, hg⟩
      · have hdc : decide (s'.code ≠ 0) = true := by simp [hc]
        have HC := hide hc
        clear hc
        go_wp2_with fail
        refine (HO.out _ hd).mono ?_
        rintro e w2 ⟨rfl, rfl⟩
        rw [hdc]
        go_wp2
        go_ret
        rw [← H6.out, if_pos HC.out]
        exact ⟨⟨_, rfl, World.ownsRow_nil _ _ _ _⟩, hd, hg⟩
end Go.Proofs.Ytinjcefekbpabaa
