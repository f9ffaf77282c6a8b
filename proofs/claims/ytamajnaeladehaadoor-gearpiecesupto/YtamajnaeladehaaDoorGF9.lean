/- All lengths: both ways. -/
import Derived.Test.YtamajnaeladehaaDoorGF8
namespace Go.Proofs.YtamajnaeladehaaDoor
set_option linter.unusedVariables false
set_option linter.unusedSimpArgs false
open Go.RowKit

/-- What Cut answers. -/
def cutR (mn me mx : Int) (xs : List UInt8) : List Int := if mayB mn me mx then cutL mn me mx xs else []
def CutC (w : World) (mn me mx : Int) (xs : List UInt8) (e : Ending) (w' : World) : Prop := ∃ v, e = .returned (.tuple #[v, .int .i64 (chk mn me mx)]) ∧ OwnsI w' w.heap.size v (cutR mn me mx xs) ∧ Below w.heap.size w w'
theorem CutAt.grown {w w' : World} {z : Nat} {mn me mx : Int} {row : Option Nat} (h : CutAt w z mn me mx) (hg : w.grownBy w' row) (hne : some z ≠ row) : CutAt w' z mn me mx := Blk.grown h hg hne
set_option maxRecDepth 20000 in
set_option maxHeartbeats 2000000 in
theorem cut_any (w : World) (hT : Tabs w) (mn me mx : Int) (v : Value) (xs : List UInt8) (hv : RdA w v xs) (hx2 : xs.length ≤ 17592186043000) : Calls Tryd.prog 12 #[cutV mn me mx, v] w (CutC w mn me mx xs) := by
  have HCh := hide (fun w => check_any mn me mx w)
  have HB0 : Hid (Below (w.heap.size + 1) (w.alloc (.cells #[.int .i64 mn, .int .i64 me, .int .i64 mx] 23)) (w.alloc (.cells #[.int .i64 mn, .int .i64 me, .int .i64 mx] 23))) := hide (Below.refl _ _)
  have HB00 := hide ((Below.refl w.heap.size w).alloc (Nat.le_refl _) (.cells #[.int .i64 mn, .int .i64 me, .int .i64 mx] 23))
  have HL0 : Hid (CutAt (w.alloc (.cells #[.int .i64 mn, .int .i64 me, .int .i64 mx] 23)) w.heap.size mn me mx) := hide (Blk.made w #[.int .i64 mn, .int .i64 me, .int .i64 mx] 23)
  have HS0 : Hid ((w.alloc (.cells #[.int .i64 mn, .int .i64 me, .int .i64 mx] 23)).heap.size = w.heap.size + 1) := hide (by simp)
  have HR := hide (hv.below HB00.out)
  have HT := hide (hT.below HB00.out hT.size)
  have HT1 := hide hT.size
  unfold cutV
  cases hm : mayB mn me mx with
  | false =>
    have hc : chk mn me mx = 50 := by simp [chk, hm]
    have HF : Hid (cutR mn me mx xs = []) := hide (by simp [cutR, hm])
    rw [hc] at HCh
    have HC := hide hc
    clear hc hm hv hT
    go_enter Tryd.func12, Tryd.ntmps12
    go_wp2_with fail
    refine (HCh.out _).mono ?_
    rintro e w1 ⟨rfl, hb1⟩
    have HB1 := hide (HB00.out.trans (hb1.mono HB00.out.size))
    clear hb1
    go_wp2
    go_ret2
    exact ⟨_, by rw [HC.out]; rfl, by rw [HF.out]; exact World.ownsRow_nil _ _ _ _, HB1.out⟩
  | true =>
    have hc : chk mn me mx = 0 := by simp [chk, hm]
    have HF : Hid (cutR mn me mx xs = cutL mn me mx xs) := hide (by simp [cutR, hm])
    rw [hc] at HCh
    have HC := hide hc
    have HM := hide hm
    obtain ⟨ao, c, rfl, hxl⟩ := hv.slice
    obtain ⟨W0, hW0⟩ : ∃ W0, W0 = w.alloc (.cells #[.int .i64 mn, .int .i64 me, .int .i64 mx] 23) := ⟨_, rfl⟩
    clear hc hm hv hT
    go_enter Tryd.func12, Tryd.ntmps12
    go_wp2_with fail
    rw [← hW0] at HR HT HB0 HL0 HB00 HS0 ⊢
    refine (HCh.out _).mono ?_
    rintro e w1 ⟨rfl, hb1⟩
    rw [HS0.out] at hb1
    have HB1 := hide hb1
    have HL1 := hide (HL0.out.below (hb1.mono (by rw [HS0.out]; exact Nat.le_refl _)))
    clear hb1 HB0 HL0 hW0
    go_wp2
    go_loopw [1, 7] (fun dv lv wr => ∃ (va : Value) (k : Nat) (done : List Int) (ao' : Option Addr) (c' : Nat), va = lv ∧ k ≤ xs.length ∧ dv = .slice ao' (xs.length - k) c' ∧ RdA W0 (.slice ao' (xs.length - k) c') (xs.drop k) ∧ OwnsI wr (w.heap.size + 1) va done ∧ done.length ≤ k ∧ cutL mn me mx xs = done ++ cutL mn me mx (xs.drop k) ∧ CutAt wr w.heap.size mn me mx ∧ Below (w.heap.size + 1) W0 wr) (fun dv _ _ => match dv with | .slice _ n _ => n | _ => 0)
    case atStart =>
      refine ⟨_, 0, [], ao, c, rfl, by omega, rfl, ?_, World.ownsRow_nil _ _ _ _, by simp, by simp, HL1.out, HB1.out⟩
      rw [List.drop_zero, Nat.sub_zero]
      exact HR.out
    case round =>
      clear HL1 HB1
      obtain ⟨va, k, done, ao', c', rfl, hk, rfl, hR, hO, hdl, hcut, hL, hB⟩ := hrel
      have HL := hide hL
      have HB := hide hB
      have HO := hide hO
      have HRr := hide hR
      have HBW := hide (fun (w' : World) (hb : Below (w.heap.size + 1) W0 w') => (show Below W0.heap.size W0 w' from by rw [HS0.out]; exact hb))
      have HCu := hide hcut
      have hsz : w.heap.size + 1 ≤ wr.heap.size := by rw [← HS0.out]; exact hB.size
      clear hL hB hO hR hcut
      by_cases hlt : k < xs.length
      · obtain ⟨m, hm⟩ : ∃ m, m = xs.length - k := ⟨_, rfl⟩
        have hmi : (0 : Int) < (m : Int) := by omega
        rw [← hm] at HRr ⊢
        have HTr := hide (HT.out.below HB.out (by have := HT1.out; omega))
        have HFi := hide (first_any wr HTr.out mn me mx _ _ (HRr.out.below (HBW.out _ HB.out)))
        have hb := firstP_bounds HM.out (xs.drop k) (by rw [List.length_drop]; omega)
        have HCc := hide (cutL_cons HM.out (xs.drop k) (by rw [List.length_drop]; omega))
        obtain ⟨n, hn⟩ : ∃ n, n = (firstP mn me mx (xs.drop k)).1 := ⟨_, rfl⟩
        obtain ⟨f, hf⟩ : ∃ f, f = (firstP mn me mx (xs.drop k)).2 := ⟨_, rfl⟩
        have hpr : pairV (firstP mn me mx (xs.drop k)) = .tuple #[.int .i64 (n : Int), .bool f] := by rw [hn, hf]; rfl
        rw [hpr] at HFi
        rw [← hn] at hb HCc
        rw [List.length_drop, ← hm] at hb
        rw [List.drop_drop] at HCc
        have c0 : wr.cell? ⟨w.heap.size, 0, none⟩ = some (.int .i64 mn) := HL.out.cell 0
        have c1 : wr.cell? ⟨w.heap.size, 1, none⟩ = some (.int .i64 me) := HL.out.cell 1
        have c2 : wr.cell? ⟨w.heap.size, 2, none⟩ = some (.int .i64 mx) := HL.out.cell 2
        have hni : (n : Int) ≤ m := by omega
        have hn0 : (0 : Int) ≤ n := by omega
        have HM2 := hide hm
        clear hn hf hpr hm
        unfold cutV at HFi
        go_wp2_with fail
        refine HFi.out.mono ?_
        rintro e w2 ⟨rfl, hb2⟩
        have HB2 := hide hb2
        have HO2 := hide (HO.out.below hb2)
        have HL2 := hide (HL.out.below hb2)
        have hsz2 : w.heap.size + 1 ≤ w2.heap.size := Nat.le_trans hsz hb2.size
        have HBB := hide (HB.out.trans (hb2.mono hsz))
        clear hb2 c0 c1 c2
        go_wp2_with (at_builtin; refine wpList_append_int rfl _ _ rfl (w.heap.size + 1) _ done rfl ?d1 w2.heap.size 1 rfl (n : Int) (n : Int) rfl ?d2 ?d3 ?d4 ?_)
        case d1 => exact HO2.out.below ((Below.refl _ _).alloc (Nat.le_refl _) _)
        case d2 => exact (Blk.made w2 _ _).cell 0
        case d3 => omega
        case d4 => simp; omega
        intro v' w3 HO3 HG3 HX3
        have HL3 : Hid (CutAt w3 w.heap.size mn me mx) := hide (CutAt.grown (Blk.alloc HL2.out _) HG3.out (fun e => by have := (owns_lt HO2.out _ e.symm).1; omega))
        have HB3 := hide (own_below (HBB.out.alloc hsz2 _) (OwnsI.below HO2.out ((Below.refl _ _).alloc (Nat.le_refl _) _)) (by simp; omega) HG3.out)
        have hsl := HRr.out.sliced n m (by omega) (Nat.le_refl _)
        unfold Go.sliced at hsl
        rw [Nat.mul_one, List.drop_drop, List.take_of_length_le (by rw [List.length_drop]; have := HM2.out; omega), show m - n = xs.length - (k + n) by have := HM2.out; omega] at hsl
        have HSl := hide hsl
        clear hsl
        clear HL2 HO2 HBB HG3 HX3 HFi HB2
        go_wp2
        refine ⟨⟨_, k + n, done ++ [(n : Int)], if c' = n then ao' else Option.map (fun x => x.add n) ao', c' - n, rfl, by have := HM2.out; omega, ?_, HSl.out, HO3.out, by simp; omega, ?_, HL3.out, HB3.out⟩, ?_⟩
        · congr 1
          have := HM2.out
          omega
        · rw [HCu.out, HCc.out]; simp
        · have := HM2.out
          show m - n < m
          omega
      · have hk0 : k = xs.length := by omega
        subst hk0
        have HFin : Hid (done = cutR mn me mx xs) := hide (by rw [HF.out, HCu.out, List.drop_of_length_le (Nat.le_refl _), cutL_nil, List.append_nil])
        have hz : xs.length - xs.length = 0 := Nat.sub_self _
        rw [hz]
        go_wp2
        go_ret2
        refine ⟨_, by rw [HC.out]; rfl, ?_, ?_⟩
        · rw [← HFin.out]; exact own_base HO.out (by omega)
        · exact HB00.out.trans (HB.out.mono (by omega))
end Go.Proofs.YtamajnaeladehaaDoor
