/- Pieces: what it hands back. -/
import Derived.Test.YtamajnaeladehaaDoorGP1
import Derived.Test.YtamajnaeladehaaDoorGP0
import Derived.Test.YtamajnaeladehaaDoorRF1
namespace Go.Proofs.YtamajnaeladehaaDoor
set_option linter.unusedVariables false
set_option linter.unusedSimpArgs false
open Go.RowKit Go.Sort

theorem isNil (W : World) : (binOp .eql 24 (.slice none 0 0) (.slice none 0 0)).run Tryd.prog W = .ok (.bool true) W := by kernel_rfl
theorem notNil (a : Addr) (n c : Nat) (W : World) : (binOp .eql 24 (.slice (some a) n c) (.slice none 0 0)).run Tryd.prog W = .ok (.bool false) W := by kernel_rfl
def ClC (w : World) (xs : List UInt8) (e : Ending) (w' : World) : Prop := ∃ v, e = .returned v ∧ OwnsB w' w.heap.size v xs ∧ Below w.heap.size w w'
set_option maxRecDepth 20000 in
set_option maxHeartbeats 1600000 in
theorem clone_any (w : World) (v : Value) (xs : List UInt8) (hv : RdA w v xs) (hl : xs.length ≤ 140737488353000) : Calls Tryd.prog 34 #[v] w (ClC w xs) := by
  have HV := hide hv
  have hq1 := isNil
  have hq2 := notNil
  by_cases hn : v = .slice none 0 0
  · subst hn
    obtain ⟨ao, c, e, -⟩ := hv.slice
    have hx : xs = [] := by
      obtain ⟨-, e2, -⟩ := (Value.slice.injEq ..).mp e
      exact List.eq_nil_of_length_eq_zero e2.symm
    subst hx
    clear HV hv e
    go_enter Tryd.func34, Tryd.ntmps34
    go_wp2
    go_ret
    exact ⟨_, rfl, World.ownsRow_nil _ _ _ _, Below.refl _ _⟩
  · obtain ⟨ao, c, rfl, hz⟩ := hv.slice
    have hao : ∃ a, ao = some a := by
      rcases hv with ⟨ao', c', e, h1, h2, ⟨rfl, rfl⟩ | ⟨b, o, rfl, _⟩⟩ | ⟨a, e, rfl⟩
      · obtain ⟨rfl, _, rfl⟩ := (Value.slice.injEq ..).mp e
        exact absurd (by rw [show xs.length = 0 from by omega]) hn
      · obtain ⟨rfl, _, _⟩ := (Value.slice.injEq ..).mp e
        exact ⟨_, rfl⟩
      · obtain ⟨rfl, _, _⟩ := (Value.slice.injEq ..).mp e
        exact ⟨_, rfl⟩
    obtain ⟨a, rfl⟩ := hao
    clear hv hn
    have HE : Hid (OwnsB (w.alloc (.cells #[] 5)) w.heap.size (.slice (some ⟨w.heap.size, 0, none⟩) 0 0) []) := hide ⟨rfl, .inr ⟨w.heap.size, 0, #[], rfl, Nat.le_refl _, heap_alloc_new w _, Nat.le_refl _, Nat.zero_le _, rfl, rfl⟩⟩
    have HB := hide ((Below.refl w.heap.size w).alloc (Nat.le_refl _) (.cells #[] 5))
    have HV2 := hide (HV.out.below HB.out)
    go_enter Tryd.func34, Tryd.ntmps34
    go_wp2_with (at_builtin; refine wpList_append_rdX rfl _ _ rfl w.heap.size _ _ [] xs rfl HE.out rfl HV2.out ?cb ?cc ?_)
    case cb => rw [List.length_nil]; omega
    case cc => simp
    intro v' w2 HO' HG HW
    go_wp2
    go_ret
    exact ⟨v', rfl, HO'.out, own_below HB.out HE.out (by simp) HG.out⟩
/-- A piece as it is told: where it begins, its bytes, their slice. -/
abbrev Rec := Nat × List UInt8 × Value
def recV (x : Rec) : Array Value := #[.int .i64 (x.1 : Int), x.2.2]
def pcFit (mn me mx : Int) (bs : List UInt8) (pre : List Rec) (x : Rec) (Wp W : World) : Prop := (∀ j, j ≤ pre.length → okP mn me mx bs j) ∧ x.1 = posK mn me mx bs pre.length ∧ x.2.1 = pcK mn me mx bs pre.length ∧ OwnsB W Wp.heap.size x.2.2 x.2.1
def pcS (mn me mx : Int) (bs : List UInt8) (xs : List Rec) : Prop := (∀ j, j < xs.length → okP mn me mx bs j) ∧ ¬ okP mn me mx bs xs.length
/-- What Pieces hands back: a walk over nothing, or one over a list and a rule of its own. -/
def walkV : Option (Nat × Nat) → Value
  | none => .func (.func 33) #[] #[]
  | some (z, y) => .func (.func 35) #[] #[.pointer (some ⟨z, 0, none⟩), .pointer (some ⟨y, 0, none⟩)]
def PcsC (w : World) (mn me mx : Int) (bs : List UInt8) (e : Ending) (w' : World) : Prop :=
  Below w.heap.size w w' ∧ ((mayB mn me mx = false ∧ e = .returned (walkV none)) ∨ (mayB mn me mx = true ∧ ∃ z y v, e = .returned (walkV (some (z, y))) ∧ Blk w' z #[v] 24 ∧ Blk w' y #[.int .i64 mn, .int .i64 me, .int .i64 mx] 23 ∧ OwnsB w' w.heap.size v bs ∧ w.heap.size ≤ z ∧ w.heap.size ≤ y))
set_option maxRecDepth 20000 in
set_option maxHeartbeats 1600000 in
theorem pieces_any (w : World) (mn me mx : Int) (v : Value) (bs : List UInt8) (hv : RdA w v bs) (hl : bs.length ≤ 140737488353000) : Calls Tryd.prog 17 #[cutV mn me mx, v] w (PcsC w mn me mx bs) := by
  obtain ⟨W1, hW1⟩ : ∃ W1, W1 = w.alloc (.cells #[.int .i64 mn, .int .i64 me, .int .i64 mx] 23) := ⟨_, rfl⟩
  have hb1 : Below w.heap.size w W1 := by rw [hW1]; exact (Below.refl _ _).alloc (Nat.le_refl _) _
  have hk1 : Blk W1 w.heap.size #[.int .i64 mn, .int .i64 me, .int .i64 mx] 23 := by rw [hW1]; exact Blk.made w _ _
  have HC := hide (check_any mn me mx W1)
  have HB1 := hide hb1
  have HK1 := hide hk1
  have HV := hide hv
  obtain ⟨ao, c, rfl, -⟩ := hv.slice
  unfold cutV at HC ⊢
  clear hv hb1 hk1
  go_enter Tryd.func17, Tryd.ntmps17
  go_wp2_with fail
  rw [← hW1]
  refine HC.out.mono ?_
  rintro e w2 ⟨rfl, hb2⟩
  have HB2 := hide (HB1.out.trans (hb2.mono HB1.out.size))
  have HK2 := hide (HK1.out.below hb2 HK1.out.lt)
  clear hb2 hW1 HC HB1 HK1
  by_cases hm : mayB mn me mx = true
  · have he : chk mn me mx = 0 := by unfold chk; rw [if_pos hm]
    rw [he]
    have HM := hide hm
    have HCl := hide (clone_any w2 _ bs (HV.out.below HB2.out) hl)
    clear hm he
    go_wp2_with fail
    refine HCl.out.mono ?_
    rintro e w3 ⟨v1, rfl, hO, hb3⟩
    obtain ⟨ao1, c1, rfl, -, -⟩ := hO.slice
    have hal := (Below.refl w3.heap.size w3).alloc (Nat.le_refl _) (.cells #[.slice ao1 bs.length c1] 24)
    have HR := hide (own_lower (hO.below hal) HB2.out.size)
    have HB3 := hide ((HB2.out.trans (hb3.mono HB2.out.size)).alloc (Nat.le_trans HB2.out.size hb3.size) (.cells #[.slice ao1 bs.length c1] 24))
    have HK := hide (Blk.made w3 #[.slice ao1 bs.length c1] 24)
    have HKy := hide ((HK2.out.below hb3 HK2.out.lt).below hal (HK2.out.below hb3 HK2.out.lt).lt)
    have HS := hide (Nat.le_trans HB2.out.size hb3.size)
    clear hO hb3 HCl hal
    go_wp2
    go_ret
    exact ⟨HB3.out, .inr ⟨HM.out, _, _, _, rfl, HK.out, HKy.out, HR.out, HS.out, Nat.le_refl _⟩⟩
  · have hm' : mayB mn me mx = false := by simpa using hm
    have he : chk mn me mx = 50 := by unfold chk; rw [if_neg hm]
    rw [he]
    have HM := hide hm'
    clear hm hm' he
    go_wp2
    go_ret
    exact ⟨HB2.out, .inl ⟨HM.out, rfl⟩⟩
end Go.Proofs.YtamajnaeladehaaDoor
