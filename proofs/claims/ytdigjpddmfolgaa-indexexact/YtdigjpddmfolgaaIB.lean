/- Keys held against one another: bytes.Compare, index.compare. -/
import Derived.Test.YtdigjpddmfolgaaIA
import Derived.Test.YtdigjpddmfolgaaKP2
import Derived.Lib.BytesEntry
namespace Go.Proofs.Ytdigjpddmfolgaa
set_option linter.unusedVariables false
set_option linter.unusedSimpArgs false
namespace TX
open Go.RowKit
set_option maxRecDepth 100000

theorem load_key {P : Program} {w : World} {z : Nat} {a : KY} (h : KB w z a) (c : Nat) : (Extern.Bytes.bytesOf (.slice (some ⟨z, 0, none⟩) 32 c)).run P w = .ok ⟨a.bs.toArray⟩ w := by
  have := Lib.run_loadBytesX (P := P) w (a.bs.map fun u => (u.toNat : Int)) ⟨z, 0, none⟩ .empty (fun j x hj => by
    rw [Addr.add_mid, Nat.zero_add, Blk.cell h]
    rw [List.getElem?_map] at hj
    obtain ⟨u, hu, rfl⟩ := Option.map_eq_some_iff.1 hj
    simp [kA, kC, hu, u8c])
  rw [List.length_map, a.l32] at this
  show (Extern.Bytes.loadBytes ⟨z, 0, none⟩ 32 .empty).run P w = _
  rw [this]
  have e : Lib.bytesOf (a.bs.map fun u => (u.toNat : Int)) = a.bs := by
    have : ((fun n : Int => UInt8.ofNat n.toNat) ∘ fun u : UInt8 => (u.toNat : Int)) = id := by funext u; simp
    simp [Lib.bytesOf, this]
  rw [e]
  simp
theorem blk_mk1 (w : World) (o : Obj) (cs : Array Value) (t : TypeId) : Blk ((w.alloc o).alloc (.cells cs t)) (w.heap.size + 1) cs t := by
  have := Blk.made (w.alloc o) cs t
  rw [World.size_alloc] at this
  exact this
def cmp (a b : KY) : Int := cmpK a.bs b.bs
theorem bCompare_any (w : World) (za zb ca cb : Nat) (a b : KY) (ha : KB w za a) (hb : KB w zb b) : Calls Try.prog 55 #[.slice (some ⟨za, 0, none⟩) 32 ca, .slice (some ⟨zb, 0, none⟩) 32 cb] w fun e w' => e = .returned (.int .i64 (cmp a b)) ∧ w' = w := by
  have hx : (Extern.BytealgCompare.compare #[.slice (some ⟨za, 0, none⟩) 32 ca, .slice (some ⟨zb, 0, none⟩) 32 cb]).run Try.prog w = .ok (.int .i64 (cmp a b)) w := by
    change Sem.run Try.prog (do pure (goInt (Extern.BytealgCompare.cmp (← Extern.Bytes.bytesOf (.slice (some ⟨za, 0, none⟩) 32 ca)) (← Extern.Bytes.bytesOf (.slice (some ⟨zb, 0, none⟩) 32 cb))))) w = _
    simp only [Sem.run_bind, load_key ha, load_key hb, Sem.run_pure, Result.andThen]
    rw [Lib.cmp_eq]
    rfl
  go_enter Try.func55, Try.ntmps55
  go_wp2
  rw [run_callFunc_extern Try.func61 (by kernel_rfl) (by kernel_rfl) (by kernel_rfl) (e := Extern.BytealgCompare.compare) (by kernel_rfl), hx]
  simp only [Result.andThen]
  rw [Oper.upon_value]
  go_wp2
  go_ret
  exact ⟨rfl, rfl⟩
theorem slice_key (z : Nat) (W : World) : (Instr.sliceAt KT (.pointer (some ⟨z, 0, none⟩)) none none none).run Try.prog W = .ok (.slice (some ⟨z, 0, none⟩) 32 32) W := by kernel_rfl
set_option maxHeartbeats 1000000 in
theorem compare_any (a b : KY) (w : World) : Calls Try.prog 38 #[kV a, kV b] w fun e w' => e = .returned (.int .i64 (cmp a b)) ∧ Below w.heap.size w w' := by
  have hsk := slice_key
  have HA : Hid (KB ((w.alloc (.cells (kA a) KT)).alloc (.cells (kA b) KT)) w.heap.size a) := hide ((Blk.made w _ _).alloc _)
  have HB : Hid (KB ((w.alloc (.cells (kA a) KT)).alloc (.cells (kA b) KT)) (w.heap.size + 1) b) := hide (blk_mk1 w _ _ _)
  have HW : Hid (Below w.heap.size w ((w.alloc (.cells (kA a) KT)).alloc (.cells (kA b) KT))) := hide (((Below.refl _ _).alloc (Nat.le_refl _) _).alloc (by simp) _)
  have HC := hide (fun d os => bCompare_any (Sort.grow (redrawn ((w.alloc (.cells (kA a) KT)).alloc (.cells (kA b) KT)) d) os) w.heap.size (w.heap.size + 1) 32 32 a b (HA.out.below (below_regrown _ d os)) (HB.out.below (below_regrown _ d os)))
  go_enter Try.func38, Try.ntmps38
  go_upto_region 1 with fail
  refine wp_region_quiet_below (by kernel_rfl) (by kernel_rfl) ?_
  quiet_step (fail)
  quiet_step (fail)
  quiet_step (exact Calls.regrown_of ((HC.out _ _).mono fun e w' h => ⟨h.1, by rw [h.2]; exact Below.refl _ _⟩))
  quiet_step (fail)
  refine wpQuiet_nil ?_
  intro _ hw'
  obtain ⟨⟨dq, osq⟩, hw''⟩ := hw'
  subst hw''
  go_wp2
  go_ret
  exact ⟨rfl, HW.out.trans ((below_regrown _ dq osq).mono HW.out.size)⟩
theorem cmp_self (a : KY) : cmp a a = 0 := cmpK_self _
theorem cmp_neg (a b : KY) : cmp b a = - cmp a b := cmpK_neg _ _
theorem KY.ext {a b : KY} (h : a.bs = b.bs) : a = b := by cases a; cases b; simp_all
theorem cmp_zero {a b : KY} (h : cmp a b = 0) : a = b := KY.ext (cmpK_zero _ _ h)
theorem cmp_trans {a b c : KY} (h1 : cmp a b < 0) (h2 : cmp b c < 0) : cmp a c < 0 := cmpK_lt_le h1 (by unfold cmp at h2; omega)
theorem cmp_tri (a b : KY) : cmp a b < 0 ∨ a = b ∨ cmp b a < 0 := by
  rcases Int.lt_trichotomy (cmp a b) 0 with h | h | h
  · exact .inl h
  · exact .inr (.inl (cmp_zero h))
  · exact .inr (.inr (by rw [cmp_neg]; omega))
/-- A key's first byte. -/
def k0 (k : KY) : Nat := (k.bs.headD 0).toNat
theorem cmp_head {a b : KY} (h : k0 a < k0 b) : cmp a b < 0 := by
  obtain ⟨la, ha⟩ := a
  obtain ⟨lb, hb⟩ := b
  unfold k0 at h
  cases la with
  | nil => simp at ha
  | cons x xs =>
    cases lb with
    | nil => simp at hb
    | cons y ys =>
      simp only [List.headD_cons] at h
      unfold cmp
      rw [cmpK_cons, if_pos (UInt8.lt_iff_toNat_lt.2 h)]
      decide
end TX
end Go.Proofs.Ytdigjpddmfolgaa
