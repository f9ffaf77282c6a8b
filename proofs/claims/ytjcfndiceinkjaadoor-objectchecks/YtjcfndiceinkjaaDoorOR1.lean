/- The document's bytes of an object: a blob. -/
import Derived.Test.YtjcfndiceinkjaaDoorOL5
import Derived.Test.YtjcfndiceinkjaaDoorOJ1
namespace Go.Proofs.YtjcfndiceinkjaaDoor
set_option linter.unusedVariables false
set_option linter.unusedSimpArgs false
open Go.RowKit

theorem sliceKey (b o : Nat) (W : World) : (Instr.sliceAt 27 (.pointer (some ⟨b, o, none⟩)) none none none).run Tryd.prog W = .ok (.slice (some ⟨b, o, none⟩) 32 32) W := by
  have ha : Tryd.prog.arrayLen 27 = 32 := by kernel_rfl
  have hs : (sizeOf (Tryd.prog.elem 27)).run Tryd.prog W = .ok 1 W := by kernel_rfl
  rw [run_sliceAt_array_all W 27 ⟨b, o, none⟩ (by kernel_rfl), hs, ha]
  simp [Result.andThen, slicedAt, Addr.add_mid]
theorem rdA_key {w : World} {b o : Nat} {k : List UInt8} (hk : k.length = 32) (h : w.rangeAt b o (k.map u8c)) : RdA w (.slice (some ⟨b, o, none⟩) 32 32) k := by
  refine .inl ⟨_, 32, by rw [hk], by omega, by decide, .inr ⟨b, o, rfl, fun i hi => h i _ ?_⟩⟩
  rw [List.getElem?_eq_getElem (by simpa using hi), List.getElem_map]
theorem rd_one (u : Nat) (hu : u ≤ 255) (w : World) : RdA (w.alloc (.cells #[.int .u8 (u : Int)] 5)) (.slice (some ⟨w.heap.size, 0, none⟩) 1 1) (fixB 1 u) := by
  refine .inl ⟨_, 1, rfl, Nat.le_refl _, by decide, .inr ⟨_, 0, rfl, fun i hi => ?_⟩⟩
  have hi0 : i = 0 := by have : i < 1 := hi; omega
  subst hi0
  have hB : Blk (w.alloc (.cells #[.int .u8 (u : Int)] 5)) w.heap.size #[.int .u8 (u : Int)] 5 := Blk.made w _ _
  rw [hB.cell]
  show some (Value.int .u8 (u : Int)) = some (u8c (UInt8.ofNat u))
  unfold u8c
  have e : (UInt8.ofNat u).toNat = u := by simp; omega
  rw [e]
theorem own_baseB {w : World} {base base' n : Nat} {v : Value} {xs : List Value} {e : TypeId} (h : w.ownsRow base e 1 v n xs) (hb : base' ≤ base) : w.ownsRow base' e 1 v n xs := by
  obtain ⟨h0, h1 | ⟨g, cap, cur, e1, hg, hr⟩⟩ := h
  · exact ⟨h0, .inl h1⟩
  · exact ⟨h0, .inr ⟨g, cap, cur, e1, Nat.le_trans hb hg, hr⟩⟩
/-- The row that grows, beside the object. -/
structure RL (w wr : World) (o : ObjR) (v : ObjV) (va : Value) (xs : List UInt8) : Prop where
  own : wr.ownsRow (w.heap.size + 1) 5 1 va xs.length (xs.map u8c)
  obj : ObjAt wr w.heap.size o v
  old : Below w.heap.size w wr
theorem RL.size {w wr : World} {o : ObjR} {v : ObjV} {va : Value} {xs : List UInt8} (h : RL w wr o v va xs) : w.heap.size + 1 ≤ wr.heap.size := Blk.lt h.obj
theorem RL.below {w wr w' : World} {o : ObjR} {v : ObjV} {va : Value} {xs : List UInt8} (h : RL w wr o v va xs) (hb : Below wr.heap.size wr w') : RL w w' o v va xs :=
  ⟨owns_below h.own hb, h.obj.below hb, h.old.trans (hb.mono h.old.size)⟩
theorem RL.app {w wr w' : World} {o : ObjR} {v : ObjV} {va v' : Value} {xs ys : List UInt8} (h : RL w wr o v va xs) (h1 : OwnsB w' (w.heap.size + 1) v' ys) (h2 : wr.grownBy w' va.ownBlock) : RL w w' o v v' ys := by
  have hne : ∀ g, va.ownBlock = some g → w.heap.size + 1 ≤ g := fun g hg => (owns_lt h.own g hg).1
  exact ⟨h1, Blk.grown h.obj h2 (fun e => by have := hne w.heap.size e.symm; omega), h.old.grown h2 h.old.size (fun j hj => by have := hne j hj; omega)⟩
set_option maxRecDepth 20000 in
set_option maxHeartbeats 4000000 in
theorem rlaid_1 (w : World) (o : ObjR) (v : ObjV) (hr : ObjRd w o v) (hkd : o.kind = 1) (hd : o.data.length ≤ 8192) : Calls Tryd.prog 28 #[.agg (objL o v).toArray] w (OwnC w (layO o)) := by
  have hA0 : ObjAt (w.alloc (.cells (objL o v).toArray 30)) w.heap.size o v := Blk.made w _ _
  have c0 := hA0.cKind
  have hk : o.kind ≤ 255 := by omega
  have RR := hide hr
  have b1 : ((o.kind : Int) == 1) = true := by simp; omega
  have HE : Hid (layO o = fixB 1 o.kind ++ o.data) := hide (by unfold layO; rw [if_pos hkd])
  obtain ⟨W0, hW0⟩ : ∃ W, W = w.alloc (.cells (objL o v).toArray 30) := ⟨_, rfl⟩
  have HR0 : Hid (RL w (W0.alloc (.cells #[.int .u8 (o.kind : Int)] 5)) o v (.slice none 0 0) []) := hide (by
    have h0 : RL w W0 o v (.slice none 0 0) [] := by rw [hW0]; exact ⟨World.ownsRow_nil _ _ _ _, hA0, below_alloc w _⟩
    exact h0.below (below_alloc _ _))
  have RD0 := hide (rd_one o.kind hk W0)
  have RD0 : Hid (RdA ((w.alloc (.cells (objL o v).toArray 30)).alloc (.cells #[.int .u8 (o.kind : Int)] 5)) (.slice (some ⟨w.heap.size + 1, 0, none⟩) 1 1) (fixB 1 o.kind)) := hide (by have := RD0.out; rw [hW0] at this; simpa using this)
  have OW0 : Hid (((w.alloc (.cells (objL o v).toArray 30)).alloc (.cells #[.int .u8 (o.kind : Int)] 5)).ownsRow (w.heap.size + 1) 5 1 (.slice none 0 0) ([] : List UInt8).length (([] : List UInt8).map u8c)) := hide (World.ownsRow_nil _ _ _ _)
  have BS0 : Hid (w.heap.size + 1 ≤ ((w.alloc (.cells (objL o v).toArray 30)).alloc (.cells #[.int .u8 (o.kind : Int)] 5)).heap.size) := hide (by simp)
  have LN0 : Hid (([] : List UInt8).length + (fixB 1 o.kind).length ≤ 140737488355000) := hide (by rw [fixB_len]; simp)
  clear hr hA0 hkd
  go_enter Tryd.func28, Tryd.ntmps28
  go_wp2_with (first
    | ((with_reducible refine wpList_append_rdX ?_ (.tmp 7) (.tmp 10) ?_ (w.heap.size + 1) (.slice none 0 0) (.slice (some ⟨w.heap.size + 1, 0, none⟩) 1 1) [] (fixB 1 o.kind) ?_ OW0.out ?_ RD0.out LN0.out BS0.out ?_); rfl; rfl; rfl; rfl; intro va1 w1 O1 G1 E1; generalize hG : wpList _ _ _ _ _ _ = G))
  have HL1 : Hid (RL w w1 o v va1 (fixB 1 o.kind)) := hide (by rw [hW0] at HR0; exact HR0.out.app (by simpa using O1.out) G1.out)
  have hA1 := HL1.out.obj
  have c0 := hA1.cKind
  clear HR0 RD0 OW0 BS0 O1 G1 E1 hW0 hA1
  have c1 := HL1.out.obj.cD
  have RD2 : Hid (RdA w1 v.d o.data) := hide (RR.out.d.below HL1.out.old)
  have LN2 : Hid ((fixB 1 o.kind).length + o.data.length ≤ 140737488355000) := hide (by rw [fixB_len]; omega)
  obtain ⟨xs, hxs⟩ : ∃ x, x = fixB 1 o.kind := ⟨_, rfl⟩
  rw [← hxs] at HL1 LN2 HE
  clear hxs
  subst hG
  go_wp2_with (first
    | ((with_reducible refine wpList_append_rdX ?_ (.tmp 16) (.tmp 18) ?_ (w.heap.size + 1) va1 v.d xs o.data ?_ HL1.out.own ?_ RD2.out LN2.out HL1.out.size ?_); rfl; rfl; rfl; rfl; intro va2 w2 O2 G2 E2; generalize hG : wpList _ _ _ _ _ _ = G))
  have HL2 := hide (HL1.out.app O2.out G2.out)
  clear HL1 O2 G2 E2 RD2
  subst hG
  go_wp2
  go_ret
  exact ⟨va2, rfl, by rw [HE.out]; exact own_baseB HL2.out.own (by omega), HL2.out.old⟩
end Go.Proofs.YtjcfndiceinkjaaDoor
