/- Laying an object into an Enc: what it leans on; a blob. -/
import Derived.Test.YtjcfndiceinkjabDoorOC10
import Derived.Test.YtjcfndiceinkjabDoorOE5
namespace Go.Proofs.YtjcfndiceinkjabDoor
set_option linter.unusedVariables false
set_option linter.unusedSimpArgs false
open Go.RowKit

/-- An Enc beside an object: the object was there ahead of it. -/
structure LayIn (w0 w : World) (X : Nat → Prop) (z : Nat) (xs : List UInt8) (o : ObjR) (v : ObjV) : Prop where
  rd : ObjRd w0 o v
  old : Below w0.heap.size w0 w
  z0 : w0.heap.size ≤ z
  enc : EncSt w X z xs
theorem LayIn.zlt {w0 w : World} {X : Nat → Prop} {z : Nat} {xs : List UInt8} {o : ObjR} {v : ObjV} (h : LayIn w0 w X z xs o v) : z < w.heap.size := h.enc.zlt
theorem LayIn.here {w0 w : World} {X : Nat → Prop} {z : Nat} {xs : List UInt8} {o : ObjR} {v : ObjV} (h : LayIn w0 w X z xs o v) : ObjRd w o v := h.rd.below h.old
theorem LayIn.raw {w0 w w' : World} {X : Nat → Prop} {z : Nat} {xs ys : List UInt8} {o : ObjR} {v : ObjV} (h : LayIn w0 w X z xs o v) (h1 : EncSt w' X z ys) (h2 : w.grownBy w' (some z)) : LayIn w0 w' X z ys o v :=
  ⟨h.rd, h.old.trans (below_grownBy h2 h.z0 h.old.size), h.z0, h1⟩
theorem LayIn.below {w0 w w' : World} {X : Nat → Prop} {z : Nat} {xs : List UInt8} {o : ObjR} {v : ObjV} (h : LayIn w0 w X z xs o v) (hb : Below w.heap.size w w') : LayIn w0 w' X z xs o v :=
  ⟨h.rd, h.old.trans (hb.mono h.old.size), h.z0, h.enc.below hb⟩
theorem rdA_block {w0 : World} {v : Value} {xs : List UInt8} (h : RdA w0 v xs) (hx : xs ≠ []) : ∀ b o l c, v = .slice (some ⟨b, o, none⟩) l c → b < w0.heap.size := by
  rintro b o l c rfl
  rcases h with ⟨ao, c', e, hc, hm, hh⟩ | ⟨a, e, rfl⟩
  · cases e
    rcases hh with ⟨e, _⟩ | ⟨b', o', e, hcell⟩
    · cases e
    · cases e
      have := hcell 0 (by cases xs with | nil => exact absurd rfl hx | cons => simp)
      exact World.block_lt_of_cell? w0 _ this
  · exact absurd rfl hx
theorem raw_nil (w : World) (X : Nat → Prop) (z : Nat) (xs : List UInt8) (ao : Option Addr) (c : Nat) (h : EncSt w X z xs) : Calls Tryd.prog 77 #[.pointer (some ⟨z, 0, none⟩), .slice ao 0 c] w (RawE w X z xs) := by
  have H := hide h
  clear h
  go_enter Tryd.func77, Tryd.ntmps77
  go_wp2
  go_rounds 1
  go_returns
  exact ⟨rfl, H.out, ⟨rfl, rfl, rfl, Nat.le_refl _, fun _ _ _ => rfl⟩⟩
theorem raw_obj {w0 w : World} {X : Nat → Prop} {z : Nat} {xs : List UInt8} {o : ObjR} {v : ObjV} (h : LayIn w0 w X z xs o v) (hl : xs.length + o.data.length ≤ 4611686018427387904) : Calls Tryd.prog 77 #[.pointer (some ⟨z, 0, none⟩), v.d] w (RawE w X z (xs ++ o.data)) := by
  by_cases hd : o.data = []
  · rw [hd, List.append_nil]
    obtain ⟨ao, c, e, _⟩ := h.rd.d.slice
    rw [e, hd]
    exact raw_nil w X z xs ao c h.enc
  · exact raw_any w X z xs o.data v.d h.enc h.here.d (fun b o' l c e _ => by have := rdA_block h.rd.d hd b o' l c e; have := h.z0; omega) hl
set_option maxRecDepth 20000 in
set_option maxHeartbeats 2000000 in
theorem lay_1 {w0 w : World} {X : Nat → Prop} {z : Nat} {o : ObjR} {v : ObjV} (h : LayIn w0 w X z [] o v) (hkd : o.kind = 1) (hd : o.data.length ≤ 8192) : Calls Tryd.prog 40 #[.pointer (some ⟨z, 0, none⟩), .agg (objL o v).toArray] w (RawE w X z (layO o)) := by
  have hA0 : ObjAt (w.alloc (.cells (objL o v).toArray 30)) w.heap.size o v := Blk.made w _ _
  have HI := hide (h.below (below_alloc w (.cells (objL o v).toArray 30)))
  have HZ := hide h.zlt
  have HA := hide hA0
  have c0 := hA0.cKind
  have HE : Hid (layO o = fixB 1 o.kind ++ o.data) := hide (by unfold layO; rw [if_pos hkd])
  have b1 : ((o.kind : Int) == 1) = true := by simp; omega
  have hk : o.kind ≤ 255 := by omega
  have HG : Hid (w.grownBy (w.alloc (.cells (objL o v).toArray 30)) (some z)) := hide (World.grownBy_alloc _ _ _)
  clear h hA0 hkd
  go_enter Tryd.func40, Tryd.ntmps40
  go_wp2_with fail
  refine (put_kind _ X z [] o.kind hk HI.out.enc (by simp)).mono ?_
  rintro e w1 ⟨rfl, h1, h2⟩
  have HI1 := hide (HI.out.raw h1 h2)
  have hA1 := Blk.grown HA.out h2 (fun e => by have := Option.some.inj e; have := HZ.out; omega)
  have HG1 := hide (grownBy_trans HG.out h2)
  have c0 := ObjAt.cKind hA1
  have c1 := ObjAt.cD hA1
  clear HI HG HA h1 h2 hA1
  go_wp2_with fail
  refine (raw_obj HI1.out (by simp [fixB]; omega)).mono ?_
  rintro e w2 ⟨rfl, h3, h4⟩
  have H3 := hide h3
  have HG2 := hide (grownBy_trans HG1.out h4)
  clear h3 h4
  go_wp2
  go_returns
  exact ⟨rfl, by rw [HE.out]; exact H3.out, HG2.out⟩
end Go.Proofs.YtjcfndiceinkjabDoor
