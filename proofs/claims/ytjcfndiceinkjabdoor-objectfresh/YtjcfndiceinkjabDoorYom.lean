/- Open. -/
import Derived.Test.YtjcfndiceinkjabDoorYbm
namespace Go.Proofs.YtjcfndiceinkjabDoor
set_option linter.unusedVariables false
set_option linter.unusedSimpArgs false
set_option maxRecDepth 100000
open Go.RowKit

def sZ0 : S := ⟨0, 0, 0⟩
set_option maxRecDepth 20000 in
theorem open_any (w : World) (v : Value) (xs : List UInt8) (h : Rd w v xs) (hlen : xs.length ≤ 140737488355000) :
    Calls Tryd.prog 23 #[v] w fun e w' => e = .returned (.pointer (some ⟨w.heap.size + 1, 0, none⟩)) ∧ DecSt w' (w.heap.size + 1) (.slice (some ⟨w.heap.size, 0, none⟩) xs.length xs.length) xs sZ0 ∧ Below w.heap.size w w' ∧ w'.heap.size = w.heap.size + 2 := by
  have hmk := make_u8 xs.length (by omega)
  have hcp := copy_made w v xs h
  obtain ⟨ao, c, hv, hrest⟩ := h
  clear hrest
  subst hv
  go_enter Tryd.func23, Tryd.ntmps23
  go_wp2
  go_ret
  refine ⟨rfl, ⟨⟨by unfold maxLen; omega, .inr ⟨w.heap.size, rfl, by omega, (Blk.made w _ _).alloc _⟩⟩, Nat.zero_le _, ?_⟩, ((Below.refl _ _).alloc (Nat.le_refl _) _).alloc (by simp) _, by simp⟩
  have := Blk.made (w.alloc (.cells (xs.map u8c).toArray 5)) #[.slice (some ⟨w.heap.size, 0, none⟩) xs.length xs.length, .int .i64 0, .int .i64 0, .int .i64 0] 90
  rw [World.size_alloc] at this
  exact this

end Go.Proofs.YtjcfndiceinkjabDoor

/- Decode, as the program does it. -/
namespace Go.Proofs.YtjcfndiceinkjabDoor
set_option linter.unusedVariables false
set_option linter.unusedSimpArgs false
set_option maxRecDepth 100000
open Go.RowKit

def mObj (bs : List UInt8) (k : Nat) (s : S) : ObjR × S := if k = 1 then mBlob bs s else if k = 2 then mList bs s else if k = 3 then mTree bs s else mSnap bs s
/-- What Decode tells of some bytes: the error and the object. -/
def decO (bs : List UInt8) : Int × ObjR :=
  if 8192 < bs.length then (48, zeroO)
  else if (mByte bs sZ0).1 < 1 ∨ 4 < (mByte bs sZ0).1 then (49, zeroO)
  else if (mObj bs (mByte bs sZ0).1 (mByte bs sZ0).2).2.code ≠ 0 ∨ (mObj bs (mByte bs sZ0).1 (mByte bs sZ0).2).2.p < bs.length then (49, zeroO)
  else if wrongO (mObj bs (mByte bs sZ0).1 (mByte bs sZ0).2).1 ≠ 0 then (49, zeroO)
  else (0, (mObj bs (mByte bs sZ0).1 (mByte bs sZ0).2).1)
theorem mObj_few (bs : List UInt8) (k : Nat) (s : S) : (mObj bs k s).1.parts.length ≤ 128 ∧ (mObj bs k s).1.items.length ≤ 128 ∧ (mObj bs k s).1.parents.length ≤ 128 := by
  unfold mObj
  split
  · exact ⟨by simp [mBlob, kindO, zeroO], by simp [mBlob, kindO, zeroO], by simp [mBlob, kindO, zeroO]⟩
  split
  · exact ⟨mEachT_len _ _ _ _, by simp [mList, kindO, zeroO], by simp [mList, kindO, zeroO]⟩
  split
  · exact ⟨by simp [mTree, kindO, zeroO], mEachT_len _ _ _ _, by simp [mTree, kindO, zeroO]⟩
  · exact ⟨by simp [mSnap, kindO, zeroO], by simp [mSnap, kindO, zeroO], Nat.le_trans (mEachT_len (mKeyT bs) bs (mKeyT bs s).2 127) (by decide)⟩
def tkF (k : Nat) : Value := if k = 1 then .func (.func 45) #[] #[] else if k = 2 then .func (.func 48) #[] #[] else if k = 3 then .func (.func 51) #[] #[] else if k = 4 then .func (.func 54) #[] #[] else .nilFunc
theorem tk_1 (w : World) (k : Nat) (h : k = 1) : Calls Tryd.prog 25 #[.int .u8 (k : Int)] w fun e w' => e = .returned (.func (.func 45) #[] #[]) ∧ w' = w := by
  have b1 : ((k : Int) == 1) = true := by simp; omega
  clear h
  go_enter Tryd.func25, Tryd.ntmps25
  go_wp2
  go_ret
  exact ⟨rfl, rfl⟩
theorem tk_2 (w : World) (k : Nat) (h : k = 2) : Calls Tryd.prog 25 #[.int .u8 (k : Int)] w fun e w' => e = .returned (.func (.func 48) #[] #[]) ∧ w' = w := by
  have b1 : ((k : Int) == 1) = false := by simp; omega
  have b2 : ((k : Int) == 2) = true := by simp; omega
  clear h
  go_enter Tryd.func25, Tryd.ntmps25
  go_wp2
  go_ret
  exact ⟨rfl, rfl⟩
theorem tk_3 (w : World) (k : Nat) (h : k = 3) : Calls Tryd.prog 25 #[.int .u8 (k : Int)] w fun e w' => e = .returned (.func (.func 51) #[] #[]) ∧ w' = w := by
  have b1 : ((k : Int) == 1) = false := by simp; omega
  have b2 : ((k : Int) == 2) = false := by simp; omega
  have b3 : ((k : Int) == 3) = true := by simp; omega
  clear h
  go_enter Tryd.func25, Tryd.ntmps25
  go_wp2
  go_ret
  exact ⟨rfl, rfl⟩
theorem tk_4 (w : World) (k : Nat) (h : k = 4) : Calls Tryd.prog 25 #[.int .u8 (k : Int)] w fun e w' => e = .returned (.func (.func 54) #[] #[]) ∧ w' = w := by
  have b1 : ((k : Int) == 1) = false := by simp; omega
  have b2 : ((k : Int) == 2) = false := by simp; omega
  have b3 : ((k : Int) == 3) = false := by simp; omega
  have b4 : ((k : Int) == 4) = true := by simp; omega
  clear h
  go_enter Tryd.func25, Tryd.ntmps25
  go_wp2
  go_ret
  exact ⟨rfl, rfl⟩
theorem tk_0 (w : World) (k : Nat) (h1 : k ≠ 1) (h2 : k ≠ 2) (h3 : k ≠ 3) (h4 : k ≠ 4) : Calls Tryd.prog 25 #[.int .u8 (k : Int)] w fun e w' => e = .returned (.nilFunc) ∧ w' = w := by
  have b1 : ((k : Int) == 1) = false := by simp; omega
  have b2 : ((k : Int) == 2) = false := by simp; omega
  have b3 : ((k : Int) == 3) = false := by simp; omega
  have b4 : ((k : Int) == 4) = false := by simp; omega
  clear h1 h2 h3 h4
  go_enter Tryd.func25, Tryd.ntmps25
  go_wp2
  go_ret
  exact ⟨rfl, rfl⟩
theorem run_buildOK {op : Oper} {ev : Operand → Value} {x : Operand} {k : Nat} (ho : op.op = .build 30 #[(0, x)]) (hx : ev x = .int .u8 (k : Int)) (w : World) : (execOp ev op).run Tryd.prog w = .ok (.value (.agg (objL (kindO k) nilV).toArray)) w := by
  simp only [execOp, ho]
  simp only [List.map_toArray, List.map_cons, List.map_nil, hx]
  kernel_rfl
theorem notnil_f (f : FuncId) (w : World) (hf : f = 45 ∨ f = 48 ∨ f = 51 ∨ f = 54) : (binOp BinOp.eql 61 (.func (.func f) #[] #[]) .nilFunc).run Tryd.prog w = .ok (.bool false) w := by
  rcases hf with rfl | rfl | rfl | rfl <;> kernel_rfl
/-- The object in new memory, and the error. -/
def DecC (w : World) (bs : List UInt8) (e : Ending) (w' : World) : Prop := ∃ v', e = .returned (.tuple #[.agg (objL (decO bs).2 v').toArray, .int .i64 (decO bs).1]) ∧ ObjOwn w.heap.size w' (decO bs).2 v' ∧ Below w.heap.size w w'
theorem decC_mk {w w' : World} {bs : List UInt8} {o : ObjR} {v' : ObjV} {c : Int} (h : decO bs = (c, o)) (h1 : ObjOwn w.heap.size w' o v') (hb : Below w.heap.size w w') : DecC w bs (.returned (.tuple #[.agg (objL o v').toArray, .int .i64 c])) w' := by
  unfold DecC
  rw [h]
  exact ⟨v', rfl, h1, hb⟩
theorem decC_no {w w' : World} {bs : List UInt8} {c : Int} (h : decO bs = (c, zeroO)) (hb : Below w.heap.size w w') : DecC w bs (.returned (.tuple #[.agg objZ, .int .i64 c])) w' := decC_mk (v' := nilV) h (kindO_own _ _ 0) hb
theorem objOwn_base {N N' : Nat} {w : World} {o : ObjR} {v : ObjV} (h : ObjOwn N w o v) (hb : N' ≤ N) : ObjOwn N' w o v := ⟨h.ok, ownsRow_baseK h.d hb, ownsRow_baseK h.p hb, ownsRow_baseK h.i hb, ownsRow_baseK h.k hb⟩
theorem Ch2.below {w W : World} {a b N : Nat} (h : Ch2 w W a b) (ha : N ≤ a) (hb : N ≤ b) (hN : N ≤ w.heap.size) : Below N w W := ⟨h.os, h.tape, h.output, h.size, fun k hk => h.block k (by omega) (by omega) (by omega)⟩
theorem time_ok (n : Int) : (Lit.int .i64 (IntKind.i64.wrap n)).wf = true := wf_wrap _ _
theorem mObj_txt (bs : List UInt8) (k : Nat) (s : S) (hk : k ≤ 4) : TxtSz (mObj bs k s).1 := by
  have hz : (Lit.int .i64 0).wf = true := by decide
  unfold mObj
  split
  · exact ⟨by simp [mBlob, kindO, zeroO], by simp [mBlob, kindO, zeroO], by simp [mBlob, kindO, zeroO], by simp [mBlob, kindO], hz⟩
  split
  · exact ⟨by simp [mList, kindO, zeroO], by simp [mList, kindO, zeroO], mEachT_ok (mPart bs) (fun p => p.2 ≤ 18446744073709551615) (fun s => Nat.le_trans (mNum_ok_le bs _ _) (by decide)) bs s 128, by simp [mList, kindO], hz⟩
  split
  · exact ⟨mEachT_ok (mItem bs) (fun p => p.2.1 ≤ 255) (fun s => by have := mByte_lt bs (mText bs s 64).2; show (mByte bs (mText bs s 64).2).1 ≤ 255; omega) bs s 128, mEachT_ok (mItem bs) (fun p => p.2.2.1 ≤ 18446744073709551615) (fun s => mNum_ok_le bs _ _) bs s 128, by simp [mTree, kindO, zeroO], by simp [mTree, kindO], hz⟩
  · exact ⟨by simp [mSnap, kindO, zeroO], by simp [mSnap, kindO, zeroO], by simp [mSnap, kindO, zeroO], by simp [mSnap, kindO], time_ok _⟩
theorem objOwn_up {N : Nat} {W W' : World} {o : ObjR} {v : ObjV} (h : ObjOwn (N + 1) W o v) (hg : W.grownBy W' (some N)) : ObjOwn N W' o v :=
  objOwn_base (h.kept hg (fun k e => by cases e; omega)) (by omega)
theorem results_cell2D {fn : Func} {p q : Tmp} {ty : TypeId} (h : fn.results = #[.cell p ty, .tmp q]) (tmps : Array Value) (w : World) (a : Addr) (ha : tmps.getD p undef = .pointer (some a)) (v : Value) (hl : (loadVar ty a).run Tryd.prog w = .ok v w) :
    (results fn tmps).run Tryd.prog w = .ok (.tuple #[v, tmps.getD q undef]) w := by
  simp only [results, h]
  have ha' : tmps[p]?.getD undef = .pointer (some a) := by simpa using ha
  simp [Sem.run_bind, Result.andThen, ha', asAddr, hl]
end Go.Proofs.YtjcfndiceinkjabDoor
