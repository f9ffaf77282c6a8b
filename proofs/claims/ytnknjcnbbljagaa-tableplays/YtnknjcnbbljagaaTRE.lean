/- A step of the script: Put, Del, Get, Probes, Len, Cap, Tombs, Left. -/
import Derived.Test.YtnknjcnbbljagaaTRC
namespace Go.Proofs.Ytnknjcnbbljagaa
set_option linter.unusedVariables false
set_option linter.unusedSimpArgs false
namespace RR
set_option maxRecDepth 100000
open Go.RowKit

section
variable {B z gy ge bt bm r hy he : Nat} {ti ma : Int} {T : TB} {P : Nat}
theorem done_put (w : World) (H : One w B z gy ge bt bm r hy he ti ma T P) (hB : B ≤ w.heap.size) (hP : P + 1 ≤ 4398046511104) (o : Bool) (k v : Int) : Calls Try.prog 12 #[.pointer (some ⟨z, 0, none⟩), .pointer (some ⟨r, 0, none⟩), .agg (xL 0 o k v)] w (DoneC w B z gy ge bt bm r hy he ti ma P) := by
  obtain ⟨W1, hW1⟩ : ∃ W, W = w.alloc (.cells #[.int .i64 0, .bool o, .int .i64 k, .int .i64 v] 36) := ⟨_, rfl⟩
  have hb1 : Below w.heap.size w W1 := by rw [hW1]; exact below_alloc w _
  have hB1 : Blk W1 w.heap.size (xL 0 o k v) 36 := by rw [hW1]; exact Blk.made w _ _
  have hS1 := H.below hb1
  have x0 : W1.cell? ⟨w.heap.size, 0, none⟩ = some (.int .i64 0) := by rw [hB1.cell]; rfl
  have x2 : W1.cell? ⟨w.heap.size, 2, none⟩ = some (.int .i64 k) := by rw [hB1.cell]; rfl
  have x3 : W1.cell? ⟨w.heap.size, 3, none⟩ = some (.int .i64 v) := by rw [hB1.cell]; rfl
  have HPut := hide (Go.Proofs.Ytnknjcnbbljagaa.put_any W1 hS1.tb hS1.hs H.inv.ok k v (grow_ok H.inv hS1.tb.ly hP k v))
  have HR : Hid (∀ w2, Frm W1 w2 (TbB z gy ge) → Calls Try.prog 46 #[.pointer (some ⟨r, 0, none⟩), .int .i64 k, .int .i64 v] w2 (PutC w2 r hy he ti ma (imT T) (k, 0) v)) := hide (fun w2 hf => put_any w2 (hS1.rb.frm hS1.tb hf) (ok8_im H.inv.ok) k v (putOk_im H hP k v))
  have HX : Hid (∀ w2, Frm W1 w2 (TbB z gy ge) → w2.cell? ⟨w.heap.size, 2, none⟩ = some (.int .i64 k) ∧ w2.cell? ⟨w.heap.size, 3, none⟩ = some (.int .i64 v) ∧ w.heap.size < w2.heap.size) := hide (fun w2 hf => by
    have hxn : ¬ TbB z gy ge w.heap.size := hS1.tb.notB hB1 (by decide) (by decide)
    have hxx : Blk w2 w.heap.size (xL 0 o k v) 36 := (hf.block w.heap.size hB1.lt hxn).trans hB1
    exact ⟨by rw [hxx.cell]; rfl, by rw [hxx.cell]; rfl, hxx.lt⟩)
  have HI : Hid (Inv (hsh ti ma) (putT eqK (hsh ti ma) T k v) (P + 1)) := hide (((H.inv.step).1.put (eqK_hs ti ma) k v (0 : Int)).inv)
  have HH := hide H
  have HBB := hide hb1
  have HB0 := hide hB
  have hxl := hB1.lt
  have hW1' := hW1.symm
  obtain ⟨a1, ha1⟩ : ∃ x, x = valT 0 (stepT (hsh ti ma) T) (seek eqK (hsh ti ma) (stepT (hsh ti ma) T) k).1 := ⟨_, rfl⟩
  obtain ⟨a2, ha2⟩ : ∃ x, x = (seek eqK (hsh ti ma) (stepT (hsh ti ma) T) k).1.isSome := ⟨_, rfl⟩
  have HP2 : Hid (Calls Try.prog 50 #[.pointer (some ⟨z, 0, none⟩), .int .i64 k, .int .i64 v] W1 fun e w2 => e = .returned (.tuple #[.int .i64 a1, .bool a2]) ∧ TbS W1 w2 z gy ge (hvF FP bt bm) (putT eqK (hsh ti ma) T k v)) := hide (by
    rw [ha1, ha2]; exact HPut.out)
  have HR2 : Hid (∀ w2, Frm W1 w2 (TbB z gy ge) → Calls Try.prog 46 #[.pointer (some ⟨r, 0, none⟩), .int .i64 k, .int .i64 v] w2 fun e w3 => e = .returned (.tuple #[.int .i64 a1, .bool a2]) ∧ TrS w2 w3 r hy he ti ma (imT (putT eqK (hsh ti ma) T k v))) := hide (fun w2 hf => (HR.out w2 hf).mono (fun e w3 h => by
    obtain ⟨h1, h2⟩ := h
    rw [putT_im] at h2
    refine ⟨?_, h2⟩
    rw [h1, ha1, ha2]
    unfold ansR
    rw [stepT_im, seek_im, valT_im]))
  clear H hS1 hB1 hb1 hW1 HPut HR ha1 ha2
  unfold xL
  go_enter Try.func12, Try.ntmps12
  go_upto_region 1 with fail
  clear hW1'
  go_upto_region 4 with (go_at_call 50; refine HP2.out.mono ?_; rintro e w2 ⟨rfl, hk⟩; have HK := hide hk; clear hk)
  obtain ⟨y2, y3, hyl⟩ := HX.out w2 HK.out.fr
  have HRq := hide (HR2.out w2 HK.out.fr)
  clear HX HR2 HP2 x0 x2 x3
  go_wp2_with (go_at_call 46; refine HRq.out.mono ?_; rintro e w3 ⟨rfl, hk⟩; have HK3 := hide hk; clear hk)
  go_ret
  exact HH.out.both HB0.out HBB.out HK.out HK3.out HI.out
theorem done_del (w : World) (H : One w B z gy ge bt bm r hy he ti ma T P) (hB : B ≤ w.heap.size) (o : Bool) (k v : Int) : Calls Try.prog 12 #[.pointer (some ⟨z, 0, none⟩), .pointer (some ⟨r, 0, none⟩), .agg (xL 1 o k v)] w (DoneC w B z gy ge bt bm r hy he ti ma P) := by
  obtain ⟨W1, hW1⟩ : ∃ W, W = w.alloc (.cells #[.int .i64 1, .bool o, .int .i64 k, .int .i64 v] 36) := ⟨_, rfl⟩
  have hb1 : Below w.heap.size w W1 := by rw [hW1]; exact below_alloc w _
  have hB1 : Blk W1 w.heap.size (xL 1 o k v) 36 := by rw [hW1]; exact Blk.made w _ _
  have hS1 := H.below hb1
  have x0 : W1.cell? ⟨w.heap.size, 0, none⟩ = some (.int .i64 1) := by rw [hB1.cell]; rfl
  have x2 : W1.cell? ⟨w.heap.size, 2, none⟩ = some (.int .i64 k) := by rw [hB1.cell]; rfl
  have x3 : W1.cell? ⟨w.heap.size, 3, none⟩ = some (.int .i64 v) := by rw [hB1.cell]; rfl
  have HPut := hide (Go.Proofs.Ytnknjcnbbljagaa.del_any W1 hS1.tb hS1.hs H.inv.ok k)
  have HR : Hid (∀ w2, Frm W1 w2 (TbB z gy ge) → Calls Try.prog 44 #[.pointer (some ⟨r, 0, none⟩), .int .i64 k] w2 (DelC w2 r hy he ti ma (imT T) (k, 0))) := hide (fun w2 hf => del_any w2 (hS1.rb.frm hS1.tb hf) (ok8_im H.inv.ok) (k, 0))
  have HX : Hid (∀ w2, Frm W1 w2 (TbB z gy ge) → w2.cell? ⟨w.heap.size, 2, none⟩ = some (.int .i64 k) ∧ w2.cell? ⟨w.heap.size, 3, none⟩ = some (.int .i64 v) ∧ w.heap.size < w2.heap.size) := hide (fun w2 hf => by
    have hxn : ¬ TbB z gy ge w.heap.size := hS1.tb.notB hB1 (by decide) (by decide)
    have hxx : Blk w2 w.heap.size (xL 1 o k v) 36 := (hf.block w.heap.size hB1.lt hxn).trans hB1
    exact ⟨by rw [hxx.cell]; rfl, by rw [hxx.cell]; rfl, hxx.lt⟩)
  have HI : Hid (Inv (hsh ti ma) (delT eqK (hsh ti ma) T k) (P + 1)) := hide ((((H.inv.step).1.del (eqK_hs ti ma) k (0 : Int)).inv).mono (Nat.le_succ _))
  have HH := hide H
  have HBB := hide hb1
  have HB0 := hide hB
  have hxl := hB1.lt
  have hW1' := hW1.symm
  obtain ⟨a1, ha1⟩ : ∃ x, x = valT 0 (stepT (hsh ti ma) T) (seek eqK (hsh ti ma) (stepT (hsh ti ma) T) k).1 := ⟨_, rfl⟩
  obtain ⟨a2, ha2⟩ : ∃ x, x = (seek eqK (hsh ti ma) (stepT (hsh ti ma) T) k).1.isSome := ⟨_, rfl⟩
  have HP2 : Hid (Calls Try.prog 51 #[.pointer (some ⟨z, 0, none⟩), .int .i64 k] W1 fun e w2 => e = .returned (.tuple #[.int .i64 a1, .bool a2]) ∧ TbS W1 w2 z gy ge (hvF FP bt bm) (delT eqK (hsh ti ma) T k)) := hide (by
    rw [ha1, ha2]; exact HPut.out)
  have HR2 : Hid (∀ w2, Frm W1 w2 (TbB z gy ge) → Calls Try.prog 44 #[.pointer (some ⟨r, 0, none⟩), .int .i64 k] w2 fun e w3 => e = .returned (.tuple #[.int .i64 a1, .bool a2]) ∧ TrS w2 w3 r hy he ti ma (imT (delT eqK (hsh ti ma) T k))) := hide (fun w2 hf => (HR.out w2 hf).mono (fun e w3 h => by
    obtain ⟨h1, h2⟩ := h
    rw [delT_im] at h2
    refine ⟨?_, h2⟩
    rw [h1, ha1, ha2]
    unfold ansR
    rw [stepT_im, seek_im, valT_im]))
  clear H hS1 hB1 hb1 hW1 HPut HR ha1 ha2
  unfold xL
  go_enter Try.func12, Try.ntmps12
  go_upto_region 1 with fail
  clear hW1'
  go_upto_region 8 with (go_at_call 51; refine HP2.out.mono ?_; rintro e w2 ⟨rfl, hk⟩; have HK := hide hk; clear hk)
  obtain ⟨y2, y3, hyl⟩ := HX.out w2 HK.out.fr
  have HRq := hide (HR2.out w2 HK.out.fr)
  clear HX HR2 HP2 x0 x2 x3
  go_wp2_with (go_at_call 44; refine HRq.out.mono ?_; rintro e w3 ⟨rfl, hk⟩; have HK3 := hide hk; clear hk)
  go_ret
  exact HH.out.both HB0.out HBB.out HK.out HK3.out HI.out
theorem done_get (w : World) (H : One w B z gy ge bt bm r hy he ti ma T P) (o : Bool) (k v : Int) : Calls Try.prog 12 #[.pointer (some ⟨z, 0, none⟩), .pointer (some ⟨r, 0, none⟩), .agg (xL 2 o k v)] w (DoneC w B z gy ge bt bm r hy he ti ma P) := by
  obtain ⟨W1, hW1⟩ : ∃ W, W = w.alloc (.cells #[.int .i64 2, .bool o, .int .i64 k, .int .i64 v] 36) := ⟨_, rfl⟩
  have hb1 : Below w.heap.size w W1 := by rw [hW1]; exact below_alloc w _
  have hB1 : Blk W1 w.heap.size (xL 2 o k v) 36 := by rw [hW1]; exact Blk.made w _ _
  have hS1 := H.below hb1
  have x0 : W1.cell? ⟨w.heap.size, 0, none⟩ = some (.int .i64 2) := by rw [hB1.cell]; rfl
  have x2 : W1.cell? ⟨w.heap.size, 2, none⟩ = some (.int .i64 k) := by rw [hB1.cell]; rfl
  have HEnd : Hid (∀ q, DoneC w B z gy ge bt bm r hy he ti ma P (.returned (.bool true)) (W1.drewN q)) := hide (fun q => H.read (below_dN hb1 q))
  have hxl := hB1.lt
  have hW1' := hW1.symm
  obtain ⟨a1, ha1⟩ : ∃ x, x = valT 0 T (seek eqK (hsh ti ma) T k).1 := ⟨_, rfl⟩
  obtain ⟨a2, ha2⟩ : ∃ x, x = (seek eqK (hsh ti ma) T k).1.isSome := ⟨_, rfl⟩
  have H1 := hide (Go.Proofs.Ytnknjcnbbljagaa.get_any W1 hS1.tb hS1.hs k)
  rw [← ha1, ← ha2] at H1
  have H2 : Hid (∀ q, Calls Try.prog 53 #[.pointer (some ⟨r, 0, none⟩), .int .i64 k] (W1.drewN q) fun e w' => e = .returned (.tuple #[.int .i64 a1, .bool a2]) ∧ ∃ q', w' = (W1.drewN q).drewN q') := hide (fun q => (get_any (W1.drewN q) (hS1.rb.drewN q) (k, 0)).mono (fun e w' h => by
    obtain ⟨h1, h2⟩ := h
    rw [seek_im, valT_im] at h1
    rw [ha1, ha2]
    exact ⟨h1, h2⟩))
  clear H hS1 hB1 hb1 hW1 ha1 ha2
  unfold xL
  go_enter Try.func12, Try.ntmps12
  go_upto_region 1 with fail
  clear hW1'
  go_wp2_with (first | (go_at_call 52; (with_reducible refine H1.out.mono ?_); rintro e w2 ⟨rfl, q1, hw⟩; rw [hw]; clear hw) | (go_at_call 53; (with_reducible refine (H2.out _).mono ?_); rintro e w3 ⟨rfl, q2, hw⟩; rw [hw]; clear hw))
  go_ret
  exact HEnd.out _
theorem done_probes (w : World) (H : One w B z gy ge bt bm r hy he ti ma T P) (o : Bool) (k v : Int) : Calls Try.prog 12 #[.pointer (some ⟨z, 0, none⟩), .pointer (some ⟨r, 0, none⟩), .agg (xL 3 o k v)] w (DoneC w B z gy ge bt bm r hy he ti ma P) := by
  obtain ⟨W1, hW1⟩ : ∃ W, W = w.alloc (.cells #[.int .i64 3, .bool o, .int .i64 k, .int .i64 v] 36) := ⟨_, rfl⟩
  have hb1 : Below w.heap.size w W1 := by rw [hW1]; exact below_alloc w _
  have hB1 : Blk W1 w.heap.size (xL 3 o k v) 36 := by rw [hW1]; exact Blk.made w _ _
  have hS1 := H.below hb1
  have x0 : W1.cell? ⟨w.heap.size, 0, none⟩ = some (.int .i64 3) := by rw [hB1.cell]; rfl
  have x2 : W1.cell? ⟨w.heap.size, 2, none⟩ = some (.int .i64 k) := by rw [hB1.cell]; rfl
  have HEnd : Hid (∀ q, DoneC w B z gy ge bt bm r hy he ti ma P (.returned (.bool true)) (W1.drewN q)) := hide (fun q => H.read (below_dN hb1 q))
  have hxl := hB1.lt
  have hW1' := hW1.symm
  have H1 : Hid (∀ q, Calls Try.prog 18 #[.pointer (some ⟨z, 0, none⟩), .int .i64 k] (W1.drewN q) fun e w' => e = .returned (.int .i64 ((seek eqK (hsh ti ma) T k).2 : Int)) ∧ ∃ q', w' = (W1.drewN q).drewN q') := hide (fun q => Go.Proofs.Ytnknjcnbbljagaa.probes_any (W1.drewN q) (hS1.tb.drewN q) (hS1.hs.drewN q) k)
  have H2 : Hid (∀ q, Calls Try.prog 54 #[.pointer (some ⟨r, 0, none⟩), .int .i64 k] (W1.drewN q) fun e w' => e = .returned (.int .i64 ((seek eqK (hsh ti ma) T k).2 : Int)) ∧ ∃ q', w' = (W1.drewN q).drewN q') := hide (fun q => (probes_any (W1.drewN q) (hS1.rb.drewN q) (k, 0)).mono (fun e w' h => by
    obtain ⟨h1, h2⟩ := h
    rw [seek_im] at h1
    exact ⟨h1, h2⟩))
  generalize (seek eqK (hsh ti ma) T k).2 = n at *
  clear H hS1 hB1 hb1 hW1
  unfold xL
  go_enter Try.func12, Try.ntmps12
  go_upto_region 1 with fail
  clear hW1'
  go_upto_region 15 with fail
  go_quiet (first | (go_at_call 18; with_reducible exact Calls.quiet_of (H1.out _)) | (go_at_call 54; with_reducible exact Calls.quiet_of (H2.out _)))
  go_wp2
  go_ret
  exact HEnd.out _
theorem done_len (w : World) (H : One w B z gy ge bt bm r hy he ti ma T P) (o : Bool) (k v : Int) : Calls Try.prog 12 #[.pointer (some ⟨z, 0, none⟩), .pointer (some ⟨r, 0, none⟩), .agg (xL 4 o k v)] w (DoneC w B z gy ge bt bm r hy he ti ma P) := by
  obtain ⟨W1, hW1⟩ : ∃ W, W = w.alloc (.cells #[.int .i64 4, .bool o, .int .i64 k, .int .i64 v] 36) := ⟨_, rfl⟩
  have hb1 : Below w.heap.size w W1 := by rw [hW1]; exact below_alloc w _
  have hB1 : Blk W1 w.heap.size (xL 4 o k v) 36 := by rw [hW1]; exact Blk.made w _ _
  have hS1 := H.below hb1
  have x0 : W1.cell? ⟨w.heap.size, 0, none⟩ = some (.int .i64 4) := by rw [hB1.cell]; rfl
  have x2 : W1.cell? ⟨w.heap.size, 2, none⟩ = some (.int .i64 k) := by rw [hB1.cell]; rfl
  have HEnd : Hid (∀ q, DoneC w B z gy ge bt bm r hy he ti ma P (.returned (.bool true)) (W1.drewN q)) := hide (fun q => H.read (below_dN hb1 q))
  have hxl := hB1.lt
  have hW1' := hW1.symm
  have H1 : Hid (Calls Try.prog 16 #[.pointer (some ⟨z, 0, none⟩)] W1 fun e w' => e = .returned (.int .i64 (T.len : Int)) ∧ ∃ q', w' = W1.drewN q') := hide (Go.Proofs.Ytnknjcnbbljagaa.len_any W1 hS1.tb)
  have H2 : Hid (∀ q, Calls Try.prog 55 #[.pointer (some ⟨r, 0, none⟩)] (W1.drewN q) fun e w' => e = .returned (.int .i64 (T.len : Int)) ∧ ∃ q', w' = (W1.drewN q).drewN q') := hide (fun q => (len_any (W1.drewN q) (hS1.rb.drewN q)).mono (fun e w' h => by
    obtain ⟨h1, h2⟩ := h
    rw [len_im] at h1
    exact ⟨h1, h2⟩))
  generalize T.len = n at *
  clear H hS1 hB1 hb1 hW1
  unfold xL
  go_enter Try.func12, Try.ntmps12
  go_upto_region 1 with fail
  clear hW1'
  go_wp2_with (first | (go_at_call 16; (with_reducible refine H1.out.mono ?_); rintro e w2 ⟨rfl, q1, hw⟩; rw [hw]; clear hw) | (go_at_call 55; (with_reducible refine (H2.out _).mono ?_); rintro e w3 ⟨rfl, q2, hw⟩; rw [hw]; clear hw))
  go_ret
  exact HEnd.out _
theorem done_cap (w : World) (H : One w B z gy ge bt bm r hy he ti ma T P) (o : Bool) (k v : Int) : Calls Try.prog 12 #[.pointer (some ⟨z, 0, none⟩), .pointer (some ⟨r, 0, none⟩), .agg (xL 5 o k v)] w (DoneC w B z gy ge bt bm r hy he ti ma P) := by
  obtain ⟨W1, hW1⟩ : ∃ W, W = w.alloc (.cells #[.int .i64 5, .bool o, .int .i64 k, .int .i64 v] 36) := ⟨_, rfl⟩
  have hb1 : Below w.heap.size w W1 := by rw [hW1]; exact below_alloc w _
  have hB1 : Blk W1 w.heap.size (xL 5 o k v) 36 := by rw [hW1]; exact Blk.made w _ _
  have hS1 := H.below hb1
  have x0 : W1.cell? ⟨w.heap.size, 0, none⟩ = some (.int .i64 5) := by rw [hB1.cell]; rfl
  have x2 : W1.cell? ⟨w.heap.size, 2, none⟩ = some (.int .i64 k) := by rw [hB1.cell]; rfl
  have HEnd : Hid (∀ q, DoneC w B z gy ge bt bm r hy he ti ma P (.returned (.bool true)) (W1.drewN q)) := hide (fun q => H.read (below_dN hb1 q))
  have hxl := hB1.lt
  have hW1' := hW1.symm
  have H1 : Hid (Calls Try.prog 17 #[.pointer (some ⟨z, 0, none⟩)] W1 fun e w' => e = .returned (.int .i64 (T.y.length : Int)) ∧ ∃ q', w' = W1.drewN q') := hide ((Go.Proofs.Ytnknjcnbbljagaa.cap_any W1 hS1.tb).mono (fun e w' h => ⟨h.1, 0, h.2⟩))
  have H2 : Hid (∀ q, Calls Try.prog 56 #[.pointer (some ⟨r, 0, none⟩)] (W1.drewN q) fun e w' => e = .returned (.int .i64 (T.y.length : Int)) ∧ ∃ q', w' = (W1.drewN q).drewN q') := hide (fun q => (cap_any (W1.drewN q) (hS1.rb.drewN q)).mono (fun e w' h => by
    obtain ⟨h1, h2⟩ := h
    rw [show (imT T).y.length = T.y.length from List.length_map ..] at h1
    exact ⟨h1, h2⟩))
  generalize T.y.length = n at *
  clear H hS1 hB1 hb1 hW1
  unfold xL
  go_enter Try.func12, Try.ntmps12
  go_upto_region 1 with fail
  clear hW1'
  go_wp2_with (first | (go_at_call 17; (with_reducible refine H1.out.mono ?_); rintro e w2 ⟨rfl, q1, hw⟩; rw [hw]; clear hw) | (go_at_call 56; (with_reducible refine (H2.out _).mono ?_); rintro e w3 ⟨rfl, q2, hw⟩; rw [hw]; clear hw))
  go_ret
  exact HEnd.out _
theorem done_tombs (w : World) (H : One w B z gy ge bt bm r hy he ti ma T P) (o : Bool) (k v : Int) : Calls Try.prog 12 #[.pointer (some ⟨z, 0, none⟩), .pointer (some ⟨r, 0, none⟩), .agg (xL 6 o k v)] w (DoneC w B z gy ge bt bm r hy he ti ma P) := by
  obtain ⟨W1, hW1⟩ : ∃ W, W = w.alloc (.cells #[.int .i64 6, .bool o, .int .i64 k, .int .i64 v] 36) := ⟨_, rfl⟩
  have hb1 : Below w.heap.size w W1 := by rw [hW1]; exact below_alloc w _
  have hB1 : Blk W1 w.heap.size (xL 6 o k v) 36 := by rw [hW1]; exact Blk.made w _ _
  have hS1 := H.below hb1
  have x0 : W1.cell? ⟨w.heap.size, 0, none⟩ = some (.int .i64 6) := by rw [hB1.cell]; rfl
  have x2 : W1.cell? ⟨w.heap.size, 2, none⟩ = some (.int .i64 k) := by rw [hB1.cell]; rfl
  have HEnd : Hid (∀ q, DoneC w B z gy ge bt bm r hy he ti ma P (.returned (.bool true)) (W1.drewN q)) := hide (fun q => H.read (below_dN hb1 q))
  have hxl := hB1.lt
  have hW1' := hW1.symm
  have H1 : Hid (Calls Try.prog 57 #[.pointer (some ⟨z, 0, none⟩)] W1 fun e w' => e = .returned (.int .i64 (cnt T.y 2 : Int)) ∧ ∃ q', w' = W1.drewN q') := hide ((Go.Proofs.Ytnknjcnbbljagaa.tombs_any W1 hS1.tb).mono (fun e w' h => ⟨h.1, 0, h.2⟩))
  have H2 : Hid (∀ q, Calls Try.prog 58 #[.pointer (some ⟨r, 0, none⟩)] (W1.drewN q) fun e w' => e = .returned (.int .i64 (cnt T.y 2 : Int)) ∧ ∃ q', w' = (W1.drewN q).drewN q') := hide (fun q => (tombs_any (W1.drewN q) (hS1.rb.drewN q)).mono (fun e w' h => by
    obtain ⟨h1, h2⟩ := h
    rw [show cnt (imT T).y 2 = cnt T.y 2 from cnt_im _ _] at h1
    exact ⟨h1, h2⟩))
  generalize cnt T.y 2 = n at *
  clear H hS1 hB1 hb1 hW1
  unfold xL
  go_enter Try.func12, Try.ntmps12
  go_upto_region 1 with fail
  clear hW1'
  go_wp2_with (first | (go_at_call 57; (with_reducible refine H1.out.mono ?_); rintro e w2 ⟨rfl, q1, hw⟩; rw [hw]; clear hw) | (go_at_call 58; (with_reducible refine (H2.out _).mono ?_); rintro e w3 ⟨rfl, q2, hw⟩; rw [hw]; clear hw))
  go_ret
  exact HEnd.out _
theorem done_left (w : World) (H : One w B z gy ge bt bm r hy he ti ma T P) (o : Bool) (k v : Int) : Calls Try.prog 12 #[.pointer (some ⟨z, 0, none⟩), .pointer (some ⟨r, 0, none⟩), .agg (xL 7 o k v)] w (DoneC w B z gy ge bt bm r hy he ti ma P) := by
  obtain ⟨W1, hW1⟩ : ∃ W, W = w.alloc (.cells #[.int .i64 7, .bool o, .int .i64 k, .int .i64 v] 36) := ⟨_, rfl⟩
  have hb1 : Below w.heap.size w W1 := by rw [hW1]; exact below_alloc w _
  have hB1 : Blk W1 w.heap.size (xL 7 o k v) 36 := by rw [hW1]; exact Blk.made w _ _
  have hS1 := H.below hb1
  have x0 : W1.cell? ⟨w.heap.size, 0, none⟩ = some (.int .i64 7) := by rw [hB1.cell]; rfl
  have x2 : W1.cell? ⟨w.heap.size, 2, none⟩ = some (.int .i64 k) := by rw [hB1.cell]; rfl
  have HEnd : Hid (∀ q, DoneC w B z gy ge bt bm r hy he ti ma P (.returned (.bool true)) (W1.drewN q)) := hide (fun q => H.read (below_dN hb1 q))
  have hxl := hB1.lt
  have hW1' := hW1.symm
  have H1 : Hid (Calls Try.prog 15 #[.pointer (some ⟨z, 0, none⟩)] W1 fun e w' => e = .returned (.int .i64 (T.left : Int)) ∧ ∃ q', w' = W1.drewN q') := hide (Go.Proofs.Ytnknjcnbbljagaa.left_any W1 hS1.tb)
  have H2 : Hid (∀ q, Calls Try.prog 59 #[.pointer (some ⟨r, 0, none⟩)] (W1.drewN q) fun e w' => e = .returned (.int .i64 (T.left : Int)) ∧ ∃ q', w' = (W1.drewN q).drewN q') := hide (fun q => (left_any (W1.drewN q) (hS1.rb.drewN q)).mono (fun e w' h => by
    obtain ⟨h1, h2⟩ := h
    rw [left_im] at h1
    exact ⟨h1, h2⟩))
  generalize T.left = n at *
  clear H hS1 hB1 hb1 hW1
  unfold xL
  go_enter Try.func12, Try.ntmps12
  go_upto_region 1 with fail
  clear hW1'
  go_wp2_with (first | (go_at_call 15; (with_reducible refine H1.out.mono ?_); rintro e w2 ⟨rfl, q1, hw⟩; rw [hw]; clear hw) | (go_at_call 59; (with_reducible refine (H2.out _).mono ?_); rintro e w3 ⟨rfl, q2, hw⟩; rw [hw]; clear hw))
  go_ret
  exact HEnd.out _
theorem done_other (w : World) (H : One w B z gy ge bt bm r hy he ti ma T P) (d : Int) (o : Bool) (k v : Int) (hd : d < 0 ∨ 8 < d) : Calls Try.prog 12 #[.pointer (some ⟨z, 0, none⟩), .pointer (some ⟨r, 0, none⟩), .agg (xL d o k v)] w (DoneC w B z gy ge bt bm r hy he ti ma P) := by
  obtain ⟨W1, hW1⟩ : ∃ W, W = w.alloc (.cells #[.int .i64 d, .bool o, .int .i64 k, .int .i64 v] 36) := ⟨_, rfl⟩
  have hb1 : Below w.heap.size w W1 := by rw [hW1]; exact below_alloc w _
  have hB1 : Blk W1 w.heap.size (xL d o k v) 36 := by rw [hW1]; exact Blk.made w _ _
  have hS1 := H.below hb1
  have x0 : W1.cell? ⟨w.heap.size, 0, none⟩ = some (.int .i64 d) := by rw [hB1.cell]; rfl
  have x2 : W1.cell? ⟨w.heap.size, 2, none⟩ = some (.int .i64 k) := by rw [hB1.cell]; rfl
  have HEnd : Hid (∀ q, DoneC w B z gy ge bt bm r hy he ti ma P (.returned (.bool true)) (W1.drewN q)) := hide (fun q => H.read (below_dN hb1 q))
  have hxl := hB1.lt
  have hW1' := hW1.symm
  have d0 : (d == 0) = false := by simp; omega
  have d1 : (d == 1) = false := by simp; omega
  have d2 : (d == 2) = false := by simp; omega
  have d3 : (d == 3) = false := by simp; omega
  have d4 : (d == 4) = false := by simp; omega
  have d5 : (d == 5) = false := by simp; omega
  have d6 : (d == 6) = false := by simp; omega
  have d7 : (d == 7) = false := by simp; omega
  have d8 : (d == 8) = false := by simp; omega
  clear H hS1 hB1 hb1 hW1 hd
  unfold xL
  go_enter Try.func12, Try.ntmps12
  go_upto_region 1 with fail
  clear hW1'
  go_wp2
  go_ret
  exact HEnd.out 0
end
end RR
end Go.Proofs.Ytnknjcnbbljagaa
